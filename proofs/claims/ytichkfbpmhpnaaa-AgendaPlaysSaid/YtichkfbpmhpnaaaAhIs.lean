/- is: an agenda of strings is the reference's list. -/
import Derived.Test.YtichkfbpmhpnaaaAhKc
namespace Go.Proofs.Ytichkfbpmhpnaaa
open Go.RowKit Go.Maps

section PlV
variable {pl : Pl}
theorem OrS.okS {PT IT : TypeId} {W w : World} {ab n N : Nat} {sets : Int} {C : Value × Int × Int → Prop} {O : Nat → Prop} (h : OrS pl PT IT MPS W ab n N sets C O w) {k : ByteArray} {x : Value × Int × Int} (hx : C x) (hk : x.1 = .string k) : KS.ok k := by
  obtain ⟨⟨v, mp, Q, F, S, h1, h2, h3⟩, h4, h5⟩ := h
  obtain ⟨i, hi, e⟩ := (h3 x).2 hx
  obtain ⟨k', ok, e2, _⟩ := h1.fof i hi
  have e3 : Value.string k = .string k' := by rw [← hk, ← e]; exact e2
  injection e3 with e3
  rw [e3]; exact ok
theorem first_ris {l : List RI} {n : Nat} {sets : Int} {C : Value × Int × Int → Prop} {L : List It4} (hr : RelA l n sets C L) {at' : Int} (h : ∃ x, C x ∧ x.2.1 = at' ∧ ∀ y, C y → x.2.1 < y.2.1 ∨ x.2.1 = y.2.1 ∧ x.2.2 ≤ y.2.2) : ∃ e r, l = e :: r ∧ e.2 = at' := by
  obtain ⟨x, hx, ha, hle⟩ := h
  cases L with
  | nil =>
    obtain ⟨e, he, _⟩ := (hr.mem x).1 hx
    cases he
  | cons e r =>
    have := hr.least hx hle
    refine ⟨f4 e, r.map f4, by rw [hr.map]; rfl, ?_⟩
    rw [← ha, this]; rfl
set_option maxHeartbeats 2000000 in
set_option maxRecDepth 100000 in
theorem is20 (W w : World) (ab n N : Nat) (sets : Int) (C : Value × Int × Int → Prop) (O : Nat → Prop) (L : List It4) (a : Option Addr) (c : Nat) (l : List RI) (ho : OrS pl 102 104 MPS W ab n N sets C O w) (hn : n ≤ 800) (hr : RelA l n sets C L) (hi : IsRis w a c l) :
    Calls Try.prog 12 #[.pointer (some ⟨ab, pl.o, none⟩), .slice a l.length c] w fun e w' => e = .returned (.bool true) ∧ Below w.heap.size w w' := by
  have hll : l.length = n := hr.lenl
  have HO := Lib.hid ho
  have HR := Lib.hid hr
  have HI := Lib.hid hi
  have HKY := Lib.hid (okeysS W w ab n N sets C O l L ho (by omega) hr)
  clear ho hr hi
  go_enter Try.func12, Try.ntmps12
  go_wp2_with fail
  refine HKY.out.mono ?_
  rintro e w1 ⟨v, rfl, hown, hb1⟩
  obtain ⟨ka, kc, rfl⟩ := own_slice hown
  have HOW := Lib.hid hown
  have HB1 := Lib.hid hb1
  have HFI := Lib.hid (ofirstS W w1 ab n N sets C O (HO.out.below hb1) (by omega))
  have HLE := Lib.hid (olenS W w1 ab n N sets C O (HO.out.below hb1))
  clear hown hb1 HKY
  go_wp2_with fail
  refine HFI.out.mono ?_
  rintro e w9 ⟨⟨at', rfl, hz, hp⟩, rfl⟩
  clear HFI
  have HLO : Hid (∀ (W2 : World), Below w9.heap.size w9 W2 → ∀ (j : Nat) (hj : j < l.length), ∃ bk oo kg, a = some ⟨bk, oo, none⟩ ∧ ka = some ⟨kg, 0, none⟩ ∧ W2.cell? ⟨bk, oo + j * 2, none⟩ = some (.string l[j].1) ∧ W2.cell? ⟨bk, oo + j * 2 + 1, none⟩ = some (.int .i64 l[j].2) ∧ W2.cell? ⟨kg, j, none⟩ = some (.string l[j].1) ∧ l.length ≤ kc ∧ KS.ok l[j].1 ∧ C (.string l[j].1, l[j].2, ((L[j]?).map (·.2.2)).getD 0)) := fun W2 hb j hj => by
    obtain h0 | ⟨bk, oo, rfl, hlt, hc, hcell⟩ := (HI.out.below (HB1.out.trans (hb.mono HB1.out.size))).ris
    · rw [h0] at hj; simp at hj
    · obtain ⟨c0, c1⟩ := hcell j l[j] (List.getElem?_eq_getElem hj)
      obtain ⟨hoo, ⟨h9, h8⟩ | ⟨kg, cap, cur, h9, q1, q2, q3, q4, q5, q6⟩⟩ := HOW.out
      · omega
      · injection h9 with h9 _ h10
        have hg := (Array.getElem?_eq_some_iff.1 q2).1
        have hjL : j < L.length := by rw [HR.out.len]; omega
        have e3 : l[j] = f4 L[j] := by
          have := HR.out.map
          subst this
          simp
        have hC : C (.string l[j].1, l[j].2, ((L[j]?).map (·.2.2)).getD 0) := by
          rw [e3, List.getElem?_eq_getElem hjL]
          exact (HR.out.mem _).2 ⟨L[j], List.getElem_mem hjL, rfl⟩
        refine ⟨bk, oo, kg, rfl, h9, c0, c1, ?_, by omega, HO.out.okS hC rfl, hC⟩
        rw [(bcell hb).1 _ _ hg]
        rw [h9] at HOW
        rw [HOW.out.cellAt j (by omega)]
        unfold cellsK
        simp [hj]
  have HEND : Hid (∀ W2 : World, Below w9.heap.size w9 W2 → Below w.heap.size w W2) := fun W2 hb => HB1.out.trans (hb.mono HB1.out.size)
  clear HI HOW HB1
  by_cases hn0 : n = 0
  · obtain rfl : l = [] := List.eq_nil_of_length_eq_zero (by omega)
    subst hn0
    have hz := hz rfl
    subst hz
    clear hp hll
    simp only [Nat.lt_irrefl, decide_false]
    go_wp2_with fail
    refine HLE.out.mono ?_
    rintro e w9 ⟨rfl, rfl⟩
    go_wp2_with fail
    go_loopw [59] (fun i wr => i = .int .i64 0 ∧ wr = w9) (fun _ _ => 0)
    case atStart => exact ⟨rfl, rfl⟩
    case round =>
      obtain ⟨rfl, rfl⟩ := hrel
      go_wp2_with fail
      go_ret
      exact ⟨rfl, HEND.out _ (Below.refl _ _)⟩
  · have hpos : 0 < n := by omega
    obtain ⟨e0, r, hl0, ha0⟩ := first_ris HR.out (hp hpos)
    clear hz hp hn0
    obtain ⟨bk, oo, kg, rfl, rfl, x0, x1, x2, hkc, -, -⟩ := HLO.out w9 (Below.refl _ _) 0 (by omega)
    have hl00 : (l[0]'(by omega)).2 = at' := by
      subst hl0; exact ha0
    rw [hl00] at x1
    rw [decide_eq_true hpos]
    have hps : (0 : Int) < (l.length : Int) := by omega
    have hpsd : decide ((0 : Int) < (l.length : Int)) = true := decide_eq_true hps
    have hln : (n : Int) = (l.length : Int) := by omega
    simp only [Nat.zero_mul, Nat.add_zero] at x0 x1
    rw [hln] at HLE
    have hll2 : l.length ≤ 800 := by omega
    have HLN := Lib.hid hln
    clear hln hl0 ha0 hl00 x0 x2 hpos
    go_wp2_with fail
    refine HLE.out.mono ?_
    rintro e w9 ⟨rfl, rfl⟩
    go_wp2_with fail
    clear x1 HLE
    go_loopw [59] (fun i wr => ∃ j : Nat, j ≤ l.length ∧ i = .int .i64 (j : Int) ∧ Hid (Below w9.heap.size w9 wr)) (fun i _ => l.length - (intOf i).toNat)
    case atStart => exact ⟨0, Nat.zero_le _, rfl, Below.refl _ _⟩
    case round =>
      obtain ⟨j, hj, rfl, hb⟩ := hrel
      by_cases hlt : j < l.length
      · have j1 : (j : Int) < (l.length : Int) := by omega
        obtain ⟨bk2, oo2, kg2, e1, e2, y0, y1, y2, -, hok, hC⟩ := HLO.out wr hb.out j hlt
        injection e1 with e1
        injection e1 with e1 e1'
        injection e2 with e2
        injection e2 with e2
        subst e1 e1' e2
        obtain ⟨nm, hnm⟩ : ∃ nm, nm = l[j].1 := ⟨_, rfl⟩
        obtain ⟨av, hav⟩ : ∃ av, av = l[j].2 := ⟨_, rfl⟩
        obtain ⟨tv, htv⟩ : ∃ tv, tv = ((L[j]?).map (·.2.2)).getD 0 := ⟨_, rfl⟩
        rw [← hnm] at y0 y2 hok hC
        rw [← hav] at y1 hC
        rw [← htv] at hC
        have HBA : Hid (Below w9.heap.size w9 (wr.alloc (.cells #[.string nm, .int .i64 av] 94))) := hb.out.alloc hb.out.size _
        have HAT := Lib.hid (oatSb W (wr.alloc (.cells #[.string nm, .int .i64 av] 94)) ab n N sets C O (HO.out.below (HEND.out _ HBA.out)) nm hok _ hC rfl)
        have hrw := Row.new wr 94 #[.string nm, .int .i64 av]
        have z2 : (wr.alloc (.cells #[.string nm, .int .i64 av] 94)).cell? ⟨kg, j, none⟩ = some (.string nm) := by
          have hlt2 : kg < wr.heap.size := by
            rcases Nat.lt_or_ge kg wr.heap.size with h | h
            · exact h
            · simp only [World.cell?] at y2
              rw [Array.getElem?_eq_none h] at y2; cases y2
          rw [(bcell (below_alloc wr _)).1 _ _ hlt2]; exact y2
        have HRW := Lib.hid hrw
        have HZ2 := Lib.hid z2
        have HJL := Lib.hid hlt
        clear hnm hav htv hok hC hrw z2 y2
        simp only at HAT
        go_wp2_with fail
        refine HAT.out.mono ?_
        rintro e w4 ⟨rfl, hb4⟩
        have u0 : w4.cell? ⟨wr.heap.size, 0, none⟩ = some (.string nm) := (HRW.out.below hb4).cell 0
        have u1 : w4.cell? ⟨wr.heap.size, 1, none⟩ = some (.int .i64 av) := (HRW.out.below hb4).cell 1
        have u2 : w4.cell? ⟨kg, j, none⟩ = some (.string nm) := by
          have hlt2 : kg < (wr.alloc (.cells #[.string nm, .int .i64 av] 94)).heap.size := by
            rcases Nat.lt_or_ge kg (wr.alloc (.cells #[.string nm, .int .i64 av] 94)).heap.size with h | h
            · exact h
            · have := HZ2.out
              simp only [World.cell?] at this
              rw [Array.getElem?_eq_none h] at this; cases this
          rw [(bcell hb4).1 _ _ hlt2]; exact HZ2.out
        have HB4 : Hid (∀ nq, Below w9.heap.size w9 (w4.drewN nq)) := fun nq => HBA.out.trans ((hb4.mono HBA.out.size).trans ⟨rfl, rfl, rfl, Nat.le_refl _, fun _ _ => rfl⟩)
        have same : (nm.toList == nm.toList) = true := by simp
        have sama : (av == av) = true := by simp
        clear hb4 HAT y0 y1
        go_wp2_with fail
        go_quiet (fail)
        go_wp2_with fail
        go_roundw
        case rel => exact ⟨j + 1, hlt, by go_num, HB4.out _⟩
        case measure => simp [intOf]; omega
      · obtain rfl : j = l.length := by omega
        have hj0 : ¬ ((l.length : Int) < l.length) := by omega
        go_wp2_with fail
        go_ret
        exact ⟨rfl, HEND.out _ hb.out⟩
end PlV
end Go.Proofs.Ytichkfbpmhpnaaa
