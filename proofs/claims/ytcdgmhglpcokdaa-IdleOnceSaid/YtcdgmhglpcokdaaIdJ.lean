/- Idle connections: acts that are handed in; awake. -/
import Derived.Test.YtcdgmhglpcokdaaIdI
namespace Go.Proofs.Ytcdgmhglpcokdaa
open Go.RowKit Go.Maps

structure IAct where
  k : Int
  c : Int
  n : Int
  nm : ByteArray
/-- A slice of acts. -/
def IsIacts (w : World) (a : Option Addr) (c : Nat) (l : List IAct) : Prop :=
  l = [] ∨ ∃ bk o, a = some ⟨bk, o, none⟩ ∧ bk < w.heap.size ∧ l.length ≤ c ∧ ∀ (j : Nat) e, l[j]? = some e → w.cell? ⟨bk, o + j * 4, none⟩ = some (.int .i64 e.k) ∧ w.cell? ⟨bk, o + j * 4 + 1, none⟩ = some (.int .i64 e.c) ∧ w.cell? ⟨bk, o + j * 4 + 2, none⟩ = some (.int .i64 e.n) ∧ w.cell? ⟨bk, o + j * 4 + 3, none⟩ = some (.string e.nm) ∧ (Lit.int .i64 e.c).wf = true
theorem IsIacts.below {w w' : World} {a : Option Addr} {c : Nat} {l : List IAct} (h : IsIacts w a c l) (hb : Below w.heap.size w w') : IsIacts w' a c l := by
  obtain h | ⟨bk, o, ha, hlt, hc, hcell⟩ := h
  · exact .inl h
  · refine .inr ⟨bk, o, ha, Nat.lt_of_lt_of_le hlt hb.size, hc, fun j e he => ?_⟩
    rw [(bcell hb).1 _ _ hlt, (bcell hb).1 _ _ hlt, (bcell hb).1 _ _ hlt, (bcell hb).1 _ _ hlt]
    exact hcell j e he
theorem iact_in {w : World} {a : Option Addr} {c : Nat} {l : List IAct} (h : IsIacts w a c l) {t : Nat} (ht : t < l.length) : ∃ bk oo, a = some ⟨bk, oo, none⟩ ∧ w.cell? ⟨bk, oo + t * 4, none⟩ = some (.int .i64 l[t].k) ∧ w.cell? ⟨bk, oo + t * 4 + 1, none⟩ = some (.int .i64 l[t].c) ∧ w.cell? ⟨bk, oo + t * 4 + 2, none⟩ = some (.int .i64 l[t].n) ∧ w.cell? ⟨bk, oo + t * 4 + 3, none⟩ = some (.string l[t].nm) ∧ l.length ≤ c ∧ KN.ok l[t].c := by
  obtain h0 | ⟨bk, oo, rfl, hbk, hcc, hcell⟩ := h
  · subst h0; simp at ht
  · obtain ⟨x0, x1, x2, x3, x4⟩ := hcell t l[t] (by simp [ht])
    exact ⟨bk, oo, rfl, x0, x1, x2, x3, hcc, x4⟩
theorem cut12_ok (s : ByteArray) : KS.ok (cutS s 12) := by
  have := cutS_size s 12
  show (cutS s 12).size ≤ maxLen
  unfold maxLen; omega
def nmA : ByteArray := ⟨#[97]⟩
theorem put5 (s : Int) : putR 1 (addL [] nmA 5 0 9 s) nmA = ([⟨nmA, 5, clampA (clampA 0 + 9), s⟩], []) := by simp [putR, addL, dropI, ofI]
theorem put6 (s1 s2 t1 : Int) : putR 1 (addL [⟨nmA, 5, t1, s1⟩] nmA 6 0 9 s2) nmA = ([⟨nmA, 6, clampA (clampA 0 + 9), s2⟩], [5]) := by simp [putR, addL, dropI, ofI]
theorem of6 (s t : Int) : ofI [⟨nmA, 6, t, s⟩] nmA = [] ++ [6] := by simp [ofI]
theorem drop6 (s t : Int) : dropI [⟨nmA, 6, t, s⟩] 6 = [] := by simp [dropI]
set_option maxHeartbeats 2000000 in
set_option maxRecDepth 100000 in
theorem awake25 (w : World) :
    Calls Try.prog 5 #[] w fun e w' => e = .returned (.bool true) ∧ Below w.heap.size w w' := by
  have hok : KS.ok nmA := by show nmA.size ≤ maxLen; decide
  have H5 : Hid (KN.ok 5) := by show (Lit.int .i64 5).wf = true; decide
  have H6 : Hid (KN.ok 6) := by show (Lit.int .i64 6).wf = true; decide
  have hA : (⟨#[97]⟩ : ByteArray) = nmA := rfl
  have HOK : Hid (KS.ok nmA) := hok
  go_enter Try.func5, Try.ntmps5
  go_wp2_with fail
  refine (IdP.new w (fun _ => False) 1 9 w (Below.refl _ _) (fun _ h => h.elim)).mono ?_
  rintro o w1 ⟨ab, rfl, h1, -⟩
  have HP1 : Hid (IdP w (fun _ => False) ab 1 9 0 [] w1) := h1
  clear h1 hok
  go_wp2_with fail
  refine (HP1.out.put (by omega) nmA HOK.out 5 H5.out 0).mono ?_
  rintro o w2 ⟨v2, s2, rfl, -, o2, h2, -⟩
  rw [put5] at o2 h2
  obtain ⟨a2, c2, rfl⟩ := own_slice o2
  have HP2 := Lib.hid h2
  clear h2 o2 HP1
  go_wp2_with fail
  refine (HP2.out.put (by omega) nmA HOK.out 6 H6.out 0).mono ?_
  rintro o w3 ⟨v3, s3, rfl, -, o3, h3, -⟩
  rw [put6] at o3 h3
  obtain ⟨a3, c3, rfl, hn3⟩ := isNs_own (l := [5]) o3
  have HP3 := Lib.hid h3
  have HN3 := Lib.hid hn3
  have HL3 : Hid (∀ p, a3 = some p → p.block < w3.heap.size) := fun p hp => by
    have := o3.lt p.block (by rw [hp]; rfl)
    exact this.2
  clear h3 o3 hn3 HP2
  go_wp2_with fail
  refine (HP3.out.takeS (by omega) nmA HOK.out [] 6 (of6 _ _)).mono ?_
  rintro o w4 ⟨rfl, h4, k4⟩
  rw [drop6] at h4
  have HP4 := Lib.hid h4
  have HN4 : Hid (IsNs w4 a3 c3 [5]) := by
    rcases HN3.out with h | ⟨bk, oo, rfl, q1, q2, q3⟩
    · cases h
    · refine .inr ⟨bk, oo, rfl, Nat.lt_of_lt_of_le q1 k4.size, q2, fun j x hx => ?_⟩
      rw [keep_cellI k4 q1 (fun hk => hk (.inr rfl))]
      exact q3 j x hx
  clear h4 k4 HP3 HN3 HL3
  have HB5 : Hid (Below w4.heap.size w4 (w4.alloc (.cells #[.int .i64 5] 3))) := below_alloc _ _
  have HN5 : Hid (IsNs (w4.alloc (.cells #[.int .i64 5] 3)) (some ⟨w4.heap.size, 0, none⟩) 1 [5]) := by
    refine .inr ⟨w4.heap.size, 0, rfl, (Row.new w4 _ _).lt, Nat.le_refl _, fun j x hx => ?_⟩
    rw [Nat.zero_add, (Row.new w4 3 #[.int .i64 5]).cell]
    cases j with
    | zero => simp at hx; subst hx; rfl
    | succ j => simp at hx
  have HNU := Lib.hid (numbersI a3 (some ⟨w4.heap.size, 0, none⟩) c3 1 [5] _ (by decide) (HN4.out.below HB5.out) HN5.out)
  go_wp2_with fail
  refine HNU.out.mono ?_
  rintro o w6 ⟨rfl, hb6⟩
  have hp6 := (HP4.out.belowX (HB5.out.trans (hb6.mono HB5.out.size)) (X' := fun _ => False) (fun k hk => hk.elim))
  have HLE := Lib.hid hp6.lenC
  have HBE := Lib.hid hp6.bel
  clear hb6 hp6 HNU
  go_wp2_with fail
  refine HLE.out.mono ?_
  rintro o w7 ⟨rfl, rfl⟩
  go_wp2_with fail
  go_ret
  exact ⟨rfl, HBE.out⟩
end Go.Proofs.Ytcdgmhglpcokdaa
