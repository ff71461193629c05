/- Packed: MgX, MgY, MgZ. -/
import Derived.Lib.Slices
import Derived.BigQuiet
import Derived.Laws.AppendOwn
import Derived.Test.YtlcpkplipfcdaaaDoorG06
import Derived.Test.YtlcpkplipfcdaaaDoorG07
/- maglev.Table: Walk. -/
namespace Go.Proofs.YtlcpkplipfcdaaaDoor
open Go.RowKit Go.Maps

def inS (l : List ByteArray) (y : ByteArray) : Bool := l.any fun e => decide (e = y)
/-- The names that have occurred after so many places. -/
def wkS (ns : List ByteArray) (m : Nat) (own : Nat → Int) (st : Nat) : Nat → List ByteArray
  | 0 => []
  | j + 1 => if (wkS ns m own st j).length = ns.length then wkS ns m own st j else if inS (wkS ns m own st j) (atN ns m own (((st + j) % m : Nat) : Int)) then wkS ns m own st j else wkS ns m own st j ++ [atN ns m own (((st + j) % m : Nat) : Int)]
section
variable {ns : List ByteArray} {m : Nat} {own : Nat → Int} {st : Nat}
theorem wkS_le : ∀ j, (wkS ns m own st j).length ≤ ns.length
  | 0 => Nat.zero_le _
  | j + 1 => by
    have := wkS_le j
    unfold wkS
    split
    · exact this
    · split
      · exact this
      · rw [List.length_append, List.length_singleton]; omega
theorem wkS_keep {j : Nat} (h : (wkS ns m own st j).length = ns.length) : wkS ns m own st (j + 1) = wkS ns m own st j := by
  rw [wkS, if_pos h]
theorem wkS_stop {j : Nat} (h : (wkS ns m own st j).length = ns.length) : ∀ d, wkS ns m own st (j + d) = wkS ns m own st j
  | 0 => rfl
  | d + 1 => by
    have ih := wkS_stop h d
    exact (wkS_keep (j := j + d) (by rw [ih]; exact h)).trans ih
theorem wkS_old {j : Nat} (h : (wkS ns m own st j).length ≠ ns.length) (h2 : inS (wkS ns m own st j) (atN ns m own (((st + j) % m : Nat) : Int)) = true) : wkS ns m own st (j + 1) = wkS ns m own st j := by
  rw [wkS, if_neg h, if_pos h2]
theorem wkS_new {j : Nat} (h : (wkS ns m own st j).length ≠ ns.length) (h2 : inS (wkS ns m own st j) (atN ns m own (((st + j) % m : Nat) : Int)) = false) : wkS ns m own st (j + 1) = wkS ns m own st j ++ [atN ns m own (((st + j) % m : Nat) : Int)] := by
  rw [wkS, if_neg h, h2]; rfl
end
theorem atN_size {ns : List ByteArray} {m : Nat} {own : Nat → Int} (h : ∀ n ∈ ns, n.size ≤ 1000) (p : Int) : (atN ns m own p).size ≤ 1000 := by
  unfold atN
  split
  · decide
  · split
    · decide
    · rename_i h1 h2
      cases hh : ns[(own p.toNat).toNat]? with
      | none => decide
      | some n => exact h n (List.mem_of_getElem? hh)
theorem inS_step (l : List ByteArray) (n : ByteArray) : (fun y => inS l y || decide (n = y)) = inS (l ++ [n]) := by
  funext y
  unfold inS
  rw [List.any_append]
  simp
set_option maxRecDepth 100000 in
set_option maxHeartbeats 4000000 in
theorem walkM (tb m : Nat) (hm0 : 0 < m) (hm : m ≤ 1048576) (ns : List ByteArray) (hn : ns.length ≤ 1000) (hz : ∀ n ∈ ns, n.size ≤ 1000) (own : Nat → Int) (hok : OwnOk ns.length m own) (x : Nat) (hx : x < 18446744073709551616) (w : World) (h : TableAt w tb ns m own) :
    Calls Tryd.prog 24 #[.pointer (some ⟨tb, 0, none⟩), .int .u64 x] w fun e w' => ∃ a c, e = .returned (.slice a (wkS ns m own (x * m / 18446744073709551616) m).length c) ∧ IsStrs w' a c (wkS ns m own (x * m / 18446744073709551616) m) ∧ Below w.heap.size w w' := by
  obtain ⟨i0, hi, hz0, hz1, hz2⟩ := info_parts infoSt
  have hst := belowN_lt x m hx hm0
  have HBW : Hid (∀ W, Calls Tryd.prog 46 #[.int .u64 x, .int .i64 m] W fun e w' => e = .returned (.int .i64 ((x * m / 18446744073709551616 : Nat) : Int)) ∧ W = w') := fun W => below15 x m hx hm0 (by omega) W
  generalize x * m / 18446744073709551616 = st at *
  have HSZ : Hid (∀ W, TableAt W tb ns m own → Calls Tryd.prog 15 #[.pointer (some ⟨tb, 0, none⟩)] W fun e w' => e = .returned (.int .i64 (m : Int)) ∧ w' = W) := fun W hW => size11 tb m ns own W hW
  have HAT : Hid (∀ W p, TableAt W tb ns m own → Calls Tryd.prog 17 #[.pointer (some ⟨tb, 0, none⟩), .int .i64 p] W fun e w' => e = .returned (.string (atN ns m own p)) ∧ Below W.heap.size W w') := fun W p hW => at13 tb m ns hn own hok p W hW
  have HZ := Lib.hid (fun p => atN_size (own := own) (m := m) hz p)
  have hmm := run_makeMap_hint Tryd.underlying89
  have HT := Lib.hid h
  have HS0 := Lib.hid (SetN.new w)
  have HB0 := Lib.hid (below_alloc w (.map #[] 0))
  obtain ⟨a, c, ob, h1, h2, h3, h4, h5, h6⟩ := h
  have H5 := Lib.hid h5
  have H1 := Lib.hid h1
  have H2 := Lib.hid h2
  clear h3 h4 h6 hz hok hx
  have g2 : (w.alloc (.map #[] 0)).cell? ⟨tb, 1, none⟩ = some (.slice (some ⟨ob, 0, none⟩) m m) := by rw [(bcell HB0.out).1 _ _ h5]; exact h2
  go_enter Tryd.func24, Tryd.ntmps24
  go_wp2_with (first
    | (go_at_call 15; refine (HSZ.out _ (HT.out.below HB0.out)).mono ?_; rintro e w' ⟨rfl, rfl⟩)
    | (go_at_call 46; refine (HBW.out _).mono ?_; rintro e w' ⟨rfl, rfl⟩))
  clear g2 h1 h2 h5 hmm
  have HMB : Hid (∀ (v : Value) (n : Nat) (xs : List Value) (W : World), W.ownsRow (w.heap.size + 1) 9 1 v n xs → v.ownBlock ≠ some w.heap.size) := fun v n xs W ho e => by have := (ho.lt _ e).1; omega
  have HB1 : Hid (w.heap.size + 1 ≤ (w.alloc (.map #[] 0)).heap.size) := by show _ ≤ _; simp
  go_loopw [5, 27] (fun v i wr => ∃ j : Nat, j ≤ m ∧ i = .int .i64 (j : Int) ∧ Hid (wr.ownsRow (w.heap.size + 1) 9 1 v (wkS ns m own st j).length ((wkS ns m own st j).map Value.string)) ∧ Hid (SetN wr w.heap.size (wkS ns m own st j).length (wkS ns m own st j).length (inS (wkS ns m own st j))) ∧ Hid (Below w.heap.size w wr) ∧ Hid (w.heap.size + 1 ≤ wr.heap.size)) (fun _ i _ => m - (intOf i).toNat)
  case atStart => exact ⟨0, Nat.zero_le _, rfl, World.ownsRow_nil _ _ _ _, HS0, HB0, HB1⟩
  case round =>
    clear HS0 HB0 HB1
    obtain ⟨j, hj, rfl, HO, HS, HB, HZ1⟩ := hrel
    have HLE := wkS_le (ns := ns) (m := m) (own := own) (st := st) j
    obtain ⟨av, cv, rfl⟩ := own_slice HO.out
    have g1 : wr.cell? ⟨tb, 0, none⟩ = some (.slice a ns.length c) := by rw [(bcell HB.out).1 _ _ H5.out]; exact H1.out
    by_cases hlt : j < m
    · have j1 : (j : Int) < m := by omega
      by_cases hfull : (wkS ns m own st j).length = ns.length
      · have HFIN : Hid (wkS ns m own st m = wkS ns m own st j) := by
          have := wkS_stop hfull (m - j)
          rw [show j + (m - j) = m by omega] at this
          exact this
        have hq : (((wkS ns m own st j).length : Int) == (ns.length : Int)) = true := by rw [beq_iff_eq]; omega
        clear hfull HLE
        go_wp2_with fail
        go_ret
        rw [HFIN.out]
        have ho := HO.out
        have e1 : (wkS ns m own st j).length = (wkS ns m own st j).length := rfl
        exact ⟨av, cv, rfl, (isStrs_ownM ho).2, HB.out⟩
      · have hq : (((wkS ns m own st j).length : Int) == (ns.length : Int)) = false := by rw [beq_eq_false_iff_ne]; omega
        have hw1 := wrapS (st + j) (by omega)
        have hcs : ((st + j : Nat) : Int) = (st : Int) + (j : Int) := by omega
        have ht := tmodM st j m
        rw [hcs] at hw1 ht
        have hlm : (st + j) % m < m := Nat.mod_lt _ hm0
        have hw2 := wrapS ((st + j) % m) (by omega)
        have pz : ¬ ((m : Nat) : Int) = 0 := by omega
        have pz2 : ¬ m = 0 := by omega
        have HNZ := Lib.hid (HZ.out (((st + j) % m : Nat) : Int))
        have HOLD := Lib.hid (wkS_old (ns := ns) (m := m) (own := own) (st := st) (j := j) hfull)
        have HNEW := Lib.hid (wkS_new (ns := ns) (m := m) (own := own) (st := st) (j := j) hfull)
        have HA := Lib.hid (HAT.out wr (((st + j) % m : Nat) : Int) (HT.out.below HB.out))
        have HSW := Lib.hid (HSZ.out wr (HT.out.below HB.out))
        have HL2 : Hid ((wkS ns m own st j).length < ns.length) := by show _ < _; omega
        clear hcs hfull HLE
        generalize atN ns m own (((st + j) % m : Nat) : Int) = N at *
        generalize (st + j) % m = r at *
        generalize hwn : wkS ns m own st (j + 1) = wn at *
        have HWN := Lib.hid hwn
        clear hwn
        generalize wkS ns m own st j = wj at *
        by_cases hin : inS wj N = true
        · have HW := Lib.hid (HOLD.out hin)
          have HIN := Lib.hid hin
          clear hin HOLD HNEW
          go_wp2_with (first
            | (go_at_call 15; refine HSW.out.mono ?_; rintro e w' ⟨rfl, rfl⟩)
            | (go_at_call 17; refine HA.out.mono ?_; rintro e w5 ⟨rfl, hB5⟩; have HS5 := Lib.hid (HS.out.same (hB5.block _ HS.out.lt)); have HO5 := Lib.hid (ownB_keep (G := fun _ => False) HO.out (Keep.of_below hB5) (fun _ _ h => h)); have HB5 := Lib.hid (HB.out.trans (hB5.mono HB.out.size)); have HZ5 : Hid (w.heap.size + 1 ≤ w5.heap.size) := Nat.le_trans HZ1.out hB5.size; clear hB5 HA)
            | (at_lookup; refine wpl_seenN _ rfl _ _ rfl w.heap.size _ _ _ rfl HS5.out N rfl (by have := HNZ.out; unfold maxLen; omega) ?_; rw [HIN.out]))
          go_roundw
          case rel => exact ⟨j + 1, hlt, by go_num, by rw [HWN.out, HW.out]; exact HO5.out.alloc _, by rw [HWN.out, HW.out]; exact HS5.out.alloc _, HB5.out.alloc HB5.out.size _, Nat.le_trans HZ5.out (below_alloc _ _).size⟩
          case measure => simp [intOf]; omega
        · have hin : inS wj N = false := by simpa using hin
          have HW := Lib.hid (HNEW.out hin)
          have HIN := Lib.hid hin
          clear hin HOLD HNEW
          go_upto_region 12 with (first
            | (go_at_call 15; refine HSW.out.mono ?_; rintro e w' ⟨rfl, rfl⟩)
            | (go_at_call 17; refine HA.out.mono ?_; rintro e w5 ⟨rfl, hB5⟩; have HS5 := Lib.hid (HS.out.same (hB5.block _ HS.out.lt)); have HO5 := Lib.hid (ownB_keep (G := fun _ => False) HO.out (Keep.of_below hB5) (fun _ _ h => h)); have HB5 := Lib.hid (HB.out.trans (hB5.mono HB.out.size)); have HZ5 : Hid (w.heap.size + 1 ≤ w5.heap.size) := Nat.le_trans HZ1.out hB5.size; clear hB5 HA)
            | (at_lookup; refine wpl_seenN _ rfl _ _ rfl w.heap.size _ _ _ rfl HS5.out N rfl (by have := HNZ.out; unfold maxLen; omega) ?_; rw [HIN.out])
            | (at_mapUpdate; refine wpl_markN _ rfl _ _ _ rfl w.heap.size _ _ _ rfl (HS5.out.alloc _) (by have := HL2.out; unfold maxLen; omega) N rfl rfl (by have := HNZ.out; unfold maxLen; omega) ?_; intro w9 hm9 hg9))
          rw [inS_step, HIN.out] at hm9
          simp only [Bool.false_eq_true, if_false] at hm9
          have HM9 := Lib.hid hm9
          have HO9 := Lib.hid ((HO5.out.alloc (.cells #[] 90)).kept hg9 (.inr (HMB.out _ _ _ _ (HO5.out.alloc (.cells #[] 90)))))
          have HB9 := Lib.hid ((HB5.out.alloc HB5.out.size (.cells #[] 90)).grown hg9 (HB5.out.alloc HB5.out.size (.cells #[] 90)).size (fun q e => by injection e with e; omega))
          have HZ9 : Hid (w.heap.size + 1 ≤ w9.heap.size) := Nat.le_trans (Nat.le_trans HZ5.out (below_alloc _ _).size) hg9.size
          clear hm9 hg9
          have HO9a := Lib.hid (HO9.out.alloc (.cells #[.string N] 9))
          have HB9a := Lib.hid (HB9.out.alloc HB9.out.size (.cells #[.string N] 9))
          have HM9a := Lib.hid (HM9.out.alloc (.cells #[.string N] 9))
          have HZ9a : Hid (w.heap.size + 1 ≤ (w9.alloc (.cells #[.string N] 9)).heap.size) := Nat.le_trans HZ9.out (below_alloc _ _).size
          have HNW := Lib.hid (cells_str w9 N 9)
          have hl2 := HL2.out
          have HON : Hid (∀ u ∈ [Value.string N], u.oneCell' = true) := by intro u hu; simp at hu; subst hu; rfl
          go_wp2_with (at_builtin; refine wpList_append_own _ rfl _ _ 36 rfl (w.heap.size + 1) 9 i0 (.string ⟨#[]⟩) 1 16 Tryd.underlying36 hi hz0 hz1 hz2 rfl (by decide) _ _ _ rfl HO9a.out ⟨w9.heap.size, 0, none⟩ 1 1 [.string N] rfl rfl HNW.out HON.out (by unfold maxLen; omega) (by omega) HZ9a.out ?_; intro v' w10 hown' hgrow _)
          have HS10 := Lib.hid (HM9a.out.same (hgrow.block _ HM9a.out.lt (fun e => HMB.out _ _ _ _ HO9a.out e.symm)))
          have HB10 := Lib.hid (HB9a.out.grown hgrow HB9a.out.size (fun q e => by have := (HO9a.out.lt q e).1; omega))
          have HZ10 : Hid (w.heap.size + 1 ≤ w10.heap.size) := Nat.le_trans HZ9a.out hgrow.size
          have HO10 := Lib.hid hown'
          clear hown' hgrow
          go_roundw
          case rel =>
            have e1 : (wj ++ [N]).length = wj.length + 1 := by simp
            refine ⟨j + 1, hlt, by go_num, ?_, ?_, HB10, HZ10⟩
            · rw [HWN.out, HW.out, e1, List.map_append]; exact HO10
            · rw [HWN.out, HW.out, e1]; exact HS10
          case measure => simp [intOf]; omega
    · obtain rfl : j = m := by omega
      have hne : ¬ (j : Int) < j := by omega
      go_wp2_with fail
      go_ret
      exact ⟨av, cv, rfl, (isStrs_ownM HO.out).2, HB.out⟩
end Go.Proofs.YtlcpkplipfcdaaaDoor

/- stewardlaw05.Same (out of XSameA); sorted entries are the same in whatever order they come. -/
namespace Go.Proofs.YtlcpkplipfcdaaaDoor
open Go.RowKit

theorem str_beqM (a b : ByteArray) : (a.toList == b.toList) = decide (a = b) := by
  rw [ByteArray.toList_eq, ByteArray.toList_eq]
  by_cases h : a = b
  · subst h; simp
  · have h2 : ¬ a.data = b.data := fun e => h (ByteArray.ext e)
    simp [h, h2]
theorem take_eq_step (xs ys : List ByteArray) (j : Nat) (hx : j < xs.length) (hy : j < ys.length) (h : xs.take j = ys.take j) (he : xs[j] = ys[j]) : xs.take (j + 1) = ys.take (j + 1) := by
  rw [List.take_add_one, List.take_add_one, h, List.getElem?_eq_getElem hx, List.getElem?_eq_getElem hy, he]

set_option maxRecDepth 100000 in
set_option maxHeartbeats 1000000 in
theorem sameM (a : Option Addr) (c : Nat) (xs : List ByteArray) (b : Option Addr) (d : Nat) (ys : List ByteArray) (R : Bool) (hR : R = decide (xs = ys)) (hlx : xs.length ≤ 9223372036854775807) (hly : ys.length ≤ 9223372036854775807) (w : World) (hx : IsStrs w a c xs) (hy : IsStrs w b d ys) :
    Calls Tryd.prog 22 #[.slice a xs.length c, .slice b ys.length d] w fun e w' => e = .returned (.bool R) ∧ Below w.heap.size w w' := by
  by_cases hsz : xs.length = ys.length
  · have HR := Lib.hid hR
    have hne : ((xs.length : Int) != (ys.length : Int)) = false := by simp [hsz]
    have HS := Lib.hid hsz
    have HX := Lib.hid hx
    have HY := Lib.hid hy
    clear hR hsz hx hy
    go_enter Tryd.func22, Tryd.ntmps22
    go_wp2_with fail
    clear hne
    go_loopw [13] (fun i wr => ∃ j : Nat, j ≤ xs.length ∧ i = .int .i64 (j : Int) ∧ Hid (xs.take j = ys.take j) ∧ Below w.heap.size w wr) (fun i _ => xs.length - (intOf i).toNat)
    case atStart => exact ⟨0, Nat.zero_le _, rfl, rfl, Below.refl _ _⟩
    case round =>
      obtain ⟨j, hj, rfl, hr, hbl⟩ := hrel
      by_cases hlt : j < xs.length
      · have hly2 : j < ys.length := by have := HS.out; omega
        obtain h0 | ⟨bk, o, rfl, hbk, hc, hcell⟩ := HX.out.below hbl
        · subst h0; simp at hlt
        obtain h0 | ⟨bk2, o2, rfl, hbk2, hc2, hcell2⟩ := HY.out.below hbl
        · subst h0; simp at hly2
        have cj := hcell j xs[j] (by simp [hlt])
        have dj := hcell2 j ys[j] (by simp [hly2])
        have j1 : (j : Int) < xs.length := by omega
        have j2 : (j : Int) < ys.length := by omega
        have hbn : ∀ n, Below w.heap.size w (wr.drewN n) := fun n => hbl.trans ⟨rfl, rfl, rfl, Nat.le_refl _, fun _ _ => rfl⟩
        clear hcell hcell2
        by_cases he : xs[j] = ys[j]
        · have hst := Lib.hid (take_eq_step xs ys j hlt hly2 hr.out he)
          rw [← he] at dj
          generalize xs[j] = x at cj dj
          clear he
          go_wp2_with fail
          go_quiet (fail)
          go_wp2_with fail
          go_roundw
          case rel => exact ⟨j + 1, hlt, by go_num, hst, hbn _⟩
          case measure => simp [intOf]; omega
        · have hno : Hid (¬ xs = ys) := fun e => he (by subst e; rfl)
          have hq : (xs[j].toList == ys[j].toList) = false := by rw [str_beqM, decide_eq_false he]
          have hq2 : (xs[j].toList != ys[j].toList) = true := by rw [bne, hq]; rfl
          clear he
          generalize xs[j] = x at cj hq hq2
          generalize ys[j] = y at dj hq hq2
          go_wp2_with fail
          go_quiet (fail)
          go_wp2_with fail
          go_ret
          exact ⟨by rw [HR.out, decide_eq_false hno.out]; rfl, hbn _⟩
      · obtain rfl : j = xs.length := by omega
        have h1 := hr.out
        have hs2 := HS.out
        rw [List.take_of_length_le (by omega), List.take_of_length_le (by omega)] at h1
        have H1 := Lib.hid h1
        clear h1 hs2
        go_wp2_with fail
        go_ret
        exact ⟨by rw [HR.out, decide_eq_true H1.out]; rfl, hbl⟩
  · have hno : R = false := by rw [hR]; exact decide_eq_false (fun e => hsz (by rw [e]))
    subst hno
    have hne : ((xs.length : Int) != (ys.length : Int)) = true := by simp; omega
    clear hR hsz hx hy
    go_enter Tryd.func22, Tryd.ntmps22
    go_wp2_with fail
    go_ret
    exact ⟨rfl, Below.refl _ _⟩
theorem apart_eq : ∀ {l : List Ent}, Apart l → ∀ {a b : Ent}, a ∈ l → b ∈ l → a.1 = b.1 → a = b
  | [], _, a, b, ha, _, _ => by simp at ha
  | x :: l, h, a, b, ha, hb, e => by
    unfold Apart at h
    obtain ⟨h1, h2⟩ := List.pairwise_cons.1 h
    rcases List.mem_cons.1 ha with rfl | ha2
    · rcases List.mem_cons.1 hb with rfl | hb2
      · rfl
      · exact absurd e (h1 b hb2)
    · rcases List.mem_cons.1 hb with rfl | hb2
      · exact absurd e.symm (h1 a ha2)
      · exact apart_eq (l := l) h2 ha2 hb2 e
theorem apart_perm {l l' : List Ent} (p : l.Perm l') : Apart l ↔ Apart l' := p.pairwise_iff (fun h => Ne.symm h)
theorem valid_perm {l l' : List Ent} (p : l.Perm l') : validB l = validB l' := by
  unfold validB
  rw [p.all_eq]
  congr 1
  rw [decide_eq_decide]
  exact apart_perm p
theorem sorted_uniq {l l' : List Ent} (p : l.Perm l') (h : SortedE l) (h' : SortedE l') (ha : Apart l) : l = l' := by
  unfold SortedE at h h'
  refine List.Perm.eq_of_pairwise (le := fun a b : Ent => ¬ nmB b.1 < nmB a.1) (fun a b ha1 hb1 h1 h2 => ?_) h h' p
  have hb2 : b ∈ l := (p.mem_iff).2 hb1
  refine apart_eq ha ha1 hb2 ?_
  have hle := List.le_antisymm (List.not_lt.1 h1) (List.not_lt.1 h2)
  exact ByteArray.ext (Array.ext' hle)
theorem Assigned.uniq {k : Nat → UInt8} {es : List Ent} {m : Nat} {o1 o2 : Nat → Int} (h1 : Assigned k es m o1) (h2 : Assigned k es m o2) : o1 = o2 := by
  rcases h1 with ⟨e1, rfl⟩ | ⟨n1, T1, c1, rfl⟩
  · rcases h2 with ⟨_, rfl⟩ | ⟨n2, _⟩
    · rfl
    · exact absurd e1 n2
  · rcases h2 with ⟨e2, _⟩ | ⟨_, T2, c2, rfl⟩
    · exact absurd e2 n1
    · rw [Par.run_same _ c1 c2]
end Go.Proofs.YtlcpkplipfcdaaaDoor

/- stewardref18.Sorted (out of genmgz.py), stewardref17.Row, stewardref18.Walk -/
namespace Go.Proofs.YtlcpkplipfcdaaaDoor
open Go.RowKit

/-- Where an entry goes. -/
def posE (N : ByteArray) : List Ent → Nat
  | [] => 0
  | e :: l => if nmB e.1 < nmB N then posE N l + 1 else 0
theorem posE_le (N : ByteArray) : ∀ l, posE N l ≤ l.length
  | [] => Nat.le_refl _
  | e :: l => by
    unfold posE
    have := posE_le N l
    split <;> simp only [List.length_cons] <;> omega
theorem posE_at (N : ByteArray) : ∀ (l : List Ent) (q : Nat) (e : Ent), q < posE N l → l[q]? = some e → nmB e.1 < nmB N
  | [], q, e, h, _ => by unfold posE at h; omega
  | x :: l, q, e, h, he => by
    unfold posE at h
    split at h
    · rename_i hx
      cases q with
      | zero => obtain rfl : x = e := by simpa using he
                exact hx
      | succ q => exact posE_at N l q e (by omega) (by simpa using he)
    · omega
theorem posE_stop (N : ByteArray) : ∀ (l : List Ent) (e : Ent), l[posE N l]? = some e → ¬ nmB e.1 < nmB N
  | [], e, he => by simp at he
  | x :: l, e, he => by
    unfold posE at he
    split at he
    · exact posE_stop N l e (by simpa using he)
    · rename_i hx
      obtain rfl : x = e := by simpa using he
      exact hx
def insE (l : List Ent) (e : Ent) : List Ent := l.take (posE e.1 l) ++ e :: l.drop (posE e.1 l)
def srtE (l : List Ent) : List Ent := l.foldl insE []
theorem srtE_step {l : List Ent} {j : Nat} (hj : j < l.length) : srtE (l.take (j + 1)) = insE (srtE (l.take j)) l[j] := by
  unfold srtE
  rw [List.take_add_one, List.getElem?_eq_getElem hj, Option.toList_some, List.foldl_append]
  rfl
theorem insE_perm (l : List Ent) (e : Ent) : (insE l e).Perm (e :: l) := by
  unfold insE
  refine List.perm_middle.trans ?_
  rw [List.take_append_drop]
theorem posE_drop {N : ByteArray} : ∀ {l : List Ent}, SortedE l → ∀ x ∈ l.drop (posE N l), ¬ nmB x.1 < nmB N
  | [], _, x, hx => by simp at hx
  | e :: l, h, x, hx => by
    unfold SortedE at h
    obtain ⟨h1, h2⟩ := List.pairwise_cons.1 h
    unfold posE at hx
    split at hx
    · exact posE_drop (l := l) h2 x (by simpa using hx)
    · rename_i hn
      rcases List.mem_cons.1 (by simpa using hx) with rfl | hx
      · exact hn
      · intro hlt
        exact h1 x hx (Classical.byContradiction fun hn2 => List.not_lt.2 (List.le_trans (List.not_lt.1 hn) (List.not_lt.1 hn2)) hlt)
theorem insE_sorted {l : List Ent} {e : Ent} (h : SortedE l) : SortedE (insE l e) := by
  have hd := posE_drop (N := e.1) h
  unfold SortedE at h ⊢
  unfold insE
  have hl : (l.take (posE e.1 l) ++ l.drop (posE e.1 l)).Pairwise fun a b : Ent => ¬ nmB b.1 < nmB a.1 := by rw [List.take_append_drop]; exact h
  obtain ⟨t1, t2, t3⟩ := List.pairwise_append.1 hl
  have hlt : ∀ a ∈ l.take (posE e.1 l), nmB a.1 < nmB e.1 := fun a ha => by
    obtain ⟨q, hq, he⟩ := List.mem_take_iff_getElem.1 ha
    exact posE_at e.1 l q a (by omega) (by rw [List.getElem?_eq_getElem (by omega), he])
  refine List.pairwise_append.2 ⟨t1, List.pairwise_cons.2 ⟨fun x hx => hd x hx, t2⟩, fun a ha b hb => ?_⟩
  rcases List.mem_cons.1 hb with rfl | hb
  · exact lt_asymmS (hlt a ha)
  · exact t3 a ha b hb
theorem srtE_spec : ∀ (l : List Ent), (srtE l).Perm l ∧ SortedE (srtE l) := by
  have key : ∀ (l acc : List Ent), SortedE acc → (l.foldl insE acc).Perm (l ++ acc) ∧ SortedE (l.foldl insE acc) := by
    intro l
    induction l with
    | nil => exact fun acc h => ⟨List.Perm.refl _, h⟩
    | cons e l ih =>
      intro acc h
      obtain ⟨h1, h2⟩ := ih (insE acc e) (insE_sorted h)
      refine ⟨h1.trans ?_, h2⟩
      refine ((insE_perm acc e).append_left l).trans ?_
      exact List.perm_middle
  intro l
  have := key l [] List.Pairwise.nil
  rw [List.append_nil] at this
  exact this
theorem own_prefix {w : World} {base g n c : Nat} {e : TypeId} {sz : Nat} {xs : List Value} (h : w.ownsRow base e sz (.slice (some ⟨g, 0, none⟩) n c) n xs) {k : Nat} (hk : k ≤ n) : w.ownsRow base e sz (.slice (some ⟨g, 0, none⟩) k c) k (xs.take (k * sz)) := by
  obtain ⟨hl, ⟨hx, _⟩ | ⟨g', cap, cur, hx, hb, hg, hcap, hcm, hcs, htk⟩⟩ := h
  · injection hx with h1; cases h1
  · injection hx with h1 h2 h3
    obtain rfl : g = g' := by injection h1 with h1; injection h1
    subst h3
    have hks : k * sz ≤ n * sz := Nat.mul_le_mul_right _ hk
    refine ⟨by rw [List.length_take, hl]; omega, .inr ⟨g, c, cur, rfl, hb, hg, by omega, hcm, hcs, ?_⟩⟩
    rw [← htk, List.take_take, Nat.min_eq_left hks]
theorem own_cellM {w : World} {base g n c j : Nat} {e : TypeId} {sz : Nat} {xs : List Value} (h : w.ownsRow base e sz (.slice (some ⟨g, 0, none⟩) n c) n xs) (hj : j < xs.length) : w.cell? ⟨g, j, none⟩ = xs[j]? := by
  obtain ⟨hl, ⟨hx, _⟩ | ⟨g', cap, cur, hx, hb, hg, hcap, hcm, hcs, htk⟩⟩ := h
  · injection hx with h1; cases h1
  · injection hx with h1 h2 h3
    obtain rfl : g = g' := by injection h1 with h1; injection h1
    have hR : Row w g e cur := hg
    have hjn : j < n * sz := by rw [← hl]; exact hj
    rw [hR.cell j, ← htk, List.getElem?_take, if_pos hjn, Array.getElem?_toList]
theorem own_capM {w : World} {base g n c : Nat} {e : TypeId} {sz : Nat} {xs : List Value} (h : w.ownsRow base e sz (.slice (some ⟨g, 0, none⟩) n c) n xs) : n ≤ c ∧ base ≤ g ∧ g < w.heap.size := by
  obtain ⟨hl, ⟨hx, _⟩ | ⟨g', cap, cur, hx, hb, hg, hcap, hcm, hcs, htk⟩⟩ := h
  · injection hx with h1; cases h1
  · injection hx with h1 h2 h3
    obtain rfl : g = g' := by injection h1 with h1; injection h1
    subst h3
    exact ⟨hcap, hb, (Array.getElem?_eq_some_iff.1 hg).1⟩
theorem insE_cells (l : List Ent) (e : Ent) : cellsE (insE l e) = (cellsE l).take (posE e.1 l * 2) ++ ([.string e.1, .int .i64 e.2] ++ (cellsE l).drop (posE e.1 l * 2)) := by
  have hp := posE_le e.1 l
  unfold insE
  generalize posE e.1 l = p at *
  have h1 : cellsE l = cellsE (l.take p) ++ cellsE (l.drop p) := by rw [← cellsE_append, List.take_append_drop]
  have h2 : (cellsE (l.take p)).length = p * 2 := by rw [cellsE_length, List.length_take, Nat.min_eq_left hp]
  rw [h1, cellsE_append, List.take_left' h2, List.drop_left' h2]
  rfl
/-- What holds while an entry is put in. -/
structure SoS (W w0 : World) (eb g n cap p : Nat) (xs : List Value) (N : ByteArray) (V : Int) (L : Nat → Bool) (x : Nat → Value) (w : World) : Prop where
  bel : Below w0.heap.size w0 w
  box : Row w eb 44 #[.string N, .int .i64 V]
  gsz : g < W.heap.size ∧ eb < W.heap.size ∧ w0.heap.size ≤ W.heap.size ∧ g ≠ eb
  siz : W.heap.size ≤ w.heap.size
  z4 : L 4 = false → L 8 = false ∧ w = W
  z5 : L 4 = true → L 8 = false → w.ownsRow W.heap.size 44 2 (.slice (some ⟨W.heap.size, 0, none⟩) 1 1) 1 [.string N, .int .i64 V]
  z6 : L 8 = false → L 9 = false
  z7 : L 9 = false → w.ownsRow w0.heap.size 44 2 (.slice (some ⟨g, 0, none⟩) n cap) n xs
  z8 : L 8 = true → L 9 = false → L 4 = true ∧ ∃ g2 c2, x 8 = .slice (some ⟨g2, 0, none⟩) (1 + (n - p)) c2 ∧ w.ownsRow W.heap.size 44 2 (.slice (some ⟨g2, 0, none⟩) (1 + (n - p)) c2) (1 + (n - p)) ([.string N, .int .i64 V] ++ xs.drop (p * 2))
  z3 : L 7 = true → ∃ ad m' c', x 7 = .slice (some ad) m' c' ∧ m' = n - p ∧ (m' = 0 ∨ ad = ⟨g, p * 2, none⟩)
  z9 : L 9 = true → w.ownsRow w0.heap.size 44 2 (x 9) (p + (1 + (n - p))) (xs.take (p * 2) ++ ([.string N, .int .i64 V] ++ xs.drop (p * 2)))
theorem SoS.next {W w0 : World} {eb g n cap p : Nat} {xs : List Value} {N : ByteArray} {V : Int} {L : Nat → Bool} {x : Nat → Value} {w : World} (h : SoS W w0 eb g n cap p xs N V L x w) (i : Nat) (u : Value) (h4 : i ≠ 4) (h7 : i ≠ 7) (h8 : i ≠ 8) (h9 : i ≠ 9) : SoS W w0 eb g n cap p xs N V (setL L i) (updV x i u) w := by
  have e4 : setL L i 4 = L 4 := by simp [setL, Ne.symm h4]
  have e8 : setL L i 8 = L 8 := by simp [setL, Ne.symm h8]
  have e9 : setL L i 9 = L 9 := by simp [setL, Ne.symm h9]
  have e7 : setL L i 7 = L 7 := by simp [setL, Ne.symm h7]
  have x7 : updV x i u 7 = x 7 := by simp [updV, Ne.symm h7]
  have x8 : updV x i u 8 = x 8 := by simp [updV, Ne.symm h8]
  have x9 : updV x i u 9 = x 9 := by simp [updV, Ne.symm h9]
  exact ⟨h.bel, h.box, h.gsz, h.siz, by rw [e4, e8]; exact h.z4, by rw [e4, e8]; exact h.z5, by rw [e8, e9]; exact h.z6, by rw [e9]; exact h.z7, by rw [e8, e9, e4, x8]; exact h.z8, by rw [e7, x7]; exact h.z3, by rw [e9, x9]; exact h.z9⟩
theorem SoS.next7 {W w0 : World} {eb g n cap p : Nat} {xs : List Value} {N : ByteArray} {V : Int} {L : Nat → Bool} {x : Nat → Value} {w : World} (h : SoS W w0 eb g n cap p xs N V L x w) (u : Value) (hu : ∃ ad m' c', u = .slice (some ad) m' c' ∧ m' = n - p ∧ (m' = 0 ∨ ad = ⟨g, p * 2, none⟩)) : SoS W w0 eb g n cap p xs N V (setL L 7) (updV x 7 u) w := by
  have e4 : setL L 7 4 = L 4 := by simp [setL]
  have e8 : setL L 7 8 = L 8 := by simp [setL]
  have e9 : setL L 7 9 = L 9 := by simp [setL]
  have x7 : updV x 7 u 7 = u := by simp [updV]
  have x8 : updV x 7 u 8 = x 8 := by simp [updV]
  have x9 : updV x 7 u 9 = x 9 := by simp [updV]
  exact ⟨h.bel, h.box, h.gsz, h.siz, by rw [e4, e8]; exact h.z4, by rw [e4, e8]; exact h.z5, by rw [e8, e9]; exact h.z6, by rw [e9]; exact h.z7, by rw [e8, e9, e4, x8]; exact h.z8, fun _ => by rw [x7]; exact hu, by rw [e9, x9]; exact h.z9⟩
theorem cellsE_one (l : List Ent) : ∀ u ∈ cellsE l, u.oneCell' = true := by
  intro u hu
  obtain ⟨e, _, he⟩ := List.mem_flatMap.1 hu
  simp at he
  rcases he with rfl | rfl <;> rfl
set_option maxRecDepth 100000 in
set_option maxHeartbeats 4000000 in
theorem sortedR (a : Option Addr) (c : Nat) (es : List Ent) (hl : es.length ≤ 6) (w : World) (hf : IsEnts w a c es) :
    Calls Tryd.prog 18 #[.slice a es.length c] w fun e w' => ∃ a' c', e = .returned (.slice a' es.length c') ∧ w'.ownsRow w.heap.size 44 2 (.slice a' es.length c') es.length (cellsE (srtE es)) ∧ Below w.heap.size w w' := by
  obtain ⟨i0, hi, hz0, hz1, hz2⟩ := info_parts infoXEnt
  have HF := Lib.hid hf
  clear hf
  have O0 : Hid ((w.alloc (.cells #[] 44)).ownsRow w.heap.size 44 2 (.slice (some ⟨w.heap.size, 0, none⟩) 0 0) 0 []) := World.ownsRow_lit w #[] 0 (Nat.le_refl _) (by decide) (by simp)
  have L0 := Lib.hid (below_alloc w (.cells #[] 44))
  go_enter Tryd.func18, Tryd.ntmps18
  go_wp2_with fail
  go_loopw [3, 10] (fun v i wr => ∃ (j g cap : Nat), j ≤ es.length ∧ i = .int .i64 (j : Int) ∧ v = .slice (some ⟨g, 0, none⟩) j cap ∧ Hid ((srtE (es.take j)).length = j) ∧ Hid (wr.ownsRow w.heap.size 44 2 (.slice (some ⟨g, 0, none⟩) j cap) j (cellsE (srtE (es.take j)))) ∧ Hid (Below w.heap.size w wr)) (fun _ i _ => es.length - (intOf i).toNat)
  case atStart => exact ⟨0, _, _, Nat.zero_le _, rfl, rfl, rfl, O0, L0⟩
  case round =>
    clear O0 L0
    obtain ⟨j, g, cap, hj, rfl, rfl, HLN, HO, HB⟩ := hrel
    by_cases hlt : j < es.length
    · have j1 : (j : Int) < es.length := by omega
      obtain h0 | ⟨bk, o, rfl, hbk, hc, hcell⟩ := HF.out.below HB.out
      · subst h0; simp at hlt
      obtain ⟨c1, c2⟩ := hcell j es[j] (by simp [hlt])
      have HST := Lib.hid (srtE_step hlt)
      have HLN2 : Hid ((srtE (es.take (j + 1))).length = j + 1) := by
        show _ = _
        rw [(srtE_spec _).1.length_eq, List.length_take]; omega
      generalize es[j] = e at *
      obtain ⟨N, V⟩ := e
      simp only at c1 c2
      have HOa := Lib.hid (HO.out.alloc (.cells #[.string N, .int .i64 V] 44))
      have HBa := Lib.hid (HB.out.alloc HB.out.size (.cells #[.string N, .int .i64 V] 44))
      have HBX := Lib.hid (Row.new wr 44 #[.string N, .int .i64 V])
      have HBK := Lib.hid hbk
      have HGC := own_capM HO.out
      have HGB : Hid (g < wr.heap.size ∧ w.heap.size ≤ g) := ⟨HGC.2.2, HGC.2.1⟩
      have hgc := HGC.1
      clear hcell hbk HGC HO HB
      go_upto_region 6 with fail
      clear c1 c2
      have HLE := Lib.hid (posE_le N (srtE (es.take j)))
      have HPA := Lib.hid (posE_at N (srtE (es.take j)))
      have HPS := Lib.hid (posE_stop N (srtE (es.take j)))
      have HIC := Lib.hid (insE_cells (srtE (es.take j)) (N, V))
      have HCA := Lib.hid (cellsE_at (srtE (es.take j)))
      have HCL := Lib.hid (cellsE_length (srtE (es.take j)))
      rw [← HST.out] at HIC
      generalize hl2 : srtE (es.take (j + 1)) = l2 at *
      have HL2E := Lib.hid hl2
      clear hl2
      generalize srtE (es.take j) = l at *
      generalize wr.alloc (.cells #[.string N, .int .i64 V] 44) = Wa at *
      generalize wr.heap.size = eb at *
      dsimp only at HIC
      generalize posE N l = p at *
      go_loopw [6] (fun i w3 => ∃ q : Nat, q ≤ p ∧ i = .int .i64 (q : Int) ∧ Hid (w3.ownsRow w.heap.size 44 2 (.slice (some ⟨g, 0, none⟩) j cap) j (cellsE l)) ∧ Hid (Row w3 eb 44 #[.string N, .int .i64 V]) ∧ Hid (Below w.heap.size w w3)) (fun i _ => p - (intOf i).toNat)
      case atStart => exact ⟨0, Nat.zero_le _, rfl, HOa, HBX, HBa⟩
      case round =>
        clear HOa HBX HBa
        obtain ⟨q, hq, rfl, HO, HX, HB⟩ := hrel
        have hln := HLN.out
        have hle := HLE.out
        have e0 : wr.cell? ⟨eb, 0, none⟩ = some (.string N) := by rw [HX.out.cell]; rfl
        by_cases hqj : q < j
        · have q1 : (q : Int) < j := by omega
          obtain ⟨x, hx⟩ : ∃ x, l[q]? = some x := ⟨_, List.getElem?_eq_getElem (by omega)⟩
          have g0 : wr.cell? ⟨g, q * 2, none⟩ = some (.string x.1) := by rw [own_cellM HO.out (by rw [HCL.out]; omega)]; exact (HCA.out q x hx).1
          have HD := Lib.hid (less_eq x.1 N)
          by_cases hqp : q < p
          · have hbl : Op.bytesLess x.1.toList N.toList = true := by rw [HD.out]; exact decide_eq_true (HPA.out q x hqp hx)
            have HB2 : ∀ n, Hid (Below w.heap.size w (wr.drewN n)) := fun n => HB.out.trans ⟨rfl, rfl, rfl, Nat.le_refl _, fun _ _ => rfl⟩
            clear hln hle
            go_wp2_with fail
            go_quiet (fail)
            go_wp2_with fail
            go_roundw
            case rel => exact ⟨q + 1, hqp, by go_num, ownB_keep HO.out (Keep.drewN (G := fun _ => False) wr _) (fun _ _ h => h), Row.drewN HX.out _, HB2 _⟩
            case measure => simp [intOf]; omega
          · obtain rfl : q = p := by omega
            have HB2 : ∀ n, Hid (Below w.heap.size w (wr.drewN n)) := fun n => HB.out.trans ⟨rfl, rfl, rfl, Nat.le_refl _, fun _ _ => rfl⟩
            have hbl : Op.bytesLess x.1.toList N.toList = false := by rw [HD.out]; exact decide_eq_false (HPS.out x hx)
            clear hln hle
            go_wp2_with fail
            go_quiet (fail)
            go_upto_region 8 with fail
            have HO2 : Hid ((wr.drewN nq).ownsRow w.heap.size 44 2 (.slice (some ⟨g, 0, none⟩) j cap) j (cellsE l)) := ownB_keep HO.out (Keep.drewN (G := fun _ => False) wr nq) (fun _ _ h => h)
            have HX2 : Hid (Row (wr.drewN nq) eb 44 #[.string N, .int .i64 V]) := Row.drewN HX.out nq
            have HB3 := Lib.hid (HB2 nq).out
            have HSZ : Hid (g < (wr.drewN nq).heap.size ∧ eb < (wr.drewN nq).heap.size ∧ w.heap.size ≤ (wr.drewN nq).heap.size ∧ g ≠ eb) := ⟨(own_capM HO2.out).2.2, HX2.out.lt, HB3.out.size, by have := HGB.out; omega⟩
            clear HO HX HB HB2
            generalize wr.drewN nq = Wq at *
            have p1 : (q : Int) ≤ j := by omega
            have p2 : (q : Int) ≤ cap := by omega
            have p3 : (j : Int) ≤ cap := by omega
            refine region_mixt 10 [some (.slice (some ⟨g, 0, none⟩) j cap), some (.int .i64 (q : Int)), some (.slice (some ⟨g, 0, none⟩) q cap), some (.agg #[.string N, .int .i64 V]), some (.slice (some ⟨Wq.heap.size, 0, none⟩) 1 1), some (.slice (some ⟨g, 0, none⟩) j cap), some (.int .i64 (q : Int)), none, none, none]
              [[false, false, false, false, false, false, false, false, false, false], [false, false, false, false, false, false, false, false, false, false], [true, true, false, false, false, false, false, false, false, false], [false, false, false, false, false, false, false, false, false, false], [false, false, false, true, false, false, false, false, false, false], [false, false, false, false, false, false, false, false, false, false], [false, false, false, false, false, false, false, false, false, false], [false, false, false, false, false, true, true, false, false, false], [false, false, false, false, true, false, false, true, false, false], [false, false, true, false, false, false, false, false, true, false]]
              (fun LL xx w9 => SoS Wq.drew w eb g j cap q (cellsE l) N V LL xx w9)
              (by kernel_rfl) (by kernel_rfl) (by kernel_rfl) (by kernel_rfl) (by kernel_rfl) (by decide) ?_ ?_ ?_
            · intro x
              exact ⟨HB3.out.drew, HX2.out, HSZ.out, Nat.le_refl _, fun _ => ⟨rfl, rfl⟩, (fun h => by cases h), fun _ => rfl, fun _ => HO2.out.drew, (fun h => by cases h), (fun h => by cases h), (fun h => by cases h)⟩
            · simp only [List.take_succ_cons, List.take_zero]
              refine ⟨?_, ?_, ?_, ?_, ?_, ?_, ?_, ?_, ?_, ?_, trivial⟩
              all_goals
                intro L x w9 hS hl hp K9 hK9
                have hs : SoS Wq.drew w eb g j cap q (cellsE l) N V L x w9 := hS
                clear hS
                have r0 : w9.cell? ⟨eb, 0, none⟩ = some (.string N) := by rw [hs.box.cell]; rfl
                have r1 : w9.cell? ⟨eb, 1, none⟩ = some (.int .i64 V) := by rw [hs.box.cell]; rfl
                replace hK9 := hK9.out
                simp only [actMix, pickV, List.tail_cons, List.headD_cons, Act.put, List.setIfInBounds_toArray, List.set_cons_zero, List.set_cons_succ] at hK9 ⊢
              iterate 4
                · clear hp
                  go_simp
                  with_reducible refine hK9 _ ?_
                  exact hs.next _ _ (by decide) (by decide) (by decide) (by decide)
              · obtain ⟨h8, rfl⟩ := hs.z4 hl
                have h9 := hs.z6 h8
                clear hp
                go_simp
                with_reducible refine hK9 _ ?_
                refine ⟨hs.bel.alloc hs.bel.size _, hs.box.alloc _, hs.gsz, (below_alloc _ _).size, fun e => by simp [setL] at e, fun _ _ => World.ownsRow_lit Wq.drew #[.string N, .int .i64 V] 1 (Nat.le_refl _) (by decide) (by simp), fun _ => by simpa [setL] using h9, fun _ => (hs.z7 h9).alloc _, fun e => by simp [setL, h8] at e, fun e => by have := hs.z3 (by simpa [setL] using e); simpa [updV] using this, fun e => by simp [setL, h9] at e⟩
              iterate 2
                · clear hp
                  go_simp
                  with_reducible refine hK9 _ ?_
                  exact hs.next _ _ (by decide) (by decide) (by decide) (by decide)
              · clear hp
                go_simp
                with_reducible refine hK9 _ _ ?_
                refine hs.next7 _ ?_
                by_cases hcp : cap = q
                · rw [if_pos hcp]; exact ⟨_, _, _, rfl, by omega, .inl (by omega)⟩
                · rw [if_neg hcp]; exact ⟨_, _, _, rfl, by omega, .inr rfl⟩
              · have h4 : L 4 = true := allL_mem hp 4 (by decide +kernel)
                have h7 : L 7 = true := allL_mem hp 7 (by decide +kernel)
                have h9 := hs.z6 hl
                obtain ⟨ad, m', c', hx7, hm', had⟩ := hs.z3 h7
                have ho5 := hs.z5 h4 hl
                have ho7 := hs.z7 h9
                have hnl : ((cellsE l).drop (q * 2)).length = m' * 2 := by rw [List.length_drop, HCL.out, HLN.out, hm', Nat.sub_mul]
                have hnc : ∀ (i : Nat) u, ((cellsE l).drop (q * 2))[i]? = some u → w9.cell? (ad.add i) = some u := fun i u hu => by
                  rcases had with h0 | rfl
                  · rw [h0, Nat.zero_mul] at hnl
                    rw [List.eq_nil_of_length_eq_zero hnl] at hu
                    simp at hu
                  · rw [Addr.add_mid]
                    rw [List.getElem?_drop] at hu
                    rw [own_cellM ho7 (List.getElem?_eq_some_iff.1 hu).1]
                    exact hu
                have hno : ∀ u ∈ (cellsE l).drop (q * 2), u.oneCell' = true := fun u hu => cellsE_one l u (List.mem_of_mem_drop hu)
                have hgz := hs.gsz
                clear hp
                rw [hx7] at hK9 ⊢
                first | rw [if_pos (by rfl)] | skip
                refine wp_append_own _ _ _ 22 rfl Wq.drew.heap.size 44 i0 (.agg #[.string ⟨#[]⟩, .int .i64 0]) 2 24 Tryd.underlying22 hi hz0 hz1 hz2 rfl (by decide) _ _ _ rfl ho5 ad m' c' ((cellsE l).drop (q * 2)) rfl hnl hnc hno (by unfold maxLen; omega) (by omega) hs.siz ?_
                intro v' w1 hown1 hgrow _
                have hown2 : w1.ownsRow Wq.drew.heap.size 44 2 v' (m' + 1) ([.string N, .int .i64 V] ++ (cellsE l).drop (q * 2)) := by rw [Nat.add_comm]; exact hown1
                obtain ⟨g2, c2, rfl⟩ := ownsRow_succ hown2
                rw [Nat.add_comm m' 1, hm'] at hown2
                simp only [Act.put, List.setIfInBounds_toArray, List.set_cons_zero, List.set_cons_succ]
                with_reducible refine hK9 _ _ ?_
                refine ⟨hs.bel.grown hgrow hs.bel.size (fun k hk => by have hk : some Wq.drew.heap.size = some k := hk; injection hk with hk; have := hgz.2.2.1; omega), hs.box.grown hgrow (fun e => by have e : some Wq.drew.heap.size = some eb := e; injection e with e; have := hgz.2.1; omega), hgz, Nat.le_trans hs.siz hgrow.size, fun e => by simp [setL, h4] at e, fun _ e => by simp [setL] at e, fun e => by simp [setL] at e, fun _ => ho7.kept hgrow (.inr (fun e => by have e : some g = some Wq.drew.heap.size := e; injection e with e; have := hgz.1; omega)), fun _ _ => ⟨by simp [setL, h4], g2, c2, by simp [updV]; omega, hown2⟩, fun _ => ⟨ad, m', c', by simp [updV, hx7], hm', had⟩, fun e => by simp [setL, h9] at e⟩
              · have h8 : L 8 = true := allL_mem hp 8 (by decide +kernel)
                obtain ⟨h4, g2, c2, hx8, ho8⟩ := hs.z8 h8 hl
                have ho7 := hs.z7 hl
                have hpn : q ≤ j := by omega
                have hop := own_prefix ho7 hpn
                have hnl : ([Value.string N, .int .i64 V] ++ (cellsE l).drop (q * 2)).length = (1 + (j - q)) * 2 := by rw [List.length_append, List.length_drop, HCL.out, HLN.out, List.length_cons, List.length_singleton]; omega
                have hnc : ∀ (i : Nat) u, ([Value.string N, .int .i64 V] ++ (cellsE l).drop (q * 2))[i]? = some u → w9.cell? ((⟨g2, 0, none⟩ : Addr).add i) = some u := fun i u hu => by
                  rw [Addr.add_mid, Nat.zero_add, own_cellM ho8 (List.getElem?_eq_some_iff.1 hu).1]
                  exact hu
                have hno : ∀ u ∈ [Value.string N, .int .i64 V] ++ (cellsE l).drop (q * 2), u.oneCell' = true := fun u hu => by
                  rcases List.mem_append.1 hu with h | h
                  · exact ent_one N V u h
                  · exact cellsE_one l u (List.mem_of_mem_drop h)
                have hgz := hs.gsz
                clear hp
                rw [hx8] at hK9 ⊢
                first | rw [if_pos (by rfl)] | skip
                refine wp_append_own _ _ _ 22 rfl w.heap.size 44 i0 (.agg #[.string ⟨#[]⟩, .int .i64 0]) 2 24 Tryd.underlying22 hi hz0 hz1 hz2 rfl (by decide) _ _ _ rfl hop ⟨g2, 0, none⟩ (1 + (j - q)) c2 ([.string N, .int .i64 V] ++ (cellsE l).drop (q * 2)) rfl hnl hnc hno (by unfold maxLen; omega) (by omega) hs.bel.size ?_
                intro v' w1 hown1 hgrow _
                simp only [Act.put, List.setIfInBounds_toArray, List.set_cons_zero, List.set_cons_succ]
                with_reducible refine hK9 _ _ ?_
                refine ⟨hs.bel.grown hgrow hs.bel.size (fun k hk => (hop.lt k hk).1), hs.box.grown hgrow (fun e => by have e : some g = some eb := e; injection e with e; exact hgz.2.2.2 e), hgz, Nat.le_trans hs.siz hgrow.size, fun e => by simp [setL, h4] at e, fun _ e => by simp [setL, h8] at e, fun e => by simp [setL, h8] at e, fun e => by simp [setL] at e, fun _ e => by simp [setL] at e, fun e => by have := hs.z3 (by simpa [setL] using e); simpa [updV] using this, fun _ => by simpa [updV] using hown1⟩
            intro L x w9 hS hL
            have hs : SoS Wq.drew w eb g j cap q (cellsE l) N V L x w9 := hS
            have ho9 := hs.z9 (hL 9 (by decide))
            rw [← HIC.out, show q + (1 + (j - q)) = j + 1 by omega] at ho9
            obtain ⟨g', cap', hx9⟩ := ownsRow_succ ho9
            have HB9 := Lib.hid hs.bel
            simp only [actMix, pickV, List.tail_cons, List.headD_cons, Act.put, List.setIfInBounds_toArray, List.set_cons_zero, List.set_cons_succ, List.replicate_succ, List.replicate_zero, List.drop_succ_cons, List.drop_zero, List.take_succ_cons, List.take_zero]
            rw [hx9] at ho9 ⊢
            have HO9 := Lib.hid ho9
            clear hS hL hs ho9 hx9 HO2 HX2 HB3 HSZ
            go_wp2_with fail
            go_roundw
            case rel => exact ⟨j + 1, g', cap', hlt, by go_num, rfl, by rw [HL2E.out]; exact HLN2, by rw [HL2E.out]; exact HO9, HB9⟩
            case measure => simp [intOf]; omega
        · obtain rfl : q = j := by omega
          obtain rfl : p = q := by omega
          have q1 : ¬ (p : Int) < p := by omega
          have HB2 : ∀ n, Hid (Below w.heap.size w (wr.drewN n)) := fun n => HB.out.trans ⟨rfl, rfl, rfl, Nat.le_refl _, fun _ _ => rfl⟩
          clear hln hle
          go_wp2_with fail
          go_quiet (fail)
          go_upto_region 8 with fail
          have HO2 : Hid ((wr.drewN nq).ownsRow w.heap.size 44 2 (.slice (some ⟨g, 0, none⟩) p cap) p (cellsE l)) := ownB_keep HO.out (Keep.drewN (G := fun _ => False) wr nq) (fun _ _ h => h)
          have HX2 : Hid (Row (wr.drewN nq) eb 44 #[.string N, .int .i64 V]) := Row.drewN HX.out nq
          have HB3 := Lib.hid (HB2 nq).out
          have HSZ : Hid (g < (wr.drewN nq).heap.size ∧ eb < (wr.drewN nq).heap.size ∧ w.heap.size ≤ (wr.drewN nq).heap.size ∧ g ≠ eb) := ⟨(own_capM HO2.out).2.2, HX2.out.lt, HB3.out.size, by have := HGB.out; omega⟩
          clear HO HX HB HB2
          generalize wr.drewN nq = Wq at *
          have p1 : (p : Int) ≤ p := by omega
          have p2 : (p : Int) ≤ cap := by omega
          have p3 : (p : Int) ≤ cap := by omega
          refine region_mixt 10 [some (.slice (some ⟨g, 0, none⟩) p cap), some (.int .i64 (p : Int)), some (.slice (some ⟨g, 0, none⟩) p cap), some (.agg #[.string N, .int .i64 V]), some (.slice (some ⟨Wq.heap.size, 0, none⟩) 1 1), some (.slice (some ⟨g, 0, none⟩) p cap), some (.int .i64 (p : Int)), none, none, none]
            [[false, false, false, false, false, false, false, false, false, false], [false, false, false, false, false, false, false, false, false, false], [true, true, false, false, false, false, false, false, false, false], [false, false, false, false, false, false, false, false, false, false], [false, false, false, true, false, false, false, false, false, false], [false, false, false, false, false, false, false, false, false, false], [false, false, false, false, false, false, false, false, false, false], [false, false, false, false, false, true, true, false, false, false], [false, false, false, false, true, false, false, true, false, false], [false, false, true, false, false, false, false, false, true, false]]
            (fun LL xx w9 => SoS Wq.drew w eb g p cap p (cellsE l) N V LL xx w9)
            (by kernel_rfl) (by kernel_rfl) (by kernel_rfl) (by kernel_rfl) (by kernel_rfl) (by decide) ?_ ?_ ?_
          · intro x
            exact ⟨HB3.out.drew, HX2.out, HSZ.out, Nat.le_refl _, fun _ => ⟨rfl, rfl⟩, (fun h => by cases h), fun _ => rfl, fun _ => HO2.out.drew, (fun h => by cases h), (fun h => by cases h), (fun h => by cases h)⟩
          · simp only [List.take_succ_cons, List.take_zero]
            refine ⟨?_, ?_, ?_, ?_, ?_, ?_, ?_, ?_, ?_, ?_, trivial⟩
            all_goals
              intro L x w9 hS hl hp K9 hK9
              have hs : SoS Wq.drew w eb g p cap p (cellsE l) N V L x w9 := hS
              clear hS
              have r0 : w9.cell? ⟨eb, 0, none⟩ = some (.string N) := by rw [hs.box.cell]; rfl
              have r1 : w9.cell? ⟨eb, 1, none⟩ = some (.int .i64 V) := by rw [hs.box.cell]; rfl
              replace hK9 := hK9.out
              simp only [actMix, pickV, List.tail_cons, List.headD_cons, Act.put, List.setIfInBounds_toArray, List.set_cons_zero, List.set_cons_succ] at hK9 ⊢
            iterate 4
              · clear hp
                go_simp
                with_reducible refine hK9 _ ?_
                exact hs.next _ _ (by decide) (by decide) (by decide) (by decide)
            · obtain ⟨h8, rfl⟩ := hs.z4 hl
              have h9 := hs.z6 h8
              clear hp
              go_simp
              with_reducible refine hK9 _ ?_
              refine ⟨hs.bel.alloc hs.bel.size _, hs.box.alloc _, hs.gsz, (below_alloc _ _).size, fun e => by simp [setL] at e, fun _ _ => World.ownsRow_lit Wq.drew #[.string N, .int .i64 V] 1 (Nat.le_refl _) (by decide) (by simp), fun _ => by simpa [setL] using h9, fun _ => (hs.z7 h9).alloc _, fun e => by simp [setL, h8] at e, fun e => by have := hs.z3 (by simpa [setL] using e); simpa [updV] using this, fun e => by simp [setL, h9] at e⟩
            iterate 2
              · clear hp
                go_simp
                with_reducible refine hK9 _ ?_
                exact hs.next _ _ (by decide) (by decide) (by decide) (by decide)
            · clear hp
              go_simp
              with_reducible refine hK9 _ _ ?_
              refine hs.next7 _ ?_
              by_cases hcp : cap = p
              · rw [if_pos hcp]; exact ⟨_, _, _, rfl, by omega, .inl (by omega)⟩
              · rw [if_neg hcp]; exact ⟨_, _, _, rfl, by omega, .inr rfl⟩
            · have h4 : L 4 = true := allL_mem hp 4 (by decide +kernel)
              have h7 : L 7 = true := allL_mem hp 7 (by decide +kernel)
              have h9 := hs.z6 hl
              obtain ⟨ad, m', c', hx7, hm', had⟩ := hs.z3 h7
              have ho5 := hs.z5 h4 hl
              have ho7 := hs.z7 h9
              have hnl : ((cellsE l).drop (p * 2)).length = m' * 2 := by rw [List.length_drop, HCL.out, HLN.out, hm', Nat.sub_mul]
              have hnc : ∀ (i : Nat) u, ((cellsE l).drop (p * 2))[i]? = some u → w9.cell? (ad.add i) = some u := fun i u hu => by
                rcases had with h0 | rfl
                · rw [h0, Nat.zero_mul] at hnl
                  rw [List.eq_nil_of_length_eq_zero hnl] at hu
                  simp at hu
                · rw [Addr.add_mid]
                  rw [List.getElem?_drop] at hu
                  rw [own_cellM ho7 (List.getElem?_eq_some_iff.1 hu).1]
                  exact hu
              have hno : ∀ u ∈ (cellsE l).drop (p * 2), u.oneCell' = true := fun u hu => cellsE_one l u (List.mem_of_mem_drop hu)
              have hgz := hs.gsz
              clear hp
              rw [hx7] at hK9 ⊢
              first | rw [if_pos (by rfl)] | skip
              refine wp_append_own _ _ _ 22 rfl Wq.drew.heap.size 44 i0 (.agg #[.string ⟨#[]⟩, .int .i64 0]) 2 24 Tryd.underlying22 hi hz0 hz1 hz2 rfl (by decide) _ _ _ rfl ho5 ad m' c' ((cellsE l).drop (p * 2)) rfl hnl hnc hno (by unfold maxLen; omega) (by omega) hs.siz ?_
              intro v' w1 hown1 hgrow _
              have hown2 : w1.ownsRow Wq.drew.heap.size 44 2 v' (m' + 1) ([.string N, .int .i64 V] ++ (cellsE l).drop (p * 2)) := by rw [Nat.add_comm]; exact hown1
              obtain ⟨g2, c2, rfl⟩ := ownsRow_succ hown2
              rw [Nat.add_comm m' 1, hm'] at hown2
              simp only [Act.put, List.setIfInBounds_toArray, List.set_cons_zero, List.set_cons_succ]
              with_reducible refine hK9 _ _ ?_
              refine ⟨hs.bel.grown hgrow hs.bel.size (fun k hk => by have hk : some Wq.drew.heap.size = some k := hk; injection hk with hk; have := hgz.2.2.1; omega), hs.box.grown hgrow (fun e => by have e : some Wq.drew.heap.size = some eb := e; injection e with e; have := hgz.2.1; omega), hgz, Nat.le_trans hs.siz hgrow.size, fun e => by simp [setL, h4] at e, fun _ e => by simp [setL] at e, fun e => by simp [setL] at e, fun _ => ho7.kept hgrow (.inr (fun e => by have e : some g = some Wq.drew.heap.size := e; injection e with e; have := hgz.1; omega)), fun _ _ => ⟨by simp [setL, h4], g2, c2, by simp [updV]; omega, hown2⟩, fun _ => ⟨ad, m', c', by simp [updV, hx7], hm', had⟩, fun e => by simp [setL, h9] at e⟩
            · have h8 : L 8 = true := allL_mem hp 8 (by decide +kernel)
              obtain ⟨h4, g2, c2, hx8, ho8⟩ := hs.z8 h8 hl
              have ho7 := hs.z7 hl
              have hpn : p ≤ p := by omega
              have hop := own_prefix ho7 hpn
              have hnl : ([Value.string N, .int .i64 V] ++ (cellsE l).drop (p * 2)).length = (1 + (p - p)) * 2 := by rw [List.length_append, List.length_drop, HCL.out, HLN.out, List.length_cons, List.length_singleton]; omega
              have hnc : ∀ (i : Nat) u, ([Value.string N, .int .i64 V] ++ (cellsE l).drop (p * 2))[i]? = some u → w9.cell? ((⟨g2, 0, none⟩ : Addr).add i) = some u := fun i u hu => by
                rw [Addr.add_mid, Nat.zero_add, own_cellM ho8 (List.getElem?_eq_some_iff.1 hu).1]
                exact hu
              have hno : ∀ u ∈ [Value.string N, .int .i64 V] ++ (cellsE l).drop (p * 2), u.oneCell' = true := fun u hu => by
                rcases List.mem_append.1 hu with h | h
                · exact ent_one N V u h
                · exact cellsE_one l u (List.mem_of_mem_drop h)
              have hgz := hs.gsz
              clear hp
              rw [hx8] at hK9 ⊢
              first | rw [if_pos (by rfl)] | skip
              refine wp_append_own _ _ _ 22 rfl w.heap.size 44 i0 (.agg #[.string ⟨#[]⟩, .int .i64 0]) 2 24 Tryd.underlying22 hi hz0 hz1 hz2 rfl (by decide) _ _ _ rfl hop ⟨g2, 0, none⟩ (1 + (p - p)) c2 ([.string N, .int .i64 V] ++ (cellsE l).drop (p * 2)) rfl hnl hnc hno (by unfold maxLen; omega) (by omega) hs.bel.size ?_
              intro v' w1 hown1 hgrow _
              simp only [Act.put, List.setIfInBounds_toArray, List.set_cons_zero, List.set_cons_succ]
              with_reducible refine hK9 _ _ ?_
              refine ⟨hs.bel.grown hgrow hs.bel.size (fun k hk => (hop.lt k hk).1), hs.box.grown hgrow (fun e => by have e : some g = some eb := e; injection e with e; exact hgz.2.2.2 e), hgz, Nat.le_trans hs.siz hgrow.size, fun e => by simp [setL, h4] at e, fun _ e => by simp [setL, h8] at e, fun e => by simp [setL, h8] at e, fun e => by simp [setL] at e, fun _ e => by simp [setL] at e, fun e => by have := hs.z3 (by simpa [setL] using e); simpa [updV] using this, fun _ => by simpa [updV] using hown1⟩
          intro L x w9 hS hL
          have hs : SoS Wq.drew w eb g p cap p (cellsE l) N V L x w9 := hS
          have ho9 := hs.z9 (hL 9 (by decide))
          rw [← HIC.out, show p + (1 + (p - p)) = p + 1 by omega] at ho9
          obtain ⟨g', cap', hx9⟩ := ownsRow_succ ho9
          have HB9 := Lib.hid hs.bel
          simp only [actMix, pickV, List.tail_cons, List.headD_cons, Act.put, List.setIfInBounds_toArray, List.set_cons_zero, List.set_cons_succ, List.replicate_succ, List.replicate_zero, List.drop_succ_cons, List.drop_zero, List.take_succ_cons, List.take_zero]
          rw [hx9] at ho9 ⊢
          have HO9 := Lib.hid ho9
          clear hS hL hs ho9 hx9 HO2 HX2 HB3 HSZ
          go_wp2_with fail
          go_roundw
          case rel => exact ⟨p + 1, g', cap', hlt, by go_num, rfl, by rw [HL2E.out]; exact HLN2, by rw [HL2E.out]; exact HO9, HB9⟩
          case measure => simp [intOf]; omega
    · obtain rfl : j = es.length := by omega
      have hne : ¬ (es.length : Int) < es.length := by omega
      go_wp2_with fail
      go_ret
      have ho := HO.out
      rw [List.take_length] at ho
      exact ⟨_, _, rfl, ho, HB.out⟩

theorem rowL_take (m f s j : Nat) (hj : j < m) : (rowL m f s).take j ++ [(f + j * s) % m] = (rowL m f s).take (j + 1) := by
  have h : j < (rowL m f s).length := by rw [rowL_len]; exact hj
  rw [List.take_succ_eq_append_getElem h]
  congr 2
  simp [rowL]
set_option maxHeartbeats 2000000 in
theorem refrowM (m F S : Nat) (a b : Int) (hm1 : 1 ≤ m) (hm : m ≤ 2000) (ha : a % m = F) (hb : b % m = S) (w : World) :
    Calls Tryd.prog 45 #[.int .i64 (m : Int), .int .i64 a, .int .i64 b] w fun e w' => ∃ v, e = .returned v ∧ w'.ownsRow w.heap.size 3 1 v m (cellsN (rowL m F S)) ∧ Below w.heap.size w w' := by
  obtain ⟨i0, hi, hz0, hz1, hz2⟩ := info_parts infoInt
  have HMA := Lib.hid (refmod15 a m (by omega) (by omega))
  have HMB := Lib.hid (refmod15 b m (by omega) (by omega))
  rw [ha] at HMA
  rw [hb] at HMB
  have hS := Int.emod_lt_of_pos b (b := (m : Int)) (by omega)
  have hF := Int.emod_lt_of_pos a (b := (m : Int)) (by omega)
  rw [hb] at hS
  rw [ha] at hF
  clear ha hb
  have L0 := Lib.hid ((Below.refl w.heap.size w).alloc (Nat.le_refl _) (.cells #[] 3))
  have O0 : Hid ((w.alloc (.cells #[] 3)).ownsRow w.heap.size 3 1 (.slice (some ⟨w.heap.size, 0, none⟩) 0 0) 0 (cellsN ((rowL m F S).take 0))) := World.ownsRow_lit w #[] 0 (Nat.le_refl _) (by decide) (by simp)
  go_enter Tryd.func45, Tryd.ntmps45
  go_wp2_with fail
  go_loopw [7, 8] (fun v i wr => ∃ j : Nat, j ≤ m ∧ i = .int .i64 (j : Int) ∧ Hid (wr.ownsRow w.heap.size 3 1 v j (cellsN ((rowL m F S).take j))) ∧ Hid (Below w.heap.size w wr)) (fun _ i _ => m - (intOf i).toNat)
  case atStart => exact ⟨0, Nat.zero_le _, rfl, O0, L0⟩
  case round =>
    clear O0 L0
    obtain ⟨j, hj, rfl, HO, HB⟩ := hrel
    by_cases hlt : j < m
    · have htk := rowL_take m F S j hlt
      have hsz := HB.out.size
      have hcast : (j : Int) * (S : Int) = ((j * S : Nat) : Int) := by simp
      have hjs : j * S ≤ 2000 * 2000 := Nat.mul_le_mul (by omega) (by omega)
      have hpl := Nat.mod_lt (F + j * S) (show 0 < m by omega)
      have ht := tmodN (F + j * S) m
      have hc2 : ((F + j * S : Nat) : Int) = (F : Int) + ((j * S : Nat) : Int) := by omega
      rw [hc2] at ht
      have hzm : ¬ (m : Int) = 0 := by omega
      have j1 : (j : Int) < m := by omega
      have HT := Lib.hid htk
      clear htk hc2
      generalize (F + j * S) % m = P at *
      generalize j * S = JS at *
      go_wp2_with fail
      refine (HMA.out _).mono ?_
      rintro e w' ⟨rfl, hw'⟩
      subst hw'
      go_wp2_with fail
      refine (HMB.out _).mono ?_
      rintro e w2 ⟨rfl, hw2⟩
      subst hw2
      have HOA := Lib.hid (HO.out.alloc (.cells #[.int .i64 (P : Int)] 3))
      have HBA := Lib.hid (HB.out.alloc hsz (.cells #[.int .i64 (P : Int)] 3))
      go_wp2_with (at_builtin; refine wpList_append_own _ rfl _ _ 46 rfl w.heap.size 3 i0 (.int .i64 0) 1 8 Tryd.underlying46 hi hz0 hz1 hz2 rfl (by decide) _ _ _ rfl HOA.out ⟨w2.heap.size, 0, none⟩ 1 1 [.int .i64 (P : Int)] rfl rfl (src_one _ _ _) (one_int _) (by unfold maxLen; omega) (by omega) (by simp; omega) ?_)
      intro v' w1 hown' hgrow _
      rw [cellsN_snoc, HT.out] at hown'
      have HO1 := Lib.hid hown'
      have HB1 := Lib.hid (HBA.out.grown hgrow (by simp; omega) (fun k hk => (HO.out.lt k hk).1))
      clear hown' hgrow HBA HOA HO HB
      go_wp2_with fail
      go_roundw
      case rel => exact ⟨j + 1, hlt, by go_num, HO1, HB1⟩
      case measure => simp [intOf]; omega
    · obtain rfl : m = j := by omega
      obtain ⟨a, k, hv, _⟩ := own_sliceI HO.out
      subst hv
      have hO := HO.out
      rw [List.take_of_length_le (by rw [rowL_len]; exact Nat.le_refl _)] at hO
      have HN := Lib.hid hO
      have hne : ¬ (m : Int) < m := by omega
      clear hO HO
      go_wp2_with fail
      go_ret
      exact ⟨_, rfl, HN.out, HB.out⟩

/-- The reference's walk. -/
def rwS (pl ns : List ByteArray) (st : Nat) : Nat → List ByteArray
  | 0 => []
  | j + 1 => if inS ns (pl.getD ((st + j) % pl.length) ⟨#[]⟩) && !(inS (rwS pl ns st j) (pl.getD ((st + j) % pl.length) ⟨#[]⟩)) then rwS pl ns st j ++ [pl.getD ((st + j) % pl.length) ⟨#[]⟩] else rwS pl ns st j
theorem rwS_le (pl ns : List ByteArray) (st : Nat) : ∀ j, (rwS pl ns st j).length ≤ j
  | 0 => Nat.le_refl _
  | j + 1 => by
    have := rwS_le pl ns st j
    unfold rwS
    split
    · rw [List.length_append, List.length_singleton]; omega
    · omega
theorem rwS_yes {pl ns : List ByteArray} {st j : Nat} {N : ByteArray} (hN : pl.getD ((st + j) % pl.length) ⟨#[]⟩ = N) (h1 : inS ns N = true) (h2 : inS (rwS pl ns st j) N = false) : rwS pl ns st (j + 1) = rwS pl ns st j ++ [N] := by
  rw [rwS, hN, h1, h2]; rfl
theorem rwS_no {pl ns : List ByteArray} {st j : Nat} {N : ByteArray} (hN : pl.getD ((st + j) % pl.length) ⟨#[]⟩ = N) (h1 : inS ns N = false ∨ inS (rwS pl ns st j) N = true) : rwS pl ns st (j + 1) = rwS pl ns st j := by
  rw [rwS, hN]
  rcases h1 with h | h
  · rw [h]; rfl
  · rw [h]; simp
theorem inS_take {l : List ByteArray} {q : Nat} (hq : q < l.length) (N : ByteArray) : inS (l.take (q + 1)) N = (inS (l.take q) N || decide (l[q] = N)) := by
  unfold inS
  rw [List.take_add_one, List.getElem?_eq_getElem hq, Option.toList_some, List.any_append]
  simp
set_option maxRecDepth 100000 in
set_option maxHeartbeats 4000000 in
theorem walkR (pl ns : List ByteArray) (hm0 : 0 < pl.length) (hm : pl.length ≤ 100000) (hn : ns.length ≤ 1000) (st : Nat) (hst : st < pl.length) (a : Option Addr) (c : Nat) (b : Option Addr) (d : Nat) (w : World) (hp : IsStrs w a c pl) (hq : IsStrs w b d ns) :
    Calls Tryd.prog 25 #[.slice a pl.length c, .slice b ns.length d, .int .i64 (st : Int)] w fun e w' => ∃ a' c', e = .returned (.slice a' (rwS pl ns st pl.length).length c') ∧ IsStrs w' a' c' (rwS pl ns st pl.length) ∧ Below w.heap.size w w' := by
  obtain ⟨i0, hi, hz0, hz1, hz2⟩ := info_parts infoSt
  have HP := Lib.hid hp
  have HQ := Lib.hid hq
  have O0 : Hid ((w.alloc (.cells #[] 9)).ownsRow w.heap.size 9 1 (.slice (some ⟨w.heap.size, 0, none⟩) 0 0) 0 []) := World.ownsRow_lit w #[] 0 (Nat.le_refl _) (by decide) (by simp)
  have L0 := Lib.hid (below_alloc w (.cells #[] 9))
  clear hp hq
  go_enter Tryd.func25, Tryd.ntmps25
  go_wp2_with fail
  go_loopw [7, 19] (fun v i wr => ∃ (j : Nat), j ≤ pl.length ∧ i = .int .i64 (j : Int) ∧ Hid (wr.ownsRow w.heap.size 9 1 v (rwS pl ns st j).length ((rwS pl ns st j).map Value.string)) ∧ Hid (Below w.heap.size w wr)) (fun _ i _ => pl.length - (intOf i).toNat)
  case atStart => exact ⟨0, Nat.zero_le _, rfl, O0, L0⟩
  case round =>
    clear O0 L0
    obtain ⟨j, hj, rfl, HO, HB⟩ := hrel
    obtain ⟨wv, rfl⟩ : ∃ wv, wv = wr := ⟨wr, rfl⟩
    by_cases hlt : j < pl.length
    · obtain ⟨av, cv, rfl⟩ := own_slice HO.out
      have HOS := Lib.hid (isStrs_ownM (ns := rwS pl ns st j) HO.out).2
      have hlm : (st + j) % pl.length < pl.length := Nat.mod_lt _ hm0
      obtain h0 | ⟨bk, o, rfl, hbk, hc, hcell⟩ := HP.out.below HB.out
      · rw [h0] at hm0; simp at hm0
      obtain ⟨N, hN⟩ : ∃ N, pl[(st + j) % pl.length]? = some N := ⟨_, List.getElem?_eq_getElem hlm⟩
      have cN := hcell _ N hN
      have HND : Hid (pl.getD ((st + j) % pl.length) ⟨#[]⟩ = N) := by show _ = _; rw [List.getD_eq_getElem?_getD, hN]; rfl
      have HY := Lib.hid (fun h1 h2 => rwS_yes (ns := ns) HND.out h1 h2)
      have HNO := Lib.hid (fun h1 => rwS_no (ns := ns) HND.out h1)
      have hle := rwS_le pl ns st j
      have hcs : ((st + j : Nat) : Int) = (st : Int) + (j : Int) := by omega
      have hw1 := wrapS (st + j) (by omega)
      have ht := tmodM st j pl.length
      have hw2 := wrapS ((st + j) % pl.length) (by omega)
      rw [hcs] at hw1 ht
      have pz : ¬ ((pl.length : Nat) : Int) = 0 := by omega
      have pz2 : ¬ pl.length = 0 := by omega
      have r1 : (((st + j) % pl.length : Nat) : Int) < pl.length := by omega
      have j1 : (j : Int) < pl.length := by omega
      clear hcs hcell hN HND
      generalize hwn : rwS pl ns st (j + 1) = wn at *
      have HWN := Lib.hid hwn
      clear hwn
      generalize rwS pl ns st j = out at *
      generalize (st + j) % pl.length = r at *
      go_wp2_with fail
      go_loopw [10, 33] (fun h i w3 => ∃ (q : Nat), q ≤ out.length ∧ h = .bool (inS (out.take q) N) ∧ i = .int .i64 (q : Int) ∧ w3 = wv) (fun _ i _ => out.length - (intOf i).toNat)
      case atStart => exact ⟨0, Nat.zero_le _, rfl, rfl, rfl⟩
      case round =>
        obtain ⟨q, hq, rfl, rfl, rfl⟩ := hrel
        by_cases hql : q < out.length
        · obtain h0 | ⟨bk2, o2, rfl, hbk2, hc2, hcell2⟩ := HOS.out
          · rw [h0] at hql; simp at hql
          have cX := hcell2 q out[q] (List.getElem?_eq_getElem hql)
          have HT := Lib.hid (inS_take hql N)
          have HE := Lib.hid (strEqM out[q] N)
          have q1 : (q : Int) < out.length := by omega
          generalize out[q] = X at *
          clear hcell2
          cases hh : inS (out.take q) N with
          | true =>
            have HR : Hid (inS (out.take (q + 1)) N = true) := by show _ = _; rw [HT.out, hh]; rfl
            clear hh
            go_wp2_with fail
            go_roundw
            case rel => exact ⟨q + 1, hql, by rw [HR.out], by go_num, trivial⟩
            case measure => simp [intOf]; omega
          | false =>
            have HR : Hid (inS (out.take (q + 1)) N = (X.toList == N.toList)) := by show _ = _; rw [HT.out, hh, HE.out]; rfl
            clear hh
            go_wp2_with fail
            go_roundw
            case rel => exact ⟨q + 1, hql, by rw [HR.out], by go_num, trivial⟩
            case measure => simp [intOf]; omega
        · obtain rfl : q = out.length := by omega
          have hne : ¬ (out.length : Int) < out.length := by omega
          rw [List.take_length]
          go_wp2_with fail
          obtain ⟨wu, rfl⟩ : ∃ wu, wu = wr := ⟨wr, rfl⟩
          go_loopw [11, 46] (fun h i w3 => ∃ (q : Nat), q ≤ ns.length ∧ h = .bool (inS (ns.take q) N) ∧ i = .int .i64 (q : Int) ∧ w3 = wu) (fun _ i _ => ns.length - (intOf i).toNat)
          case atStart => exact ⟨0, Nat.zero_le _, rfl, rfl, rfl⟩
          case round =>
            obtain ⟨q, hq, rfl, rfl, rfl⟩ := hrel
            by_cases hql : q < ns.length
            · obtain h0 | ⟨bk2, o2, rfl, hbk2, hc2, hcell2⟩ := HQ.out.below HB.out
              · rw [h0] at hql; simp at hql
              have cX := hcell2 q ns[q] (List.getElem?_eq_getElem hql)
              have HT := Lib.hid (inS_take hql N)
              have HE := Lib.hid (strEqM ns[q] N)
              have q1 : (q : Int) < ns.length := by omega
              generalize ns[q] = X at *
              clear hcell2
              cases hh : inS (ns.take q) N with
              | true =>
                have HR : Hid (inS (ns.take (q + 1)) N = true) := by show _ = _; rw [HT.out, hh]; rfl
                clear hh
                go_wp2_with fail
                go_roundw
                case rel => exact ⟨q + 1, hql, by rw [HR.out], by go_num, trivial⟩
                case measure => simp [intOf]; omega
              | false =>
                have HR : Hid (inS (ns.take (q + 1)) N = (X.toList == N.toList)) := by show _ = _; rw [HT.out, hh, HE.out]; rfl
                clear hh
                go_wp2_with fail
                go_roundw
                case rel => exact ⟨q + 1, hql, by rw [HR.out], by go_num, trivial⟩
                case measure => simp [intOf]; omega
            · obtain rfl : q = ns.length := by omega
              have hne : ¬ (ns.length : Int) < ns.length := by omega
              rw [List.take_length]
              cases hk : inS ns N with
              | false =>
                have HW := Lib.hid (HNO.out (.inl hk))
                clear hk
                go_wp2_with fail
                go_roundw
                case rel => exact ⟨j + 1, hlt, by go_num, by rw [HWN.out, HW.out]; exact HO, HB⟩
                case measure => simp [intOf]; omega
              | true =>
                cases hh : inS out N with
                | true =>
                  have HW := Lib.hid (HNO.out (.inr hh))
                  clear hk hh
                  go_wp2_with fail
                  go_roundw
                  case rel => exact ⟨j + 1, hlt, by go_num, by rw [HWN.out, HW.out]; exact HO, HB⟩
                  case measure => simp [intOf]; omega
                | false =>
                  have HW := Lib.hid (HY.out hk hh)
                  have HOa := Lib.hid (HO.out.alloc (.cells #[.string N] 9))
                  have HBa := Lib.hid (HB.out.alloc HB.out.size (.cells #[.string N] 9))
                  have HNW := Lib.hid (cells_str wr N 9)
                  have HON : Hid (∀ u ∈ [Value.string N], u.oneCell' = true) := by intro u hu; simp at hu; subst hu; rfl
                  clear hk hh
                  go_wp2_with (at_builtin; refine wpList_append_own _ rfl _ _ 36 rfl w.heap.size 9 i0 (.string ⟨#[]⟩) 1 16 Tryd.underlying36 hi hz0 hz1 hz2 rfl (by decide) _ _ _ rfl HOa.out ⟨wr.heap.size, 0, none⟩ 1 1 [.string N] rfl rfl HNW.out HON.out (by unfold maxLen; omega) (by omega) HBa.out.size ?_; intro v' w10 hown' hgrow _)
                  have HB10 := Lib.hid (HBa.out.grown hgrow HBa.out.size (fun q e => (HOa.out.lt q e).1))
                  have HO10 := Lib.hid hown'
                  clear hown' hgrow
                  go_roundw
                  case rel =>
                    have e1 : (out ++ [N]).length = out.length + 1 := by simp
                    refine ⟨j + 1, hlt, by go_num, ?_, HB10⟩
                    rw [HWN.out, HW.out, e1, List.map_append]
                    exact HO10
                  case measure => simp [intOf]; omega
    · obtain rfl : j = pl.length := by omega
      have hne : ¬ (pl.length : Int) < pl.length := by omega
      obtain ⟨av, cv, rfl⟩ := own_slice HO.out
      go_wp2_with fail
      go_ret
      exact ⟨av, cv, rfl, (isStrs_ownM (ns := rwS pl ns st pl.length) HO.out).2, HB.out⟩
end Go.Proofs.YtlcpkplipfcdaaaDoor

