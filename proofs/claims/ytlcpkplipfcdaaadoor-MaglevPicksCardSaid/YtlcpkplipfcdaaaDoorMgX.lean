/- maglev.Table: Walk. -/
import Derived.Test.YtlcpkplipfcdaaaDoorMgW
namespace Go.Proofs.YtlcpkplipfcdaaaDoor
open Go.RowKit Go.Maps

def inS (l : List ByteArray) (y : ByteArray) : Bool := l.any fun e => decide (e = y)
/-- The names that have occurred after so many places. -/
def wkS (ns : List ByteArray) (m : Nat) (own : Nat → Int) (st : Nat) : Nat → List ByteArray
  | 0 => []
  | j + 1 => if (wkS ns m own st j).length = ns.length then wkS ns m own st j else if inS (wkS ns m own st j) (atN ns m own (((st + j) % m : Nat) : Int)) then wkS ns m own st j else wkS ns m own st j ++ [atN ns m own (((st + j) % m : Nat) : Int)]
section
variable {ns : List ByteArray} {m : Nat} {own : Nat → Int} {st : Nat}
theorem wkS_le : ∀ j, (wkS ns m own st j).length ≤ ns.length
  | 0 => Nat.zero_le _
  | j + 1 => by
    have := wkS_le j
    unfold wkS
    split
    · exact this
    · split
      · exact this
      · rw [List.length_append, List.length_singleton]; omega
theorem wkS_keep {j : Nat} (h : (wkS ns m own st j).length = ns.length) : wkS ns m own st (j + 1) = wkS ns m own st j := by
  rw [wkS, if_pos h]
theorem wkS_stop {j : Nat} (h : (wkS ns m own st j).length = ns.length) : ∀ d, wkS ns m own st (j + d) = wkS ns m own st j
  | 0 => rfl
  | d + 1 => by
    have ih := wkS_stop h d
    exact (wkS_keep (j := j + d) (by rw [ih]; exact h)).trans ih
theorem wkS_old {j : Nat} (h : (wkS ns m own st j).length ≠ ns.length) (h2 : inS (wkS ns m own st j) (atN ns m own (((st + j) % m : Nat) : Int)) = true) : wkS ns m own st (j + 1) = wkS ns m own st j := by
  rw [wkS, if_neg h, if_pos h2]
theorem wkS_new {j : Nat} (h : (wkS ns m own st j).length ≠ ns.length) (h2 : inS (wkS ns m own st j) (atN ns m own (((st + j) % m : Nat) : Int)) = false) : wkS ns m own st (j + 1) = wkS ns m own st j ++ [atN ns m own (((st + j) % m : Nat) : Int)] := by
  rw [wkS, if_neg h, h2]; rfl
end
theorem atN_size {ns : List ByteArray} {m : Nat} {own : Nat → Int} (h : ∀ n ∈ ns, n.size ≤ 1000) (p : Int) : (atN ns m own p).size ≤ 1000 := by
  unfold atN
  split
  · decide
  · split
    · decide
    · rename_i h1 h2
      cases hh : ns[(own p.toNat).toNat]? with
      | none => decide
      | some n => exact h n (List.mem_of_getElem? hh)
theorem inS_step (l : List ByteArray) (n : ByteArray) : (fun y => inS l y || decide (n = y)) = inS (l ++ [n]) := by
  funext y
  unfold inS
  rw [List.any_append]
  simp
set_option maxRecDepth 100000 in
set_option maxHeartbeats 4000000 in
theorem walkM (tb m : Nat) (hm0 : 0 < m) (hm : m ≤ 1048576) (ns : List ByteArray) (hn : ns.length ≤ 1000) (hz : ∀ n ∈ ns, n.size ≤ 1000) (own : Nat → Int) (hok : OwnOk ns.length m own) (x : Nat) (hx : x < 18446744073709551616) (w : World) (h : TableAt w tb ns m own) :
    Calls Tryd.prog 24 #[.pointer (some ⟨tb, 0, none⟩), .int .u64 x] w fun e w' => ∃ a c, e = .returned (.slice a (wkS ns m own (x * m / 18446744073709551616) m).length c) ∧ IsStrs w' a c (wkS ns m own (x * m / 18446744073709551616) m) ∧ Below w.heap.size w w' := by
  obtain ⟨i0, hi, hz0, hz1, hz2⟩ := info_parts infoSt
  have hst := belowN_lt x m hx hm0
  have HBW : Hid (∀ W, Calls Tryd.prog 46 #[.int .u64 x, .int .i64 m] W fun e w' => e = .returned (.int .i64 ((x * m / 18446744073709551616 : Nat) : Int)) ∧ W = w') := fun W => below15 x m hx hm0 (by omega) W
  generalize x * m / 18446744073709551616 = st at *
  have HSZ : Hid (∀ W, TableAt W tb ns m own → Calls Tryd.prog 15 #[.pointer (some ⟨tb, 0, none⟩)] W fun e w' => e = .returned (.int .i64 (m : Int)) ∧ w' = W) := fun W hW => size11 tb m ns own W hW
  have HAT : Hid (∀ W p, TableAt W tb ns m own → Calls Tryd.prog 17 #[.pointer (some ⟨tb, 0, none⟩), .int .i64 p] W fun e w' => e = .returned (.string (atN ns m own p)) ∧ Below W.heap.size W w') := fun W p hW => at13 tb m ns hn own hok p W hW
  have HZ := Lib.hid (fun p => atN_size (own := own) (m := m) hz p)
  have hmm := run_makeMap_hint Tryd.underlying89
  have HT := Lib.hid h
  have HS0 := Lib.hid (SetN.new w)
  have HB0 := Lib.hid (below_alloc w (.map #[] 0))
  obtain ⟨a, c, ob, h1, h2, h3, h4, h5, h6⟩ := h
  have H5 := Lib.hid h5
  have H1 := Lib.hid h1
  have H2 := Lib.hid h2
  clear h3 h4 h6 hz hok hx
  have g2 : (w.alloc (.map #[] 0)).cell? ⟨tb, 1, none⟩ = some (.slice (some ⟨ob, 0, none⟩) m m) := by rw [(bcell HB0.out).1 _ _ h5]; exact h2
  go_enter Tryd.func24, Tryd.ntmps24
  go_wp2_with (first
    | (go_at_call 15; refine (HSZ.out _ (HT.out.below HB0.out)).mono ?_; rintro e w' ⟨rfl, rfl⟩)
    | (go_at_call 46; refine (HBW.out _).mono ?_; rintro e w' ⟨rfl, rfl⟩))
  clear g2 h1 h2 h5 hmm
  have HMB : Hid (∀ (v : Value) (n : Nat) (xs : List Value) (W : World), W.ownsRow (w.heap.size + 1) 9 1 v n xs → v.ownBlock ≠ some w.heap.size) := fun v n xs W ho e => by have := (ho.lt _ e).1; omega
  have HB1 : Hid (w.heap.size + 1 ≤ (w.alloc (.map #[] 0)).heap.size) := by show _ ≤ _; simp
  go_loopw [5, 27] (fun v i wr => ∃ j : Nat, j ≤ m ∧ i = .int .i64 (j : Int) ∧ Hid (wr.ownsRow (w.heap.size + 1) 9 1 v (wkS ns m own st j).length ((wkS ns m own st j).map Value.string)) ∧ Hid (SetN wr w.heap.size (wkS ns m own st j).length (wkS ns m own st j).length (inS (wkS ns m own st j))) ∧ Hid (Below w.heap.size w wr) ∧ Hid (w.heap.size + 1 ≤ wr.heap.size)) (fun _ i _ => m - (intOf i).toNat)
  case atStart => exact ⟨0, Nat.zero_le _, rfl, World.ownsRow_nil _ _ _ _, HS0, HB0, HB1⟩
  case round =>
    clear HS0 HB0 HB1
    obtain ⟨j, hj, rfl, HO, HS, HB, HZ1⟩ := hrel
    have HLE := wkS_le (ns := ns) (m := m) (own := own) (st := st) j
    obtain ⟨av, cv, rfl⟩ := own_slice HO.out
    have g1 : wr.cell? ⟨tb, 0, none⟩ = some (.slice a ns.length c) := by rw [(bcell HB.out).1 _ _ H5.out]; exact H1.out
    by_cases hlt : j < m
    · have j1 : (j : Int) < m := by omega
      by_cases hfull : (wkS ns m own st j).length = ns.length
      · have HFIN : Hid (wkS ns m own st m = wkS ns m own st j) := by
          have := wkS_stop hfull (m - j)
          rw [show j + (m - j) = m by omega] at this
          exact this
        have hq : (((wkS ns m own st j).length : Int) == (ns.length : Int)) = true := by rw [beq_iff_eq]; omega
        clear hfull HLE
        go_wp2_with fail
        go_ret
        rw [HFIN.out]
        have ho := HO.out
        have e1 : (wkS ns m own st j).length = (wkS ns m own st j).length := rfl
        exact ⟨av, cv, rfl, (isStrs_ownM ho).2, HB.out⟩
      · have hq : (((wkS ns m own st j).length : Int) == (ns.length : Int)) = false := by rw [beq_eq_false_iff_ne]; omega
        have hw1 := wrapS (st + j) (by omega)
        have hcs : ((st + j : Nat) : Int) = (st : Int) + (j : Int) := by omega
        have ht := tmodM st j m
        rw [hcs] at hw1 ht
        have hlm : (st + j) % m < m := Nat.mod_lt _ hm0
        have hw2 := wrapS ((st + j) % m) (by omega)
        have pz : ¬ ((m : Nat) : Int) = 0 := by omega
        have pz2 : ¬ m = 0 := by omega
        have HNZ := Lib.hid (HZ.out (((st + j) % m : Nat) : Int))
        have HOLD := Lib.hid (wkS_old (ns := ns) (m := m) (own := own) (st := st) (j := j) hfull)
        have HNEW := Lib.hid (wkS_new (ns := ns) (m := m) (own := own) (st := st) (j := j) hfull)
        have HA := Lib.hid (HAT.out wr (((st + j) % m : Nat) : Int) (HT.out.below HB.out))
        have HSW := Lib.hid (HSZ.out wr (HT.out.below HB.out))
        have HL2 : Hid ((wkS ns m own st j).length < ns.length) := by show _ < _; omega
        clear hcs hfull HLE
        generalize atN ns m own (((st + j) % m : Nat) : Int) = N at *
        generalize (st + j) % m = r at *
        generalize hwn : wkS ns m own st (j + 1) = wn at *
        have HWN := Lib.hid hwn
        clear hwn
        generalize wkS ns m own st j = wj at *
        by_cases hin : inS wj N = true
        · have HW := Lib.hid (HOLD.out hin)
          have HIN := Lib.hid hin
          clear hin HOLD HNEW
          go_wp2_with (first
            | (go_at_call 15; refine HSW.out.mono ?_; rintro e w' ⟨rfl, rfl⟩)
            | (go_at_call 17; refine HA.out.mono ?_; rintro e w5 ⟨rfl, hB5⟩; have HS5 := Lib.hid (HS.out.same (hB5.block _ HS.out.lt)); have HO5 := Lib.hid (ownB_keep (G := fun _ => False) HO.out (Keep.of_below hB5) (fun _ _ h => h)); have HB5 := Lib.hid (HB.out.trans (hB5.mono HB.out.size)); have HZ5 : Hid (w.heap.size + 1 ≤ w5.heap.size) := Nat.le_trans HZ1.out hB5.size; clear hB5 HA)
            | (at_lookup; refine wpl_seenN _ rfl _ _ rfl w.heap.size _ _ _ rfl HS5.out N rfl (by have := HNZ.out; unfold maxLen; omega) ?_; rw [HIN.out]))
          go_roundw
          case rel => exact ⟨j + 1, hlt, by go_num, by rw [HWN.out, HW.out]; exact HO5.out.alloc _, by rw [HWN.out, HW.out]; exact HS5.out.alloc _, HB5.out.alloc HB5.out.size _, Nat.le_trans HZ5.out (below_alloc _ _).size⟩
          case measure => simp [intOf]; omega
        · have hin : inS wj N = false := by simpa using hin
          have HW := Lib.hid (HNEW.out hin)
          have HIN := Lib.hid hin
          clear hin HOLD HNEW
          go_upto_region 12 with (first
            | (go_at_call 15; refine HSW.out.mono ?_; rintro e w' ⟨rfl, rfl⟩)
            | (go_at_call 17; refine HA.out.mono ?_; rintro e w5 ⟨rfl, hB5⟩; have HS5 := Lib.hid (HS.out.same (hB5.block _ HS.out.lt)); have HO5 := Lib.hid (ownB_keep (G := fun _ => False) HO.out (Keep.of_below hB5) (fun _ _ h => h)); have HB5 := Lib.hid (HB.out.trans (hB5.mono HB.out.size)); have HZ5 : Hid (w.heap.size + 1 ≤ w5.heap.size) := Nat.le_trans HZ1.out hB5.size; clear hB5 HA)
            | (at_lookup; refine wpl_seenN _ rfl _ _ rfl w.heap.size _ _ _ rfl HS5.out N rfl (by have := HNZ.out; unfold maxLen; omega) ?_; rw [HIN.out])
            | (at_mapUpdate; refine wpl_markN _ rfl _ _ _ rfl w.heap.size _ _ _ rfl (HS5.out.alloc _) (by have := HL2.out; unfold maxLen; omega) N rfl rfl (by have := HNZ.out; unfold maxLen; omega) ?_; intro w9 hm9 hg9))
          rw [inS_step, HIN.out] at hm9
          simp only [Bool.false_eq_true, if_false] at hm9
          have HM9 := Lib.hid hm9
          have HO9 := Lib.hid ((HO5.out.alloc (.cells #[] 90)).kept hg9 (.inr (HMB.out _ _ _ _ (HO5.out.alloc (.cells #[] 90)))))
          have HB9 := Lib.hid ((HB5.out.alloc HB5.out.size (.cells #[] 90)).grown hg9 (HB5.out.alloc HB5.out.size (.cells #[] 90)).size (fun q e => by injection e with e; omega))
          have HZ9 : Hid (w.heap.size + 1 ≤ w9.heap.size) := Nat.le_trans (Nat.le_trans HZ5.out (below_alloc _ _).size) hg9.size
          clear hm9 hg9
          have HO9a := Lib.hid (HO9.out.alloc (.cells #[.string N] 9))
          have HB9a := Lib.hid (HB9.out.alloc HB9.out.size (.cells #[.string N] 9))
          have HM9a := Lib.hid (HM9.out.alloc (.cells #[.string N] 9))
          have HZ9a : Hid (w.heap.size + 1 ≤ (w9.alloc (.cells #[.string N] 9)).heap.size) := Nat.le_trans HZ9.out (below_alloc _ _).size
          have HNW := Lib.hid (cells_str w9 N 9)
          have hl2 := HL2.out
          have HON : Hid (∀ u ∈ [Value.string N], u.oneCell' = true) := by intro u hu; simp at hu; subst hu; rfl
          go_wp2_with (at_builtin; refine wpList_append_own _ rfl _ _ 36 rfl (w.heap.size + 1) 9 i0 (.string ⟨#[]⟩) 1 16 Tryd.underlying36 hi hz0 hz1 hz2 rfl (by decide) _ _ _ rfl HO9a.out ⟨w9.heap.size, 0, none⟩ 1 1 [.string N] rfl rfl HNW.out HON.out (by unfold maxLen; omega) (by omega) HZ9a.out ?_; intro v' w10 hown' hgrow _)
          have HS10 := Lib.hid (HM9a.out.same (hgrow.block _ HM9a.out.lt (fun e => HMB.out _ _ _ _ HO9a.out e.symm)))
          have HB10 := Lib.hid (HB9a.out.grown hgrow HB9a.out.size (fun q e => by have := (HO9a.out.lt q e).1; omega))
          have HZ10 : Hid (w.heap.size + 1 ≤ w10.heap.size) := Nat.le_trans HZ9a.out hgrow.size
          have HO10 := Lib.hid hown'
          clear hown' hgrow
          go_roundw
          case rel =>
            have e1 : (wj ++ [N]).length = wj.length + 1 := by simp
            refine ⟨j + 1, hlt, by go_num, ?_, ?_, HB10, HZ10⟩
            · rw [HWN.out, HW.out, e1, List.map_append]; exact HO10
            · rw [HWN.out, HW.out, e1]; exact HS10
          case measure => simp [intOf]; omega
    · obtain rfl : j = m := by omega
      have hne : ¬ (j : Int) < j := by omega
      go_wp2_with fail
      go_ret
      exact ⟨av, cv, rfl, (isStrs_ownM HO.out).2, HB.out⟩
end Go.Proofs.YtlcpkplipfcdaaaDoor
