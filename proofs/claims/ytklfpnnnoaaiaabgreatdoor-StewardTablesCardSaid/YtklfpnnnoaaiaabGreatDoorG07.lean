/- Packed: MgX, MgY, MgZ, MgBe, MgKy, MgWs. -/
import Derived.Lib.Slices
import Derived.BigQuiet
import Derived.Laws.AppendOwn
import Derived.Deep.AppendLies
import Derived.Test.YtklfpnnnoaaiaabGreatDoorG01
import Derived.Test.YtklfpnnnoaaiaabGreatDoorG03
import Derived.Test.YtklfpnnnoaaiaabGreatDoorG05
import Derived.Test.YtklfpnnnoaaiaabGreatDoorG06
/- maglev.Table: Walk. -/
namespace Go.Proofs.YtklfpnnnoaaiaabGreatDoor
open Go.RowKit Go.Maps

def inS (l : List ByteArray) (y : ByteArray) : Bool := l.any fun e => decide (e = y)
/-- The names that have occurred after so many places. -/
def wkS (ns : List ByteArray) (m : Nat) (own : Nat → Int) (st : Nat) : Nat → List ByteArray
  | 0 => []
  | j + 1 => if (wkS ns m own st j).length = ns.length then wkS ns m own st j else if inS (wkS ns m own st j) (atN ns m own (((st + j) % m : Nat) : Int)) then wkS ns m own st j else wkS ns m own st j ++ [atN ns m own (((st + j) % m : Nat) : Int)]
section
variable {ns : List ByteArray} {m : Nat} {own : Nat → Int} {st : Nat}
theorem wkS_le : ∀ j, (wkS ns m own st j).length ≤ ns.length
  | 0 => Nat.zero_le _
  | j + 1 => by
    have := wkS_le j
    unfold wkS
    split
    · exact this
    · split
      · exact this
      · rw [List.length_append, List.length_singleton]; omega
theorem wkS_keep {j : Nat} (h : (wkS ns m own st j).length = ns.length) : wkS ns m own st (j + 1) = wkS ns m own st j := by
  rw [wkS, if_pos h]
theorem wkS_stop {j : Nat} (h : (wkS ns m own st j).length = ns.length) : ∀ d, wkS ns m own st (j + d) = wkS ns m own st j
  | 0 => rfl
  | d + 1 => by
    have ih := wkS_stop h d
    exact (wkS_keep (j := j + d) (by rw [ih]; exact h)).trans ih
theorem wkS_old {j : Nat} (h : (wkS ns m own st j).length ≠ ns.length) (h2 : inS (wkS ns m own st j) (atN ns m own (((st + j) % m : Nat) : Int)) = true) : wkS ns m own st (j + 1) = wkS ns m own st j := by
  rw [wkS, if_neg h, if_pos h2]
theorem wkS_new {j : Nat} (h : (wkS ns m own st j).length ≠ ns.length) (h2 : inS (wkS ns m own st j) (atN ns m own (((st + j) % m : Nat) : Int)) = false) : wkS ns m own st (j + 1) = wkS ns m own st j ++ [atN ns m own (((st + j) % m : Nat) : Int)] := by
  rw [wkS, if_neg h, h2]; rfl
end
theorem atN_size {ns : List ByteArray} {m : Nat} {own : Nat → Int} (h : ∀ n ∈ ns, n.size ≤ 1000) (p : Int) : (atN ns m own p).size ≤ 1000 := by
  unfold atN
  split
  · decide
  · split
    · decide
    · rename_i h1 h2
      cases hh : ns[(own p.toNat).toNat]? with
      | none => decide
      | some n => exact h n (List.mem_of_getElem? hh)
theorem inS_step (l : List ByteArray) (n : ByteArray) : (fun y => inS l y || decide (n = y)) = inS (l ++ [n]) := by
  funext y
  unfold inS
  rw [List.any_append]
  simp
set_option maxRecDepth 100000 in
set_option maxHeartbeats 4000000 in
theorem walkM (tb m : Nat) (hm0 : 0 < m) (hm : m ≤ 1048576) (ns : List ByteArray) (hn : ns.length ≤ 1000) (hz : ∀ n ∈ ns, n.size ≤ 1000) (own : Nat → Int) (hok : OwnOk ns.length m own) (x : Nat) (hx : x < 18446744073709551616) (w : World) (h : TableAt w tb ns m own) :
    Calls Tryz.prog 16 #[.pointer (some ⟨tb, 0, none⟩), .int .u64 x] w fun e w' => ∃ a c, e = .returned (.slice a (wkS ns m own (x * m / 18446744073709551616) m).length c) ∧ IsStrs w' a c (wkS ns m own (x * m / 18446744073709551616) m) ∧ Below w.heap.size w w' := by
  obtain ⟨i0, hi, hz0, hz1, hz2⟩ := info_parts infoSt
  have hst := belowN_lt x m hx hm0
  have HBW : Hid (∀ W, Calls Tryz.prog 7 #[.int .u64 x, .int .i64 m] W fun e w' => e = .returned (.int .i64 ((x * m / 18446744073709551616 : Nat) : Int)) ∧ W = w') := fun W => below15 x m hx hm0 (by omega) W
  generalize x * m / 18446744073709551616 = st at *
  have HSZ : Hid (∀ W, TableAt W tb ns m own → Calls Tryz.prog 35 #[.pointer (some ⟨tb, 0, none⟩)] W fun e w' => e = .returned (.int .i64 (m : Int)) ∧ w' = W) := fun W hW => size11 tb m ns own W hW
  have HAT : Hid (∀ W p, TableAt W tb ns m own → Calls Tryz.prog 36 #[.pointer (some ⟨tb, 0, none⟩), .int .i64 p] W fun e w' => e = .returned (.string (atN ns m own p)) ∧ Below W.heap.size W w') := fun W p hW => at13 tb m ns hn own hok p W hW
  have HZ := Lib.hid (fun p => atN_size (own := own) (m := m) hz p)
  have hmm := run_makeMap_hint Tryz.underlying80
  have HT := Lib.hid h
  have HS0 := Lib.hid (SetN.new w)
  have HB0 := Lib.hid (below_alloc w (.map #[] 0))
  obtain ⟨a, c, ob, h1, h2, h3, h4, h5, h6⟩ := h
  have H5 := Lib.hid h5
  have H1 := Lib.hid h1
  have H2 := Lib.hid h2
  clear h3 h4 h6 hz hok hx
  have g2 : (w.alloc (.map #[] 0)).cell? ⟨tb, 1, none⟩ = some (.slice (some ⟨ob, 0, none⟩) m m) := by rw [(bcell HB0.out).1 _ _ h5]; exact h2
  go_enter Tryz.func16, Tryz.ntmps16
  go_wp2_with (first
    | (go_at_call 35; refine (HSZ.out _ (HT.out.below HB0.out)).mono ?_; rintro e w' ⟨rfl, rfl⟩)
    | (go_at_call 7; refine (HBW.out _).mono ?_; rintro e w' ⟨rfl, rfl⟩))
  clear g2 h1 h2 h5 hmm
  have HMB : Hid (∀ (v : Value) (n : Nat) (xs : List Value) (W : World), W.ownsRow (w.heap.size + 1) 9 1 v n xs → v.ownBlock ≠ some w.heap.size) := fun v n xs W ho e => by have := (ho.lt _ e).1; omega
  have HB1 : Hid (w.heap.size + 1 ≤ (w.alloc (.map #[] 0)).heap.size) := by show _ ≤ _; simp
  go_loopw [5, 27] (fun v i wr => ∃ j : Nat, j ≤ m ∧ i = .int .i64 (j : Int) ∧ Hid (wr.ownsRow (w.heap.size + 1) 9 1 v (wkS ns m own st j).length ((wkS ns m own st j).map Value.string)) ∧ Hid (SetN wr w.heap.size (wkS ns m own st j).length (wkS ns m own st j).length (inS (wkS ns m own st j))) ∧ Hid (Below w.heap.size w wr) ∧ Hid (w.heap.size + 1 ≤ wr.heap.size)) (fun _ i _ => m - (intOf i).toNat)
  case atStart => exact ⟨0, Nat.zero_le _, rfl, World.ownsRow_nil _ _ _ _, HS0, HB0, HB1⟩
  case round =>
    clear HS0 HB0 HB1
    obtain ⟨j, hj, rfl, HO, HS, HB, HZ1⟩ := hrel
    have HLE := wkS_le (ns := ns) (m := m) (own := own) (st := st) j
    obtain ⟨av, cv, rfl⟩ := own_slice HO.out
    have g1 : wr.cell? ⟨tb, 0, none⟩ = some (.slice a ns.length c) := by rw [(bcell HB.out).1 _ _ H5.out]; exact H1.out
    by_cases hlt : j < m
    · have j1 : (j : Int) < m := by omega
      by_cases hfull : (wkS ns m own st j).length = ns.length
      · have HFIN : Hid (wkS ns m own st m = wkS ns m own st j) := by
          have := wkS_stop hfull (m - j)
          rw [show j + (m - j) = m by omega] at this
          exact this
        have hq : (((wkS ns m own st j).length : Int) == (ns.length : Int)) = true := by rw [beq_iff_eq]; omega
        clear hfull HLE
        go_wp2_with fail
        go_ret
        rw [HFIN.out]
        have ho := HO.out
        have e1 : (wkS ns m own st j).length = (wkS ns m own st j).length := rfl
        exact ⟨av, cv, rfl, (isStrs_ownM ho).2, HB.out⟩
      · have hq : (((wkS ns m own st j).length : Int) == (ns.length : Int)) = false := by rw [beq_eq_false_iff_ne]; omega
        have hw1 := wrapS (st + j) (by omega)
        have hcs : ((st + j : Nat) : Int) = (st : Int) + (j : Int) := by omega
        have ht := tmodM st j m
        rw [hcs] at hw1 ht
        have hlm : (st + j) % m < m := Nat.mod_lt _ hm0
        have hw2 := wrapS ((st + j) % m) (by omega)
        have pz : ¬ ((m : Nat) : Int) = 0 := by omega
        have pz2 : ¬ m = 0 := by omega
        have HNZ := Lib.hid (HZ.out (((st + j) % m : Nat) : Int))
        have HOLD := Lib.hid (wkS_old (ns := ns) (m := m) (own := own) (st := st) (j := j) hfull)
        have HNEW := Lib.hid (wkS_new (ns := ns) (m := m) (own := own) (st := st) (j := j) hfull)
        have HA := Lib.hid (HAT.out wr (((st + j) % m : Nat) : Int) (HT.out.below HB.out))
        have HSW := Lib.hid (HSZ.out wr (HT.out.below HB.out))
        have HL2 : Hid ((wkS ns m own st j).length < ns.length) := by show _ < _; omega
        clear hcs hfull HLE
        generalize atN ns m own (((st + j) % m : Nat) : Int) = N at *
        generalize (st + j) % m = r at *
        generalize hwn : wkS ns m own st (j + 1) = wn at *
        have HWN := Lib.hid hwn
        clear hwn
        generalize wkS ns m own st j = wj at *
        by_cases hin : inS wj N = true
        · have HW := Lib.hid (HOLD.out hin)
          have HIN := Lib.hid hin
          clear hin HOLD HNEW
          go_wp2_with (first
            | (go_at_call 35; refine HSW.out.mono ?_; rintro e w' ⟨rfl, rfl⟩)
            | (go_at_call 36; refine HA.out.mono ?_; rintro e w5 ⟨rfl, hB5⟩; have HS5 := Lib.hid (HS.out.same (hB5.block _ HS.out.lt)); have HO5 := Lib.hid (ownB_keep (G := fun _ => False) HO.out (Keep.of_below hB5) (fun _ _ h => h)); have HB5 := Lib.hid (HB.out.trans (hB5.mono HB.out.size)); have HZ5 : Hid (w.heap.size + 1 ≤ w5.heap.size) := Nat.le_trans HZ1.out hB5.size; clear hB5 HA)
            | (at_lookup; refine wpl_seenN _ rfl _ _ rfl w.heap.size _ _ _ rfl HS5.out N rfl (by have := HNZ.out; unfold maxLen; omega) ?_; rw [HIN.out]))
          go_roundw
          case rel => exact ⟨j + 1, hlt, by go_num, by rw [HWN.out, HW.out]; exact HO5.out.alloc _, by rw [HWN.out, HW.out]; exact HS5.out.alloc _, HB5.out.alloc HB5.out.size _, Nat.le_trans HZ5.out (below_alloc _ _).size⟩
          case measure => simp [intOf]; omega
        · have hin : inS wj N = false := by simpa using hin
          have HW := Lib.hid (HNEW.out hin)
          have HIN := Lib.hid hin
          clear hin HOLD HNEW
          go_upto_region 12 with (first
            | (go_at_call 35; refine HSW.out.mono ?_; rintro e w' ⟨rfl, rfl⟩)
            | (go_at_call 36; refine HA.out.mono ?_; rintro e w5 ⟨rfl, hB5⟩; have HS5 := Lib.hid (HS.out.same (hB5.block _ HS.out.lt)); have HO5 := Lib.hid (ownB_keep (G := fun _ => False) HO.out (Keep.of_below hB5) (fun _ _ h => h)); have HB5 := Lib.hid (HB.out.trans (hB5.mono HB.out.size)); have HZ5 : Hid (w.heap.size + 1 ≤ w5.heap.size) := Nat.le_trans HZ1.out hB5.size; clear hB5 HA)
            | (at_lookup; refine wpl_seenN _ rfl _ _ rfl w.heap.size _ _ _ rfl HS5.out N rfl (by have := HNZ.out; unfold maxLen; omega) ?_; rw [HIN.out])
            | (at_mapUpdate; refine wpl_markN _ rfl _ _ _ rfl w.heap.size _ _ _ rfl (HS5.out.alloc _) (by have := HL2.out; unfold maxLen; omega) N rfl rfl (by have := HNZ.out; unfold maxLen; omega) ?_; intro w9 hm9 hg9))
          rw [inS_step, HIN.out] at hm9
          simp only [Bool.false_eq_true, if_false] at hm9
          have HM9 := Lib.hid hm9
          have HO9 := Lib.hid ((HO5.out.alloc (.cells #[] 83)).kept hg9 (.inr (HMB.out _ _ _ _ (HO5.out.alloc (.cells #[] 83)))))
          have HB9 := Lib.hid ((HB5.out.alloc HB5.out.size (.cells #[] 83)).grown hg9 (HB5.out.alloc HB5.out.size (.cells #[] 83)).size (fun q e => by injection e with e; omega))
          have HZ9 : Hid (w.heap.size + 1 ≤ w9.heap.size) := Nat.le_trans (Nat.le_trans HZ5.out (below_alloc _ _).size) hg9.size
          clear hm9 hg9
          have HO9a := Lib.hid (HO9.out.alloc (.cells #[.string N] 9))
          have HB9a := Lib.hid (HB9.out.alloc HB9.out.size (.cells #[.string N] 9))
          have HM9a := Lib.hid (HM9.out.alloc (.cells #[.string N] 9))
          have HZ9a : Hid (w.heap.size + 1 ≤ (w9.alloc (.cells #[.string N] 9)).heap.size) := Nat.le_trans HZ9.out (below_alloc _ _).size
          have HNW := Lib.hid (cells_str w9 N 9)
          have hl2 := HL2.out
          have HON : Hid (∀ u ∈ [Value.string N], u.oneCell' = true) := by intro u hu; simp at hu; subst hu; rfl
          go_wp2_with (at_builtin; refine wpList_append_own _ rfl _ _ 46 rfl (w.heap.size + 1) 9 i0 (.string ⟨#[]⟩) 1 16 Tryz.underlying46 hi hz0 hz1 hz2 rfl (by decide) _ _ _ rfl HO9a.out ⟨w9.heap.size, 0, none⟩ 1 1 [.string N] rfl rfl HNW.out HON.out (by unfold maxLen; omega) (by omega) HZ9a.out ?_; intro v' w10 hown' hgrow _)
          have HS10 := Lib.hid (HM9a.out.same (hgrow.block _ HM9a.out.lt (fun e => HMB.out _ _ _ _ HO9a.out e.symm)))
          have HB10 := Lib.hid (HB9a.out.grown hgrow HB9a.out.size (fun q e => by have := (HO9a.out.lt q e).1; omega))
          have HZ10 : Hid (w.heap.size + 1 ≤ w10.heap.size) := Nat.le_trans HZ9a.out hgrow.size
          have HO10 := Lib.hid hown'
          clear hown' hgrow
          go_roundw
          case rel =>
            have e1 : (wj ++ [N]).length = wj.length + 1 := by simp
            refine ⟨j + 1, hlt, by go_num, ?_, ?_, HB10, HZ10⟩
            · rw [HWN.out, HW.out, e1, List.map_append]; exact HO10
            · rw [HWN.out, HW.out, e1]; exact HS10
          case measure => simp [intOf]; omega
    · obtain rfl : j = m := by omega
      have hne : ¬ (j : Int) < j := by omega
      go_wp2_with fail
      go_ret
      exact ⟨av, cv, rfl, (isStrs_ownM HO.out).2, HB.out⟩
end Go.Proofs.YtklfpnnnoaaiaabGreatDoor

/- stewardlaw05.Same (out of XSameA); sorted entries are the same in whatever order they come. -/
namespace Go.Proofs.YtklfpnnnoaaiaabGreatDoor
open Go.RowKit

theorem str_beqM (a b : ByteArray) : (a.toList == b.toList) = decide (a = b) := by
  rw [ByteArray.toList_eq, ByteArray.toList_eq]
  by_cases h : a = b
  · subst h; simp
  · have h2 : ¬ a.data = b.data := fun e => h (ByteArray.ext e)
    simp [h, h2]
theorem take_eq_step (xs ys : List ByteArray) (j : Nat) (hx : j < xs.length) (hy : j < ys.length) (h : xs.take j = ys.take j) (he : xs[j] = ys[j]) : xs.take (j + 1) = ys.take (j + 1) := by
  rw [List.take_add_one, List.take_add_one, h, List.getElem?_eq_getElem hx, List.getElem?_eq_getElem hy, he]

theorem apart_eq : ∀ {l : List Ent}, Apart l → ∀ {a b : Ent}, a ∈ l → b ∈ l → a.1 = b.1 → a = b
  | [], _, a, b, ha, _, _ => by simp at ha
  | x :: l, h, a, b, ha, hb, e => by
    unfold Apart at h
    obtain ⟨h1, h2⟩ := List.pairwise_cons.1 h
    rcases List.mem_cons.1 ha with rfl | ha2
    · rcases List.mem_cons.1 hb with rfl | hb2
      · rfl
      · exact absurd e (h1 b hb2)
    · rcases List.mem_cons.1 hb with rfl | hb2
      · exact absurd e.symm (h1 a ha2)
      · exact apart_eq (l := l) h2 ha2 hb2 e
theorem apart_perm {l l' : List Ent} (p : l.Perm l') : Apart l ↔ Apart l' := p.pairwise_iff (fun h => Ne.symm h)
theorem valid_perm {l l' : List Ent} (p : l.Perm l') : validB l = validB l' := by
  unfold validB
  rw [p.all_eq]
  congr 1
  rw [decide_eq_decide]
  exact apart_perm p
theorem sorted_uniq {l l' : List Ent} (p : l.Perm l') (h : SortedE l) (h' : SortedE l') (ha : Apart l) : l = l' := by
  unfold SortedE at h h'
  refine List.Perm.eq_of_pairwise (le := fun a b : Ent => ¬ nmB b.1 < nmB a.1) (fun a b ha1 hb1 h1 h2 => ?_) h h' p
  have hb2 : b ∈ l := (p.mem_iff).2 hb1
  refine apart_eq ha ha1 hb2 ?_
  have hle := List.le_antisymm (List.not_lt.1 h1) (List.not_lt.1 h2)
  exact ByteArray.ext (Array.ext' hle)
theorem Assigned.uniq {k : Nat → UInt8} {es : List Ent} {m : Nat} {o1 o2 : Nat → Int} (h1 : Assigned k es m o1) (h2 : Assigned k es m o2) : o1 = o2 := by
  rcases h1 with ⟨e1, rfl⟩ | ⟨n1, T1, c1, rfl⟩
  · rcases h2 with ⟨_, rfl⟩ | ⟨n2, _⟩
    · rfl
    · exact absurd e1 n2
  · rcases h2 with ⟨e2, _⟩ | ⟨_, T2, c2, rfl⟩
    · exact absurd e2 n1
    · rw [Par.run_same _ c1 c2]
end Go.Proofs.YtklfpnnnoaaiaabGreatDoor

/- stewardref18.Sorted (out of genmgz.py), stewardref17.Row, stewardref18.Walk -/
namespace Go.Proofs.YtklfpnnnoaaiaabGreatDoor
open Go.RowKit

/-- Where an entry goes. -/
def posE (N : ByteArray) : List Ent → Nat
  | [] => 0
  | e :: l => if nmB e.1 < nmB N then posE N l + 1 else 0
theorem posE_le (N : ByteArray) : ∀ l, posE N l ≤ l.length
  | [] => Nat.le_refl _
  | e :: l => by
    unfold posE
    have := posE_le N l
    split <;> simp only [List.length_cons] <;> omega
theorem posE_at (N : ByteArray) : ∀ (l : List Ent) (q : Nat) (e : Ent), q < posE N l → l[q]? = some e → nmB e.1 < nmB N
  | [], q, e, h, _ => by unfold posE at h; omega
  | x :: l, q, e, h, he => by
    unfold posE at h
    split at h
    · rename_i hx
      cases q with
      | zero => obtain rfl : x = e := by simpa using he
                exact hx
      | succ q => exact posE_at N l q e (by omega) (by simpa using he)
    · omega
theorem posE_stop (N : ByteArray) : ∀ (l : List Ent) (e : Ent), l[posE N l]? = some e → ¬ nmB e.1 < nmB N
  | [], e, he => by simp at he
  | x :: l, e, he => by
    unfold posE at he
    split at he
    · exact posE_stop N l e (by simpa using he)
    · rename_i hx
      obtain rfl : x = e := by simpa using he
      exact hx
def insE (l : List Ent) (e : Ent) : List Ent := l.take (posE e.1 l) ++ e :: l.drop (posE e.1 l)
def srtE (l : List Ent) : List Ent := l.foldl insE []
theorem srtE_step {l : List Ent} {j : Nat} (hj : j < l.length) : srtE (l.take (j + 1)) = insE (srtE (l.take j)) l[j] := by
  unfold srtE
  rw [List.take_add_one, List.getElem?_eq_getElem hj, Option.toList_some, List.foldl_append]
  rfl
theorem insE_perm (l : List Ent) (e : Ent) : (insE l e).Perm (e :: l) := by
  unfold insE
  refine List.perm_middle.trans ?_
  rw [List.take_append_drop]
theorem posE_drop {N : ByteArray} : ∀ {l : List Ent}, SortedE l → ∀ x ∈ l.drop (posE N l), ¬ nmB x.1 < nmB N
  | [], _, x, hx => by simp at hx
  | e :: l, h, x, hx => by
    unfold SortedE at h
    obtain ⟨h1, h2⟩ := List.pairwise_cons.1 h
    unfold posE at hx
    split at hx
    · exact posE_drop (l := l) h2 x (by simpa using hx)
    · rename_i hn
      rcases List.mem_cons.1 (by simpa using hx) with rfl | hx
      · exact hn
      · intro hlt
        exact h1 x hx (Classical.byContradiction fun hn2 => List.not_lt.2 (List.le_trans (List.not_lt.1 hn) (List.not_lt.1 hn2)) hlt)
theorem insE_sorted {l : List Ent} {e : Ent} (h : SortedE l) : SortedE (insE l e) := by
  have hd := posE_drop (N := e.1) h
  unfold SortedE at h ⊢
  unfold insE
  have hl : (l.take (posE e.1 l) ++ l.drop (posE e.1 l)).Pairwise fun a b : Ent => ¬ nmB b.1 < nmB a.1 := by rw [List.take_append_drop]; exact h
  obtain ⟨t1, t2, t3⟩ := List.pairwise_append.1 hl
  have hlt : ∀ a ∈ l.take (posE e.1 l), nmB a.1 < nmB e.1 := fun a ha => by
    obtain ⟨q, hq, he⟩ := List.mem_take_iff_getElem.1 ha
    exact posE_at e.1 l q a (by omega) (by rw [List.getElem?_eq_getElem (by omega), he])
  refine List.pairwise_append.2 ⟨t1, List.pairwise_cons.2 ⟨fun x hx => hd x hx, t2⟩, fun a ha b hb => ?_⟩
  rcases List.mem_cons.1 hb with rfl | hb
  · exact lt_asymmS (hlt a ha)
  · exact t3 a ha b hb
theorem srtE_spec : ∀ (l : List Ent), (srtE l).Perm l ∧ SortedE (srtE l) := by
  have key : ∀ (l acc : List Ent), SortedE acc → (l.foldl insE acc).Perm (l ++ acc) ∧ SortedE (l.foldl insE acc) := by
    intro l
    induction l with
    | nil => exact fun acc h => ⟨List.Perm.refl _, h⟩
    | cons e l ih =>
      intro acc h
      obtain ⟨h1, h2⟩ := ih (insE acc e) (insE_sorted h)
      refine ⟨h1.trans ?_, h2⟩
      refine ((insE_perm acc e).append_left l).trans ?_
      exact List.perm_middle
  intro l
  have := key l [] List.Pairwise.nil
  rw [List.append_nil] at this
  exact this
theorem own_prefix {w : World} {base g n c : Nat} {e : TypeId} {sz : Nat} {xs : List Value} (h : w.ownsRow base e sz (.slice (some ⟨g, 0, none⟩) n c) n xs) {k : Nat} (hk : k ≤ n) : w.ownsRow base e sz (.slice (some ⟨g, 0, none⟩) k c) k (xs.take (k * sz)) := by
  obtain ⟨hl, ⟨hx, _⟩ | ⟨g', cap, cur, hx, hb, hg, hcap, hcm, hcs, htk⟩⟩ := h
  · injection hx with h1; cases h1
  · injection hx with h1 h2 h3
    obtain rfl : g = g' := by injection h1 with h1; injection h1
    subst h3
    have hks : k * sz ≤ n * sz := Nat.mul_le_mul_right _ hk
    refine ⟨by rw [List.length_take, hl]; omega, .inr ⟨g, c, cur, rfl, hb, hg, by omega, hcm, hcs, ?_⟩⟩
    rw [← htk, List.take_take, Nat.min_eq_left hks]
theorem own_cellM {w : World} {base g n c j : Nat} {e : TypeId} {sz : Nat} {xs : List Value} (h : w.ownsRow base e sz (.slice (some ⟨g, 0, none⟩) n c) n xs) (hj : j < xs.length) : w.cell? ⟨g, j, none⟩ = xs[j]? := by
  obtain ⟨hl, ⟨hx, _⟩ | ⟨g', cap, cur, hx, hb, hg, hcap, hcm, hcs, htk⟩⟩ := h
  · injection hx with h1; cases h1
  · injection hx with h1 h2 h3
    obtain rfl : g = g' := by injection h1 with h1; injection h1
    have hR : Row w g e cur := hg
    have hjn : j < n * sz := by rw [← hl]; exact hj
    rw [hR.cell j, ← htk, List.getElem?_take, if_pos hjn, Array.getElem?_toList]
theorem own_capM {w : World} {base g n c : Nat} {e : TypeId} {sz : Nat} {xs : List Value} (h : w.ownsRow base e sz (.slice (some ⟨g, 0, none⟩) n c) n xs) : n ≤ c ∧ base ≤ g ∧ g < w.heap.size := by
  obtain ⟨hl, ⟨hx, _⟩ | ⟨g', cap, cur, hx, hb, hg, hcap, hcm, hcs, htk⟩⟩ := h
  · injection hx with h1; cases h1
  · injection hx with h1 h2 h3
    obtain rfl : g = g' := by injection h1 with h1; injection h1
    subst h3
    exact ⟨hcap, hb, (Array.getElem?_eq_some_iff.1 hg).1⟩
theorem insE_cells (l : List Ent) (e : Ent) : cellsE (insE l e) = (cellsE l).take (posE e.1 l * 2) ++ ([.string e.1, .int .i64 e.2] ++ (cellsE l).drop (posE e.1 l * 2)) := by
  have hp := posE_le e.1 l
  unfold insE
  generalize posE e.1 l = p at *
  have h1 : cellsE l = cellsE (l.take p) ++ cellsE (l.drop p) := by rw [← cellsE_append, List.take_append_drop]
  have h2 : (cellsE (l.take p)).length = p * 2 := by rw [cellsE_length, List.length_take, Nat.min_eq_left hp]
  rw [h1, cellsE_append, List.take_left' h2, List.drop_left' h2]
  rfl
/-- What holds while an entry is put in. -/
structure SoS (W w0 : World) (eb g n cap p : Nat) (xs : List Value) (N : ByteArray) (V : Int) (L : Nat → Bool) (x : Nat → Value) (w : World) : Prop where
  bel : Below w0.heap.size w0 w
  box : Row w eb 53 #[.string N, .int .i64 V]
  gsz : g < W.heap.size ∧ eb < W.heap.size ∧ w0.heap.size ≤ W.heap.size ∧ g ≠ eb
  siz : W.heap.size ≤ w.heap.size
  z4 : L 4 = false → L 8 = false ∧ w = W
  z5 : L 4 = true → L 8 = false → w.ownsRow W.heap.size 53 2 (.slice (some ⟨W.heap.size, 0, none⟩) 1 1) 1 [.string N, .int .i64 V]
  z6 : L 8 = false → L 9 = false
  z7 : L 9 = false → w.ownsRow w0.heap.size 53 2 (.slice (some ⟨g, 0, none⟩) n cap) n xs
  z8 : L 8 = true → L 9 = false → L 4 = true ∧ ∃ g2 c2, x 8 = .slice (some ⟨g2, 0, none⟩) (1 + (n - p)) c2 ∧ w.ownsRow W.heap.size 53 2 (.slice (some ⟨g2, 0, none⟩) (1 + (n - p)) c2) (1 + (n - p)) ([.string N, .int .i64 V] ++ xs.drop (p * 2))
  z3 : L 7 = true → ∃ ad m' c', x 7 = .slice (some ad) m' c' ∧ m' = n - p ∧ (m' = 0 ∨ ad = ⟨g, p * 2, none⟩)
  z9 : L 9 = true → w.ownsRow w0.heap.size 53 2 (x 9) (p + (1 + (n - p))) (xs.take (p * 2) ++ ([.string N, .int .i64 V] ++ xs.drop (p * 2)))
theorem SoS.next {W w0 : World} {eb g n cap p : Nat} {xs : List Value} {N : ByteArray} {V : Int} {L : Nat → Bool} {x : Nat → Value} {w : World} (h : SoS W w0 eb g n cap p xs N V L x w) (i : Nat) (u : Value) (h4 : i ≠ 4) (h7 : i ≠ 7) (h8 : i ≠ 8) (h9 : i ≠ 9) : SoS W w0 eb g n cap p xs N V (setL L i) (updV x i u) w := by
  have e4 : setL L i 4 = L 4 := by simp [setL, Ne.symm h4]
  have e8 : setL L i 8 = L 8 := by simp [setL, Ne.symm h8]
  have e9 : setL L i 9 = L 9 := by simp [setL, Ne.symm h9]
  have e7 : setL L i 7 = L 7 := by simp [setL, Ne.symm h7]
  have x7 : updV x i u 7 = x 7 := by simp [updV, Ne.symm h7]
  have x8 : updV x i u 8 = x 8 := by simp [updV, Ne.symm h8]
  have x9 : updV x i u 9 = x 9 := by simp [updV, Ne.symm h9]
  exact ⟨h.bel, h.box, h.gsz, h.siz, by rw [e4, e8]; exact h.z4, by rw [e4, e8]; exact h.z5, by rw [e8, e9]; exact h.z6, by rw [e9]; exact h.z7, by rw [e8, e9, e4, x8]; exact h.z8, by rw [e7, x7]; exact h.z3, by rw [e9, x9]; exact h.z9⟩
theorem SoS.next7 {W w0 : World} {eb g n cap p : Nat} {xs : List Value} {N : ByteArray} {V : Int} {L : Nat → Bool} {x : Nat → Value} {w : World} (h : SoS W w0 eb g n cap p xs N V L x w) (u : Value) (hu : ∃ ad m' c', u = .slice (some ad) m' c' ∧ m' = n - p ∧ (m' = 0 ∨ ad = ⟨g, p * 2, none⟩)) : SoS W w0 eb g n cap p xs N V (setL L 7) (updV x 7 u) w := by
  have e4 : setL L 7 4 = L 4 := by simp [setL]
  have e8 : setL L 7 8 = L 8 := by simp [setL]
  have e9 : setL L 7 9 = L 9 := by simp [setL]
  have x7 : updV x 7 u 7 = u := by simp [updV]
  have x8 : updV x 7 u 8 = x 8 := by simp [updV]
  have x9 : updV x 7 u 9 = x 9 := by simp [updV]
  exact ⟨h.bel, h.box, h.gsz, h.siz, by rw [e4, e8]; exact h.z4, by rw [e4, e8]; exact h.z5, by rw [e8, e9]; exact h.z6, by rw [e9]; exact h.z7, by rw [e8, e9, e4, x8]; exact h.z8, fun _ => by rw [x7]; exact hu, by rw [e9, x9]; exact h.z9⟩
theorem cellsE_one (l : List Ent) : ∀ u ∈ cellsE l, u.oneCell' = true := by
  intro u hu
  obtain ⟨e, _, he⟩ := List.mem_flatMap.1 hu
  simp at he
  rcases he with rfl | rfl <;> rfl
theorem rowL_take (m f s j : Nat) (hj : j < m) : (rowL m f s).take j ++ [(f + j * s) % m] = (rowL m f s).take (j + 1) := by
  have h : j < (rowL m f s).length := by rw [rowL_len]; exact hj
  rw [List.take_succ_eq_append_getElem h]
  congr 2
  simp [rowL]
/-- The reference's walk. -/
def rwS (pl ns : List ByteArray) (st : Nat) : Nat → List ByteArray
  | 0 => []
  | j + 1 => if inS ns (pl.getD ((st + j) % pl.length) ⟨#[]⟩) && !(inS (rwS pl ns st j) (pl.getD ((st + j) % pl.length) ⟨#[]⟩)) then rwS pl ns st j ++ [pl.getD ((st + j) % pl.length) ⟨#[]⟩] else rwS pl ns st j
theorem rwS_le (pl ns : List ByteArray) (st : Nat) : ∀ j, (rwS pl ns st j).length ≤ j
  | 0 => Nat.le_refl _
  | j + 1 => by
    have := rwS_le pl ns st j
    unfold rwS
    split
    · rw [List.length_append, List.length_singleton]; omega
    · omega
theorem rwS_yes {pl ns : List ByteArray} {st j : Nat} {N : ByteArray} (hN : pl.getD ((st + j) % pl.length) ⟨#[]⟩ = N) (h1 : inS ns N = true) (h2 : inS (rwS pl ns st j) N = false) : rwS pl ns st (j + 1) = rwS pl ns st j ++ [N] := by
  rw [rwS, hN, h1, h2]; rfl
theorem rwS_no {pl ns : List ByteArray} {st j : Nat} {N : ByteArray} (hN : pl.getD ((st + j) % pl.length) ⟨#[]⟩ = N) (h1 : inS ns N = false ∨ inS (rwS pl ns st j) N = true) : rwS pl ns st (j + 1) = rwS pl ns st j := by
  rw [rwS, hN]
  rcases h1 with h | h
  · rw [h]; rfl
  · rw [h]; simp
theorem inS_take {l : List ByteArray} {q : Nat} (hq : q < l.length) (N : ByteArray) : inS (l.take (q + 1)) N = (inS (l.take q) N || decide (l[q] = N)) := by
  unfold inS
  rw [List.take_add_one, List.getElem?_eq_getElem hq, Option.toList_some, List.any_append]
  simp
end Go.Proofs.YtklfpnnnoaaiaabGreatDoor

/- stewardref18.Build: what its loops have in memory -/
namespace Go.Proofs.YtklfpnnnoaaiaabGreatDoor
open Go.RowKit

/-- So many cells of a block, none frozen. -/
def CellsAt (w : World) (b n : Nat) (f : Nat → Value) : Prop := b < w.heap.size ∧ ∀ i, i < n → w.cell? ⟨b, i, none⟩ = some (f i) ∧ w.frozen? ⟨b, i, none⟩ = false
theorem CellsAt.below {w w' : World} {b n : Nat} {f : Nat → Value} (h : CellsAt w b n f) (hb : Below w.heap.size w w') : CellsAt w' b n f := by
  obtain ⟨b1, b2⟩ := bcell hb
  exact ⟨Nat.lt_of_lt_of_le h.1 hb.size, fun i hi => by rw [b1 _ _ h.1, b2 _ _ h.1]; exact h.2 i hi⟩
theorem CellsAt.far {w : World} {b n b' o' : Nat} {f : Nat → Value} (h : CellsAt w b n f) (hne : b ≠ b') (v : Value) : CellsAt (w.setCell ⟨b', o', none⟩ v) b n f := by
  refine ⟨by simpa [World.setCell] using h.1, fun i hi => ?_⟩
  rw [other_cell (.inl hne), World.frozen?_setCell]
  exact h.2 i hi
theorem CellsAt.set {w : World} {b n i : Nat} {f : Nat → Value} (h : CellsAt w b n f) (hi : i < n) (v : Value) : CellsAt (w.setCell ⟨b, i, none⟩ v) b n (fun k => if k = i then v else f k) := by
  refine ⟨by simpa [World.setCell] using h.1, fun k hk => ?_⟩
  rw [World.frozen?_setCell]
  refine ⟨?_, (h.2 k hk).2⟩
  by_cases e : k = i
  · subst e
    rw [World.cell?_setCell_same _ _ _ (h.2 k hk).1]; simp
  · rw [other_cell (.inr e)]
    simp only [if_neg e]
    exact (h.2 k hk).1
theorem CellsAt.congr {w : World} {b n : Nat} {f g : Nat → Value} (h : CellsAt w b n f) (he : ∀ i, i < n → f i = g i) : CellsAt w b n g := ⟨h.1, fun i hi => by rw [← he i hi]; exact h.2 i hi⟩
/-- What the third loop has: places by oP, taken by oT. -/
structure R3 (P : Par) (ns : List ByteArray) (pb tb gn go gr : Nat) (rb rc : Nat → Nat) (oP oT : Nat → Int) (nx : Nat → Nat) (ow : Nat → Int) (w : World) : Prop where
  pl : CellsAt w pb P.m fun q => .string (atN ns P.m oP (q : Int))
  tk : CellsAt w tb P.m fun q => .bool (decide (oT q ≠ -1))
  nx : CellsAt w gn P.n fun i => .int .i64 (nx i : Nat)
  ow : CellsAt w go P.n fun i => .int .i64 (ow i)
  rows : CellsAt w gr P.n fun i => .slice (some ⟨rb i, 0, none⟩) P.m (rc i)
  inn : ∀ i, i < P.n → CellsAt w (rb i) P.m fun t => .int .i64 (P.pl i t : Nat)
  d1 : pb ≠ tb ∧ pb ≠ gn ∧ pb ≠ go ∧ pb ≠ gr ∧ tb ≠ gn ∧ tb ≠ go ∧ tb ≠ gr ∧ gn ≠ go ∧ gn ≠ gr ∧ go ≠ gr
  d2 : ∀ i, i < P.n → pb ≠ rb i ∧ tb ≠ rb i ∧ gn ≠ rb i ∧ go ≠ rb i
section
variable {P : Par} {ns : List ByteArray} {pb tb gn go gr : Nat} {rb rc : Nat → Nat} {oP oT : Nat → Int} {nx : Nat → Nat} {ow : Nat → Int} {w w' : World}
theorem R3.below (h : R3 P ns pb tb gn go gr rb rc oP oT nx ow w) (hb : Below w.heap.size w w') : R3 P ns pb tb gn go gr rb rc oP oT nx ow w' :=
  ⟨h.pl.below hb, h.tk.below hb, h.nx.below hb, h.ow.below hb, h.rows.below hb, fun i hi => (h.inn i hi).below hb, h.d1, h.d2⟩
theorem R3.setNext (h : R3 P ns pb tb gn go gr rb rc oP oT nx ow w) {i : Nat} (hi : i < P.n) (t : Nat) : R3 P ns pb tb gn go gr rb rc oP oT (setN nx i t) ow (w.setCell ⟨gn, i, none⟩ (.int .i64 (t : Nat))) := by
  obtain ⟨a1, a2, a3, a4, a5, a6, a7, a8, a9, a10⟩ := h.d1
  refine ⟨h.pl.far a2 _, h.tk.far a5 _, (h.nx.set hi _).congr fun k _ => ?_, h.ow.far (Ne.symm a8) _, h.rows.far (Ne.symm a9) _, fun k hk => (h.inn k hk).far (Ne.symm (h.d2 k hk).2.2.1) _, h.d1, h.d2⟩
  unfold setN
  by_cases e : k = i <;> simp [e]
theorem R3.setOwed (h : R3 P ns pb tb gn go gr rb rc oP oT nx ow w) {i : Nat} (hi : i < P.n) (v : Int) : R3 P ns pb tb gn go gr rb rc oP oT nx (setI ow i v) (w.setCell ⟨go, i, none⟩ (.int .i64 v)) := by
  obtain ⟨a1, a2, a3, a4, a5, a6, a7, a8, a9, a10⟩ := h.d1
  refine ⟨h.pl.far a3 _, h.tk.far a6 _, h.nx.far a8 _, (h.ow.set hi _).congr fun k _ => ?_, h.rows.far (Ne.symm a10) _, fun k hk => (h.inn k hk).far (Ne.symm (h.d2 k hk).2.2.2) _, h.d1, h.d2⟩
  unfold setI
  by_cases e : k = i <;> simp [e]
theorem R3.setTaken (h : R3 P ns pb tb gn go gr rb rc oP oT nx ow w) {q i : Nat} (hq : q < P.m) : R3 P ns pb tb gn go gr rb rc oP (setI oT q i) nx ow (w.setCell ⟨tb, q, none⟩ (.bool true)) := by
  obtain ⟨a1, a2, a3, a4, a5, a6, a7, a8, a9, a10⟩ := h.d1
  refine ⟨h.pl.far a1 _, (h.tk.set hq _).congr fun k _ => ?_, h.nx.far (Ne.symm a5) _, h.ow.far (Ne.symm a6) _, h.rows.far (Ne.symm a7) _, fun k hk => (h.inn k hk).far (Ne.symm (h.d2 k hk).2.1) _, h.d1, h.d2⟩
  unfold setI
  by_cases e : k = q
  · subst e
    simp only [if_pos]
    rw [decide_eq_true (by omega)]
  · simp [e]
theorem R3.setPlace (h : R3 P ns pb tb gn go gr rb rc oP oT nx ow w) {q i : Nat} (hq : q < P.m) (hi : i < ns.length) : R3 P ns pb tb gn go gr rb rc (setI oP q i) oT nx ow (w.setCell ⟨pb, q, none⟩ (.string ns[i])) := by
  obtain ⟨a1, a2, a3, a4, a5, a6, a7, a8, a9, a10⟩ := h.d1
  refine ⟨(h.pl.set hq _).congr fun k hk => ?_, h.tk.far (Ne.symm a1) _, h.nx.far (Ne.symm a2) _, h.ow.far (Ne.symm a3) _, h.rows.far (Ne.symm a4) _, fun k hk => (h.inn k hk).far (Ne.symm (h.d2 k hk).1) _, h.d1, h.d2⟩
  by_cases e : k = q
  · subst e
    simp only [if_pos]
    unfold atN setI
    rw [if_neg (by omega), Int.toNat_natCast, if_pos rfl, if_neg (by omega), Int.toNat_natCast, List.getElem?_eq_getElem hi, Option.getD_some]
  · simp only [if_neg e]
    unfold atN setI
    rw [Int.toNat_natCast, if_neg e]
end

theorem infoRow : (Tryz.prog.info? 30).map (fun i => (i.zero, i.size, i.bytes)) = some (some (.slice none 0 0), 1, 24) := by kernel_rfl
def zerosV (j : Nat) : List Value := List.replicate j (.int .i64 0)
theorem zerosV_snoc (j : Nat) : zerosV j ++ [.int .i64 0] = zerosV (j + 1) := by unfold zerosV; rw [List.replicate_succ']
/-- The rows in memory. -/
def rowsV (m : Nat) (rb rc : Nat → Nat) (j : Nat) : List Value := (List.range j).map fun i => .slice (some ⟨rb i, 0, none⟩) m (rc i)
theorem rowsV_congr {m : Nat} {rb rc rb' rc' : Nat → Nat} {j : Nat} (h : ∀ i, i < j → rb i = rb' i ∧ rc i = rc' i) : rowsV m rb rc j = rowsV m rb' rc' j :=
  List.map_congr_left fun i hi => by rw [(h i (List.mem_range.1 hi)).1, (h i (List.mem_range.1 hi)).2]
theorem rowsV_snoc (m : Nat) (rb rc : Nat → Nat) (j : Nat) : rowsV m rb rc (j + 1) = rowsV m rb rc j ++ [.slice (some ⟨rb j, 0, none⟩) m (rc j)] := by
  unfold rowsV; rw [List.range_succ, List.map_append]; rfl
/-- What the reference's Build has, when it has come to an entry. -/
structure RbS (W : World) (m : Nat) (F S : Nat → Nat) (jr jn jo gr gn go cr cn co : Nat) (rb rc : Nat → Nat) (w : World) : Prop where
  bel : Below W.heap.size W w
  rows : w.ownsRow W.heap.size 30 1 (.slice (some ⟨gr, 0, none⟩) jr cr) jr (rowsV m rb rc jr)
  inn : ∀ i, i < jr → w.ownsRow W.heap.size 3 1 (.slice (some ⟨rb i, 0, none⟩) m (rc i)) m (cellsN (rowL m (F i) (S i)))
  next : w.ownsRow W.heap.size 3 1 (.slice (some ⟨gn, 0, none⟩) jn cn) jn (zerosV jn)
  owed : w.ownsRow W.heap.size 3 1 (.slice (some ⟨go, 0, none⟩) jo co) jo (zerosV jo)
  dis : gn ≠ go ∧ ∀ i, i < jr → gn ≠ rb i ∧ go ≠ rb i
section
variable {W : World} {m : Nat} {F S : Nat → Nat} {jr jn jo gr gn go cr cn co : Nat} {rb rc : Nat → Nat} {w w' : World}
theorem RbS.below (h : RbS W m F S jr jn jo gr gn go cr cn co rb rc w) (hb : Below w.heap.size w w') : RbS W m F S jr jn jo gr gn go cr cn co rb rc w' :=
  ⟨h.bel.trans (hb.mono h.bel.size), ownB_keep (G := fun _ => False) h.rows (Keep.of_below hb) (fun _ _ h => h), fun i hi => ownB_keep (G := fun _ => False) (h.inn i hi) (Keep.of_below hb) (fun _ _ h => h), ownB_keep (G := fun _ => False) h.next (Keep.of_below hb) (fun _ _ h => h), ownB_keep (G := fun _ => False) h.owed (Keep.of_below hb) (fun _ _ h => h), h.dis⟩
theorem RbS.addRow (h : RbS W m F S jr jn jo gr gn go cr cn co rb rc w) {gr' cr' g c : Nat} (ho : w'.ownsRow W.heap.size 30 1 (.slice (some ⟨gr', 0, none⟩) (jr + 1) cr') (jr + 1) (rowsV m rb rc jr ++ [.slice (some ⟨g, 0, none⟩) m c])) (hg : w.grownBy w' (some gr)) (hi : w.ownsRow W.heap.size 3 1 (.slice (some ⟨g, 0, none⟩) m c) m (cellsN (rowL m (F jr) (S jr)))) (d1 : gn ≠ g) (d2 : go ≠ g) :
    RbS W m F S (jr + 1) jn jo gr' gn go cr' cn co (fun i => if i = jr then g else rb i) (fun i => if i = jr then c else rc i) w' := by
  have hk : Keep (fun y => y = gr) w w' := .grown hg (fun y e => by injection e with e; exact e.symm)
  have hne : ∀ {v : Value} {q : Nat} {xs : List Value}, w.ownsRow W.heap.size 3 1 v q xs → ∀ y, v.ownBlock = some y → ¬ y = gr := fun ho y hy e => by
    rcases own_two ho h.rows (by decide) with h1 | h1
    · rw [hy] at h1; cases h1
    · exact h1 (by rw [hy, e]; simp [Value.ownBlock])
  refine ⟨h.bel.grown hg h.bel.size (fun y e => by injection e with e; rw [← e]; exact (own_capM h.rows).2.1), ?_, fun i hlt => ?_, ownB_keep h.next hk (hne h.next), ownB_keep h.owed hk (hne h.owed), h.dis.1, fun i hlt => ?_⟩
  · rw [rowsV_snoc]
    simp only [if_pos]
    rw [rowsV_congr (rb' := rb) (rc' := rc) (fun i hi => ⟨by rw [if_neg (by omega)], by rw [if_neg (by omega)]⟩)]
    exact ho
  · by_cases e : i = jr
    · subst e
      simp only [if_pos]
      exact ownB_keep hi hk (hne hi)
    · simp only [if_neg e]
      have h2 := h.inn i (by omega)
      exact ownB_keep h2 hk (hne h2)
  · by_cases e : i = jr
    · subst e
      simp only [if_pos]
      exact ⟨d1, d2⟩
    · simp only [if_neg e]
      exact h.dis.2 i (by omega)
theorem RbS.addNext (h : RbS W m F S jr jn jo gr gn go cr cn co rb rc w) {g' c' : Nat} (ho : w'.ownsRow W.heap.size 3 1 (.slice (some ⟨g', 0, none⟩) (jn + 1) c') (jn + 1) (zerosV jn ++ [.int .i64 0])) (hg : w.grownBy w' (some gn)) (hf : some gn = some g' ∨ g' = w.heap.size) :
    RbS W m F S jr (jn + 1) jo gr g' go cr c' co rb rc w' := by
  have hk : Keep (fun y => y = gn) w w' := .grown hg (fun y e => by injection e with e; exact e.symm)
  have hgo := (own_capM h.owed).2.2
  refine ⟨h.bel.grown hg h.bel.size (fun y e => by injection e with e; rw [← e]; exact (own_capM h.next).2.1), ?_, fun i hlt => ?_, by rw [zerosV_snoc] at ho; exact ho, ?_, ?_, fun i hlt => ?_⟩
  · refine ownB_keep h.rows hk (fun y hy e => ?_)
    rcases own_two h.rows h.next (by decide) with h1 | h1
    · rw [hy] at h1; cases h1
    · exact h1 (by rw [hy, e]; simp [Value.ownBlock])
  · refine ownB_keep (h.inn i hlt) hk (fun y hy e => ?_)
    have hy : some (rb i) = some y := hy
    injection hy with hy
    have := (h.dis.2 i hlt).1; omega
  · refine ownB_keep h.owed hk (fun y hy e => ?_)
    have hy : some go = some y := hy
    injection hy with hy
    have := h.dis.1; omega
  · rcases hf with hf | hf
    · injection hf with hf; rw [← hf]; exact h.dis.1
    · omega
  · have h3 := (own_capM (h.inn i hlt)).2.2
    rcases hf with hf | hf
    · injection hf with hf; rw [← hf]; exact h.dis.2 i hlt
    · exact ⟨by omega, (h.dis.2 i hlt).2⟩
theorem RbS.addOwed (h : RbS W m F S jr jn jo gr gn go cr cn co rb rc w) {g' c' : Nat} (ho : w'.ownsRow W.heap.size 3 1 (.slice (some ⟨g', 0, none⟩) (jo + 1) c') (jo + 1) (zerosV jo ++ [.int .i64 0])) (hg : w.grownBy w' (some go)) (hf : some go = some g' ∨ g' = w.heap.size) :
    RbS W m F S jr jn (jo + 1) gr gn g' cr cn c' rb rc w' := by
  have hk : Keep (fun y => y = go) w w' := .grown hg (fun y e => by injection e with e; exact e.symm)
  have hgn := (own_capM h.next).2.2
  refine ⟨h.bel.grown hg h.bel.size (fun y e => by injection e with e; rw [← e]; exact (own_capM h.owed).2.1), ?_, fun i hlt => ?_, ?_, by rw [zerosV_snoc] at ho; exact ho, ?_, fun i hlt => ?_⟩
  · refine ownB_keep h.rows hk (fun y hy e => ?_)
    rcases own_two h.rows h.owed (by decide) with h1 | h1
    · rw [hy] at h1; cases h1
    · exact h1 (by rw [hy, e]; simp [Value.ownBlock])
  · refine ownB_keep (h.inn i hlt) hk (fun y hy e => ?_)
    have hy : some (rb i) = some y := hy
    injection hy with hy
    have := (h.dis.2 i hlt).2; omega
  · refine ownB_keep h.next hk (fun y hy e => ?_)
    have hy : some gn = some y := hy
    injection hy with hy
    have := h.dis.1; omega
  · rcases hf with hf | hf
    · injection hf with hf; rw [← hf]; exact h.dis.1
    · omega
  · have h3 := (own_capM (h.inn i hlt)).2.2
    rcases hf with hf | hf
    · injection hf with hf; rw [← hf]; exact h.dis.2 i hlt
    · exact ⟨(h.dis.2 i hlt).1, by omega⟩
end
theorem RbS.start (W : World) (m : Nat) (F S : Nat → Nat) : RbS W m F S 0 0 0 W.heap.size (W.heap.size + 1) (W.heap.size + 1 + 1) 0 0 0 (fun _ => 0) (fun _ => 0) (((W.alloc (.cells #[] 30)).alloc (.cells #[] 3)).alloc (.cells #[] 3)) := by
  have s1 : (W.alloc (.cells #[] 30)).heap.size = W.heap.size + 1 := by simp
  have s2 : ((W.alloc (.cells #[] 30)).alloc (.cells #[] 3)).heap.size = W.heap.size + 1 + 1 := by simp
  have o1 : (W.alloc (.cells #[] 30)).ownsRow W.heap.size 30 1 (.slice (some ⟨W.heap.size, 0, none⟩) 0 0) 0 [] := World.ownsRow_lit W #[] 0 (Nat.le_refl _) (by decide) (by simp)
  have o2 : ((W.alloc (.cells #[] 30)).alloc (.cells #[] 3)).ownsRow W.heap.size 3 1 (.slice (some ⟨W.heap.size + 1, 0, none⟩) 0 0) 0 [] := by
    have := World.ownsRow_lit (base := W.heap.size) (e := 3) (size := 1) (W.alloc (.cells #[] 30)) #[] 0 (by omega) (by decide) (by simp)
    rw [s1] at this
    exact this
  have o3 : (((W.alloc (.cells #[] 30)).alloc (.cells #[] 3)).alloc (.cells #[] 3)).ownsRow W.heap.size 3 1 (.slice (some ⟨W.heap.size + 1 + 1, 0, none⟩) 0 0) 0 [] := by
    have := World.ownsRow_lit (base := W.heap.size) (e := 3) (size := 1) ((W.alloc (.cells #[] 30)).alloc (.cells #[] 3)) #[] 0 (by omega) (by decide) (by simp)
    rw [s2] at this
    exact this
  have b1 := below_alloc W (.cells #[] 30)
  have b2 := b1.alloc b1.size (.cells #[] 3)
  exact ⟨b2.alloc b2.size _, (o1.alloc _).alloc _, fun i hi => by omega, o2.alloc _, o3, by omega, fun i hi => by omega⟩
theorem own_base {w : World} {b b' : Nat} {e : TypeId} {n m : Nat} {v : Value} {xs : List Value} (h : w.ownsRow b e n v m xs) (hb : b' ≤ b) : w.ownsRow b' e n v m xs := by
  obtain ⟨hl, h0 | ⟨g, cap, cur, rfl, hg, r⟩⟩ := h
  · exact ⟨hl, .inl h0⟩
  · exact ⟨hl, .inr ⟨g, cap, cur, rfl, Nat.le_trans hb hg, r⟩⟩
theorem cells_one (w : World) (v : Value) (T : TypeId) : ∀ (k : Nat) u, [v][k]? = some u → (w.alloc (.cells #[v] T)).cell? ((⟨w.heap.size, 0, none⟩ : Addr).add k) = some u := by
  intro k u hu
  rw [Addr.add_mid]
  match k, hu with
  | 0, hu => obtain rfl := Option.some.inj hu; simp
  | k + 1, hu => simp at hu
theorem cat_data (a b : ByteArray) : (a ++ b).data.toList = a.data.toList ++ b.data.toList := by
  rw [ByteArray.data_append, Array.toList_append]

theorem own_cellsAt {w : World} {base g n c : Nat} {e : TypeId} {xs : List Value} {f : Nat → Value} (h : w.ownsRow base e 1 (.slice (some ⟨g, 0, none⟩) n c) n xs) (hx : ∀ i, i < n → xs[i]? = some (f i)) : CellsAt w g n f := by
  obtain ⟨hl, ⟨hv, _⟩ | ⟨g', cap, cur, hv, hb, hg, hcap, hcm, hcs, htk⟩⟩ := h
  · injection hv with h1; cases h1
  · injection hv with h1 h2 h3
    obtain rfl : g = g' := by injection h1 with h1; injection h1
    have hR : Row w g e cur := hg
    refine ⟨hR.lt, fun i hi => ⟨?_, hR.free i⟩⟩
    rw [hR.cell i, ← hx i hi, ← htk, List.getElem?_take, if_pos (by omega), Array.getElem?_toList]
theorem CellsAt.keep {G : Nat → Prop} {w w' : World} {b n : Nat} {f : Nat → Value} (h : CellsAt w b n f) (hk : Keep G w w') (hg : ¬ G b) : CellsAt w' b n f := by
  have hbk := hk.block b h.1 hg
  refine ⟨Nat.lt_of_lt_of_le h.1 hk.size, fun i hi => ?_⟩
  have := h.2 i hi
  simp only [World.cell?, World.frozen?, hbk] at this ⊢
  exact this
theorem infoBo : (Tryz.prog.info? 4).map (fun i => (i.zero, i.size, i.bytes)) = some (some (.bool false), 1, 1) := by kernel_rfl
/-- The third loop begins. -/
theorem R3.start {ww w2 w w' : World} {k : Nat → UInt8} {all : List Ent} {m gr gn go pb tb cr cn co c : Nat} {rb rc : Nat → Nat} {ns : List ByteArray} {cs : Array Value}
    (hP : ww.ownsRow w'.heap.size 9 1 (.slice (some ⟨pb, 0, none⟩) m c) m (List.replicate m (.string ⟨#[]⟩))) (hB : Below ww.heap.size ww w2)
    (hR : RbS w2 m (parOf k all m).F (parOf k all m).S all.length all.length all.length gr gn go cr cn co rb rc w)
    (hT : CellsAt (w.alloc (.cells cs 4)) w.heap.size m (fun _ => .bool false)) (htb : tb = w.heap.size) :
    R3 (parOf k all m) ns pb tb gn go gr rb rc (fun _ => -1) (fun _ => -1) (fun _ => 0) (fun _ => 0) (w.alloc (.cells cs 4)) := by
  subst htb
  have hp := own_capM hP
  have hr := own_capM hR.rows
  have hn := own_capM hR.next
  have ho := own_capM hR.owed
  have hi := fun i (hi : i < all.length) => own_capM (hR.inn i hi)
  have hz := hB.size
  have b2 := below_alloc w (.cells cs 4)
  have e1 : gn ≠ gr := fun e => by
    rcases own_two hR.next hR.rows (by decide) with h1 | h1
    · cases h1
    · exact h1 (by rw [e]; rfl)
  have e2 : go ≠ gr := fun e => by
    rcases own_two hR.owed hR.rows (by decide) with h1 | h1
    · cases h1
    · exact h1 (by rw [e]; rfl)
  refine ⟨?_, hT.congr fun i _ => by simp, ?_, ?_, ?_, fun i hi' => ?_, ?_, fun i hi' => ?_⟩
  · have h1 : CellsAt ww pb m fun q => .string (atN ns m (fun _ => -1) (q : Int)) := own_cellsAt hP fun i hi => by
      rw [List.getElem?_replicate, if_pos hi]
      unfold atN
      rw [if_neg (by omega), if_pos rfl]
    exact ((h1.below hB).keep (G := fun _ => False) (Keep.of_below (by exact hR.bel)) (fun h => h)).below b2
  · refine (own_cellsAt hR.next fun i hi => ?_).below b2
    unfold zerosV; rw [List.getElem?_replicate, if_pos hi]; rfl
  · refine (own_cellsAt hR.owed fun i hi => ?_).below b2
    unfold zerosV; rw [List.getElem?_replicate, if_pos hi]
  · refine (own_cellsAt hR.rows fun i hi => ?_).below b2
    unfold rowsV; rw [List.getElem?_map, List.getElem?_range hi]; rfl
  · refine (own_cellsAt (hR.inn i hi') fun t ht => ?_).below b2
    rw [cellsN_at _ _ (by rw [rowL_len]; exact ht)]
    have := rowL_at (m := m) (f := (parOf k all m).F i) (s := (parOf k all m).S i) ht
    rw [List.getElem?_eq_getElem (by rw [rowL_len]; exact ht)] at this
    rw [Option.some.inj this]; rfl
  · refine ⟨by omega, by omega, by omega, by omega, by omega, by omega, by omega, hR.dis.1, e1, e2⟩
  · have := hi i hi'
    have := hR.dis.2 i hi'
    refine ⟨by omega, by omega, this.1, this.2⟩
theorem R3.drewN {P : Par} {ns : List ByteArray} {pb tb gn go gr : Nat} {rb rc : Nat → Nat} {oP oT : Nat → Int} {nx : Nat → Nat} {ow : Nat → Int} {w : World} (h : R3 P ns pb tb gn go gr rb rc oP oT nx ow w) (n : Nat) : R3 P ns pb tb gn go gr rb rc oP oT nx ow (w.drewN n) :=
  h.below ⟨rfl, rfl, rfl, Nat.le_refl _, fun _ _ => rfl⟩
theorem R3.drew {P : Par} {ns : List ByteArray} {pb tb gn go gr : Nat} {rb rc : Nat → Nat} {oP oT : Nat → Int} {nx : Nat → Nat} {ow : Nat → Int} {w : World} (h : R3 P ns pb tb gn go gr rb rc oP oT nx ow w) : R3 P ns pb tb gn go gr rb rc oP oT nx ow w.drew :=
  h.below ⟨rfl, rfl, rfl, Nat.le_refl _, fun _ _ => rfl⟩
/-- An entry that gets no place. -/
theorem stp_idle {P : Par} {r q : Nat} (hq : q < P.n) {st : St} (hst : st = P.run (r * P.n + q)) {ow : Nat → Int} (how : st.cnt < P.m → ow = st.ow) (hle : st.cnt ≤ P.m) (hc : ow q + P.W q < P.G ∨ st.cnt = P.m) :
    ∃ st', st' = P.run (r * P.n + (q + 1)) ∧ st'.cnt = st.cnt ∧ st'.own = st.own ∧ st'.nx = st.nx ∧ (st.cnt < P.m → setI ow q (ow q + P.W q) = st'.ow) := by
  have hn := Par.run_next P r hq
  rw [← hst] at hn
  refine ⟨_, hn.symm, ?_⟩
  unfold Par.stp
  by_cases e : st.cnt = P.m
  · rw [if_pos e]
    exact ⟨rfl, rfl, rfl, fun h => by omega⟩
  · have ho := how (by omega)
    subst ho
    rw [if_neg e, if_pos (by rcases hc with h | h; exact h; exact absurd h e)]
    exact ⟨rfl, rfl, rfl, fun _ => rfl⟩
/-- An entry that gets a place. -/
theorem stp_take {P : Par} {r q : Nat} (hq : q < P.n) {st : St} (hst : st = P.run (r * P.n + q)) {ow : Nat → Int} (how : st.cnt < P.m → ow = st.ow) (hle : st.cnt < P.m) (hc : ¬ ow q + P.W q < P.G) :
    ∃ st', st' = P.run (r * P.n + (q + 1)) ∧ st'.cnt = st.cnt + 1 ∧ st'.own = setI st.own (P.pl q (P.nxt q st)) q ∧ st'.nx = setN st.nx q (P.nxt q st) ∧ setI ow q (ow q + P.W q - P.G) = st'.ow := by
  have hn := Par.run_next P r hq
  rw [← hst] at hn
  refine ⟨_, hn.symm, ?_⟩
  have ho := how hle
  subst ho
  unfold Par.stp
  rw [if_neg (by omega), if_neg hc]
  exact ⟨rfl, rfl, rfl, rfl⟩
/-- What next holds, read off the world. -/
def nextOf (w : World) (gn i : Nat) : Nat := match w.cell? ⟨gn, i, none⟩ with
  | some (.int .i64 z) => z.toNat
  | _ => 0
theorem nextOf_is {w : World} {gn i t : Nat} (h : w.cell? ⟨gn, i, none⟩ = some (.int .i64 (t : Nat))) : nextOf w gn i = t := by
  unfold nextOf; rw [h]; simp
/-- The names at all places. -/
def placesL (es : List Ent) (m : Nat) (own : Nat → Int) : List ByteArray := (List.range m).map fun (q : Nat) => atN (es.map fun e => e.1) m own (q : Int)
theorem placesL_len (es : List Ent) (m : Nat) (own : Nat → Int) : (placesL es m own).length = m := by simp [placesL]
theorem placesL_none (m : Nat) : placesL [] m (fun _ => -1) = List.replicate m ⟨#[]⟩ := by
  refine List.ext_getElem (by simp [placesL]) fun i h1 h2 => ?_
  simp only [placesL, List.getElem_map, List.getElem_replicate, List.getElem_range]
  unfold atN
  have : i < m := by simpa [placesL] using h1
  rw [if_neg (by omega), if_pos rfl]
theorem placesL_at {w : World} {es : List Ent} {m pb cp : Nat} {own : Nat → Int} (hc : m ≤ cp) (h : CellsAt w pb m fun q => .string (atN (es.map fun e => e.1) m own (q : Int))) : IsStrs w (some ⟨pb, 0, none⟩) cp (placesL es m own) := by
  refine .inr ⟨pb, 0, rfl, h.1, by rw [placesL_len]; exact hc, fun j x hx => ?_⟩
  have hj : j < m := by
    rcases Nat.lt_or_ge j m with h1 | h1
    · exact h1
    · rw [List.getElem?_eq_none (by rw [placesL_len]; exact h1)] at hx; cases hx
  rw [Nat.zero_add, (h.2 j hj).1]
  unfold placesL at hx
  rw [List.getElem?_map, List.getElem?_range hj] at hx
  rw [← Option.some.inj hx]
end Go.Proofs.YtklfpnnnoaaiaabGreatDoor

/- A key whose bytes are taken as a string; a call of Build whose arguments are evaluated in any order. -/
namespace Go.Proofs.YtklfpnnnoaaiaabGreatDoor
open Go.RowKit

/-- A key's cells. -/
def keyCells (k : Nat → UInt8) : List Value := [.int .u8 ((k 0).toNat : Int), .int .u8 ((k 1).toNat : Int), .int .u8 ((k 2).toNat : Int), .int .u8 ((k 3).toNat : Int), .int .u8 ((k 4).toNat : Int), .int .u8 ((k 5).toNat : Int), .int .u8 ((k 6).toNat : Int), .int .u8 ((k 7).toNat : Int), .int .u8 ((k 8).toNat : Int), .int .u8 ((k 9).toNat : Int), .int .u8 ((k 10).toNat : Int), .int .u8 ((k 11).toNat : Int), .int .u8 ((k 12).toNat : Int), .int .u8 ((k 13).toNat : Int), .int .u8 ((k 14).toNat : Int), .int .u8 ((k 15).toNat : Int)]
/-- A key's bytes as a string. -/
def keyStr (k : Nat → UInt8) : ByteArray := ⟨(keyPart k 0 ++ keyPart k 8).toArray⟩
theorem keyStr_size (k : Nat → UInt8) : (16 : Int) ≤ (keyStr k).size := by simp [keyStr, keyPart, ByteArray.size]
theorem keyStr_a (k : Nat → UInt8) : (keyStr k).extract 0 8 = ⟨(keyPart k 0).toArray⟩ := by unfold keyStr; rw [extract_list]; rfl
theorem keyStr_b (k : Nat → UInt8) : (keyStr k).extract 8 16 = ⟨(keyPart k 8).toArray⟩ := by unfold keyStr; rw [extract_list]; rfl
theorem key_all {k : Nat → UInt8} {W : World} {b : Nat} (h : IsKey W b k) :
    (convert 51 9 (.slice (some ⟨b, 0, none⟩) 16 16)).run Tryz.prog W = .ok (.string (keyStr k)) W := by
  have := run_convert_bytes_arg (P := Tryz.prog) W 51 5 Tryz.underlying51 Tryz.underlying5 b 0 16 16 ((keyPart k 0 ++ keyPart k 8).map fun x => (x.toNat : Int)) (by simp [keyPart]) ?_ 9 Tryz.underlying9
  · rw [this]
    simp [strOfNums, keyPart, keyStr]
  · intro i hi
    have h1 := h i hi
    rw [Nat.zero_add, h1]
    have h16 : i = 0 ∨ i = 1 ∨ i = 2 ∨ i = 3 ∨ i = 4 ∨ i = 5 ∨ i = 6 ∨ i = 7 ∨ i = 8 ∨ i = 9 ∨ i = 10 ∨ i = 11 ∨ i = 12 ∨ i = 13 ∨ i = 14 ∨ i = 15 := by omega
    rcases h16 with rfl | rfl | rfl | rfl | rfl | rfl | rfl | rfl | rfl | rfl | rfl | rfl | rfl | rfl | rfl | rfl <;> rfl
/-- A key in a block of its own. -/
def KeyRow (w : World) (b : Nat) (k : Nat → UInt8) : Prop := Row w b 25 (keyCells k).toArray
theorem KeyRow.isKey {w : World} {b : Nat} {k : Nat → UInt8} (h : KeyRow w b k) : IsKey w b k := isKey_row h
theorem KeyRow.below {w w' : World} {b : Nat} {k : Nat → UInt8} (h : KeyRow w b k) (hb : Below w.heap.size w w') : KeyRow w' b k := Row.below h hb
theorem keyVal_cells (k : Nat → UInt8) : keyVal k = .agg (keyCells k).toArray := rfl
/-- What is there while a call of Build is evaluated: operation 2: the entries are the program's; b: Build's result; b + 1: moved; b + 2: its first part; b + 4: assigned. -/
structure KoS (W : World) (ys : List Ent) (b : Nat) (E : Int) (R : Value → World → Prop) (L : Nat → Bool) (x : Nat → Value) (w : World) : Prop where
  bel : Below W.heap.size W w
  own : L 2 = true → ∃ a c, x 2 = .slice a ys.length c ∧ IsEnts w a c ys
  tup : L b = true → ∃ p, x b = .tuple #[p, .int .i64 E] ∧ R p w
  mv : L (b + 1) = true → ∃ p, x (b + 1) = .tuple #[p, .int .i64 E] ∧ R p w
  ex : L (b + 2) = true → R (x (b + 2)) w
  asg : L (b + 4) = true → R (x (b + 4)) w
section
variable {W : World} {ys : List Ent} {b : Nat} {E : Int} {R : Value → World → Prop} {L : Nat → Bool} {x : Nat → Value} {w w' : World}
theorem KoS.start (W : World) (ys : List Ent) (b : Nat) (E : Int) (R : Value → World → Prop) (x : Nat → Value) : KoS W ys b E R (fun _ => false) x W.drew :=
  ⟨(Below.refl _ _).drew, (fun h => by cases h), (fun h => by cases h), (fun h => by cases h), (fun h => by cases h), (fun h => by cases h)⟩
theorem KoS.move (h : KoS W ys b E R L x w) (hR : ∀ p w w', R p w → Below w.heap.size w w' → R p w') (hb : Below w.heap.size w w') : KoS W ys b E R L x w' :=
  ⟨h.bel.trans (hb.mono h.bel.size), fun e => by obtain ⟨a, c, h1, h2⟩ := h.own e; exact ⟨a, c, h1, h2.below hb⟩, fun e => by obtain ⟨p, h1, h2⟩ := h.tup e; exact ⟨p, h1, hR _ _ _ h2 hb⟩,
   fun e => by obtain ⟨p, h1, h2⟩ := h.mv e; exact ⟨p, h1, hR _ _ _ h2 hb⟩, fun e => hR _ _ _ (h.ex e) hb, fun e => hR _ _ _ (h.asg e) hb⟩
theorem KoS.at_ (h : KoS W ys b E R L x w) (i : Nat) (u : Value) (h2 : i = 2 → ∃ a c, u = .slice a ys.length c ∧ IsEnts w a c ys) (h3 : i = b → ∃ p, u = .tuple #[p, .int .i64 E] ∧ R p w)
    (h4 : i = b + 1 → ∃ p, u = .tuple #[p, .int .i64 E] ∧ R p w) (h5 : i = b + 2 → R u w) (h6 : i = b + 4 → R u w) : KoS W ys b E R (setL L i) (updV x i u) w := by
  have hs : ∀ j, j ≠ i → setL L i j = true → L j = true := fun j hj e => by simpa [setL, hj] using e
  have hu : ∀ j, j ≠ i → updV x i u j = x j := fun j hj => by simp [updV, hj]
  have hi : updV x i u i = u := by simp [updV]
  refine ⟨h.bel, fun e => ?_, fun e => ?_, fun e => ?_, fun e => ?_, fun e => ?_⟩
  · by_cases q : 2 = i
    · subst q; rw [hi]; exact h2 rfl
    · rw [hu _ q]; exact h.own (hs _ q e)
  · by_cases q : b = i
    · subst q; rw [hi]; exact h3 rfl
    · rw [hu _ q]; exact h.tup (hs _ q e)
  · by_cases q : b + 1 = i
    · subst q; rw [hi]; exact h4 rfl
    · rw [hu _ q]; exact h.mv (hs _ q e)
  · by_cases q : b + 2 = i
    · subst q; rw [hi]; exact h5 rfl
    · rw [hu _ q]; exact h.ex (hs _ q e)
  · by_cases q : b + 4 = i
    · subst q; rw [hi]; exact h6 rfl
    · rw [hu _ q]; exact h.asg (hs _ q e)
theorem KoS.next (h : KoS W ys b E R L x w) (i : Nat) (u : Value) (h2 : i ≠ 2) (h3 : i ≠ b) (h4 : i ≠ b + 1) (h5 : i ≠ b + 2) (h6 : i ≠ b + 4) : KoS W ys b E R (setL L i) (updV x i u) w :=
  h.at_ i u (fun e => absurd e h2) (fun e => absurd e h3) (fun e => absurd e h4) (fun e => absurd e h5) (fun e => absurd e h6)
theorem KoS.put (h : KoS W ys b E R L x w) (hR : ∀ p w w', R p w → Below w.heap.size w w' → R p w') (hb2 : 2 < b) {a : Option Addr} {c : Nat} (he : IsEnts w' a c ys) (hb : Below w.heap.size w w') : KoS W ys b E R (setL L 2) (updV x 2 (.slice a ys.length c)) w' :=
  (h.move hR hb).at_ 2 _ (fun _ => ⟨a, c, rfl, he⟩) (fun e => by omega) (fun e => by omega) (fun e => by omega) (fun e => by omega)
theorem KoS.built (h : KoS W ys b E R L x w) (hR : ∀ p w w', R p w → Below w.heap.size w w' → R p w') (hb2 : 2 < b) {p : Value} (hp : R p w') (hb : Below w.heap.size w w') : KoS W ys b E R (setL L b) (updV x b (.tuple #[p, .int .i64 E])) w' :=
  (h.move hR hb).at_ b _ (fun e => by omega) (fun _ => ⟨p, rfl, hp⟩) (fun e => by omega) (fun e => by omega) (fun e => by omega)
theorem KoS.moved (h : KoS W ys b E R L x w) (hb2 : 2 < b) {p : Value} (hp : R p w) : KoS W ys b E R (setL L (b + 1)) (updV x (b + 1) (.tuple #[p, .int .i64 E])) w :=
  h.at_ (b + 1) _ (fun e => by omega) (fun e => by omega) (fun _ => ⟨p, rfl, hp⟩) (fun e => by omega) (fun e => by omega)
theorem KoS.first (h : KoS W ys b E R L x w) (hb2 : 2 < b) {p : Value} (hp : R p w) : KoS W ys b E R (setL L (b + 2)) (updV x (b + 2) p) w :=
  h.at_ (b + 2) _ (fun e => by omega) (fun e => by omega) (fun e => by omega) (fun _ => hp) (fun e => by omega)
theorem KoS.assign (h : KoS W ys b E R L x w) (hb2 : 2 < b) {p : Value} (hp : R p w) : KoS W ys b E R (setL L (b + 4)) (updV x (b + 4) p) w :=
  h.at_ (b + 4) _ (fun e => by omega) (fun e => by omega) (fun e => by omega) (fun e => by omega) (fun _ => hp)
end
/-- A table was built. -/
def TabR (k : Nat → UInt8) (ys : List Ent) (n : Nat) (p : Value) (w : World) : Prop :=
  ∃ tb own, p = .pointer (some ⟨tb, 0, none⟩) ∧ Assigned k (srtE ys) n own ∧ TableAt w tb ((srtE ys).map (·.1)) n own
theorem TabR.below {k : Nat → UInt8} {ys : List Ent} {n : Nat} (p : Value) (w w' : World) (h : TabR k ys n p w) (hb : Below w.heap.size w w') : TabR k ys n p w' := by
  obtain ⟨tb, own, h1, h2, h3⟩ := h
  exact ⟨tb, own, h1, h2, h3.below hb⟩
/-- No table. -/
def NilR (p : Value) (_ : World) : Prop := p = .pointer none
theorem NilR.below (p : Value) (w w' : World) (h : NilR p w) (_ : Below w.heap.size w w') : NilR p w' := h
theorem chkB_yes {ys : List Ent} {m : Int} (h : chkB ys m = true) : 2 ≤ m ∧ m ≤ 1048576 ∧ primeB m.toNat = true ∧ 100 * (ys.length : Int) ≤ m ∧ validB ys = true := by
  unfold chkB at h
  rw [Bool.and_eq_true, Bool.and_eq_true, decide_eq_true_eq] at h
  obtain ⟨⟨h1, h2⟩, h3⟩ := h
  have hp := h1
  unfold isP at hp
  rw [Bool.and_eq_true, Bool.and_eq_true, decide_eq_true_eq, decide_eq_true_eq] at hp
  exact ⟨hp.1.1, hp.1.2, hp.2, h2, h3⟩
theorem valid_parts {ys : List Ent} (h : validB ys = true) : (∀ e ∈ ys, okW e = true) ∧ Apart ys := by
  unfold validB at h
  rw [Bool.and_eq_true] at h
  exact ⟨fun e he => (List.all_eq_true.1 h.1) e he, by simpa using h.2⟩
/-- Build of valid entries. -/
theorem build8_tab (k : Nat → UInt8) (ys : List Ent) (hl : ys.length ≤ 6) (hz : ∀ e ∈ ys, e.1.size ≤ 1000) (n : Nat) (hm : n ≤ 1048576) (hp : primeB n = true) (h100 : 100 * ys.length ≤ n) (hv : validB ys = true) (a : Option Addr) (c : Nat) (w : World) (hI : Ini w) (hf : IsEnts w a c ys) :
    Calls Tryz.prog 10 #[keyVal k, .slice a ys.length c, .int .i64 (n : Int)] w fun e w' => ∃ p, e = .returned (.tuple #[p, .int .i64 0]) ∧ TabR k ys n p w' ∧ Below w.heap.size w w' := by
  refine (build8 k ys hl hz n hm hp h100 hv a c w hI hf).mono ?_
  rintro e w' ⟨tb, own, es', rfl, hpm, hso, ha, ht, hb⟩
  obtain rfl : es' = srtE ys := sorted_uniq (hpm.trans (srtE_spec ys).1.symm) hso (srtE_spec ys).2 ((apart_perm hpm).2 (valid_parts hv).2)
  exact ⟨_, rfl, ⟨tb, own, rfl, ha, ht⟩, hb⟩
end Go.Proofs.YtklfpnnnoaaiaabGreatDoor

/- maglev: the two walks are one. -/
namespace Go.Proofs.YtklfpnnnoaaiaabGreatDoor
open Go.RowKit Go.Maps

theorem inS_iff {l : List ByteArray} {y : ByteArray} : inS l y = true ↔ y ∈ l := by
  unfold inS
  rw [List.any_eq_true]
  constructor
  · rintro ⟨x, hx, h⟩; rw [← of_decide_eq_true h]; exact hx
  · intro h; exact ⟨y, h, decide_eq_true rfl⟩
theorem nodup_lenB : ∀ {l l' : List ByteArray}, l.Nodup → (∀ x ∈ l, x ∈ l') → l.length ≤ l'.length
  | [], _, _, _ => Nat.zero_le _
  | a :: l, l', h, hs => by
    have hn := List.nodup_cons.1 h
    obtain ⟨s, t, rfl⟩ := List.append_of_mem (hs a (List.mem_cons_self ..))
    have ih := nodup_lenB (l := l) (l' := s ++ t) hn.2 (fun x hx => by
      have hxa : x ≠ a := fun e => hn.1 (by rw [← e]; exact hx)
      have := hs x (List.mem_cons_of_mem _ hx)
      simp only [List.mem_append, List.mem_cons] at this ⊢
      rcases this with h1 | h1 | h1
      · exact .inl h1
      · exact absurd h1 hxa
      · exact .inr h1)
    simp only [List.length_append, List.length_cons] at ih ⊢
    omega
theorem nodup_all {l ns : List ByteArray} (h : l.Nodup) (hs : ∀ x ∈ l, x ∈ ns) (hl : l.length = ns.length) {y : ByteArray} (hy : y ∈ ns) : y ∈ l := by
  by_cases e : y ∈ l
  · exact e
  · have := nodup_lenB (l := y :: l) (l' := ns) (List.nodup_cons.2 ⟨e, h⟩) (fun x hx => by
      rcases List.mem_cons.1 hx with rfl | hx
      · exact hy
      · exact hs x hx)
    simp only [List.length_cons] at this
    omega
theorem walk_same {pl ns : List ByteArray} {m : Nat} {own : Nat → Int} (st : Nat) (hm : 0 < m) (hpl : pl.length = m) (hat : ∀ q, q < m → pl.getD q ⟨#[]⟩ = atN ns m own (q : Int)) (hin : ns = [] ∨ ∀ q, q < m → atN ns m own (q : Int) ∈ ns) :
    ∀ j, rwS pl ns st j = wkS ns m own st j ∧ (wkS ns m own st j).Nodup ∧ ∀ y ∈ wkS ns m own st j, y ∈ ns
  | 0 => ⟨rfl, List.nodup_nil, fun y hy => by cases hy⟩
  | j + 1 => by
    obtain ⟨h1, h2, h3⟩ := walk_same st hm hpl hat hin j
    have hq : (st + j) % m < m := Nat.mod_lt _ hm
    have hN := hat _ hq
    rw [← hpl] at hN
    by_cases hl : (wkS ns m own st j).length = ns.length
    · rw [wkS_keep hl]
      refine ⟨?_, h2, h3⟩
      rw [rwS_no hN, h1]
      rw [h1, hpl]
      rcases hin with h | h
      · exact .inl (by rw [h]; rfl)
      · exact .inr (inS_iff.2 (nodup_all h2 h3 hl (h _ hq)))
    · have hn : atN ns m own (((st + j) % m : Nat) : Int) ∈ ns := by
        rcases hin with h | h
        · exfalso
          have := wkS_le (ns := ns) (m := m) (own := own) (st := st) j
          rw [h] at hl this
          simp only [List.length_nil] at hl this
          omega
        · exact h _ hq
      cases hi : inS (wkS ns m own st j) (atN ns m own (((st + j) % m : Nat) : Int)) with
      | true =>
        rw [wkS_old hl hi, rwS_no hN (.inr (by rw [h1, hpl]; exact hi)), h1]
        exact ⟨rfl, h2, h3⟩
      | false =>
        have hno : atN ns m own (((st + j) % m : Nat) : Int) ∉ wkS ns m own st j := fun h => by rw [inS_iff.2 h] at hi; cases hi
        rw [wkS_new hl hi, rwS_yes hN (by rw [hpl]; exact inS_iff.2 hn) (by rw [h1, hpl]; exact hi), h1, hpl]
        refine ⟨rfl, List.nodup_append.2 ⟨h2, by simp, fun x hx y hy e => ?_⟩, fun y hy => ?_⟩
        · rw [List.mem_singleton] at hy
          exact hno (by rw [← hy, ← e]; exact hx)
        · rcases List.mem_append.1 hy with hy | hy
          · exact h3 y hy
          · rw [List.mem_singleton] at hy; rw [hy]; exact hn
/-- A table whose places are all given, or that has no names. -/
structure Full (ns : List ByteArray) (m : Nat) (own : Nat → Int) : Prop where
  nd : ns.Nodup
  full : ns ≠ [] → ∀ q, q < m → 0 ≤ own q ∧ own q < ns.length
theorem Assigned.fullT {k : Nat → UInt8} {es : List Ent} {m : Nat} {own : Nat → Int} (h : Assigned k es m own) (hp : primeB m = true) (hv : ∀ e ∈ es, okW e = true) (ha : Apart es) : Full (es.map (·.1)) m own := by
  refine ⟨?_, fun hne q hq => ?_⟩
  · unfold List.Nodup
    rw [List.pairwise_map]
    exact ha
  · rw [List.length_map]
    exact h.full (fun e => hne (by rw [e]; rfl)) hp hv q hq
theorem Full.at_ {ns : List ByteArray} {m : Nat} {own : Nat → Int} (h : Full ns m own) (hne : ns ≠ []) {q : Nat} (hq : q < m) : ∃ i, ∃ hi : i < ns.length, own q = (i : Int) ∧ atN ns m own (q : Int) = ns[i] := by
  obtain ⟨h1, h2⟩ := h.full hne q hq
  refine ⟨(own q).toNat, by omega, by omega, ?_⟩
  unfold atN
  rw [if_neg (by omega), Int.toNat_natCast, if_neg (by omega), List.getElem?_eq_getElem (by omega), Option.getD_some]
theorem Full.mem {ns : List ByteArray} {m : Nat} {own : Nat → Int} (h : Full ns m own) : ns = [] ∨ ∀ q, q < m → atN ns m own (q : Int) ∈ ns := by
  by_cases hne : ns = []
  · exact .inl hne
  · refine .inr fun q hq => ?_
    obtain ⟨i, hi, _, h2⟩ := h.at_ hne hq
    rw [h2]; exact List.getElem_mem hi
theorem Full.eq {ns : List ByteArray} {m : Nat} {own : Nat → Int} (h : Full ns m own) {q i : Nat} (hq : q < m) (hi : i < ns.length) : decide (atN ns m own (q : Int) = ns[i]) = decide (own q = (i : Int)) := by
  obtain ⟨j, hj, h1, h2⟩ := h.at_ (fun e => by rw [e] at hi; simp at hi) hq
  rw [h2, h1]
  by_cases e : j = i
  · subst e; simp
  · have hne2 : ns[j] ≠ ns[i] := fun h3 => by
      have hnd := h.nd
      rw [List.Nodup, List.pairwise_iff_getElem] at hnd
      rcases Nat.lt_or_ge i j with h4 | h4
      · exact hnd i j hi hj h4 h3.symm
      · exact hnd j i hj hi (by omega) h3
    rw [decide_eq_false hne2, decide_eq_false (by omega)]
end Go.Proofs.YtklfpnnnoaaiaabGreatDoor

