/- cmp.Compare at strings; slices.SortFunc, slices.SortedFunc at maglev's entries; maglev.sorted. -/
import Derived.Test.YtlcpkplipfcdaaaDoorMgB
import Derived.Shelf.SlSortCmp.SmallK
import Derived.Shelf.Small.Bits
import Derived.Shelf.Lay
import Derived.Ground.SlsfProg
import Derived.Ground.NamesProg
import Derived.Sort.Walk0
import Derived.Laws.Cover1
namespace Go.Proofs.YtlcpkplipfcdaaaDoor
open Go.RowKit Go.Shelf Go.Lib Go.Sort

shelf_lay_g SlLaysF0.n6 Slsf 6 at Tryd 79 as Tryd.sortEnt

/-- The bytes of a name. -/
def nmB (s : ByteArray) : List UInt8 := s.data.toList
theorem nmB_inj {a b : ByteArray} (h : nmB a = nmB b) : a = b := by
  cases a with | mk a => cases b with | mk b =>
    have : a.toList = b.toList := h
    rw [Array.toList_inj.1 this]
/-- The order of names. -/
def cmpS (a b : ByteArray) : Int := if nmB a < nmB b then -1 else if nmB b < nmB a then 1 else 0
theorem less_eq (a b : ByteArray) : Op.bytesLess a.toList b.toList = decide (nmB a < nmB b) := by
  rw [bytesLess_eq, Lib.toList_data, Lib.toList_data]; rfl
theorem same_eq (a b : ByteArray) : (a.toList == b.toList) = decide (nmB a = nmB b) := by
  rw [Lib.toList_data, Lib.toList_data]
  by_cases h : nmB a = nmB b
  · rw [decide_eq_true h]; exact beq_iff_eq.2 h
  · rw [decide_eq_false h]; exact beq_eq_false_iff_ne.2 h
theorem lt_asymmS {a b : List UInt8} (h : a < b) : ¬ b < a := fun h2 => List.lt_irrefl a (List.lt_trans h h2)
theorem isnan49 (s : ByteArray) (w : World) : Calls Tryd.prog 81 #[.string s] w fun e w' => e = .returned (.bool false) ∧ w' = w := by
  have he : (s.toList == s.toList) = true := by simp
  go_enter Tryd.func81, Tryd.ntmps81
  go_wp2_with fail
  go_ret
  exact ⟨rfl, rfl⟩
theorem compare37 (a b : ByteArray) (w : World) : Calls Tryd.prog 60 #[.string a, .string b] w fun e w' => e = .returned (.int .i64 (cmpS a b)) ∧ w' = w := by
  have h1 := less_eq a b
  have h2 := same_eq a b
  by_cases hlt : nmB a < nmB b
  · have hc : cmpS a b = -1 := if_pos hlt
    rw [decide_eq_true hlt] at h1
    rw [hc]
    go_enter Tryd.func60, Tryd.ntmps60
    go_wp2_with (go_at_call 81; refine (isnan49 _ _).mono ?_; rintro e w' ⟨rfl, rfl⟩)
    go_ret
    exact ⟨rfl, rfl⟩
  · rw [decide_eq_false hlt] at h1
    by_cases hgt : nmB b < nmB a
    · have hc : cmpS a b = 1 := by unfold cmpS; rw [if_neg hlt, if_pos hgt]
      have hne : ¬ nmB a = nmB b := fun h => by rw [h] at hgt; exact List.lt_irrefl _ hgt
      rw [decide_eq_false hne] at h2
      rw [hc]
      go_enter Tryd.func60, Tryd.ntmps60
      go_wp2_with (go_at_call 81; refine (isnan49 _ _).mono ?_; rintro e w' ⟨rfl, rfl⟩)
      go_ret
      exact ⟨rfl, rfl⟩
    · have hc : cmpS a b = 0 := by unfold cmpS; rw [if_neg hlt, if_neg hgt]
      have hne : nmB a = nmB b := List.le_antisymm (List.not_lt.1 hgt) (List.not_lt.1 hlt)
      rw [decide_eq_true hne] at h2
      rw [hc]
      go_enter Tryd.func60, Tryd.ntmps60
      go_wp2_with (go_at_call 81; refine (isnan49 _ _).mono ?_; rintro e w' ⟨rfl, rfl⟩)
      go_ret
      exact ⟨rfl, rfl⟩
/-- The closure that maglev.sorted gives: two blocks are laid. -/
theorem closureS (x y : Ent) (W : World) : Calls Tryd.prog 59 #[.agg #[.string x.1, .int .i64 x.2], .agg #[.string y.1, .int .i64 y.2]] W fun e w' => e = .returned (.int .i64 (cmpS x.1 y.1)) ∧ ∃ q os', w' = grow (W.drewN q) os' := by
  have hcon := fun W' => compare37 x.1 y.1 W'
  generalize cmpS x.1 y.1 = r at hcon ⊢
  go_enter Tryd.func59, Tryd.ntmps59
  go_wp2_with (go_at_call 60; refine (hcon _).mono ?_; rintro e w' ⟨rfl, rfl⟩)
  go_ret
  exact ⟨rfl, 0, _, by rw [alloc_eq_grow, alloc_eq_grow, grow_grow]; rfl⟩
def encE (x : Ent) : List Value := [.string x.1, .int .i64 x.2]
theorem cmpLaysS (blk off size : Nat) (w : World) : CmpLays Tryd.prog 59 #[] encE 2 (fun x y => cmpS x.1 y.1) blk off size w :=
  fun _ _ _ _ x y => closureS x y _
theorem ltS (x y : Ent) : ltOf (fun x y : Ent => cmpS x.1 y.1) x y = decide (nmB x.1 < nmB y.1) := by
  unfold ltOf cmpS
  by_cases h1 : nmB x.1 < nmB y.1
  · simp [h1]
  · by_cases h2 : nmB y.1 < nmB x.1 <;> simp [h1, h2]
theorem swoS : SWO (ltOf fun x y : Ent => cmpS x.1 y.1) where
  irrefl x := by rw [ltS]; simp [List.lt_irrefl]
  trans x y z h1 h2 := by rw [ltS] at *; simp only [decide_eq_true_eq] at *; exact List.lt_trans h1 h2
  ntrans x y z h1 h2 := by
    rw [ltS] at *; simp only [decide_eq_false_iff_not] at *
    exact List.not_lt.2 (List.le_trans (List.not_lt.1 h2) (List.not_lt.1 h1))
end Go.Proofs.YtlcpkplipfcdaaaDoor
