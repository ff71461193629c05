/- cmp.Compare and cmp.Or at ints. -/
import Derived.Test.YtcdgmhglpcokdaaKeepN
namespace Go.Proofs.Ytcdgmhglpcokdaa
open Go.RowKit

/-- How two whole numbers compare. -/
def cmpI (a b : Int) : Int := if a < b then -1 else if b < a then 1 else 0
theorem cmpI_lt {a b : Int} (h : a < b) : cmpI a b = -1 := by unfold cmpI; rw [if_pos h]
theorem cmpI_gt {a b : Int} (h : b < a) : cmpI a b = 1 := by unfold cmpI; rw [if_neg (by omega), if_pos h]
theorem cmpI_eq (a : Int) : cmpI a a = 0 := by unfold cmpI; rw [if_neg (by omega), if_neg (by omega)]
theorem isNan64 (a : Int) (w : World) : Calls Try.prog 87 #[.int .i64 a] w fun e w' => e = .returned (.bool false) ∧ w' = w := by
  have h : (a != a) = false := by simp
  go_enter Try.func87, Try.ntmps87
  go_wp2_with fail
  go_ret
  exact ⟨rfl, rfl⟩
theorem cmp60 (a b : Int) (w : World) : Calls Try.prog 86 #[.int .i64 a, .int .i64 b] w fun e w' => e = .returned (.int .i64 (cmpI a b)) ∧ w' = w := by
  rcases Int.lt_trichotomy a b with h | h | h
  · rw [cmpI_lt h]
    go_enter Try.func86, Try.ntmps86
    go_wp2_with (go_at_call 87; refine (isNan64 _ _).mono ?_; rintro e w' ⟨rfl, hw⟩; subst w')
    go_ret
    exact ⟨rfl, rfl⟩
  · subst h
    have h : ¬ a < a := by omega
    rw [cmpI_eq]
    go_enter Try.func86, Try.ntmps86
    go_wp2_with (go_at_call 87; refine (isNan64 _ _).mono ?_; rintro e w' ⟨rfl, hw⟩; subst w')
    go_ret
    exact ⟨rfl, rfl⟩
  · have h2 : ¬ a < b := by omega
    rw [cmpI_gt h]
    go_enter Try.func86, Try.ntmps86
    go_wp2_with (go_at_call 87; refine (isNan64 _ _).mono ?_; rintro e w' ⟨rfl, hw⟩; subst w')
    go_ret
    exact ⟨rfl, rfl⟩
/-- The first that is not 0. -/
def orI (x y : Int) : Int := if x = 0 then y else x
theorem or59 (b : Nat) (T : TypeId) (x y : Int) (w : World) (hr : Row w b T #[.int .i64 x, .int .i64 y]) :
    Calls Try.prog 85 #[.slice (some ⟨b, 0, none⟩) 2 2] w fun e w' => e = .returned (.int .i64 (orI x y)) ∧ w' = w := by
  have c0 : w.cell? ⟨b, 0, none⟩ = some (.int .i64 x) := by rw [hr.cell]; rfl
  have c1 : w.cell? ⟨b, 1, none⟩ = some (.int .i64 y) := by rw [hr.cell]; rfl
  clear hr
  by_cases hx : x = 0
  · rw [show orI x y = y from if_pos hx]
    subst hx
    by_cases hy : y = 0
    · subst hy
      go_enter Try.func85, Try.ntmps85
      go_wp2_with fail
      go_loopw [5, 8] (fun _ i wr => wr = w ∧ (i = .int .i64 0 ∨ i = .int .i64 1 ∨ i = .int .i64 2)) (fun _ i _ => 2 - (intOf i).toNat)
      case atStart => exact ⟨rfl, .inl rfl⟩
      case round =>
        obtain ⟨rfl, rfl | rfl | rfl⟩ := hrel
        · go_wp2_with fail
          go_roundw
          case rel => exact ⟨by trivial, .inr (.inl rfl)⟩
          case measure => simp [intOf]
        · go_wp2_with fail
          go_roundw
          case rel => exact ⟨by trivial, .inr (.inr rfl)⟩
          case measure => simp [intOf]
        · go_wp2_with fail
          go_ret
          exact ⟨rfl, rfl⟩
    · have h1 : (y != 0) = true := by simpa using hy
      go_enter Try.func85, Try.ntmps85
      go_wp2_with fail
      go_loopw [5, 8] (fun _ i wr => wr = w ∧ (i = .int .i64 0 ∨ i = .int .i64 1)) (fun _ i _ => 2 - (intOf i).toNat)
      case atStart => exact ⟨rfl, .inl rfl⟩
      case round =>
        obtain ⟨rfl, rfl | rfl⟩ := hrel
        · go_wp2_with fail
          go_roundw
          case rel => exact ⟨by trivial, .inr rfl⟩
          case measure => simp [intOf]
        · go_wp2_with fail
          go_ret
          exact ⟨rfl, rfl⟩
  · rw [show orI x y = x from if_neg hx]
    have h1 : (x != 0) = true := by simpa using hx
    go_enter Try.func85, Try.ntmps85
    go_wp2_with fail
    go_loopw [5, 8] (fun _ i wr => wr = w ∧ i = .int .i64 0) (fun _ i _ => 0)
    case atStart => exact ⟨rfl, rfl⟩
    case round =>
      obtain ⟨rfl, rfl⟩ := hrel
      go_wp2_with fail
      go_ret
      exact ⟨rfl, rfl⟩
end Go.Proofs.Ytcdgmhglpcokdaa
