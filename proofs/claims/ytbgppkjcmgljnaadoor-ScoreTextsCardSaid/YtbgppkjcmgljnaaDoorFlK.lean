/- Floats: awake. -/
import Derived.Test.YtbgppkjcmgljnaaDoorFlJ
namespace Go.Proofs.YtbgppkjcmgljnaaDoor
open Go.RowKit

def awF (j : Nat) : Nat := [9221120237041090561, 4613937818241073152, 9223372036854775808, 0].getD j 0
theorem load_awake (w : World) : Calls Tryd.prog 23 #[.int .i64 1, .int .i64 0, .float .f64 4617315517961601024] w fun e w' => e = .returned (.float .f64 9218868437227405312) ∧ w' = w := by
  have hi := inf1
  go_enter Tryd.func23, Tryd.ntmps23
  go_wp2_with (go_at_call 35; with_reducible refine (hi _).mono ?_; rintro e w' ⟨rfl, rfl⟩)
  go_ret
  exact ⟨rfl, rfl⟩
def W0 (w : World) : World := w.alloc (.cells #[.float .f64 9221120237041090561, .float .f64 4613937818241073152, .float .f64 9223372036854775808, .float .f64 0] 22)
theorem row4 (w : World) (j : Nat) (hj : j < 4) : (W0 w).cell? ⟨w.heap.size, 0 + j, none⟩ = some (.float .f64 (awF j)) := by
  have h4 : j = 0 ∨ j = 1 ∨ j = 2 ∨ j = 3 := by omega
  unfold W0
  rcases h4 with rfl | rfl | rfl | rfl <;> simp [awF]
set_option maxRecDepth 100000 in
set_option maxHeartbeats 1000000 in
theorem awake13 (w : World) :
    Calls Tryd.prog 8 #[] w fun e w' => e = .returned (.bool true) ∧ Below w.heap.size w w' := by
  have hf := frombits29 9223372036854775808
  have hL := fun w1 (h : ∀ j, j < 4 → w1.cell? ⟨w.heap.size, 0 + j, none⟩ = some (.float .f64 (awF j))) => least3 (some ⟨w.heap.size, 0, none⟩) 4 4 awF w1 (by decide) (.inr ⟨_, _, rfl, h⟩)
  rw [show lstF awF 4 = 2 by decide +kernel] at hL
  have hI := isinf1 9218868437227405312
  rw [show infP 9218868437227405312 = true by decide] at hI
  have hM := mean6_old 9221120237041090561 4616189618054758400 4602678819172646912 (by decide)
  rw [show plainF 4616189618054758400 = 4616189618054758400 by decide] at hM
  have o1 : (FloatKind.f64.format.order 4616189618054758400 4616189618054758400 == some .eq) = true := by rw [ord_eq]; decide
  have o2 : (FloatKind.f64.format.order 4611686018427387904 4611686018427387904 == some .eq) = true := by rw [ord_eq]; decide
  have hH := halve_all 4620693217682128896 (by decide) 2 (by decide)
  rw [show hvF 4620693217682128896 2 = 4611686018427387904 by decide +kernel] at hH
  have hb0 : ∀ v, Below w.heap.size w (w.alloc v) := fun v => (Below.refl _ _).alloc (Nat.le_refl _) _
  go_enter Tryd.func8, Tryd.ntmps8
  go_wp2_with (go_at_call 20; with_reducible refine (calls_flop (nan2 _)).mono ?_; rintro e w' ⟨rfl, rfl⟩)
  have hr : ∀ j, j < 4 → (W0 w).cell? ⟨w.heap.size, 0 + j, none⟩ = some (.float .f64 (awF j)) := row4 w
  have hb : Below w.heap.size w (W0 w) := hb0 _
  have hL' := hL (W0 w) hr
  unfold W0 at hL' hb
  refine hL'.mono ?_
  rintro e w1 ⟨rfl, rfl⟩
  clear hL hL' hr
  generalize World.alloc w _ = W at *
  generalize hB : w.heap.size = B at *
  go_wp2_with (first
    | (go_at_call 23; with_reducible refine (load_awake _).mono ?_; rintro e w' ⟨rfl, rfl⟩)
    | (go_at_call 22; with_reducible refine (hI _).mono ?_; rintro e w' ⟨rfl, rfl⟩)
    | (go_at_call 12; with_reducible refine (hM _).mono ?_; rintro e w' ⟨rfl, rfl⟩)
    | (go_at_call 18; with_reducible refine (text_minus _).mono ?_; rintro e w1 ⟨rfl, hb1⟩)
    | (go_at_call 16; with_reducible refine (hH _).mono ?_; rintro e w2 ⟨rfl, hb2⟩))
  go_ret
  subst hB
  exact ⟨rfl, (hb.trans (hb1.mono hb.size)).trans (hb2.mono (Nat.le_trans hb.size hb1.size))⟩
end Go.Proofs.YtbgppkjcmgljnaaDoor
