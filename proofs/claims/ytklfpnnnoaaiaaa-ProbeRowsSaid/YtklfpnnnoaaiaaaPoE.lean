/- probe: the fixed facts (written by genpe.py). -/
import Derived.Test.YtklfpnnnoaaiaaaPoD
namespace Go.Proofs.Ytklfpnnnoaaiaaa
open Go.RowKit

theorem isBools_new (w : World) (bs : List Bool) (T : TypeId) : IsBools (w.alloc (.cells (bs.map Value.bool).toArray T)) (some ⟨w.heap.size, 0, none⟩) bs.length bs := by
  refine .inr ⟨w.heap.size, 0, rfl, by simp, Nat.le_refl _, fun j x hx => ?_⟩
  have h := (Row.new w T (bs.map Value.bool).toArray).cell j
  rw [Nat.zero_add, h, List.getElem?_toArray, List.getElem?_map, hx]; rfl
def awP : Prb × Nat := runN ⟨false, 0, 0, 3⟩ 2 2 [true, false, true, true] (fun _ => 9) 4
theorem awP_v : runV awP = .tuple #[.agg #[.bool true, .int .i64 0, .int .i64 0, .int .i64 9], .int .i64 1] := by
  unfold runV
  rw [show awP.1.up = true by decide +kernel, show awP.1.g = 0 by decide +kernel, show awP.1.b = 0 by decide +kernel, show awP.1.s = 9 by decide +kernel, show awP.2 = 1 by decide +kernel]
  rfl
set_option maxRecDepth 100000 in
set_option maxHeartbeats 1000000 in
theorem awake21 (w : World) : Calls Try.prog 16 #[] w fun e w' => e = .returned (.bool true) ∧ Below w.heap.size w w' := by
  have hN := fun w => newC false 3 w
  have hR := fun W hx => runC ⟨false, 0, 0, 3⟩ ⟨0, 0, 2, 2⟩ 9 (some ⟨w.heap.size + 1, 0, none⟩) 4 [true, false, true, true] (by decide) W hx
  have e0 : runN ⟨false, 0, 0, 3⟩ (limN 2 1000) (limN 2 1000) [true, false, true, true] (fun _ => 9) 4 = awP := rfl
  have hR2 : ∀ W, IsBools W (some ⟨w.heap.size + 1, 0, none⟩) 4 [true, false, true, true] → Calls Try.prog 19 #[prbV ⟨false, 0, 0, 3⟩, cfgV ⟨0, 0, 2, 2⟩, .int .i64 9, .slice (some ⟨w.heap.size + 1, 0, none⟩) 4 4] W fun e w' => e = .returned (.tuple #[.agg #[.bool true, .int .i64 0, .int .i64 0, .int .i64 9], .int .i64 1]) ∧ Below W.heap.size W w' := fun W hx => (hR W hx).mono fun e w' ⟨h1, h2⟩ => ⟨by rw [h1, show [true, false, true, true].length = 4 from rfl, e0, awP_v], h2⟩
  have HX := Lib.hid (isBools_new (w.alloc (.cells #[.bool false, .int .i64 0, .int .i64 0, .int .i64 3] 45)) [true, false, true, true] 4)
  rw [World.size_alloc] at HX
  have HB := Lib.hid (below_a2 w (.cells #[.bool false, .int .i64 0, .int .i64 0, .int .i64 3] 45) (.cells ([true, false, true, true].map Value.bool).toArray 4))
  have HR2 := Lib.hid hR2
  unfold prbV cfgV at HR2
  simp only at HR2
  have hC := fun w => clipP ⟨0, 0, 0, 0⟩ w
  have e1 : clipC ⟨0, 0, 0, 0⟩ = ⟨1, 1, 1, 1⟩ := rfl
  rw [e1] at hC
  unfold cfgV at hC
  simp only at hC
  have HC := Lib.hid hC
  clear hR e0 hR2 e1 hC
  simp only [List.map_cons, List.map_nil] at HX HB
  go_enter Try.func16, Try.ntmps16
  go_wp2_with fail
  refine (hN _).mono ?_
  rintro e w' ⟨rfl, hw⟩
  subst w'
  go_wp2_with fail
  refine (HR2.out _ HX.out).mono ?_
  rintro e w1 ⟨rfl, hB1⟩
  have HB1 := Lib.hid (HB.out.trans (hB1.mono HB.out.size))
  clear hB1 HX HB HR2 hN
  go_wp2_with fail
  refine (HC.out _).mono ?_
  rintro e w2 ⟨rfl, hB2⟩
  have HB2 := Lib.hid (HB1.out.trans (Below.mono ((below_alloc w1 _).trans (hB2.mono (by simp))) HB1.out.size))
  clear hB2 HC
  go_wp2_with fail
  go_ret
  exact ⟨rfl, HB2.out⟩
end Go.Proofs.Ytklfpnnnoaaiaaa
