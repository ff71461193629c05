/- The program's Clone. -/
import Derived.Test.YtcmjcpgfnkhnoaaRpF
import Derived.Shelf.SlMaps.Clone
namespace Go.Proofs
open Go.Shelf
shelf_lay_g SlLaysW.n5 Slmc 5 at Try 25 as Try.cloneRp
end Go.Proofs
namespace Go.Proofs.Ytcmjcpgfnkhnoaa
open Go.RowKit Go.Maps Go.Shelf

/-- What a clone is. -/
def CloneP (n : Nat) (f : ByteArray → Int) (w : World) (e : Ending) (w' : World) : Prop :=
  ∃ cb v', e = .returned (.pointer (some ⟨cb, 0, none⟩)) ∧ w.heap.size ≤ cb ∧ (∀ b, v' = some b → w.heap.size ≤ b) ∧ Rot w' cb v' n f ∧ Below w.heap.size w w'
set_option maxHeartbeats 2000000 in
theorem pclone13 (rb : Nat) (v : Option Nat) (n : Nat) (f : ByteArray → Int) (w : World) (hr : Rot w rb v n f) :
    Calls Try.prog 13 #[.pointer (some ⟨rb, 0, none⟩)] w (CloneP n f w) := by
  have HRR := Lib.hid hr
  have r0 : w.cell? ⟨rb, 0, none⟩ = some (.map v) := hr.1.cell 0
  have hrl := hr.lt
  rcases hr.2 with ⟨rfl, hf0⟩ | ⟨bm, rfl, hbm, D, hown, hrd⟩
  · have hcl := AnyW.maps_Clone_nil Try.cloneRp w
    have HC := Lib.hid hcl
    have HF0 := Lib.hid hf0
    clear hcl hf0 hr
    go_enter Try.func13, Try.ntmps13
    go_wp2_with (go_at_call 25; refine HC.out.mono ?_; rintro e w2 ⟨rfl, rfl⟩)
    go_ret
    exact ⟨_, none, rfl, Nat.le_refl _, (fun b h => by cases h), ⟨Row.new _ _ _, .inl ⟨rfl, HF0.out⟩⟩, below_alloc _ _⟩
  · have hcl := AnyW.maps_Clone_owns Try.cloneRp 9 (plainElem Try.prog 3) bm n D w hown
    have HC := Lib.hid hcl
    have HRD := Lib.hid hrd
    clear hcl hown hrd hr
    go_enter Try.func13, Try.ntmps13
    go_wp2_with (go_at_call 25; refine HC.out.mono ?_; rintro e w2 ⟨rfl, h1, _, hb⟩)
    go_ret
    have hs := h1.lt
    exact ⟨_, some w.heap.size, rfl, by omega, (fun b h => by injection h with h; omega), ⟨Row.new _ _ _, .inr ⟨w.heap.size, rfl, by omega, (MapI.same ⟨D, h1, HRD.out⟩ ((below_alloc w2 _).block _ hs))⟩⟩, hb.alloc (by omega) _⟩
end Go.Proofs.Ytcmjcpgfnkhnoaa
