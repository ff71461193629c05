/- strconv: prescale, shortFloat. -/
import Derived.Test.YtbgppkjcmgljnaaDoorFmB
import GoSem.PinnedTables
namespace Go.Proofs.YtbgppkjcmgljnaaDoor
open Go.RowKit

/-- Go's table of powers of ten lies in a world. -/
def PmAt (w : World) : Prop := 3 < w.heap.size ∧ ∀ (j : Nat) x, Go.Pinned.pow10Rows[j]? = some x → w.cell? ⟨3, j * 2, none⟩ = some (.int .u64 (x.1 : Int)) ∧ w.cell? ⟨3, j * 2 + 1, none⟩ = some (.int .u64 (x.2 : Int))
theorem PmAt.below {w w' : World} (h : PmAt w) (hb : Below w.heap.size w w') : PmAt w' :=
  ⟨Nat.lt_of_lt_of_le h.1 hb.size, fun j x hx => ⟨by rw [(bcell hb).1 _ _ h.1]; exact (h.2 j x hx).1, by rw [(bcell hb).1 _ _ h.1]; exact (h.2 j x hx).2⟩⟩
/-- An empty scaler. -/
structure ScAt (w : World) (g : Nat) : Prop where
  lt : g < w.heap.size
  c0 : ∃ v, w.cell? ⟨g, 0, none⟩ = some v
  c1 : ∃ v, w.cell? ⟨g, 1, none⟩ = some v
  c2 : ∃ v, w.cell? ⟨g, 2, none⟩ = some v
  f0 : w.frozen? ⟨g, 0, none⟩ = false
  f1 : w.frozen? ⟨g, 1, none⟩ = false
  f2 : w.frozen? ⟨g, 2, none⟩ = false
set_option maxHeartbeats 1000000 in
set_option maxRecDepth 100000 in
theorem pre58 (g j : Nat) (x : Nat × Nat) (hj : j < 696) (hx : Go.Pinned.pow10Rows[j]? = some x) (e p lp : Int) (he : -3000 ≤ e) (he1 : e ≤ 3000) (hp : p = (j : Int) - 348) (hl : -3000 ≤ lp) (hl1 : lp ≤ 3000) (w : World) (hw : PmAt w) (hs : ScAt w g) (hg : g ≠ 3) :
    Calls Tryd.prog 58 #[.pointer (some ⟨g, 0, none⟩), .int .i64 e, .int .i64 p, .int .i64 lp] w fun r w' => r = .returned (.tuple #[]) ∧ PreAt w' g x.1 x.2 (-(e + lp + 3)) ∧ ∀ B, B ≤ g → Below B w w' := by
  subst hp
  obtain ⟨t0, t1⟩ := hw.2 j x hx
  obtain ⟨hlt, ⟨v0, c0⟩, ⟨v1, c1⟩, ⟨v2, c2⟩, f0, f1, f2⟩ := hs
  have hne : g ≠ 3 := hg
  clear hw hx
  go_enter Tryd.func58, Tryd.ntmps58
  go_wp2_with fail
  go_end0
  refine ⟨rfl, ⟨?_, ?_, ?_, ?_⟩, fun B hB => (((Below.refl B w).setCell (p := ⟨g, 0, none⟩) hB _).setCell (p := ⟨g, 1, none⟩) hB _).setCell (p := ⟨g, 2, none⟩) hB _⟩
  · simpa using hlt
  · rw [World.cell?_setCell_other _ _ _ _ (by simp), World.cell?_setCell_other _ _ _ _ (by simp), World.cell?_setCell_same _ _ _ c0]
  · rw [World.cell?_setCell_other _ _ _ _ (by simp), World.cell?_setCell_same _ _ _ (show (w.setCell ⟨g, 0, none⟩ (.int .u64 (x.1 : Int))).cell? ⟨g, 1, none⟩ = some v1 by rw [World.cell?_setCell_other _ _ _ _ (by simp)]; exact c1)]
  · rw [World.cell?_setCell_same _ _ _ (show ((w.setCell ⟨g, 0, none⟩ (.int .u64 (x.1 : Int))).setCell ⟨g, 1, none⟩ (.int .u64 (x.2 : Int))).cell? ⟨g, 2, none⟩ = some v2 by rw [World.cell?_setCell_other _ _ _ _ (by simp), World.cell?_setCell_other _ _ _ _ (by simp)]; exact c2)]
end Go.Proofs.YtbgppkjcmgljnaaDoor
