/- chunked: a decoder in memory; New, Done, Body, fail, endChunk. -/
import Derived.Test.YtchpgdoidpllgaaDoorKeep
import Derived.Outline
namespace Go.Proofs.YtchpgdoidpllgaaDoor
open Go.RowKit

def decCells (m st : Int) (s : Value) (k : Nat) (z : Bool) (b : Value) (e : Int) : Array Value := #[.int .i64 m, .int .i64 st, s, .int .i64 (k : Int), .bool z, b, .int .i64 e]
/-- A decoder in block g: most, state, digits, left, last, body, error; its two rows. -/
structure DecAt (G : Nat → Prop) (w : World) (g : Nat) (m st : Int) (ds : List UInt8) (k : Nat) (z : Bool) (body : List UInt8) (e : Int) (s b : Value) : Prop where
  row : Row w g 45 (decCells m st s k z b e)
  gG : G g
  so : w.ownsRow 0 5 1 s ds.length (byteVals ds)
  bo : w.ownsRow 0 5 1 b body.length (byteVals body)
  sG : ∀ j, s.ownBlock = some j → G j
  bG : ∀ j, b.ownBlock = some j → G j
  sb : ∀ j, s.ownBlock = some j → b.ownBlock ≠ some j
def Dec (G : Nat → Prop) (w : World) (g : Nat) (m st : Int) (ds : List UInt8) (k : Nat) (z : Bool) (body : List UInt8) (e : Int) : Prop := ∃ s b, DecAt G w g m st ds k z body e s b
section
variable {G : Nat → Prop} {w w' : World} {g : Nat} {m st : Int} {ds : List UInt8} {k : Nat} {z : Bool} {body : List UInt8} {e : Int} {s b : Value}
theorem DecAt.c (h : DecAt G w g m st ds k z body e s b) :
    w.cell? ⟨g, 0, none⟩ = some (.int .i64 m) ∧ w.cell? ⟨g, 1, none⟩ = some (.int .i64 st) ∧ w.cell? ⟨g, 2, none⟩ = some s ∧ w.cell? ⟨g, 3, none⟩ = some (.int .i64 (k : Int)) ∧ w.cell? ⟨g, 4, none⟩ = some (.bool z) ∧ w.cell? ⟨g, 5, none⟩ = some b ∧ w.cell? ⟨g, 6, none⟩ = some (.int .i64 e) :=
  ⟨h.row.cell 0, h.row.cell 1, h.row.cell 2, h.row.cell 3, h.row.cell 4, h.row.cell 5, h.row.cell 6⟩
theorem DecAt.below (h : DecAt G w g m st ds k z body e s b) (hb : Below w.heap.size w w') : DecAt G w' g m st ds k z body e s b :=
  ⟨h.row.below hb, h.gG, own_bel h.so hb, own_bel h.bo hb, h.sG, h.bG, h.sb⟩
theorem Dec.below (h : Dec G w g m st ds k z body e) (hb : Below w.heap.size w w') : Dec G w' g m st ds k z body e := by
  obtain ⟨s, b, h⟩ := h
  exact ⟨s, b, h.below hb⟩
theorem DecAt.lt (h : DecAt G w g m st ds k z body e s b) : (g < w.heap.size) ∧ (∀ j, s.ownBlock = some j → j < w.heap.size) ∧ ∀ j, b.ownBlock = some j → j < w.heap.size :=
  ⟨h.row.lt, fun _ hj => own_lt h.so hj, fun _ hj => own_lt h.bo hj⟩
/-- Its blocks are among those that are there. -/
theorem Dec.less (h : Dec G w g m st ds k z body e) : Dec (fun j => G j ∧ j < w.heap.size) w g m st ds k z body e := by
  obtain ⟨s, b, h⟩ := h
  exact ⟨s, b, h.row, ⟨h.gG, h.lt.1⟩, h.so, h.bo, fun j hj => ⟨h.sG j hj, h.lt.2.1 j hj⟩, fun j hj => ⟨h.bG j hj, h.lt.2.2 j hj⟩, h.sb⟩
theorem Dec.more {G' : Nat → Prop} (h : Dec G w g m st ds k z body e) (hg : ∀ j, j < w.heap.size → G j → G' j) : Dec G' w g m st ds k z body e := by
  obtain ⟨s, b, h⟩ := h
  exact ⟨s, b, h.row, hg _ h.lt.1 h.gG, h.so, h.bo, fun j hj => hg _ (h.lt.2.1 j hj) (h.sG j hj), fun j hj => hg _ (h.lt.2.2 j hj) (h.bG j hj), h.sb⟩
theorem nil_own (w : World) (e : TypeId) : w.ownsRow 0 e 1 (.slice none 0 0) ([] : List UInt8).length (byteVals []) := World.ownsRow_nil w 0 e 1
theorem DecAt.set1 (h : DecAt G w g m st ds k z body e s b) (x : Int) : DecAt G (w.setCell ⟨g, 1, none⟩ (.int .i64 x)) g m x ds k z body e s b :=
  ⟨h.row.put 1 _, h.gG, own_set h.so h.row (by decide) _, own_set h.bo h.row (by decide) _, h.sG, h.bG, h.sb⟩
theorem DecAt.set3 (h : DecAt G w g m st ds k z body e s b) (x : Nat) : DecAt G (w.setCell ⟨g, 3, none⟩ (.int .i64 (x : Int))) g m st ds x z body e s b :=
  ⟨h.row.put 3 _, h.gG, own_set h.so h.row (by decide) _, own_set h.bo h.row (by decide) _, h.sG, h.bG, h.sb⟩
theorem DecAt.set4 (h : DecAt G w g m st ds k z body e s b) (x : Bool) : DecAt G (w.setCell ⟨g, 4, none⟩ (.bool x)) g m st ds k x body e s b :=
  ⟨h.row.put 4 _, h.gG, own_set h.so h.row (by decide) _, own_set h.bo h.row (by decide) _, h.sG, h.bG, h.sb⟩
/-- Other digits in a row s'. -/
theorem DecAt.set2 {ds' : List UInt8} {s' : Value} (h : DecAt G w g m st ds k z body e s b) (ho : w.ownsRow 0 5 1 s' ds'.length (byteVals ds')) (hG : ∀ j, s'.ownBlock = some j → G j) (hb : ∀ j, s'.ownBlock = some j → b.ownBlock ≠ some j) :
    DecAt G (w.setCell ⟨g, 2, none⟩ s') g m st ds' k z body e s' b :=
  ⟨h.row.put 2 _, h.gG, own_set ho h.row (by decide) _, own_set h.bo h.row (by decide) _, hG, h.bG, hb⟩
theorem DecAt.set5 {body' : List UInt8} {b' : Value} (h : DecAt G w g m st ds k z body e s b) (ho : w.ownsRow 0 5 1 b' body'.length (byteVals body')) (hG : ∀ j, b'.ownBlock = some j → G j) (hb : ∀ j, s.ownBlock = some j → b'.ownBlock ≠ some j) :
    DecAt G (w.setCell ⟨g, 5, none⟩ b') g m st ds k z body' e s b' :=
  ⟨h.row.put 5 _, h.gG, own_set h.so h.row (by decide) _, own_set ho h.row (by decide) _, h.sG, hG, hb⟩
/-- A row has grown: the digits', or the body's. -/
theorem DecAt.grewS {row : Option Nat} {s' : Value} (h : DecAt G w g m st ds k z body e s b) (hg : w.grownBy w' row) (hr : row = s.ownBlock) (ha : s'.ownBlock = s.ownBlock ∨ s'.ownBlock = some w.heap.size) (hu : Up G w) :
    Row w' g 45 (decCells m st s k z b e) ∧ w'.ownsRow 0 5 1 b body.length (byteVals body) ∧ (∀ j, s'.ownBlock = some j → G j) ∧ (∀ j, s'.ownBlock = some j → b.ownBlock ≠ some j) ∧ Keep G w w' := by
  subst hr
  refine ⟨h.row.grown hg (own_ne h.so h.row (by decide)), own_grown h.bo hg (fun j hj e => h.sb j e hj), fun j hj => ?_, fun j hj => ?_, .grown hg h.sG⟩
  · rcases ha with e | e
    · exact h.sG j (by rw [← e]; exact hj)
    · rw [e] at hj; injection hj with hj; exact hu j (by omega)
  · rcases ha with e | e
    · exact h.sb j (by rw [← e]; exact hj)
    · rw [e] at hj; injection hj with hj
      intro hb
      have := h.lt.2.2 j hb
      omega
theorem DecAt.grewB {row : Option Nat} {b' : Value} (h : DecAt G w g m st ds k z body e s b) (hg : w.grownBy w' row) (hr : row = b.ownBlock) (ha : b'.ownBlock = b.ownBlock ∨ b'.ownBlock = some w.heap.size) (hu : Up G w) :
    Row w' g 45 (decCells m st s k z b e) ∧ w'.ownsRow 0 5 1 s ds.length (byteVals ds) ∧ (∀ j, b'.ownBlock = some j → G j) ∧ (∀ j, s.ownBlock = some j → b'.ownBlock ≠ some j) ∧ Keep G w w' := by
  subst hr
  refine ⟨h.row.grown hg (own_ne h.bo h.row (by decide)), own_grown h.so hg (fun j hj => h.sb j hj), fun j hj => ?_, fun j hj => ?_, .grown hg h.bG⟩
  · rcases ha with e | e
    · exact h.bG j (by rw [← e]; exact hj)
    · rw [e] at hj; injection hj with hj; exact hu j (by omega)
  · rcases ha with e | e
    · rw [e]; exact h.sb j hj
    · rw [e]
      intro hb
      injection hb with hb
      have := h.lt.2.1 j hj
      omega
end
theorem reset_cells (m st : Int) (s : Value) (k : Nat) (z : Bool) (b : Value) (e x : Int) :
    (((((((decCells m st s k z b e).setIfInBounds 0 (.int .i64 0)).setIfInBounds 1 (.int .i64 6)).setIfInBounds 2 (.slice none 0 0)).setIfInBounds 3 (.int .i64 0)).setIfInBounds 4 (.bool false)).setIfInBounds 5 (.slice none 0 0)).setIfInBounds 6 (.int .i64 x) = decCells 0 6 (.slice none 0 0) 0 false (.slice none 0 0) x := by
  simp [decCells]
theorem DecAt.reset {G : Nat → Prop} {w : World} {g : Nat} {m st : Int} {ds : List UInt8} {k : Nat} {z : Bool} {body : List UInt8} {e : Int} {s b : Value} (h : DecAt G w g m st ds k z body e s b) (x : Int) :
    Dec G (((((((w.setCell ⟨g, 0, none⟩ (.int .i64 0)).setCell ⟨g, 1, none⟩ (.int .i64 6)).setCell ⟨g, 2, none⟩ (.slice none 0 0)).setCell ⟨g, 3, none⟩ (.int .i64 0)).setCell ⟨g, 4, none⟩ (.bool false)).setCell ⟨g, 5, none⟩ (.slice none 0 0)).setCell ⟨g, 6, none⟩ (.int .i64 x)) g 0 6 [] 0 false [] x ∧
    Keep G w (((((((w.setCell ⟨g, 0, none⟩ (.int .i64 0)).setCell ⟨g, 1, none⟩ (.int .i64 6)).setCell ⟨g, 2, none⟩ (.slice none 0 0)).setCell ⟨g, 3, none⟩ (.int .i64 0)).setCell ⟨g, 4, none⟩ (.bool false)).setCell ⟨g, 5, none⟩ (.slice none 0 0)).setCell ⟨g, 6, none⟩ (.int .i64 x)) := by
  have K : ∀ (v : World) (i : Nat) (u : Value), Keep G v (v.setCell ⟨g, i, none⟩ u) := fun v i u => Keep.setCell v (p := ⟨g, i, none⟩) h.gG u
  have r := ((((((h.row.put 0 (.int .i64 0)).put 1 (.int .i64 6)).put 2 (.slice none 0 0)).put 3 (.int .i64 0)).put 4 (.bool false)).put 5 (.slice none 0 0)).put 6 (.int .i64 x)
  rw [reset_cells] at r
  exact ⟨⟨_, _, r, h.gG, nil_own _ _, nil_own _ _, (fun j h => by cases h), (fun j h => by cases h), (fun j h => by cases h)⟩, ((((((K _ _ _).trans (K _ _ _)).trans (K _ _ _)).trans (K _ _ _)).trans (K _ _ _)).trans (K _ _ _)).trans (K _ _ _)⟩
/-- New. -/
theorem new8 (m : Int) (w : World) :
    Calls Tryd.prog 8 #[.int .i64 m] w fun x w' => x = .returned (.pointer (some ⟨w.heap.size, 0, none⟩)) ∧ Dec (fun j => j = w.heap.size) w' w.heap.size m 0 [] 0 false [] 0 ∧ Below w.heap.size w w' ∧ w'.heap.size = w.heap.size + 1 := by
  go_enter Tryd.func8, Tryd.ntmps8
  go_wp2_with fail
  go_ret
  refine ⟨rfl, ⟨.slice none 0 0, .slice none 0 0, ?_⟩, below_alloc w _, by simp⟩
  exact ⟨Row.new w _ _, rfl, nil_own _ _, nil_own _ _, (fun j h => by cases h), (fun j h => by cases h), (fun j h => by cases h)⟩
theorem done10 (G : Nat → Prop) (g : Nat) (m st : Int) (ds : List UInt8) (k : Nat) (z : Bool) (body : List UInt8) (e : Int) (q : Bool) (hq : (st == 5) = q) (w : World) (h : Dec G w g m st ds k z body e) :
    Calls Tryd.prog 10 #[.pointer (some ⟨g, 0, none⟩)] w fun x w' => x = .returned (.bool q) ∧ w = w' := by
  obtain ⟨s, b, h⟩ := h
  have c := h.c.2.1
  go_enter Tryd.func10, Tryd.ntmps10
  go_wp2_with fail
  go_ret
  exact ⟨rfl, rfl⟩
theorem body13 (G : Nat → Prop) (g : Nat) (m st : Int) (ds : List UInt8) (k : Nat) (z : Bool) (body : List UInt8) (e : Int) (w : World) (h : Dec G w g m st ds k z body e) :
    Calls Tryd.prog 13 #[.pointer (some ⟨g, 0, none⟩)] w fun x w' => x = .returned (.string ⟨body.toArray⟩) ∧ w = w' := by
  obtain ⟨s, b, h⟩ := h
  have c := h.c.2.2.2.2.2.1
  have hcv := own_string w 0 _ _ h.bo
  clear h
  generalize (⟨body.toArray⟩ : ByteArray) = B at *
  go_enter Tryd.func13, Tryd.ntmps13
  go_wp2_with fail
  go_ret
  exact ⟨rfl, rfl⟩
theorem fail31 (G : Nat → Prop) (g : Nat) (m st : Int) (ds : List UInt8) (k : Nat) (z : Bool) (body : List UInt8) (e x : Int) (w : World) (h : Dec G w g m st ds k z body e) :
    Calls Tryd.prog 31 #[.pointer (some ⟨g, 0, none⟩), .int .i64 x] w fun r w' => r = .returned (.tuple #[]) ∧ Dec G w' g 0 6 [] 0 false [] x ∧ Keep G w w' := by
  obtain ⟨s, b, h⟩ := h
  obtain ⟨c0, c1, c2, c3, c4, c5, c6⟩ := h.c
  have f0 := h.row.free 0
  have f1 := h.row.free 1
  have f2 := h.row.free 2
  have f3 := h.row.free 3
  have f4 := h.row.free 4
  have f5 := h.row.free 5
  have f6 := h.row.free 6
  have HD := Lib.hid h
  clear h
  go_enter Tryd.func31, Tryd.ntmps31
  go_wp2_with fail
  go_end0
  exact ⟨rfl, HD.out.reset x⟩
/-- A chunk's end. -/
theorem endc30 (G : Nat → Prop) (g : Nat) (m st : Int) (ds : List UInt8) (k : Nat) (z : Bool) (body : List UInt8) (e : Int) (w : World) (h : Dec G w g m st ds k z body e) :
    Calls Tryd.prog 30 #[.pointer (some ⟨g, 0, none⟩)] w fun r w' => r = .returned (.tuple #[]) ∧ Dec G w' g m (if z = true then 5 else 0) ds k z body e ∧ Keep G w w' := by
  obtain ⟨s, b, h⟩ := h
  obtain ⟨c0, c1, c2, c3, c4, c5, c6⟩ := h.c
  have f1 := h.row.free 1
  have HD := Lib.hid h
  have K : ∀ (v : World) (i : Nat) (u : Value), Keep G v (v.setCell ⟨g, i, none⟩ u) := fun v i u => Keep.setCell v (p := ⟨g, i, none⟩) HD.out.gG u
  have HK := Lib.hid K
  clear h c0 c2 c3 c5 c6 K
  cases z
  · go_enter Tryd.func30, Tryd.ntmps30
    go_wp2_with fail
    go_end0
    exact ⟨rfl, ⟨s, b, HD.out.set1 0⟩, HK.out _ _ _⟩
  · go_enter Tryd.func30, Tryd.ntmps30
    go_wp2_with fail
    go_end0
    exact ⟨rfl, ⟨s, b, (HD.out.set1 0).set1 5⟩, (HK.out _ _ _).trans (HK.out _ _ _)⟩
end Go.Proofs.YtchpgdoidpllgaaDoor
