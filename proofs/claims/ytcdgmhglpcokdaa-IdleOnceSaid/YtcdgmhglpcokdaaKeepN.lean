/- Memory of an object that lies in some blocks G, its own: what a call that writes there leaves as it was. -/
import Derived.Test.YtcdgmhglpcokdaaBase
import Derived.OwnWalk
import Derived.Deep.MidRow
import Derived.Carry
namespace Go.Proofs.Ytcdgmhglpcokdaa
open Go.RowKit

theorem below_alloc (w : World) (o : Obj) : Below w.heap.size w (w.alloc o) := (Below.refl _ _).alloc (Nat.le_refl _) _

/-- Nothing has changed but blocks of G and new ones. -/
structure Keep (G : Nat → Prop) (w w' : World) : Prop where
  os : w'.os = w.os
  tape : w'.tape = w.tape
  output : w'.output = w.output
  size : w.heap.size ≤ w'.heap.size
  block : ∀ k, k < w.heap.size → ¬ G k → w'.heap[k]? = w.heap[k]?
/-- The blocks to come are G's. -/
def Up (G : Nat → Prop) (w : World) : Prop := ∀ k, w.heap.size ≤ k → G k
/-- The first size is small enough for B. -/
def Floor (G : Nat → Prop) (B : Nat) : Prop := ∀ k, G k → B ≤ k
section
variable {G : Nat → Prop} {a w w' : World} {B : Nat}
theorem Keep.refl (G : Nat → Prop) (w : World) : Keep G w w := ⟨rfl, rfl, rfl, Nat.le_refl _, fun _ _ _ => rfl⟩
theorem Keep.trans {b c : World} (h : Keep G a b) (k : Keep G b c) : Keep G a c :=
  ⟨k.os.trans h.os, k.tape.trans h.tape, k.output.trans h.output, Nat.le_trans h.size k.size, fun i hi hn => (k.block i (Nat.lt_of_lt_of_le hi h.size) hn).trans (h.block i hi hn)⟩
theorem Keep.of_below (h : Below w.heap.size w w') : Keep G w w' := ⟨h.os, h.tape, h.output, h.size, fun k hk _ => h.block k hk⟩
theorem Keep.more {G' : Nat → Prop} (h : Keep G w w') (hg : ∀ k, k < w.heap.size → G k → G' k) : Keep G' w w' := ⟨h.os, h.tape, h.output, h.size, fun k hk hn => h.block k hk (fun hk2 => hn (hg k hk hk2))⟩
theorem Keep.bel (h : Keep G w w') (hf : Floor G B) (hB : B ≤ w.heap.size) : Below B w w' :=
  ⟨h.os, h.tape, h.output, h.size, fun k hk => h.block k (by omega) (fun hg => by have := hf k hg; omega)⟩
theorem Keep.grown {row : Option Nat} (hg : w.grownBy w' row) (hr : ∀ k, row = some k → G k) : Keep G w w' :=
  ⟨hg.os, hg.tape, hg.output, hg.size, fun k hk hn => hg.block k hk (fun e => hn (hr k e.symm))⟩
theorem Keep.setCell (w : World) {p : Addr} (hp : G p.block) (u : Value) : Keep G w (w.setCell p u) :=
  ⟨rfl, rfl, rfl, by simp [World.setCell], fun k _ hn => Below.heap_setCell w p u k (fun e => hn (by rw [e]; exact hp))⟩
theorem Keep.alloc (w : World) (o : Obj) : Keep G w (w.alloc o) := .of_below (below_alloc w o)
theorem Keep.drew (w : World) : Keep G w w.drew := ⟨rfl, rfl, rfl, Nat.le_refl _, fun _ _ _ => rfl⟩
theorem Keep.drewN (w : World) (n : Nat) : Keep G w (w.drewN n) := ⟨rfl, rfl, rfl, Nat.le_refl _, fun _ _ _ => rfl⟩
theorem Up.keep (h : Up G w) (hk : Keep G w w') : Up G w' := fun k hk2 => h k (Nat.le_trans hk.size hk2)
theorem Up.below (h : Up G w) (hk : Below w.heap.size w w') : Up G w' := fun k hk2 => h k (Nat.le_trans hk.size hk2)
end

/-- Block g is just these cells; none is frozen. -/
def Row (w : World) (g : Nat) (t : TypeId) (cs : Array Value) : Prop := w.heap[g]? = some (.cells cs t (0, 0))
section
variable {w w' : World} {g : Nat} {t : TypeId} {cs : Array Value} {G : Nat → Prop}
theorem Row.lt (h : Row w g t cs) : g < w.heap.size := (Array.getElem?_eq_some_iff.1 h).1
theorem Row.cell (h : Row w g t cs) (i : Nat) : w.cell? ⟨g, i, none⟩ = cs[i]? := cell_of_row w g i cs t (0, 0) h
theorem Row.free (h : Row w g t cs) (i : Nat) : w.frozen? ⟨g, i, none⟩ = false := by
  unfold Row at h
  simp [World.frozen?, h]
theorem Row.new (w : World) (t : TypeId) (cs : Array Value) : Row (w.alloc (.cells cs t)) w.heap.size t cs := heap_alloc_new w _
theorem Row.keep (h : Row w g t cs) (hk : Keep G w w') (hg : ¬ G g) : Row w' g t cs := (hk.block g h.lt hg).trans h
theorem Row.below (h : Row w g t cs) (hb : Below w.heap.size w w') : Row w' g t cs := (hb.block g h.lt).trans h
theorem Row.grown {row : Option Nat} (h : Row w g t cs) (hb : w.grownBy w' row) (hg : row ≠ some g) : Row w' g t cs := (hb.block g h.lt (fun e => hg e.symm)).trans h
theorem Row.alloc (h : Row w g t cs) (o : Obj) : Row (w.alloc o) g t cs := h.below (below_alloc w o)
theorem Row.put (h : Row w g t cs) (i : Nat) (u : Value) : Row (w.setCell ⟨g, i, none⟩ u) g t (cs.setIfInBounds i u) := by
  unfold Row at h ⊢
  simp [World.setCell, Array.getElem?_modify, h]
theorem Row.far (h : Row w g t cs) {p : Addr} (hp : g ≠ p.block) (u : Value) : Row (w.setCell p u) g t cs := (Below.heap_setCell w p u g hp).trans h
theorem Row.drew (h : Row w g t cs) : Row w.drew g t cs := h
theorem Row.drewN (h : Row w g t cs) (n : Nat) : Row (w.drewN n) g t cs := h
end

/-- A row of elements that the object owns. -/
def Own (w : World) (e : TypeId) (n : Nat) (v : Value) (m : Nat) (xs : List Value) : Prop := w.ownsRow 0 e n v m xs
theorem own_lt {w : World} {e : TypeId} {n m : Nat} {v : Value} {xs : List Value} (h : w.ownsRow 0 e n v m xs) {k : Nat} (hk : v.ownBlock = some k) : k < w.heap.size := (h.lt k hk).2
theorem own_ne {w : World} {e t : TypeId} {n m g : Nat} {v : Value} {xs : List Value} {cs : Array Value} (h : w.ownsRow 0 e n v m xs) (hg : Row w g t cs) (hne : e ≠ t) : v.ownBlock ≠ some g := by
  obtain ⟨_, ⟨rfl, _⟩ | ⟨k, cap, cur, rfl, _, hk, _⟩⟩ := h
  · simp [Value.ownBlock]
  · intro he
    have : k = g := by simpa [Value.ownBlock] using he
    subst this
    unfold Row at hg
    rw [hk] at hg
    injection hg with h2
    injection h2 with _ h3
    exact hne h3
theorem own_keep {w w' : World} {G : Nat → Prop} {e : TypeId} {n m : Nat} {v : Value} {xs : List Value} (h : w.ownsRow 0 e n v m xs) (hk : Keep G w w') (hg : ∀ k, v.ownBlock = some k → ¬ G k) : w'.ownsRow 0 e n v m xs := by
  obtain ⟨hl, h0 | ⟨g, cap, cur, rfl, hb, hc, r⟩⟩ := h
  · exact ⟨hl, .inl h0⟩
  · exact ⟨hl, .inr ⟨g, cap, cur, rfl, hb, (hk.block g (Array.getElem?_eq_some_iff.1 hc).1 (hg g rfl)).trans hc, r⟩⟩
theorem own_bel {w w' : World} {e : TypeId} {n m : Nat} {v : Value} {xs : List Value} (h : w.ownsRow 0 e n v m xs) (hb : Below w.heap.size w w') : w'.ownsRow 0 e n v m xs :=
  own_keep (G := fun _ => False) h (.of_below hb) (fun _ _ h => h)
theorem own_grown {w w' : World} {row : Option Nat} {e : TypeId} {n m : Nat} {v : Value} {xs : List Value} (h : w.ownsRow 0 e n v m xs) (hg : w.grownBy w' row) (hr : ∀ k, v.ownBlock = some k → row ≠ some k) : w'.ownsRow 0 e n v m xs :=
  own_keep (G := fun k => row = some k) h (.grown hg (fun _ h => h)) hr
theorem own_set {w : World} {e t : TypeId} {n m g i : Nat} {v : Value} {xs : List Value} {cs : Array Value} (h : w.ownsRow 0 e n v m xs) (hg : Row w g t cs) (hne : e ≠ t) (u : Value) : (w.setCell ⟨g, i, none⟩ u).ownsRow 0 e n v m xs :=
  own_keep (G := fun k => k = g) h (Keep.setCell (G := fun k => k = g) w (p := ⟨g, i, none⟩) rfl u) (fun k hk e => own_ne h hg hne (by rw [hk, e]))
theorem own_slice {w : World} {base : Nat} {e : TypeId} {n m : Nat} {v : Value} {xs : List Value} (h : w.ownsRow base e n v m xs) : ∃ a c, v = .slice a m c := by
  obtain ⟨_, ⟨rfl, h0⟩ | ⟨g, cap, cur, rfl, _⟩⟩ := h
  · exact ⟨none, 0, by rw [h0]⟩
  · exact ⟨_, _, rfl⟩
theorem own_len {w : World} {base : Nat} {e : TypeId} {n m m' : Nat} {v : Value} {xs : List Value} (h : w.ownsRow base e n v m xs) (he : m = m') : w.ownsRow base e n v m' xs := he ▸ h
end Go.Proofs.Ytcdgmhglpcokdaa
