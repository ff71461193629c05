/- draws: Shuffle. -/
import Derived.Test.YtbgppkjcmgljnaaDrB
import Derived.Test.YtbgppkjcmgljnaaRegT
import Derived.Laws.MakeOwn
namespace Go.Proofs.Ytbgppkjcmgljnaa
open Go.RowKit

/-- A row of integers. -/
def RowI (w : World) (lb n : Nat) (f : Nat → Nat) : Prop := ∀ j, j < n → w.cell? ⟨lb, j, none⟩ = some (.int .i64 ((f j : Nat) : Int)) ∧ w.frozen? ⟨lb, j, none⟩ = false
theorem RowI.touch {w w' : World} {lb n b : Nat} {f : Nat → Nat} (h : RowI w lb n f) (ht : Touch b w w') (hb : lb ≠ b) : RowI w' lb n f := fun j hj => by
  rw [ht.cell _ _ hb, ht.frozen]; exact h j hj
theorem RowI.set {w : World} {lb n : Nat} {f : Nat → Nat} (h : RowI w lb n f) {k : Nat} (hk : k < n) (v : Nat) : RowI (w.setCell ⟨lb, k, none⟩ (.int .i64 (v : Int))) lb n (fun j => if j = k then v else f j) := fun j hj => by
  rw [World.frozen?_setCell]
  refine ⟨?_, (h j hj).2⟩
  show _ = some (Value.int .i64 ((if j = k then v else f j : Nat) : Int))
  by_cases e : j = k
  · subst e; rw [World.cell?_setCell_same _ _ _ (h j hj).1, if_pos rfl]
  · rw [World.cell?_setCell_other _ _ _ _ (by intro e2; injection e2 with _ e3; exact e e3.symm), if_neg e]; exact (h j hj).1
/-- Each number once. -/
def Inj (f : Nat → Nat) (n : Nat) : Prop := (∀ i, i < n → f i < n) ∧ ∀ i j, i < n → j < n → f i = f j → i = j
def swp (f : Nat → Nat) (i j : Nat) : Nat → Nat := fun k => if k = j then f i else if k = i then f j else f k
theorem Inj.swp {f : Nat → Nat} {n i j : Nat} (h : Inj f n) (hi : i < n) (hj : j < n) : Inj (swp f i j) n := by
  obtain ⟨h1, h2⟩ := h
  refine ⟨fun k hk => ?_, fun a b ha hb e => ?_⟩
  · unfold Proofs.Ytbgppkjcmgljnaa.swp
    split
    · exact h1 i hi
    · split
      · exact h1 j hj
      · exact h1 k hk
  · unfold Proofs.Ytbgppkjcmgljnaa.swp at e
    have q1 := h2 i j hi hj
    have q2 := h2 i b hi hb
    have q3 := h2 a i ha hi
    have q4 := h2 j b hj hb
    have q5 := h2 a j ha hj
    have q6 := h2 a b ha hb
    have q7 := h2 j i hj hi
    split at e <;> split at e <;> first | omega | (split at e <;> first | omega | (split at e <;> omega))
/-- Only the block lb, which is new, has been touched, and b. -/
structure Keep2 (b lb : Nat) (w w' : World) : Prop where
  below : ∀ B, B ≤ b → Below B w w'
  size : lb < w'.heap.size
  cell : ∀ g o, g ≠ b → g < lb → w'.cell? ⟨g, o, none⟩ = w.cell? ⟨g, o, none⟩
  frozen : ∀ g o, g < lb → w'.frozen? ⟨g, o, none⟩ = w.frozen? ⟨g, o, none⟩
theorem Keep2.touch {b lb : Nat} {w w1 w2 : World} (h : Keep2 b lb w w1) (ht : Touch b w1 w2) : Keep2 b lb w w2 :=
  ⟨fun B hB => (h.below B hB).trans (ht.below B hB), by rw [ht.size]; exact h.size, fun g o h1 h2 => by rw [ht.cell _ _ h1]; exact h.cell g o h1 h2, fun g o h1 => by rw [ht.frozen]; exact h.frozen g o h1⟩
theorem Keep2.set {b lb k : Nat} {w w1 : World} (h : Keep2 b lb w w1) (hb : b < lb) (v : Value) : Keep2 b lb w (w1.setCell ⟨lb, k, none⟩ v) :=
  ⟨fun B hB => (h.below B hB).setCell (p := ⟨lb, k, none⟩) (Nat.le_of_lt (Nat.lt_of_le_of_lt hB hb)) v, by simpa using h.size,
   fun g o h1 h2 => by rw [World.cell?_setCell_other _ _ _ _ (by intro e; injection e with e1 _; omega)]; exact h.cell g o h1 h2,
   fun g o h1 => by rw [World.frozen?_setCell]; exact h.frozen g o h1⟩
theorem Keep2.drew {b lb : Nat} {w w1 : World} (h : Keep2 b lb w w1) : Keep2 b lb w w1.drew :=
  ⟨fun B hB => (h.below B hB).drew, h.size, h.cell, h.frozen⟩
theorem DrawsAt.set {w : World} {b M : Nat} {xs : List Nat} {s : Nat} (h : DrawsAt w b M xs s) {lb k : Nat} (hb : b < lb) (hM : M ≤ lb) (v : Value) : DrawsAt (w.setCell ⟨lb, k, none⟩ v) b M xs s := by
  obtain ⟨hlt, ⟨a, c, c0, hn⟩, hm, c1, f0, f1, hle⟩ := h
  have hc : ∀ g o, g ≠ lb → (w.setCell ⟨lb, k, none⟩ v).cell? ⟨g, o, none⟩ = w.cell? ⟨g, o, none⟩ := fun g o hg =>
    World.cell?_setCell_other _ _ _ _ (by intro e; injection e with e1 _; exact hg e1.symm)
  refine ⟨by simpa using hlt, ⟨a, c, by rw [hc _ _ (by omega)]; exact c0, ?_⟩, by simpa using hm, by rw [hc _ _ (by omega)]; exact c1, by rw [World.frozen?_setCell]; exact f0, by rw [World.frozen?_setCell]; exact f1, hle⟩
  rcases hn with hn | ⟨g, o, ha, hg, hgm, hl, hx⟩
  · exact .inl hn
  · exact .inr ⟨g, o, ha, hg, hgm, hl, fun j x hj => by rw [hc _ _ (by omega)]; exact hx j x hj⟩
theorem DrawsAt.drew {w : World} {b M : Nat} {xs : List Nat} {s : Nat} (h : DrawsAt w b M xs s) : DrawsAt w.drew b M xs s :=
  ⟨h.lt, h.cells, h.room, h.short, h.f0, h.f1, h.le⟩
theorem DrawsAt.alloc {w : World} {b M : Nat} {xs : List Nat} {s : Nat} (h : DrawsAt w b M xs s) (ob : Obj) : DrawsAt (w.alloc ob) b M xs s := by
  obtain ⟨hlt, ⟨a, c, c0, hn⟩, hm, c1, f0, f1, hle⟩ := h
  have hh : ∀ g, g < w.heap.size → (w.alloc ob).heap[g]? = w.heap[g]? := fun g hg => by
    show (w.heap.push ob)[g]? = _
    rw [Array.getElem?_push_lt hg, Array.getElem?_eq_getElem hg]
  have hc : ∀ g o, g < w.heap.size → (w.alloc ob).cell? ⟨g, o, none⟩ = w.cell? ⟨g, o, none⟩ := fun g o hg => by simp only [World.cell?, hh g hg]
  have hf : ∀ g o, g < w.heap.size → (w.alloc ob).frozen? ⟨g, o, none⟩ = w.frozen? ⟨g, o, none⟩ := fun g o hg => by simp only [World.frozen?, hh g hg]
  refine ⟨by simp; omega, ⟨a, c, by rw [hc _ _ hlt]; exact c0, ?_⟩, by simp; omega, by rw [hc _ _ hlt]; exact c1, by rw [hf _ _ hlt]; exact f0, by rw [hf _ _ hlt]; exact f1, hle⟩
  rcases hn with hn | ⟨g, o, ha, hg, hgm, hl, hx⟩
  · exact .inl hn
  · exact .inr ⟨g, o, ha, hg, hgm, hl, fun j x hj => by rw [hc _ _ (by omega)]; exact hx j x hj⟩
theorem infoI64 : (Try.prog.info? 3).map (fun i => (i.zero, i.size, i.bytes)) = some (some (.int .i64 0), 1, 8) := by kernel_rfl
/-- The row that Shuffle makes. -/
theorem makeI (n : Nat) (hn : n ≤ 4096) (w : World) : ∃ cs, (∀ w', w' = w → (Instr.makeSlice 32 (.int .i64 (n : Int)) (.int .i64 (n : Int))).run Try.prog w' = .ok (.slice (some ⟨w.heap.size, 0, none⟩) n n) (w.alloc (.cells cs 3))) ∧
    RowI (w.alloc (.cells cs 3)) w.heap.size n (fun _ => 0) := by
  obtain ⟨i0, hi, hz0, hz1, hz2⟩ := info_parts infoI64
  have h := run_make (P := Try.prog) w 32 3 i0 (.int .i64 0) Try.underlying32 hi hz0 .i64 .i64 n n (by omega) (by omega) (by rw [hz2]; omega) (by omega)
  rw [hz1, Int.toNat_natCast, Nat.mul_one] at h
  refine ⟨_, fun w' e => by rw [e]; exact h, fun j hj => ?_⟩
  have hm : (madeCells (Value.int .i64 0).cells n)[j]? = some (.int .i64 0) := by
    unfold madeCells
    rw [Array.getElem?_map, Array.getElem?_range, if_pos hj]
    have e : (Value.int .i64 0).cells = #[.int .i64 0] := rfl
    rw [e]
    simp [Nat.mod_one]
  have hh : (w.alloc (.cells (madeCells (Value.int .i64 0).cells n) 3)).heap[w.heap.size]? = some (.cells (madeCells (Value.int .i64 0).cells n) 3) := by
    show (w.heap.push _)[w.heap.size]? = _
    rw [Array.getElem?_push_size]
  constructor
  · simp only [World.cell?, hh]
    exact hm
  · simp only [World.frozen?, hh]
    simp
/-- What holds while two numbers are exchanged. -/
structure SwS (W : World) (lb i v : Nat) (L : Nat → Bool) (w : World) : Prop where
  no : L 13 = false → w = W
  yes : L 13 = true → w = W.setCell ⟨lb, i, none⟩ (.int .i64 (v : Int)) ∧ L 7 = true ∧ L 11 = true
theorem SwS.keep {W : World} {lb i v : Nat} {L : Nat → Bool} {w : World} (h : SwS W lb i v L w) (k : Nat) (hk : k ≠ 13) : SwS W lb i v (setL L k) w := by
  refine ⟨fun e => h.no ?_, fun e => ?_⟩
  · simpa [setL, Ne.symm hk] using e
  · obtain ⟨h1, h2, h3⟩ := h.yes (by simpa [setL, Ne.symm hk] using e)
    refine ⟨h1, ?_, ?_⟩
    · by_cases e7 : k = 7
      · subst e7; simp [setL]
      · simpa [setL, Ne.symm e7] using h2
    · by_cases e7 : k = 11
      · subst e7; simp [setL]
      · simpa [setL, Ne.symm e7] using h3
def fillF (i j : Nat) : Nat := if j < i then j else 0
def ShufPost (w : World) (b n : Nat) (e : Ending) (w' : World) : Prop := ∃ f, e = .returned (.slice (some ⟨w.heap.size, 0, none⟩) n n) ∧ RowI w' w.heap.size n f ∧ Inj f n ∧ Keep2 b w.heap.size w w'

end Go.Proofs.Ytbgppkjcmgljnaa
