/- BLAKE2s, the reference: First and orders. -/
import Derived.Test.YtllmlngfmcbaaaaGreatDoorRMix
namespace Go.Proofs.YtllmlngfmcbaaaaGreatDoor
open Go.RowKit

set_option maxHeartbeats 400000 in
theorem rfirst30 (w : World) :
    Calls Tryz.prog 74 #[] w fun e w' => e = .returned (.slice (some ⟨w.heap.size, 0, none⟩) 8 8) ∧ Words 8 w' w.heap.size iv ∧ Below w.heap.size w w' ∧ w.heap.size < w'.heap.size := by
  go_enter Tryz.func74, Tryz.ntmps74
  go_wp2_with fail
  go_ret
  exact ⟨rfl, words_new8 w iv 88, below_alloc _ _, by simp⟩

/-- The orders of the rounds, as a slice of slices. -/
def Ord (w : World) (v : Value) : Prop := ∃ b cap, v = .slice (some ⟨b, 0, none⟩) 10 cap ∧ b < w.heap.size ∧ ∀ r, r < 10 → ∃ g, w.cell? ⟨b, r, none⟩ = some (.slice (some ⟨g, 0, none⟩) 16 16) ∧ g < w.heap.size ∧ ∀ i, i < 16 → w.cell? ⟨g, i, none⟩ = some (.int .i64 (perm r i : Nat))
theorem Ord.below {w w' : World} {v : Value} (h : Ord w v) (hb : Below w.heap.size w w') : Ord w' v := by
  obtain ⟨b, cap, hv, hl, hr⟩ := h
  obtain ⟨hc, _⟩ := bcell hb
  refine ⟨b, cap, hv, Nat.lt_of_lt_of_le hl hb.size, fun r h => ?_⟩
  obtain ⟨g, h1, h2, h3⟩ := hr r h
  exact ⟨g, by rw [hc _ _ hl]; exact h1, Nat.lt_of_lt_of_le h2 hb.size, fun i hi => by rw [hc _ _ h2]; exact h3 i hi⟩
def allocs (w : World) : List Obj → World
  | [] => w
  | o :: r => allocs (w.alloc o) r
theorem allocs_size : ∀ (os : List Obj) (w : World), (allocs w os).heap.size = w.heap.size + os.length
  | [], _ => rfl
  | o :: r, w => by rw [allocs, allocs_size r]; simp; omega
theorem allocs_below : ∀ (os : List Obj) (w : World) (B : Nat), B ≤ w.heap.size → Below B w (allocs w os)
  | [], w, _, _ => Below.refl _ w
  | o :: r, w, B, h => ((Below.refl _ w).alloc h o).trans (allocs_below r (w.alloc o) B (by simp; omega))
theorem allocs_old : ∀ (os : List Obj) (w : World) (k : Nat), k < w.heap.size → (allocs w os).heap[k]? = w.heap[k]?
  | [], _, _, _ => rfl
  | o :: r, w, k, h => by
    rw [allocs, allocs_old r (w.alloc o) k (by simp; omega)]
    show (w.heap.push o)[k]? = _
    rw [Array.getElem?_push, if_neg (by omega)]
theorem allocs_get : ∀ (os : List Obj) (w : World) (k : Nat) (o : Obj), os[k]? = some o → (allocs w os).heap[w.heap.size + k]? = some o
  | [], _, _, _, h => by simp at h
  | p :: r, w, 0, o, h => by
    obtain rfl : p = o := Option.some.inj h
    rw [allocs, allocs_old r (w.alloc p) _ (by simp)]
    show (w.heap.push p)[w.heap.size]? = _
    simp
  | p :: r, w, k + 1, o, h => by
    have := allocs_get r (w.alloc p) k o h
    rw [show (w.alloc p).heap.size + k = w.heap.size + (k + 1) by simp; omega] at this
    exact this
theorem lt16 {i : Nat} (h : i < 16) : i = 0 ∨ i = 1 ∨ i = 2 ∨ i = 3 ∨ i = 4 ∨ i = 5 ∨ i = 6 ∨ i = 7 ∨ i = 8 ∨ i = 9 ∨ i = 10 ∨ i = 11 ∨ i = 12 ∨ i = 13 ∨ i = 14 ∨ i = 15 := by omega

set_option maxRecDepth 100000 in
set_option maxHeartbeats 2000000 in
theorem rorders43 (w : World) :
    Calls Tryz.prog 96 #[] w fun e w' => ∃ v, e = .returned v ∧ Ord w' v ∧ Below w.heap.size w w' := by
  go_enter Tryz.func96, Tryz.ntmps96
  go_wp2_with fail
  go_ret
  obtain ⟨W, hW⟩ : ∃ W, W = allocs w [.cells #[.int .i64 0, .int .i64 1, .int .i64 2, .int .i64 3, .int .i64 4, .int .i64 5, .int .i64 6, .int .i64 7, .int .i64 8, .int .i64 9, .int .i64 10, .int .i64 11, .int .i64 12, .int .i64 13, .int .i64 14, .int .i64 15] 3, .cells #[.int .i64 14, .int .i64 10, .int .i64 4, .int .i64 8, .int .i64 9, .int .i64 15, .int .i64 13, .int .i64 6, .int .i64 1, .int .i64 12, .int .i64 0, .int .i64 2, .int .i64 11, .int .i64 7, .int .i64 5, .int .i64 3] 3, .cells #[.int .i64 11, .int .i64 8, .int .i64 12, .int .i64 0, .int .i64 5, .int .i64 2, .int .i64 15, .int .i64 13, .int .i64 10, .int .i64 14, .int .i64 3, .int .i64 6, .int .i64 7, .int .i64 1, .int .i64 9, .int .i64 4] 3, .cells #[.int .i64 7, .int .i64 9, .int .i64 3, .int .i64 1, .int .i64 13, .int .i64 12, .int .i64 11, .int .i64 14, .int .i64 2, .int .i64 6, .int .i64 5, .int .i64 10, .int .i64 4, .int .i64 0, .int .i64 15, .int .i64 8] 3, .cells #[.int .i64 9, .int .i64 0, .int .i64 5, .int .i64 7, .int .i64 2, .int .i64 4, .int .i64 10, .int .i64 15, .int .i64 14, .int .i64 1, .int .i64 11, .int .i64 12, .int .i64 6, .int .i64 8, .int .i64 3, .int .i64 13] 3, .cells #[.int .i64 2, .int .i64 12, .int .i64 6, .int .i64 10, .int .i64 0, .int .i64 11, .int .i64 8, .int .i64 3, .int .i64 4, .int .i64 13, .int .i64 7, .int .i64 5, .int .i64 15, .int .i64 14, .int .i64 1, .int .i64 9] 3, .cells #[.int .i64 12, .int .i64 5, .int .i64 1, .int .i64 15, .int .i64 14, .int .i64 13, .int .i64 4, .int .i64 10, .int .i64 0, .int .i64 7, .int .i64 6, .int .i64 3, .int .i64 9, .int .i64 2, .int .i64 8, .int .i64 11] 3, .cells #[.int .i64 13, .int .i64 11, .int .i64 7, .int .i64 14, .int .i64 12, .int .i64 1, .int .i64 3, .int .i64 9, .int .i64 5, .int .i64 0, .int .i64 15, .int .i64 4, .int .i64 8, .int .i64 6, .int .i64 2, .int .i64 10] 3, .cells #[.int .i64 6, .int .i64 15, .int .i64 14, .int .i64 9, .int .i64 11, .int .i64 3, .int .i64 0, .int .i64 8, .int .i64 12, .int .i64 2, .int .i64 13, .int .i64 7, .int .i64 1, .int .i64 4, .int .i64 10, .int .i64 5] 3, .cells #[.int .i64 10, .int .i64 2, .int .i64 8, .int .i64 4, .int .i64 7, .int .i64 6, .int .i64 1, .int .i64 5, .int .i64 15, .int .i64 11, .int .i64 9, .int .i64 14, .int .i64 3, .int .i64 12, .int .i64 13, .int .i64 0] 3, .cells #[.slice (some ⟨w.heap.size, 0, none⟩) 16 16, .slice (some ⟨w.heap.size + 1, 0, none⟩) 16 16, .slice (some ⟨w.heap.size + 1 + 1, 0, none⟩) 16 16, .slice (some ⟨w.heap.size + 1 + 1 + 1, 0, none⟩) 16 16, .slice (some ⟨w.heap.size + 1 + 1 + 1 + 1, 0, none⟩) 16 16, .slice (some ⟨w.heap.size + 1 + 1 + 1 + 1 + 1, 0, none⟩) 16 16, .slice (some ⟨w.heap.size + 1 + 1 + 1 + 1 + 1 + 1, 0, none⟩) 16 16, .slice (some ⟨w.heap.size + 1 + 1 + 1 + 1 + 1 + 1 + 1, 0, none⟩) 16 16, .slice (some ⟨w.heap.size + 1 + 1 + 1 + 1 + 1 + 1 + 1 + 1, 0, none⟩) 16 16, .slice (some ⟨w.heap.size + 1 + 1 + 1 + 1 + 1 + 1 + 1 + 1 + 1, 0, none⟩) 16 16] 126] := ⟨_, rfl⟩
  rw [show (World.alloc _ _ : World) = W from hW.symm]
  have h0 : W.heap[w.heap.size + 0]? = some (.cells #[.int .i64 0, .int .i64 1, .int .i64 2, .int .i64 3, .int .i64 4, .int .i64 5, .int .i64 6, .int .i64 7, .int .i64 8, .int .i64 9, .int .i64 10, .int .i64 11, .int .i64 12, .int .i64 13, .int .i64 14, .int .i64 15] 3 (0, 0)) := by rw [hW]; exact allocs_get _ w 0 _ rfl
  have h1 : W.heap[w.heap.size + 1]? = some (.cells #[.int .i64 14, .int .i64 10, .int .i64 4, .int .i64 8, .int .i64 9, .int .i64 15, .int .i64 13, .int .i64 6, .int .i64 1, .int .i64 12, .int .i64 0, .int .i64 2, .int .i64 11, .int .i64 7, .int .i64 5, .int .i64 3] 3 (0, 0)) := by rw [hW]; exact allocs_get _ w 1 _ rfl
  have h2 : W.heap[w.heap.size + 2]? = some (.cells #[.int .i64 11, .int .i64 8, .int .i64 12, .int .i64 0, .int .i64 5, .int .i64 2, .int .i64 15, .int .i64 13, .int .i64 10, .int .i64 14, .int .i64 3, .int .i64 6, .int .i64 7, .int .i64 1, .int .i64 9, .int .i64 4] 3 (0, 0)) := by rw [hW]; exact allocs_get _ w 2 _ rfl
  have h3 : W.heap[w.heap.size + 3]? = some (.cells #[.int .i64 7, .int .i64 9, .int .i64 3, .int .i64 1, .int .i64 13, .int .i64 12, .int .i64 11, .int .i64 14, .int .i64 2, .int .i64 6, .int .i64 5, .int .i64 10, .int .i64 4, .int .i64 0, .int .i64 15, .int .i64 8] 3 (0, 0)) := by rw [hW]; exact allocs_get _ w 3 _ rfl
  have h4 : W.heap[w.heap.size + 4]? = some (.cells #[.int .i64 9, .int .i64 0, .int .i64 5, .int .i64 7, .int .i64 2, .int .i64 4, .int .i64 10, .int .i64 15, .int .i64 14, .int .i64 1, .int .i64 11, .int .i64 12, .int .i64 6, .int .i64 8, .int .i64 3, .int .i64 13] 3 (0, 0)) := by rw [hW]; exact allocs_get _ w 4 _ rfl
  have h5 : W.heap[w.heap.size + 5]? = some (.cells #[.int .i64 2, .int .i64 12, .int .i64 6, .int .i64 10, .int .i64 0, .int .i64 11, .int .i64 8, .int .i64 3, .int .i64 4, .int .i64 13, .int .i64 7, .int .i64 5, .int .i64 15, .int .i64 14, .int .i64 1, .int .i64 9] 3 (0, 0)) := by rw [hW]; exact allocs_get _ w 5 _ rfl
  have h6 : W.heap[w.heap.size + 6]? = some (.cells #[.int .i64 12, .int .i64 5, .int .i64 1, .int .i64 15, .int .i64 14, .int .i64 13, .int .i64 4, .int .i64 10, .int .i64 0, .int .i64 7, .int .i64 6, .int .i64 3, .int .i64 9, .int .i64 2, .int .i64 8, .int .i64 11] 3 (0, 0)) := by rw [hW]; exact allocs_get _ w 6 _ rfl
  have h7 : W.heap[w.heap.size + 7]? = some (.cells #[.int .i64 13, .int .i64 11, .int .i64 7, .int .i64 14, .int .i64 12, .int .i64 1, .int .i64 3, .int .i64 9, .int .i64 5, .int .i64 0, .int .i64 15, .int .i64 4, .int .i64 8, .int .i64 6, .int .i64 2, .int .i64 10] 3 (0, 0)) := by rw [hW]; exact allocs_get _ w 7 _ rfl
  have h8 : W.heap[w.heap.size + 8]? = some (.cells #[.int .i64 6, .int .i64 15, .int .i64 14, .int .i64 9, .int .i64 11, .int .i64 3, .int .i64 0, .int .i64 8, .int .i64 12, .int .i64 2, .int .i64 13, .int .i64 7, .int .i64 1, .int .i64 4, .int .i64 10, .int .i64 5] 3 (0, 0)) := by rw [hW]; exact allocs_get _ w 8 _ rfl
  have h9 : W.heap[w.heap.size + 9]? = some (.cells #[.int .i64 10, .int .i64 2, .int .i64 8, .int .i64 4, .int .i64 7, .int .i64 6, .int .i64 1, .int .i64 5, .int .i64 15, .int .i64 11, .int .i64 9, .int .i64 14, .int .i64 3, .int .i64 12, .int .i64 13, .int .i64 0] 3 (0, 0)) := by rw [hW]; exact allocs_get _ w 9 _ rfl
  have ht : W.heap[w.heap.size + 10]? = some (.cells #[.slice (some ⟨w.heap.size, 0, none⟩) 16 16, .slice (some ⟨w.heap.size + 1, 0, none⟩) 16 16, .slice (some ⟨w.heap.size + 1 + 1, 0, none⟩) 16 16, .slice (some ⟨w.heap.size + 1 + 1 + 1, 0, none⟩) 16 16, .slice (some ⟨w.heap.size + 1 + 1 + 1 + 1, 0, none⟩) 16 16, .slice (some ⟨w.heap.size + 1 + 1 + 1 + 1 + 1, 0, none⟩) 16 16, .slice (some ⟨w.heap.size + 1 + 1 + 1 + 1 + 1 + 1, 0, none⟩) 16 16, .slice (some ⟨w.heap.size + 1 + 1 + 1 + 1 + 1 + 1 + 1, 0, none⟩) 16 16, .slice (some ⟨w.heap.size + 1 + 1 + 1 + 1 + 1 + 1 + 1 + 1, 0, none⟩) 16 16, .slice (some ⟨w.heap.size + 1 + 1 + 1 + 1 + 1 + 1 + 1 + 1 + 1, 0, none⟩) 16 16] 126 (0, 0)) := by rw [hW]; exact allocs_get _ w 10 _ rfl
  have hs : W.heap.size = w.heap.size + 11 := by rw [hW]; exact allocs_size _ w
  have hb : Below w.heap.size w W := by rw [hW]; exact allocs_below _ w _ (Nat.le_refl _)
  clear hW
  refine ⟨_, rfl, ⟨w.heap.size + 10, 10, rfl, by omega, fun r hr => ?_⟩, hb⟩
  have hr10 : r = 0 ∨ r = 1 ∨ r = 2 ∨ r = 3 ∨ r = 4 ∨ r = 5 ∨ r = 6 ∨ r = 7 ∨ r = 8 ∨ r = 9 := by omega
  rcases hr10 with rfl | rfl | rfl | rfl | rfl | rfl | rfl | rfl | rfl | rfl
  · refine ⟨w.heap.size + 0, by rw [cell_of_row _ _ _ _ _ _ ht]; rfl, by omega, fun i hi => ?_⟩
    rw [cell_of_row _ _ _ _ _ _ h0]
    rcases lt16 hi with rfl | rfl | rfl | rfl | rfl | rfl | rfl | rfl | rfl | rfl | rfl | rfl | rfl | rfl | rfl | rfl <;> rfl
  · refine ⟨w.heap.size + 1, by rw [cell_of_row _ _ _ _ _ _ ht]; rfl, by omega, fun i hi => ?_⟩
    rw [cell_of_row _ _ _ _ _ _ h1]
    rcases lt16 hi with rfl | rfl | rfl | rfl | rfl | rfl | rfl | rfl | rfl | rfl | rfl | rfl | rfl | rfl | rfl | rfl <;> rfl
  · refine ⟨w.heap.size + 2, by rw [cell_of_row _ _ _ _ _ _ ht]; rfl, by omega, fun i hi => ?_⟩
    rw [cell_of_row _ _ _ _ _ _ h2]
    rcases lt16 hi with rfl | rfl | rfl | rfl | rfl | rfl | rfl | rfl | rfl | rfl | rfl | rfl | rfl | rfl | rfl | rfl <;> rfl
  · refine ⟨w.heap.size + 3, by rw [cell_of_row _ _ _ _ _ _ ht]; rfl, by omega, fun i hi => ?_⟩
    rw [cell_of_row _ _ _ _ _ _ h3]
    rcases lt16 hi with rfl | rfl | rfl | rfl | rfl | rfl | rfl | rfl | rfl | rfl | rfl | rfl | rfl | rfl | rfl | rfl <;> rfl
  · refine ⟨w.heap.size + 4, by rw [cell_of_row _ _ _ _ _ _ ht]; rfl, by omega, fun i hi => ?_⟩
    rw [cell_of_row _ _ _ _ _ _ h4]
    rcases lt16 hi with rfl | rfl | rfl | rfl | rfl | rfl | rfl | rfl | rfl | rfl | rfl | rfl | rfl | rfl | rfl | rfl <;> rfl
  · refine ⟨w.heap.size + 5, by rw [cell_of_row _ _ _ _ _ _ ht]; rfl, by omega, fun i hi => ?_⟩
    rw [cell_of_row _ _ _ _ _ _ h5]
    rcases lt16 hi with rfl | rfl | rfl | rfl | rfl | rfl | rfl | rfl | rfl | rfl | rfl | rfl | rfl | rfl | rfl | rfl <;> rfl
  · refine ⟨w.heap.size + 6, by rw [cell_of_row _ _ _ _ _ _ ht]; rfl, by omega, fun i hi => ?_⟩
    rw [cell_of_row _ _ _ _ _ _ h6]
    rcases lt16 hi with rfl | rfl | rfl | rfl | rfl | rfl | rfl | rfl | rfl | rfl | rfl | rfl | rfl | rfl | rfl | rfl <;> rfl
  · refine ⟨w.heap.size + 7, by rw [cell_of_row _ _ _ _ _ _ ht]; rfl, by omega, fun i hi => ?_⟩
    rw [cell_of_row _ _ _ _ _ _ h7]
    rcases lt16 hi with rfl | rfl | rfl | rfl | rfl | rfl | rfl | rfl | rfl | rfl | rfl | rfl | rfl | rfl | rfl | rfl <;> rfl
  · refine ⟨w.heap.size + 8, by rw [cell_of_row _ _ _ _ _ _ ht]; rfl, by omega, fun i hi => ?_⟩
    rw [cell_of_row _ _ _ _ _ _ h8]
    rcases lt16 hi with rfl | rfl | rfl | rfl | rfl | rfl | rfl | rfl | rfl | rfl | rfl | rfl | rfl | rfl | rfl | rfl <;> rfl
  · refine ⟨w.heap.size + 9, by rw [cell_of_row _ _ _ _ _ _ ht]; rfl, by omega, fun i hi => ?_⟩
    rw [cell_of_row _ _ _ _ _ _ h9]
    rcases lt16 hi with rfl | rfl | rfl | rfl | rfl | rfl | rfl | rfl | rfl | rfl | rfl | rfl | rfl | rfl | rfl | rfl <;> rfl
end Go.Proofs.YtllmlngfmcbaaaaGreatDoor
