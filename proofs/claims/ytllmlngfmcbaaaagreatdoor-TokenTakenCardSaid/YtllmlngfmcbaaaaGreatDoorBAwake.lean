/- stewardlaw02.awake. -/
import Derived.Test.YtllmlngfmcbaaaaGreatDoorRBlk
import Derived.Test.YtllmlngfmcbaaaaGreatDoorRSum
import Derived.Test.YtllmlngfmcbaaaaGreatDoorBAbc
import Derived.Test.YtllmlngfmcbaaaaGreatDoorCut
namespace Go.Proofs.YtllmlngfmcbaaaaGreatDoor
open Go.RowKit

theorem blkSpec : BlkSpec := fun hv q b hb t h0 h1 last w h => rblock31 hv q b hb t h0 h1 last w h
/-- An array of bytes in a block, as a string. -/
theorem bytes_string {n : Nat} {w : World} {b : Nat} {f : Nat → Int} (h : Bytes n w b f) (cap : Nat) :
    (convert 62 9 (.slice (some ⟨b, 0, none⟩) n cap)).run Tryz.prog w = .ok (.string (strOfNums ((List.range n).map f))) w := by
  refine run_convert_bytes_arg (P := Tryz.prog) w 62 5 Tryz.underlying62 Tryz.underlying5 b 0 n cap ((List.range n).map f) (by simp) (fun i hi => ?_) 9 Tryz.underlying9
  rw [Nat.zero_add, (h i hi).1]
  simp [hi]
theorem bytesCells_one (n : Nat) (f : Nat → Int) : (bytesCells n f).toArray.all (·.oneCell') = true := by
  rw [Array.all_eq_true_iff_forall_mem]
  intro v hv
  simp [bytesCells] at hv
  obtain ⟨i, _, rfl⟩ := hv
  rfl
theorem bytes_stored {n : Nat} {w : World} {b : Nat} {f : Nat → Int} (h : Bytes n w b f) (g : Nat → Int) : Bytes n (w.setCells b 0 (bytesCells n g)) b g := fun i hi => by
  have h1 := range_setCells (w := w) (b := b) (bytesCells n g) (by rw [bytesCells_length]; exact bytes_there h) i (.int .u8 (g i)) (by simp [bytesCells, hi])
  rw [Nat.zero_add] at h1
  exact ⟨h1, by rw [World.frozen?_setCells]; exact (h i hi).2⟩
/-- A hash that has been put into a new array. -/
theorem hash_kept (w : World) (l : List UInt8) (T : TypeId) (z : Array Value) (hz : z = Array.replicate 32 (Value.int .u8 0)) :
    Bytes 32 ((w.alloc (.cells z T)).setCells w.heap.size 0 (bytesCells 32 (blakeB l))) w.heap.size (blakeB l) ∧
      Below w.heap.size w ((w.alloc (.cells z T)).setCells w.heap.size 0 (bytesCells 32 (blakeB l))) ∧
      w.heap.size < ((w.alloc (.cells z T)).setCells w.heap.size 0 (bytesCells 32 (blakeB l))).heap.size := by
  subst hz
  have hb := bytes_zero w 32 T
  have hon := only_setCells w.heap.size (bytesCells 32 (blakeB l)) 0 (w.alloc (.cells (Array.replicate 32 (Value.int .u8 0)) T))
  exact ⟨bytes_stored hb _, hon.below (below_alloc _ _) (Nat.le_refl _), Nat.lt_of_lt_of_eq (by simp) hon.size.symm⟩
theorem hash_there (w : World) (l : List UInt8) (T : TypeId) (z : Array Value) (hz : z = Array.replicate 32 (Value.int .u8 0)) : (w.alloc (.cells z T)).there w.heap.size 0 (bytesCells 32 (blakeB l)).toArray.size := by
  subst hz
  have h := bytes_there (bytes_zero w 32 T)
  have h2 : (bytesCells 32 (blakeB l)).toArray.size = 32 := by rw [List.size_toArray, bytesCells_length]
  rw [h2]
  exact h
theorem size32 (f : Nat → Int) : (Tryz.prog.info? 60).map (·.size) = some (bytesCells 32 f).toArray.size := by
  rw [List.size_toArray, bytesCells_length]; kernel_rfl
theorem hash_str (l : List UInt8) : strOfNums ((List.range 32).map (blakeB l)) = ⟨(blakeL l).toArray⟩ := by
  unfold strOfNums blakeL
  rw [List.map_map]
  rfl
theorem blakeL_length (l : List UInt8) : (blakeL l).length = 32 := by simp [blakeL]
/-- Sum of one string in a new slice. -/
theorem bsum_one (s : ByteArray) (w : World) (T : TypeId) (ht : Tabs w) (hs : s.size ≤ 140737488355328) :
    Calls Tryz.prog 49 #[.slice (some ⟨w.heap.size, 0, none⟩) 1 1] (w.alloc (.cells #[.string s] T)) fun e w' => e = .returned (.agg (bytesCells 32 (blakeB s.data.toList)).toArray) ∧ Below w.heap.size w w' := by
  have hb : Below w.heap.size w (w.alloc (.cells #[.string s] T)) := below_alloc _ _
  have hf : flat [s] = s.data.toList := by simp [flat]
  have := bsum12 (some ⟨w.heap.size, 0, none⟩) 1 [s] (w.alloc (.cells #[.string s] T)) (ht.below hb)
    (.inr ⟨w.heap.size, 0, rfl, by simp, by simp, fun j x hx => by
      match j, hx with
      | 0, hx => obtain rfl : s = x := Option.some.inj hx; simp
      | j + 1, hx => simp at hx⟩) (by simp) (by rw [hf, ← Lib.size_eq]; exact hs)
  refine this.mono fun e w' ⟨he, hw⟩ => ⟨by rw [he, hf], hb.trans (hw.mono (by simp))⟩
end Go.Proofs.YtllmlngfmcbaaaaGreatDoor
