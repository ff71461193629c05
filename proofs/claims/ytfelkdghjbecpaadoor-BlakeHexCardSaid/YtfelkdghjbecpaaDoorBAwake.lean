/- stewardlaw02.awake. -/
import Derived.Test.YtfelkdghjbecpaaDoorRBlk
import Derived.Test.YtfelkdghjbecpaaDoorRSum
import Derived.Test.YtfelkdghjbecpaaDoorBAbc
import Derived.Test.YtfelkdghjbecpaaDoorCut
namespace Go.Proofs.YtfelkdghjbecpaaDoor
open Go.RowKit

theorem blkSpec : BlkSpec := fun hv q b hb t h0 h1 last w h => rblock31 hv q b hb t h0 h1 last w h
/-- An array of bytes in a block, as a string. -/
theorem bytes_string {n : Nat} {w : World} {b : Nat} {f : Nat → Int} (h : Bytes n w b f) (cap : Nat) :
    (convert 26 9 (.slice (some ⟨b, 0, none⟩) n cap)).run Tryd.prog w = .ok (.string (strOfNums ((List.range n).map f))) w := by
  refine run_convert_bytes_arg (P := Tryd.prog) w 26 5 Tryd.underlying26 Tryd.underlying5 b 0 n cap ((List.range n).map f) (by simp) (fun i hi => ?_) 9 Tryd.underlying9
  rw [Nat.zero_add, (h i hi).1]
  simp [hi]
theorem bytesCells_one (n : Nat) (f : Nat → Int) : (bytesCells n f).toArray.all (·.oneCell') = true := by
  rw [Array.all_eq_true_iff_forall_mem]
  intro v hv
  simp [bytesCells] at hv
  obtain ⟨i, _, rfl⟩ := hv
  rfl
theorem bytes_stored {n : Nat} {w : World} {b : Nat} {f : Nat → Int} (h : Bytes n w b f) (g : Nat → Int) : Bytes n (w.setCells b 0 (bytesCells n g)) b g := fun i hi => by
  have h1 := range_setCells (w := w) (b := b) (bytesCells n g) (by rw [bytesCells_length]; exact bytes_there h) i (.int .u8 (g i)) (by simp [bytesCells, hi])
  rw [Nat.zero_add] at h1
  exact ⟨h1, by rw [World.frozen?_setCells]; exact (h i hi).2⟩
/-- A hash that has been put into a new array. -/
theorem hash_kept (w : World) (l : List UInt8) (T : TypeId) (z : Array Value) (hz : z = Array.replicate 32 (Value.int .u8 0)) :
    Bytes 32 ((w.alloc (.cells z T)).setCells w.heap.size 0 (bytesCells 32 (blakeB l))) w.heap.size (blakeB l) ∧
      Below w.heap.size w ((w.alloc (.cells z T)).setCells w.heap.size 0 (bytesCells 32 (blakeB l))) ∧
      w.heap.size < ((w.alloc (.cells z T)).setCells w.heap.size 0 (bytesCells 32 (blakeB l))).heap.size := by
  subst hz
  have hb := bytes_zero w 32 T
  have hon := only_setCells w.heap.size (bytesCells 32 (blakeB l)) 0 (w.alloc (.cells (Array.replicate 32 (Value.int .u8 0)) T))
  exact ⟨bytes_stored hb _, hon.below (below_alloc _ _) (Nat.le_refl _), Nat.lt_of_lt_of_eq (by simp) hon.size.symm⟩
theorem hash_there (w : World) (l : List UInt8) (T : TypeId) (z : Array Value) (hz : z = Array.replicate 32 (Value.int .u8 0)) : (w.alloc (.cells z T)).there w.heap.size 0 (bytesCells 32 (blakeB l)).toArray.size := by
  subst hz
  have h := bytes_there (bytes_zero w 32 T)
  have h2 : (bytesCells 32 (blakeB l)).toArray.size = 32 := by rw [List.size_toArray, bytesCells_length]
  rw [h2]
  exact h
theorem size32 (f : Nat → Int) : (Tryd.prog.info? 24).map (·.size) = some (bytesCells 32 f).toArray.size := by
  rw [List.size_toArray, bytesCells_length]; kernel_rfl
theorem hash_str (l : List UInt8) : strOfNums ((List.range 32).map (blakeB l)) = ⟨(blakeL l).toArray⟩ := by
  unfold strOfNums blakeL
  rw [List.map_map]
  rfl
theorem blakeL_length (l : List UInt8) : (blakeL l).length = 32 := by simp [blakeL]
/-- Sum of one string in a new slice. -/
theorem bsum_one (s : ByteArray) (w : World) (T : TypeId) (ht : Tabs w) (hs : s.size ≤ 140737488355328) :
    Calls Tryd.prog 12 #[.slice (some ⟨w.heap.size, 0, none⟩) 1 1] (w.alloc (.cells #[.string s] T)) fun e w' => e = .returned (.agg (bytesCells 32 (blakeB s.data.toList)).toArray) ∧ Below w.heap.size w w' := by
  have hb : Below w.heap.size w (w.alloc (.cells #[.string s] T)) := below_alloc _ _
  have hf : flat [s] = s.data.toList := by simp [flat]
  have := bsum12 (some ⟨w.heap.size, 0, none⟩) 1 [s] (w.alloc (.cells #[.string s] T)) (ht.below hb)
    (.inr ⟨w.heap.size, 0, rfl, by simp, by simp, fun j x hx => by
      match j, hx with
      | 0, hx => obtain rfl : s = x := Option.some.inj hx; simp
      | j + 1, hx => simp at hx⟩) (by simp) (by rw [hf, ← Lib.size_eq]; exact hs)
  refine this.mono fun e w' ⟨he, hw⟩ => ⟨by rw [he, hf], hb.trans (hw.mono (by simp))⟩

set_option maxHeartbeats 400000 in
theorem bawake10 (w : World) (ht : Tabs w) :
    Calls Tryd.prog 10 #[] w fun e w' => e = .returned (.bool true) ∧ Below w.heap.size w w' := by
  have HT := Lib.hid ht
  clear ht
  go_enter Tryd.func10, Tryd.ntmps10
  go_wp2_with fail
  have hb : Below w.heap.size w (w.alloc (.cells #[.string ⟨#[97]⟩, .string ⟨#[]⟩, .string ⟨#[98, 99]⟩] 9)) := below_alloc _ _
  have hf : flat [⟨#[97]⟩, ⟨#[]⟩, ⟨#[98, 99]⟩] = [97, 98, 99] := rfl
  refine (bsum12 (some ⟨w.heap.size, 0, none⟩) 3 [⟨#[97]⟩, ⟨#[]⟩, ⟨#[98, 99]⟩] _ (HT.out.below hb) (.inr ⟨w.heap.size, 0, rfl, by simp, by simp, fun j x hx => ?_⟩) (by simp) (by rw [hf]; decide)).mono ?_
  · match j, hx with
    | 0, hx => obtain rfl := Option.some.inj hx; simp
    | 1, hx => obtain rfl := Option.some.inj hx; simp
    | 2, hx => obtain rfl := Option.some.inj hx; simp
    | j + 3, hx => simp at hx
  rintro e w1 ⟨rfl, hb1⟩
  rw [hf]
  have hbel : Below w.heap.size w w1 := hb.trans (hb1.mono hb.size)
  obtain ⟨hk, hkb, hkz⟩ := hash_kept w1 [97, 98, 99] 24 #[.int .u8 0, .int .u8 0, .int .u8 0, .int .u8 0, .int .u8 0, .int .u8 0, .int .u8 0, .int .u8 0, .int .u8 0, .int .u8 0, .int .u8 0, .int .u8 0, .int .u8 0, .int .u8 0, .int .u8 0, .int .u8 0, .int .u8 0, .int .u8 0, .int .u8 0, .int .u8 0, .int .u8 0, .int .u8 0, .int .u8 0, .int .u8 0, .int .u8 0, .int .u8 0, .int .u8 0, .int .u8 0, .int .u8 0, .int .u8 0, .int .u8 0, .int .u8 0] rfl
  have hcv := bytes_string hk 32
  rw [hash_str] at hcv
  have hth := hash_there w1 [97, 98, 99] 24 #[.int .u8 0, .int .u8 0, .int .u8 0, .int .u8 0, .int .u8 0, .int .u8 0, .int .u8 0, .int .u8 0, .int .u8 0, .int .u8 0, .int .u8 0, .int .u8 0, .int .u8 0, .int .u8 0, .int .u8 0, .int .u8 0, .int .u8 0, .int .u8 0, .int .u8 0, .int .u8 0, .int .u8 0, .int .u8 0, .int .u8 0, .int .u8 0, .int .u8 0, .int .u8 0, .int .u8 0, .int .u8 0, .int .u8 0, .int .u8 0, .int .u8 0, .int .u8 0] rfl
  have hs2 := size32 (blakeB [97, 98, 99])
  have hone := bytesCells_one 32 (blakeB [97, 98, 99])
  have hex : ∀ W, Calls Tryd.prog 15 #[.string ⟨(blakeL [97, 98, 99]).toArray⟩] W fun e w' => e = .returned (.string ⟨#[53, 48, 56, 99, 53, 101, 56, 99, 51, 50, 55, 99, 49, 52, 101, 50, 101, 49, 97, 55, 50, 98, 97, 51, 52, 101, 101, 98, 52, 53, 50, 102, 51, 55, 52, 53, 56, 98, 50, 48, 57, 101, 100, 54, 51, 97, 50, 57, 52, 100, 57, 57, 57, 98, 52, 99, 56, 54, 54, 55, 53, 57, 56, 50]⟩) ∧ Below W.heap.size W w' := fun W => by
    have := hex15 ⟨(blakeL [97, 98, 99]).toArray⟩ (by show (blakeL [97, 98, 99]).toArray.size ≤ _; rw [List.size_toArray, blakeL_length]; decide) W
    rw [show (⟨(blakeL [97, 98, 99]).toArray⟩ : ByteArray).data.toList = blakeL [97, 98, 99] from rfl, blake_abc] at this
    exact this
  have HEX := Lib.hid hex
  have HB := Lib.hid (hbel.trans (hkb.mono hbel.size))
  clear hex hk hkb hb hb1 hf HT hbel
  generalize bytesCells 32 (blakeB [97, 98, 99]) = cs at *
  generalize blakeL [97, 98, 99] = bl at *
  go_wp2_with (refine wpList_store_row rfl 24 _ _ rfl _ cs.toArray rfl rfl hth hs2 hone ?_)
  refine (HEX.out _).mono ?_
  rintro e w2 ⟨rfl, hb2⟩
  have hfin := HB.out.trans (hb2.mono HB.out.size)
  clear hcv hth hs2 hone HEX HB hb2 hkz
  go_wp2_with fail
  go_ret
  exact ⟨rfl, hfin⟩
end Go.Proofs.YtfelkdghjbecpaaDoor
