/- mac, the reference: Sum, Tag; the law's awake. -/
import Derived.Test.YtllmlngfmcbaaaaGreatDoorMacG
namespace Go.Proofs.YtllmlngfmcbaaaaGreatDoor
open Go.RowKit

set_option maxHeartbeats 400000 in
theorem rmac21 (k s : ByteArray) (hk : k.size ≤ 1000000) (hs : s.size ≤ 1000000) (w : World) :
    Calls Tryz.prog 40 #[.string k, .string s] w fun e w' => e = .returned (.string ⟨(blakeL (macOut k.data.toList s.data.toList)).toArray⟩) ∧ Below w.heap.size w w' := by
  go_enter Tryz.func40, Tryz.ntmps40
  go_wp2_with fail
  refine (rpad36 k hk 92 92 rfl w).mono ?_
  rintro e w1 ⟨rfl, hb1⟩
  obtain ⟨p92, h92⟩ : ∃ p : ByteArray, p = ⟨(maskL k.data.toList 92).toArray⟩ := ⟨_, rfl⟩
  have h92d : p92.data.toList = maskL k.data.toList 92 := by rw [h92]
  have h92z : p92.size ≤ 64 := by rw [Lib.size_eq, h92d, maskL_length]; decide
  rw [← h92]
  have H92 := Lib.hid h92d
  clear h92 h92d
  go_wp2_with fail
  refine (rpad36 k hk 54 54 rfl w1).mono ?_
  rintro e w2 ⟨rfl, hb2⟩
  have hb12 : Below w.heap.size w w2 := hb1.trans (hb2.mono hb1.size)
  obtain ⟨p54, h54⟩ : ∃ p : ByteArray, p = ⟨(maskL k.data.toList 54).toArray⟩ := ⟨_, rfl⟩
  have h54d : p54.data.toList = maskL k.data.toList 54 := by rw [h54]
  have h54z : p54.size ≤ 64 := by rw [Lib.size_eq, h54d, maskL_length]; decide
  rw [← h54]
  have H54 := Lib.hid h54d
  clear h54 h54d hb1 hb2
  have hin : (p54 ++ s).data.toList = macIn k.data.toList s.data.toList := by
    rw [macIn, ← H54.out]; simp
  have hinz : (p54 ++ s).size ≤ 140737488355328 := by rw [ByteArray.size_append]; omega
  have hsum1 := fun W => rsum13 blkSpec (p54 ++ s) hinz W
  rw [hin] at hsum1
  have HSUM1 := Lib.hid hsum1
  clear hin hinz hsum1
  go_wp2_with fail
  refine (HSUM1.out w2).mono ?_
  rintro e w3 ⟨rfl, hb3⟩
  have hb13 : Below w.heap.size w w3 := hb12.trans (hb3.mono hb12.size)
  obtain ⟨hi, hhi⟩ : ∃ p : ByteArray, p = ⟨(blakeL (macIn k.data.toList s.data.toList)).toArray⟩ := ⟨_, rfl⟩
  have hid' : hi.data.toList = blakeL (macIn k.data.toList s.data.toList) := by rw [hhi]
  have hiz : hi.size ≤ 32 := by rw [Lib.size_eq, hid', blakeL_length]; decide
  rw [← hhi]
  have HI := Lib.hid hid'
  clear hhi hid' hb12 hb3 HSUM1
  have hout : (p92 ++ hi).data.toList = macOut k.data.toList s.data.toList := by
    rw [macOut, ← H92.out, ← HI.out]; simp
  have houtz : (p92 ++ hi).size ≤ 140737488355328 := by rw [ByteArray.size_append]; omega
  have hsum2 := fun W => rsum13 blkSpec (p92 ++ hi) houtz W
  rw [hout] at hsum2
  have HSUM2 := Lib.hid hsum2
  clear hout houtz hsum2
  go_wp2_with fail
  refine (HSUM2.out w3).mono ?_
  rintro e w4 ⟨rfl, hb4⟩
  have hb14 : Below w.heap.size w w4 := hb13.trans (hb4.mono hb13.size)
  clear hb13 hb4 HSUM2
  go_wp2_with fail
  go_ret
  exact ⟨rfl, hb14⟩

set_option maxHeartbeats 400000 in
theorem rtag23 (k s : ByteArray) (hk : k.size ≤ 1000000) (hs : s.size ≤ 1000000) (w : World) :
    Calls Tryz.prog 26 #[.string k, .string s] w fun e w' => e = .returned (.string ⟨(tagL k.data.toList s.data.toList).toArray⟩) ∧ Below w.heap.size w w' := by
  have hsum := rmac21 k s hk hs w
  obtain ⟨h, hh⟩ : ∃ p : ByteArray, p = ⟨(blakeL (macOut k.data.toList s.data.toList)).toArray⟩ := ⟨_, rfl⟩
  have hhd : h.data.toList = blakeL (macOut k.data.toList s.data.toList) := by rw [hh]
  have hhz : h.size = 32 := by rw [Lib.size_eq, hhd, blakeL_length]
  rw [← hh] at hsum
  have hz1 : (16 : Int) ≤ h.size := by omega
  have hz2 : h.size ≤ 32 := by omega
  have hxz : (h.extract 0 16).size ≤ 1048576 := by rw [ByteArray.size_extract]; omega
  have hx := fun W => rhex18 (h.extract 0 16) hxz W
  have hxd : (h.extract 0 16).data.toList = (blakeL (macOut k.data.toList s.data.toList)).take 16 := by
    rw [extract_list', hhd]; simp
  rw [hxd] at hx
  have HX := Lib.hid hx
  have HSUM := Lib.hid hsum
  clear hh hhd hhz hsum hx hxz hxd
  go_enter Tryz.func26, Tryz.ntmps26
  go_wp2_with fail
  refine HSUM.out.mono ?_
  rintro e w1 ⟨rfl, hb1⟩
  clear HSUM
  go_wp2_with fail
  refine (HX.out w1).mono ?_
  rintro e w2 ⟨rfl, hb2⟩
  have hb12 : Below w.heap.size w w2 := hb1.trans (hb2.mono hb1.size)
  clear hb1 hb2 HX
  go_wp2_with fail
  go_ret
  exact ⟨rfl, hb12⟩

/-- One string in a new slice. -/
theorem strs_new (w : World) (s : ByteArray) (T : TypeId) : IsStrs (w.alloc (.cells #[.string s] T)) (some ⟨w.heap.size, 0, none⟩) 1 [s] :=
  .inr ⟨w.heap.size, 0, rfl, by simp, by simp, fun j x hx => by
    match j, hx with
    | 0, hx => obtain rfl : s = x := Option.some.inj hx; simp
    | j + 1, hx => simp at hx⟩
theorem flat_one (s : ByteArray) : flat [s] = s.data.toList := by simp [flat]
theorem tag_one (k s : ByteArray) (hk : k.size ≤ 1000000) (hs : s.size ≤ 1000000) (w : World) (T : TypeId) (ht : Tabs w) :
    Calls Tryz.prog 24 #[.string k, .slice (some ⟨w.heap.size, 0, none⟩) 1 1] (w.alloc (.cells #[.string s] T)) fun e w' => e = .returned (.string ⟨(tagL k.data.toList s.data.toList).toArray⟩) ∧ Below w.heap.size w w' := by
  have := tag22 k hk ⟨w.heap.size, 0, none⟩ 1 [s] (w.alloc (.cells #[.string s] T)) (ht.below (below_alloc _ _)) (strs_new w s T) (by simp) (by rw [flat_one, ← Lib.size_eq]; exact hs)
  rw [flat_one] at this
  exact this.mono fun e w' ⟨he, hb⟩ => ⟨he, (below_alloc w _).trans (hb.mono (by simp))⟩
theorem fits_one (k t s : ByteArray) (hk : k.size ≤ 1000000) (htz : t.size ≤ 1000000) (hs : s.size ≤ 1000000) (w : World) (T : TypeId) (ht : Tabs w) :
    Calls Tryz.prog 21 #[.string k, .string t, .slice (some ⟨w.heap.size, 0, none⟩) 1 1] (w.alloc (.cells #[.string s] T)) fun e w' => e = .returned (.bool (decide (t = ⟨(tagL k.data.toList s.data.toList).toArray⟩))) ∧ Below w.heap.size w w' := by
  have := fits24 k t hk htz ⟨w.heap.size, 0, none⟩ 1 [s] (w.alloc (.cells #[.string s] T)) (ht.below (below_alloc _ _)) (strs_new w s T) (by simp) (by rw [flat_one, ← Lib.size_eq]; exact hs)
  rw [flat_one] at this
  exact this.mono fun e w' ⟨he, hb⟩ => ⟨he, (below_alloc w _).trans (hb.mono (by simp))⟩
end Go.Proofs.YtllmlngfmcbaaaaGreatDoor
