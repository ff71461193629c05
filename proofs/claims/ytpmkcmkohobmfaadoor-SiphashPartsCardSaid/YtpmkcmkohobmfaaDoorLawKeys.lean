/- The walk of the statement SiphashKeys. -/
import Derived.Test.YtpmkcmkohobmfaaDoorLawSums
namespace Go.Proofs.YtpmkcmkohobmfaaDoor
open Go.RowKit

/-- The i-th byte of a string, or zero. -/
def byteI (s : ByteArray) (i : Nat) : Int := ((s.data.toList.getD i 0).toNat : Int)
theorem byteI_in (s : ByteArray) (i : Nat) (h : i < s.size) : (s[i].toNat : Int) = byteI s i := by
  unfold byteI
  have h' : i < s.data.toList.length := by rw [← Lib.size_eq]; exact h
  rw [List.getD_eq_getElem?_getD, List.getElem?_eq_getElem h']
  rfl
theorem byteI_out (s : ByteArray) (i : Nat) (h : s.size ≤ i) : byteI s i = 0 := by
  unfold byteI
  rw [List.getD_eq_getElem?_getD, List.getElem?_eq_none (by rw [← Lib.size_eq]; exact h)]
  rfl

theorem under26 : Tryd.prog.underlying 26 = some (.array 16 5) := by kernel_rfl
theorem size26 (k : Nat → UInt8) : (Tryd.prog.info? 26).map (·.size) = some (keyCells k).length := by
  show _ = some 16
  kernel_rfl

set_option maxHeartbeats 400000 in
theorem law6 (s : ByteArray) (w : World) (hi : Ini w) :
    Calls Tryd.prog 6 #[.string s] w fun e w' => e = .returned (.bool true) ∧ Below w.heap.size w w' := by
  have HA := Lib.hid (awake10 w hi)
  have HI := Lib.hid hi
  clear hi
  go_enter Tryd.func6, Tryd.ntmps6
  go_wp2_with fail
  refine HA.out.mono ?_
  rintro e w1 ⟨rfl, hb1⟩
  have HI1 := Lib.hid (HI.out.below hb1)
  go_wp2_with fail
  refine (cut11 s 40 _).mono ?_
  rintro e w' ⟨rfl, rfl⟩
  have hcs := cutS_size s 40
  generalize cutS s 40 = t at *
  go_wp2_with fail
  refine (key17 t _).mono ?_
  rintro e w2 ⟨rfl, hb2⟩
  have HI2 := Lib.hid (HI1.out.below hb2)
  have hbel2 := hb1.trans (hb2.mono hb1.size)
  clear hb2
  obtain ⟨k, hk⟩ : ∃ k : Nat → UInt8, k = fun i => t.data.toList.getD i 0 := ⟨_, rfl⟩
  have hby : ∀ i, byteI t i = ((k i).toNat : Int) := fun i => by rw [hk]; rfl
  rw [← hk]
  have HB := Lib.hid hby
  clear hk hby
  unfold keyVal
  go_wp2_with fail
  generalize hW : World.alloc w2 _ = W
  have hk : IsKey W w2.heap.size k := by
    subst hW
    intro i hi
    have h16 : i = 0 ∨ i = 1 ∨ i = 2 ∨ i = 3 ∨ i = 4 ∨ i = 5 ∨ i = 6 ∨ i = 7 ∨ i = 8 ∨ i = 9 ∨ i = 10 ∨ i = 11 ∨ i = 12 ∨ i = 13 ∨ i = 14 ∨ i = 15 := by omega
    rcases h16 with rfl | rfl | rfl | rfl | rfl | rfl | rfl | rfl | rfl | rfl | rfl | rfl | rfl | rfl | rfl | rfl <;> simp
  have hz : w2.heap.size < W.heap.size := by subst hW; simp
  have hbW : Below w2.heap.size w2 W := by subst hW; exact (Below.refl _ _).alloc (Nat.le_refl _) _
  have HIW := Lib.hid (HI2.out.below hbW)
  have hbel : Below w.heap.size w W := hbel2.trans (hbW.mono hbel2.size)
  have hBw := hbel2.size
  clear hW hbW hbel2 HI1 HI2 HA HI hb1
  generalize w2.heap.size = B at *
  generalize (Value.agg #[.int .u8 (k 0).toNat, .int .u8 (k 1).toNat, .int .u8 (k 2).toNat, .int .u8 (k 3).toNat, .int .u8 (k 4).toNat, .int .u8 (k 5).toNat, .int .u8 (k 6).toNat, .int .u8 (k 7).toNat, .int .u8 (k 8).toNat, .int .u8 (k 9).toNat, .int .u8 (k 10).toNat, .int .u8 (k 11).toNat, .int .u8 (k 12).toNat, .int .u8 (k 13).toNat, .int .u8 (k 14).toNat, .int .u8 (k 15).toNat]) = kv
  have HK := Lib.hid hk
  clear hk
  go_loop [4, 5, 12] (fun _ _ i => ∃ j : Nat, j ≤ 16 ∧ i = .int .i64 (j : Int)) (fun _ _ i => 16 - (intOf i).toNat)
  case atStart => exact ⟨0, by decide, rfl⟩
  case round =>
    obtain ⟨j, hj, rfl⟩ := hrel
    by_cases hlt : j < 16
    · have cj := HK.out j hlt
      by_cases hjt : j < t.size
      · have hx : (((k j).toNat : Int) != (t[j].toNat : Int)) = false := by rw [byteI_in t j hjt, HB.out]; simp
        go_wp2_with fail
        go_round
        case rel => exact ⟨j + 1, hlt, by go_num⟩
        case measure => simp [intOf]; omega
      · have hx : (((k j).toNat : Int) != 0) = false := by rw [← HB.out, byteI_out t j (by omega)]; rfl
        go_wp2_with fail
        go_round
        case rel => exact ⟨j + 1, hlt, by go_num⟩
        case measure => simp [intOf]; omega
    · obtain rfl : j = 16 := by omega
      have hk1 := HK.out
      have hu26 := under26
      have hs26 := size26 k
      go_wp2_with fail
      go_region_held3 (fun w' => w'.rangeAt B 0 (keyCells k) ∧ (convert 29 9 (.slice (some ⟨B, 0, none⟩) 16 16)).run Tryd.prog w' = .ok (.string ⟨(keyPart k 0 ++ keyPart k 8).toArray⟩) w')
        (first | exact key_facts hk1 | exact key_facts hk1.drew | exact key_facts (hk1.alloc hz _) | exact key_facts (hk1.drew.alloc hz _) | exact key_facts hk2 | exact key_facts hk3 | go_keep)
        (first
          | (go_at_call 12; refine (sum_one_drew k t W _ HIW.out (by omega)).mono ?_; rintro e w3 ⟨rfl, hb2⟩; have hk2 : IsKey w3 B k := hk1.below hb2 hz; have hz2 : B < w3.heap.size := Nat.lt_of_lt_of_le hz hb2.size)
          | (go_at_call 13; refine (ref_sum k t (by omega) _).mono ?_; rintro e w4 ⟨rfl, hb3⟩; have hk3 : IsKey w4 B k := hk2.below hb3 hz2))
      have hbe : Below w.heap.size w w4 := (hbel.trans (hb2.mono (Nat.le_trans hBw (Nat.le_of_lt hz)))).trans (hb3.mono (Nat.le_trans hBw (Nat.le_of_lt hz2)))
      generalize sip k t.data.toList = v at *
      clear hu26 hs26 hk1 hk2 hk3
      go_wp2_with fail
      go_ret
      exact ⟨rfl, hbe⟩
end Go.Proofs.YtpmkcmkohobmfaaDoor
