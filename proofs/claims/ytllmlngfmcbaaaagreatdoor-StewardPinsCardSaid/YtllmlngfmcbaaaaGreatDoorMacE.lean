/- mac: Tag and Fits. -/
import Derived.Test.YtllmlngfmcbaaaaGreatDoorMacD
namespace Go.Proofs.YtllmlngfmcbaaaaGreatDoor
open Go.RowKit

theorem hash_half (l : List UInt8) : strOfNums ((List.range 16).map (blakeB l)) = ⟨((blakeL l).take 16).toArray⟩ := by
  unfold strOfNums blakeL
  rw [List.map_map, ← List.map_take, List.take_range]
  rfl
theorem tagL_length (k l : List UInt8) : (tagL k l).length = 32 := by
  unfold tagL
  rw [hexL_length, List.length_take, blakeL_length]
  rfl

set_option maxHeartbeats 400000 in
theorem tag22 (k : ByteArray) (hk : k.size ≤ 1000000) (ad : Addr) (c : Nat) (xs : List ByteArray) (w : World) (ht : Tabs w) (hx : IsStrs w (some ad) c xs) (hn : xs.length ≤ 1000) (hl : (flat xs).length ≤ 1000000) :
    Calls Tryz.prog 24 #[.string k, .slice (some ad) xs.length c] w fun e w' => e = .returned (.string ⟨(tagL k.data.toList (flat xs)).toArray⟩) ∧ Below w.heap.size w w' := by
  have hs := msum20 k hk ad c xs w ht hx hn hl
  have HS := Lib.hid hs
  clear hs ht hx
  go_enter Tryz.func24, Tryz.ntmps24
  go_wp2_with fail
  refine HS.out.mono ?_
  rintro e w1 ⟨rfl, hb1⟩
  obtain ⟨lo, hlo⟩ : ∃ lo, lo = macOut k.data.toList (flat xs) := ⟨_, rfl⟩
  rw [← hlo]
  have htg : tagL k.data.toList (flat xs) = hexL ((blakeL lo).take 16) := by rw [hlo]; rfl
  have HTG := Lib.hid htg
  clear hlo htg HS
  obtain ⟨hk1, hkb1, hkz1⟩ := hash_kept w1 lo 60 #[.int .u8 0, .int .u8 0, .int .u8 0, .int .u8 0, .int .u8 0, .int .u8 0, .int .u8 0, .int .u8 0, .int .u8 0, .int .u8 0, .int .u8 0, .int .u8 0, .int .u8 0, .int .u8 0, .int .u8 0, .int .u8 0, .int .u8 0, .int .u8 0, .int .u8 0, .int .u8 0, .int .u8 0, .int .u8 0, .int .u8 0, .int .u8 0, .int .u8 0, .int .u8 0, .int .u8 0, .int .u8 0, .int .u8 0, .int .u8 0, .int .u8 0, .int .u8 0] rfl
  have hk16 : Bytes 16 ((w1.alloc (.cells #[.int .u8 0, .int .u8 0, .int .u8 0, .int .u8 0, .int .u8 0, .int .u8 0, .int .u8 0, .int .u8 0, .int .u8 0, .int .u8 0, .int .u8 0, .int .u8 0, .int .u8 0, .int .u8 0, .int .u8 0, .int .u8 0, .int .u8 0, .int .u8 0, .int .u8 0, .int .u8 0, .int .u8 0, .int .u8 0, .int .u8 0, .int .u8 0, .int .u8 0, .int .u8 0, .int .u8 0, .int .u8 0, .int .u8 0, .int .u8 0, .int .u8 0, .int .u8 0] 60)).setCells w1.heap.size 0 (bytesCells 32 (blakeB lo))) w1.heap.size (blakeB lo) := fun i hi => hk1 i (by omega)
  have hcv := bytes_string hk16 32
  rw [hash_half] at hcv
  have hth := hash_there w1 lo 60 #[.int .u8 0, .int .u8 0, .int .u8 0, .int .u8 0, .int .u8 0, .int .u8 0, .int .u8 0, .int .u8 0, .int .u8 0, .int .u8 0, .int .u8 0, .int .u8 0, .int .u8 0, .int .u8 0, .int .u8 0, .int .u8 0, .int .u8 0, .int .u8 0, .int .u8 0, .int .u8 0, .int .u8 0, .int .u8 0, .int .u8 0, .int .u8 0, .int .u8 0, .int .u8 0, .int .u8 0, .int .u8 0, .int .u8 0, .int .u8 0, .int .u8 0, .int .u8 0] rfl
  have hs2 := size32 (blakeB lo)
  have hone := bytesCells_one 32 (blakeB lo)
  have hbel : Below w.heap.size w ((w1.alloc (.cells #[.int .u8 0, .int .u8 0, .int .u8 0, .int .u8 0, .int .u8 0, .int .u8 0, .int .u8 0, .int .u8 0, .int .u8 0, .int .u8 0, .int .u8 0, .int .u8 0, .int .u8 0, .int .u8 0, .int .u8 0, .int .u8 0, .int .u8 0, .int .u8 0, .int .u8 0, .int .u8 0, .int .u8 0, .int .u8 0, .int .u8 0, .int .u8 0, .int .u8 0, .int .u8 0, .int .u8 0, .int .u8 0, .int .u8 0, .int .u8 0, .int .u8 0, .int .u8 0] 60)).setCells w1.heap.size 0 (bytesCells 32 (blakeB lo))) := hb1.trans (hkb1.mono hb1.size)
  have HBEL := Lib.hid hbel
  have hhx := fun W => hex15 ⟨((blakeL lo).take 16).toArray⟩ (by show ((blakeL lo).take 16).toArray.size ≤ _; rw [List.size_toArray, List.length_take]; omega) W
  have HHX := Lib.hid hhx
  clear hk1 hkb1 hkz1 hk16 hbel hb1 hhx
  generalize bytesCells 32 (blakeB lo) = cs at *
  go_wp2_with (refine wpList_store_row rfl 60 _ _ rfl _ cs.toArray rfl rfl hth hs2 hone ?_)
  refine (HHX.out _).mono ?_
  rintro e w2 ⟨rfl, hb2⟩
  have hfin := HBEL.out.trans (hb2.mono HBEL.out.size)
  clear hcv hth hs2 hone HBEL HHX hb2
  go_wp2_with fail
  go_ret
  exact ⟨by rw [HTG.out]; rfl, hfin⟩

set_option maxHeartbeats 400000 in
theorem fits24 (k t : ByteArray) (hk : k.size ≤ 1000000) (htz : t.size ≤ 1000000) (ad : Addr) (c : Nat) (xs : List ByteArray) (w : World) (ht : Tabs w) (hx : IsStrs w (some ad) c xs) (hn : xs.length ≤ 1000) (hl : (flat xs).length ≤ 1000000) :
    Calls Tryz.prog 21 #[.string k, .string t, .slice (some ad) xs.length c] w fun e w' => e = .returned (.bool (decide (t = ⟨(tagL k.data.toList (flat xs)).toArray⟩))) ∧ Below w.heap.size w w' := by
  have hs := tag22 k hk ad c xs w ht hx hn hl
  have HS := Lib.hid hs
  clear hs ht hx
  obtain ⟨g, hg⟩ : ∃ g : ByteArray, g = ⟨(tagL k.data.toList (flat xs)).toArray⟩ := ⟨_, rfl⟩
  have hgz : g.size ≤ 9223372036854775807 := by
    rw [hg]
    show (tagL k.data.toList (flat xs)).toArray.size ≤ _
    rw [List.size_toArray, tagL_length]; decide
  have HG := Lib.hid hg
  rw [← hg] at HS
  clear hg
  go_enter Tryz.func21, Tryz.ntmps21
  go_wp2_with fail
  refine HS.out.mono ?_
  rintro e w1 ⟨rfl, hb1⟩
  clear HS
  go_wp2_with (go_at_call 20; refine (same25 t g (by omega) hgz _).mono ?_; rintro e w' ⟨rfl, rfl⟩)
  go_ret
  exact ⟨by rw [HG.out]; rfl, hb1⟩
end Go.Proofs.YtllmlngfmcbaaaaGreatDoor
