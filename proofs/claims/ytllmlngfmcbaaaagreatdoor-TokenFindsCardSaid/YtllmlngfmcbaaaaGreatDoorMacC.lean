/- mac: masked. -/
import Derived.Test.YtllmlngfmcbaaaaGreatDoorMacB
namespace Go.Proofs.YtllmlngfmcbaaaaGreatDoor
open Go.RowKit Go.Lib

theorem mask_str (k : List UInt8) (m : UInt8) : strOfNums ((List.range 64).map fun j => bits .xor .u8 (byteAt (keyB k) j) (m.toNat : Int)) = ⟨(maskL k m).toArray⟩ := by
  unfold strOfNums maskL pad64
  rw [List.map_map, List.map_map]
  congr 2
  apply List.map_congr_left
  intro j _
  simp only [Function.comp]
  unfold byteAt
  rw [u8_xor]
  simp

set_option maxHeartbeats 1000000 in
theorem masked35 (f : Nat → Int) (m : Int) (w : World) :
    Calls Tryz.prog 50 #[.agg (bytesCells 64 f).toArray, .int .u8 m] w fun e w' => e = .returned (.string (strOfNums ((List.range 64).map fun j => bits .xor .u8 (f j) m))) ∧ Below w.heap.size w w' := by
  have hmade := bytes_made w 64 f 68
  have HM := Lib.hid hmade
  have L0 := below_alloc w (.cells (bytesCells 64 f).toArray 68)
  clear hmade
  generalize hcs : bytesCells 64 f = cs at *
  clear hcs
  go_enter Tryz.func50, Tryz.ntmps50
  go_wp2_with fail
  generalize World.alloc w _ = w0 at *
  go_loopw [5, 6] (fun _ i wr => ∃ j : Nat, j ≤ 64 ∧ i = .int .i64 (j : Int) ∧ Hid (Bytes 64 wr w.heap.size (fun i => if i < j then bits .xor .u8 (f i) m else f i)) ∧ Below w.heap.size w wr)
    (fun _ i _ => 64 - (RowKit.intOf i).toNat)
  case atStart => exact ⟨0, by decide, rfl, HM.out.congr (fun i _ => rfl), L0⟩
  case round =>
    clear HM L0
    obtain ⟨j, hj, rfl, O, hb⟩ := hrel
    by_cases hlt : j < 64
    · have oj : wr.cell? ⟨w.heap.size, j, none⟩ = some (.int .u8 (f j)) := by have := (O.out j hlt).1; simpa using this
      have zj := (O.out j hlt).2
      have j1 : (j : Int) < 64 := by omega
      go_wp2_with fail
      have hon : Only w.heap.size wr (wr.setCell ⟨w.heap.size, j, none⟩ (.int .u8 (bits .xor .u8 (f j) m))) := (Only.refl _ _).put j _
      go_roundw
      case rel =>
        refine ⟨j + 1, hlt, by go_num, (O.out.put j _).congr (fun i _ => ?_), hon.below hb (Nat.le_refl _)⟩
        unfold upd
        by_cases e : i = j
        · subst e; rw [if_pos rfl, if_pos (by omega)]
        · rw [if_neg e]
          show (if i < j then bits .xor .u8 (f i) m else f i) = _
          by_cases h1 : i < j
          · rw [if_pos h1, if_pos (by omega)]
          · rw [if_neg h1, if_neg (by omega)]
      case measure => simp [RowKit.intOf]; omega
    · obtain rfl : j = 64 := by omega
      have hO : Bytes 64 wr w.heap.size (fun i => bits .xor .u8 (f i) m) := O.out.congr (fun i hi => if_pos hi)
      have hcv := bytes_string hO 64
      clear hO O
      go_wp2_with fail
      go_ret
      exact ⟨rfl, hb⟩
theorem masked_key (k : List UInt8) (m : UInt8) (mi : Int) (hm : mi = (m.toNat : Int)) (w : World) :
    Calls Tryz.prog 50 #[.agg (bytesCells 64 (byteAt (keyB k))).toArray, .int .u8 mi] w fun e w' => e = .returned (.string ⟨(maskL k m).toArray⟩) ∧ Below w.heap.size w w' := by
  subst hm
  refine (masked35 (byteAt (keyB k)) _ w).mono fun e w' ⟨he, hb⟩ => ⟨by rw [he, mask_str], hb⟩
end Go.Proofs.YtllmlngfmcbaaaaGreatDoor
