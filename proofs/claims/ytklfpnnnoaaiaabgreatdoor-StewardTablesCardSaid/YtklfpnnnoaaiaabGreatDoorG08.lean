/- prime: Row (as PqE, beside maglev's texts). -/
import Derived.Test.YtklfpnnnoaaiaabGreatDoorG05
import Derived.Test.YtklfpnnnoaaiaabGreatDoorG06
namespace Go.Proofs.YtklfpnnnoaaiaabGreatDoor
open Go.RowKit

/-- A row, filled up to a place. -/
def fillR (m f s j : Nat) : List Nat := (List.range m).map fun i => if i < j then (f + i * s) % m else 0
theorem fillR_len (m f s j : Nat) : (fillR m f s j).length = m := by simp [fillR]
theorem fillR_zero (m f s : Nat) : fillR m f s 0 = List.replicate m 0 := by
  apply List.ext_getElem
  · simp [fillR]
  · intro i h1 h2; simp [fillR]
theorem fillR_all (m f s : Nat) : fillR m f s m = rowL m f s := by
  apply List.ext_getElem
  · simp [fillR, rowL]
  · intro i h1 h2
    have hi : i < m := by simpa [fillR] using h1
    simp [fillR, rowL, hi]
theorem fillR_set (m f s j : Nat) : (fillR m f s j).set j ((f + j * s) % m) = fillR m f s (j + 1) := by
  apply List.ext_getElem
  · simp [fillR]
  · intro i h1 h2
    rw [List.getElem_set]
    by_cases e : j = i
    · subst e; rw [if_pos rfl]; simp [fillR]
    · rw [if_neg e]
      have : i < j ↔ i < j + 1 := by omega
      simp only [fillR, List.getElem_map, List.getElem_range, this]
theorem rowL_take (m f s j : Nat) (hj : j < m) : (rowL m f s).take j ++ [(f + j * s) % m] = (rowL m f s).take (j + 1) := by
  have h : j < (rowL m f s).length := by rw [rowL_len]; exact hj
  rw [List.take_succ_eq_append_getElem h]
  congr 2
  simp [rowL]
theorem cellsN_replicate (n : Nat) : List.replicate n (Value.int .i64 0) = cellsN (List.replicate n 0) := by simp [cellsN]
def NumsPost (w : World) (n : Nat) (xs : List Nat) (e : Ending) (w' : World) : Prop := ∃ q c, e = .returned (.slice q n c) ∧ IsNums w' q xs ∧ Below w.heap.size w w'
theorem row12_no (m a b : Int) (h : m < 1) (w : World) :
    Calls Tryz.prog 8 #[.int .i64 m, .int .i64 a, .int .i64 b] w fun e w' => e = .returned (.slice none 0 0) ∧ w' = w := by
  go_enter Tryz.func8, Tryz.ntmps8
  go_wp2_with fail
  go_ret
  exact ⟨rfl, rfl⟩
set_option maxRecDepth 100000 in
set_option maxHeartbeats 2000000 in
theorem row12 (m F S : Nat) (a b : Int) (hm1 : 1 ≤ m) (hm : m ≤ 300) (ha : a % m = F) (hb : b % m = S) (w : World) :
    Calls Tryz.prog 8 #[.int .i64 (m : Int), .int .i64 a, .int .i64 b] w (NumsPost w m (rowL m F S)) := by
  obtain ⟨i0, hi, hz0, hz1, hz2⟩ := info_parts infoInt
  have hmin : min (m : Int) 1048576 = m := by omega
  have HMA := Lib.hid (mod21 a m (by omega) (by omega))
  have HMB := Lib.hid (mod21 b m (by omega) (by omega))
  rw [ha] at HMA
  rw [hb] at HMB
  have hS := Int.emod_lt_of_pos b (b := (m : Int)) (by omega)
  have hF := Int.emod_lt_of_pos a (b := (m : Int)) (by omega)
  rw [hb] at hS
  rw [ha] at hF
  clear ha hb
  go_enter Tryz.func8, Tryz.ntmps8
  go_wp2_with fail
  refine (HMA.out _).mono ?_
  rintro e w' ⟨rfl, rfl⟩
  go_wp2_with fail
  refine (HMB.out _).mono ?_
  rintro e w' ⟨rfl, rfl⟩
  obtain ⟨ww, rfl⟩ : ∃ ww, ww = w' := ⟨_, rfl⟩
  go_wp2_with (at_make; refine wpList_make_full _ rfl _ _ 30 rfl ww.heap.size 3 i0 (.int .i64 0) 1 Tryz.underlying30 hi hz0 hz1 _ _ _ _ m rfl rfl rfl rfl (by rw [hz2]; omega) (by unfold maxLen; omega) (Nat.le_refl _) ?_)
  intro w1 hown1 hg1
  have hB1 : Below ww.heap.size ww w1 := (Below.refl _ _).grown hg1 (Nat.le_refl _) (fun k hk => by cases hk)
  rw [toList_madeCells_one, cellsN_replicate, ← fillR_zero m F S] at hown1
  obtain ⟨rb, hrb⟩ : ∃ rb, rb = ww.heap.size := ⟨_, rfl⟩
  have HRB : Hid (rb = ww.heap.size) := hrb
  have HO1 := Lib.hid hown1
  have HB1 := Lib.hid hB1
  clear hown1 hg1 hB1 HMA HMB
  rw [← hrb] at HO1 ⊢
  clear hrb
  go_wp2_with fail
  go_loopw [7, 9, 24] (fun p _ i wr => ∃ j : Nat, j ≤ m ∧ i = .int .i64 (j : Int) ∧ p = .int .i64 (((F + j * S) % m : Nat) : Int) ∧ Hid (wr.ownsRow rb 3 1 (.slice (some ⟨rb, 0, none⟩) m m) m (cellsN (fillR m F S j))) ∧ Hid (Below ww.heap.size ww wr)) (fun _ _ i _ => m - (intOf i).toNat)
  case atStart => exact ⟨0, Nat.zero_le _, rfl, by rw [Nat.zero_mul, Nat.add_zero, Nat.mod_eq_of_lt (by omega)], HO1, HB1⟩
  case round =>
    clear HO1 HB1
    obtain ⟨j, hj, rfl, rfl, HO, HB⟩ := hrel
    by_cases hlt : j < m
    · have c2 := HO.out.cellAt j (by omega)
      have hcl : ∃ z : Nat, (cellsN (fillR m F S j))[j]? = some (.int .i64 (z : Int)) := ⟨_, cellsN_at _ j (by rw [fillR_len]; exact hlt)⟩
      obtain ⟨z, hz⟩ := hcl
      rw [hz] at c2
      have f2 := HO.out.frozenAt j
      have hO2 := (HO.out.stored j (.int .i64 (((F + j * S) % m : Nat) : Int))).1
      rw [cellsN_set, fillR_set m F S j] at hO2
      have HO2 := Lib.hid hO2
      have HB2 : Hid (Below ww.heap.size ww (wr.setCell ⟨rb, j, none⟩ (.int .i64 (((F + j * S) % m : Nat) : Int)))) := HB.out.setCell (p := ⟨rb, j, none⟩) (by rw [HRB.out]; exact Nat.le_refl _) _
      have hn := row_next m F S j
      have hpl := Nat.mod_lt (F + j * S) (show 0 < m by omega)
      have j1 : (j : Int) < m := by omega
      have hzm : ¬ (m : Int) = 0 := by omega
      clear hO2 hz HO HB
      generalize (F + j * S) % m = P at *
      have ht := tmodN (P + S) m
      have hcast : ((P + S : Nat) : Int) = (P : Int) + S := by omega
      rw [hcast] at ht
      have HQ := Lib.hid hn
      clear hn hcast
      generalize (P + S) % m = Q at *
      go_wp2_with fail
      go_roundw
      case rel => exact ⟨j + 1, hlt, by go_num, by rw [← HQ.out], HO2, HB2⟩
      case measure => simp [intOf]; omega
    · obtain rfl : m = j := by omega
      have hO := HO.out
      rw [fillR_all] at hO
      have HN := Lib.hid (nums_own hO)
      have hne : ¬ (m : Int) < m := by omega
      clear hO HO
      go_wp2_with fail
      go_ret
      exact ⟨some ⟨rb, 0, none⟩, m, rfl, HN.out, HB.out⟩
end Go.Proofs.YtklfpnnnoaaiaabGreatDoor

