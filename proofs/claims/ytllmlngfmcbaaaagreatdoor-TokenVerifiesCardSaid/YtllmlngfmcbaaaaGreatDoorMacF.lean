/- mac, the reference: Hex, pad, Sum, Tag. -/
import Derived.Test.YtllmlngfmcbaaaaGreatDoorMacE
namespace Go.Proofs.YtllmlngfmcbaaaaGreatDoor
open Go.RowKit Go.Lib

set_option maxRecDepth 100000 in
set_option maxHeartbeats 1000000 in
theorem rhex18 (s : ByteArray) (hs : s.size ≤ 1048576) (w : World) :
    Calls Tryz.prog 39 #[.string s] w fun e w' => e = .returned (.string ⟨(hexL s.data.toList).toArray⟩) ∧ Below w.heap.size w w' := by
  go_enter Tryz.func39, Tryz.ntmps39
  go_wp2_with fail
  go_loopw [4, 5] (fun v i wr => ∃ (k : Nat) (z : ByteArray), k ≤ s.size ∧ i = .int .i64 (k : Int) ∧ v = .string z ∧ Hid (z.data.toList = hexL (s.data.toList.take k)) ∧ Below w.heap.size w wr)
    (fun _ i _ => s.size - (RowKit.intOf i).toNat)
  case atStart => exact ⟨0, ⟨#[]⟩, by omega, rfl, rfl, rfl, Below.refl _ _⟩
  case round =>
    obtain ⟨k, z, hk, rfl, rfl, hz, hb⟩ := hrel
    by_cases hlt : k < s.size
    · obtain ⟨c, hc⟩ : ∃ c, c = s[k] := ⟨_, rfl⟩
      have hsn : hexL (s.data.toList.take (k + 1)) = hexL (s.data.toList.take k) ++ [hd (c.toNat / 16), hd (c.toNat % 16)] := by
        rw [take_snoc' s k hlt, hexL_app, hc]; rfl
      have hzs : z.size ≤ 2097152 := by rw [Lib.size_eq, hz.out, hexL_length, List.length_take]; omega
      have HSN := Lib.hid hsn
      have hcl := c.toNat_lt
      have j1 : (k : Int) < s.size := by omega
      have j2 : decide ((k : Int) < s.size) = true := by simp; omega
      have hcI : (s[k].toNat : Int) = (c.toNat : Int) := by rw [hc]
      have HCI := Lib.hid hcI
      have e1 := index_digit ((c.toNat : Int) / 16) (by omega) (by omega)
      have e2 := index_digit ((c.toNat : Int) % 16) (by omega) (by omega)
      rw [show ((c.toNat : Int) / 16).toNat = c.toNat / 16 by omega] at e1
      rw [show ((c.toNat : Int) % 16).toNat = c.toNat % 16 by omega] at e2
      have E1 := Lib.hid e1
      have E2 := Lib.hid e2
      have hss : (strOfNums [((hd (c.toNat / 16)).toNat : Int), ((hd (c.toNat % 16)).toNat : Int)]).size ≤ 2 := by rw [strOfNums_size]; simp
      have hq : IntKind.u8.wrap (Int.tdiv (c.toNat : Int) 16) = (c.toNat : Int) / 16 := by rw [Int.tdiv_eq_ediv_of_nonneg (by omega), IntKind.wrap_u8']; omega
      have hr : IntKind.u8.wrap (Int.tmod (c.toNat : Int) 16) = (c.toNat : Int) % 16 := by rw [Int.tmod_eq_emod_of_nonneg (by omega), IntKind.wrap_u8']; omega
      have ht : Int.tdiv (c.toNat : Int) 16 = (c.toNat : Int) / 16 := Int.tdiv_eq_ediv_of_nonneg (by omega)
      have ht2 : Int.tmod (c.toNat : Int) 16 = (c.toNat : Int) % 16 := Int.tmod_eq_emod_of_nonneg (by omega)
      have hwq : IntKind.u8.wrap ((c.toNat : Int) / 16) = (c.toNat : Int) / 16 := by rw [IntKind.wrap_u8']; omega
      have HWQ := Lib.hid hwq
      have HQ := Lib.hid ht
      have hsum : ¬ (z.size + (strOfNums [((hd (c.toNat / 16)).toNat : Int), ((hd (c.toNat % 16)).toNat : Int)]).size > 9223372036854775807) := by omega
      have HSUM := Lib.hid hsum
      have HR := Lib.hid ht2
      clear hsn hc hcI e1 e2 hq hr ht ht2 hwq hsum
      go_wp2_with fail
      refine region_mixt 16 [some (.string z), some (.string ⟨#[48, 49, 50, 51, 52, 53, 54, 55, 56, 57, 97, 98, 99, 100, 101, 102]⟩), some (.string s), some (.int .i64 (k : Int)), some (.int .u8 (c.toNat : Int)), some (.int .u8 ((c.toNat : Int) / 16)), some (.int .u8 ((hd (c.toNat / 16)).toNat : Int)), some (.string ⟨#[48, 49, 50, 51, 52, 53, 54, 55, 56, 57, 97, 98, 99, 100, 101, 102]⟩), some (.string s), some (.int .i64 (k : Int)), some (.int .u8 (c.toNat : Int)), some (.int .u8 ((c.toNat : Int) % 16)), some (.int .u8 ((hd (c.toNat % 16)).toNat : Int)), none, some (.string (strOfNums [((hd (c.toNat / 16)).toNat : Int), ((hd (c.toNat % 16)).toNat : Int)])), some (.string (z ++ (strOfNums [((hd (c.toNat / 16)).toNat : Int), ((hd (c.toNat % 16)).toNat : Int)])))]
        [[false, false, false, false, false, false, false, false, false, false, false, false, false, false, false, false], [false, false, false, false, false, false, false, false, false, false, false, false, false, false, false, false], [false, false, false, false, false, false, false, false, false, false, false, false, false, false, false, false], [false, false, false, false, false, false, false, false, false, false, false, false, false, false, false, false], [false, false, true, true, false, false, false, false, false, false, false, false, false, false, false, false], [false, false, false, false, true, false, false, false, false, false, false, false, false, false, false, false], [false, true, false, false, false, true, false, false, false, false, false, false, false, false, false, false], [false, false, false, false, false, false, false, false, false, false, false, false, false, false, false, false], [false, false, false, false, false, false, false, false, false, false, false, false, false, false, false, false], [false, false, false, false, false, false, false, false, false, false, false, false, false, false, false, false], [false, false, false, false, false, false, false, false, true, true, false, false, false, false, false, false], [false, false, false, false, false, false, false, false, false, false, true, false, false, false, false, false], [false, false, false, false, false, false, false, true, false, false, false, true, false, false, false, false], [false, false, false, false, false, false, true, false, false, false, false, false, true, false, false, false], [false, false, false, false, false, false, false, false, false, false, false, false, false, true, false, false], [true, false, false, false, false, false, false, false, false, false, false, false, false, false, true, false]]
        (fun L x w1 => Below w.heap.size w w1 ∧ (L 13 = true → ∃ b, x 13 = .slice (some ⟨b, 0, none⟩) 2 2 ∧ w1.cell? ⟨b, 0, none⟩ = some (.int .u8 ((hd (c.toNat / 16)).toNat : Int)) ∧ w1.cell? ⟨b, 1, none⟩ = some (.int .u8 ((hd (c.toNat % 16)).toNat : Int))))
        (by kernel_rfl) (by kernel_rfl) (by kernel_rfl) (by kernel_rfl) (by kernel_rfl) (by decide) ?_ ?_ ?_
      · intro _
        exact ⟨hb.drew, fun h => (by cases h)⟩
      · simp only [List.take_succ_cons, List.take_zero]
        refine ⟨?_, ?_, ?_, ?_, ?_, ?_, ?_, ?_, ?_, ?_, ?_, ?_, ?_, ?_, ?_, ?_, trivial⟩
        all_goals
          intro L x w9 hS hl hp K hK
          have c1 := hS.1
          have c2 := hS.2
          clear hS hb
          replace hK := hK.out
          simp only [actMix, pickV, List.tail_cons, List.headD_cons, Act.put, List.setIfInBounds_toArray, List.set_cons_zero, List.set_cons_succ] at hK ⊢
        iterate 4
          · clear hp
            go_simp
            with_reducible refine hK _ ?_
            exact ⟨c1, fun h => (by simpa [updV] using c2 (by simpa [setL] using h))⟩
        · clear hp
          have hcI := HCI.out
          go_simp
          with_reducible refine hK _ ?_
          exact ⟨c1, fun h => (by simpa [updV] using c2 (by simpa [setL] using h))⟩
        · clear hp
          have hq := HQ.out
          have hwq := HWQ.out
          go_simp
          with_reducible refine hK _ ?_
          exact ⟨c1, fun h => (by simpa [updV] using c2 (by simpa [setL] using h))⟩
        · clear hp
          have e1 := E1.out
          go_simp
          with_reducible refine hK _ ?_
          exact ⟨c1, fun h => (by simpa [updV] using c2 (by simpa [setL] using h))⟩
        iterate 3
          · clear hp
            go_simp
            with_reducible refine hK _ ?_
            exact ⟨c1, fun h => (by simpa [updV] using c2 (by simpa [setL] using h))⟩
        · clear hp
          have hcI := HCI.out
          go_simp
          with_reducible refine hK _ ?_
          exact ⟨c1, fun h => (by simpa [updV] using c2 (by simpa [setL] using h))⟩
        · clear hp
          have hr := HR.out
          go_simp
          with_reducible refine hK _ ?_
          exact ⟨c1, fun h => (by simpa [updV] using c2 (by simpa [setL] using h))⟩
        · clear hp
          have e2 := E2.out
          go_simp
          with_reducible refine hK _ ?_
          exact ⟨c1, fun h => (by simpa [updV] using c2 (by simpa [setL] using h))⟩
        · clear hp c2
          have hs9 := c1.size
          go_simp
          with_reducible refine hK _ _ ?_
          exact ⟨c1.alloc hs9 _, fun _ => ⟨w9.heap.size, by simp [updV], by simp, by simp⟩⟩
        · have h13 : L 13 = true := allL_mem hp 13 (by decide +kernel)
          obtain ⟨b9, hx9, hc9, hd9⟩ := c2 h13
          clear hp c2
          rw [hx9] at hK ⊢
          have hcv := run_convert_bytes_arg (P := Tryz.prog) w9 62 5 Tryz.underlying62 Tryz.underlying5 b9 0 2 2 [((hd (c.toNat / 16)).toNat : Int), ((hd (c.toNat % 16)).toNat : Int)] rfl (fun i hi => by
            match i, hi with
            | 0, _ => exact hc9
            | 1, _ => exact hd9) 9 Tryz.underlying9
          go_simp
          with_reducible refine hK _ ?_
          exact ⟨c1, fun _ => ⟨b9, by simpa [updV] using hx9, hc9, hd9⟩⟩
        · clear hp
          have hsum := HSUM.out
          go_simp
          with_reducible refine hK _ ?_
          exact ⟨c1, fun h => (by simpa [updV] using c2 (by simpa [setL] using h))⟩
      intro L x w9 hS hL
      have hb1 := hS.1
      clear hS hL hb
      simp only [actMix, pickV, List.tail_cons, List.headD_cons, Act.put, List.setIfInBounds_toArray, List.set_cons_zero, List.set_cons_succ, List.replicate_succ, List.replicate_zero, List.drop_succ_cons, List.drop_zero, List.take_succ_cons, List.take_zero]
      go_wp2_with fail
      go_roundw
      case rel =>
        refine ⟨k + 1, z ++ strOfNums [((hd (c.toNat / 16)).toNat : Int), ((hd (c.toNat % 16)).toNat : Int)], by omega, by go_num, rfl, ?_, hb1⟩
        show (z ++ strOfNums _ : ByteArray).data.toList = _
        rw [HSN.out, ← hz.out]
        simp [strOfNums]
      case measure => simp [RowKit.intOf]; omega
    · obtain rfl : k = s.size := by omega
      have hfull : s.data.toList.take s.size = s.data.toList := List.take_of_length_le (by rw [Lib.size_eq]; exact Nat.le_refl _)
      rw [hfull] at hz
      have hzz : Ending.returned (.string z) = .returned (.string ⟨(hexL s.data.toList).toArray⟩) := by
        have : z = ⟨(hexL s.data.toList).toArray⟩ := by
          apply ByteArray.ext
          apply Array.toList_inj.1
          rw [hz.out]
        rw [this]
      have HZZ := Lib.hid hzz
      clear hzz hz hfull
      go_wp2_with fail
      go_ret
      exact ⟨HZZ.out, hb⟩
end Go.Proofs.YtllmlngfmcbaaaaGreatDoor
