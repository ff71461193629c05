/- Unhex of the reference. -/
import Derived.Test.YtfelkdghjbecpaaDoorHexB
namespace Go.Proofs.YtfelkdghjbecpaaDoor
open Go.RowKit

theorem unhexP_cut (l z : List UInt8) (j : Nat) (h : unhexP l = (unhexP (l.drop (2 * j))).map (z ++ ·)) (hl : 2 * j + 1 < l.length)
    (h1 : 0 ≤ digI (l.getD (2 * j) 0)) (h2 : 0 ≤ digI (l.getD (2 * j + 1) 0)) :
    unhexP l = (unhexP (l.drop (2 * (j + 1)))).map ((z ++ [UInt8.ofNat (16 * digI (l.getD (2 * j) 0) + digI (l.getD (2 * j + 1) 0)).toNat]) ++ ·) := by
  rw [h, drop_two l j hl, unhexP, if_pos ⟨h1, h2⟩, Option.map_map]
  congr 1
  funext y
  simp [Function.comp]

set_option maxRecDepth 100000 in
set_option maxHeartbeats 1000000 in
theorem runhex17 (s : ByteArray) (hs : s.size ≤ 1048576) (w : World) :
    Calls Tryd.prog 17 #[.string s] w fun e w' => e = .returned (unhexV s.data.toList) ∧ Below w.heap.size w w' := by
  go_enter Tryd.func17, Tryd.ntmps17
  go_wp2_with fail
  go_loopw [4, 5] (fun v i wr => ∃ (j : Nat) (z : ByteArray), 2 * j ≤ s.size ∧ z.size = j ∧ i = .int .i64 (2 * (j : Int)) ∧ v = .string z ∧ Hid (unhexP s.data.toList = (unhexP (s.data.toList.drop (2 * j))).map (z.data.toList ++ ·)) ∧ Below w.heap.size w wr)
    (fun _ i _ => s.size - (RowKit.intOf i).toNat)
  case atStart => exact ⟨0, ⟨#[]⟩, by omega, rfl, rfl, rfl, Lib.hid (by simp), Below.refl _ _⟩
  case round =>
    obtain ⟨j, z, hj, hz, rfl, rfl, hr, hb⟩ := hrel
    by_cases hlt : 2 * j < s.size
    · by_cases hodd : 2 * j + 1 = s.size
      · have hv : unhexV s.data.toList = .tuple #[.string ⟨#[]⟩, .bool false] := by unfold unhexV; rw [unhexP_odd _ (by rw [← Lib.size_eq]; omega)]
        have HV := Lib.hid hv
        have j1 : (2 * (j : Int)) < s.size := by omega
        have j2 : (2 * (j : Int)) = s.size - 1 := by omega
        clear hv
        go_wp2_with fail
        go_ret2
        exact ⟨by rw [HV.out]; rfl, hb⟩
      · have hll : 2 * j + 1 < s.data.toList.length := by rw [← Lib.size_eq]; omega
        obtain ⟨a, ha⟩ : ∃ a, a = s.data.toList.getD (2 * j) 0 := ⟨_, rfl⟩
        obtain ⟨b, hbb⟩ : ∃ b, b = s.data.toList.getD (2 * j + 1) 0 := ⟨_, rfl⟩
        have ha2 : ((s[2 * j]'(by omega)).toNat : Int) = (a.toNat : Int) := by rw [ha, getD_byte s _ (by omega)]
        have hb2 : ((s[2 * j + 1]'(by omega)).toNat : Int) = (b.toNat : Int) := by rw [hbb, getD_byte s _ (by omega)]
        have hda := digI_bd a
        have hdb := digI_bd b
        have k1 : (2 * (j : Int)) < s.size := by omega
        have k2 : (2 * (j : Int) + 1) < s.size := by omega
        have k3 : (0 : Int) ≤ 2 * (j : Int) := by omega
        have k4 : (2 * (j : Int)).toNat = 2 * j := by omega
        have k5 : (2 * (j : Int) + 1).toNat = 2 * j + 1 := by omega
        have k6 : ¬ (2 * (j : Int)) = s.size - 1 := by omega
        have HA := Lib.hid ha
        have HB := Lib.hid hbb
        clear ha hbb
        by_cases hok : 0 ≤ digI a ∧ 0 ≤ digI b
        · have hst := unhexP_cut s.data.toList z.data.toList j hr.out hll (by rw [← HA.out]; exact hok.1) (by rw [← HB.out]; exact hok.2)
          rw [← HA.out, ← HB.out] at hst
          have HST := Lib.hid hst
          have hw16 : IntKind.i64.wrap (16 * digI a) = 16 * digI a := IntWalk.i64_in _ (by omega)
          have hws : IntKind.i64.wrap (16 * digI a + digI b) = 16 * digI a + digI b := IntWalk.i64_in _ (by omega)
          have hw8 : IntKind.u8.wrap (16 * digI a + digI b) = 16 * digI a + digI b := by rw [IntKind.wrap_u8']; omega
          have h1 : 0 ≤ digI a := hok.1
          have h2 : 0 ≤ digI b := hok.2
          have h1' : ¬ digI a < 0 := by omega
          have h2' : ¬ digI b < 0 := by omega
          have hzz : (z ++ strOfNums [16 * digI a + digI b]).size = z.size + 1 := by rw [ByteArray.size_append, strOfNums_size]; rfl
          have hsum : ¬ (9223372036854775807 < j + (strOfNums [16 * digI a + digI b]).size) := by rw [strOfNums_size]; simp; omega
          have hw9 : IntKind.i64.wrap (2 * (j : Int) + 1) = 2 * (j : Int) + 1 := IntWalk.i64_in _ (by omega)
          have HW9 := Lib.hid hw9
          have HSUM := Lib.hid hsum
          clear hsum hw9
          clear hst hok
          go_wp2_with (go_at_call 33; refine (digit33 _ _).mono ?_; rintro e w' ⟨rfl, rfl⟩)
          · exfalso
            rename_i hor
            rcases hor with (h | h) | h
            · exact k6 (by simpa using h)
            · omega
            · omega
          generalize (2 * (j : Int) == (s.size : Int) - 1) = c16
          generalize decide (digI a < 0) = c22
          generalize decide (digI b < 0) = c30
          refine region_mixt 16 [some (.string z), some (.string s), some (.int .i64 (2 * (j : Int))), some (.int .u8 (a.toNat : Int)), some (.int .i64 (digI a)), some (.int .i64 (16 * digI a)), some (.string s), some (.int .i64 (2 * (j : Int))), some (.int .i64 (2 * (j : Int) + 1)), some (.int .u8 (b.toNat : Int)), some (.int .i64 (digI b)), some (.int .i64 (16 * digI a + digI b)), some (.int .u8 (16 * digI a + digI b)), none, some (.string (strOfNums [(16 * digI a + digI b)])), some (.string (z ++ strOfNums [(16 * digI a + digI b)]))]
            [[false, false, false, false, false, false, false, false, false, false, false, false, false, false, false, false], [false, false, false, false, false, false, false, false, false, false, false, false, false, false, false, false], [false, false, false, false, false, false, false, false, false, false, false, false, false, false, false, false], [false, true, true, false, false, false, false, false, false, false, false, false, false, false, false, false], [false, false, false, true, false, false, false, false, false, false, false, false, false, false, false, false], [false, false, false, false, true, false, false, false, false, false, false, false, false, false, false, false], [false, false, false, false, false, false, false, false, false, false, false, false, false, false, false, false], [false, false, false, false, false, false, false, false, false, false, false, false, false, false, false, false], [false, false, false, false, false, false, false, true, false, false, false, false, false, false, false, false], [false, false, false, false, false, false, true, false, true, false, false, false, false, false, false, false], [false, false, false, false, true, false, false, false, false, true, false, false, false, false, false, false], [false, false, false, false, false, true, false, false, false, false, true, false, false, false, false, false], [false, false, false, false, false, false, false, false, false, false, false, true, false, false, false, false], [false, false, false, false, false, false, false, false, false, false, false, false, true, false, false, false], [false, false, false, false, false, false, false, false, false, false, false, false, false, true, false, false], [true, false, false, false, false, false, false, false, false, false, false, false, false, false, true, false]]
            (fun L x w1 => Below w.heap.size w w1 ∧ (L 13 = true → ∃ q, x 13 = .slice (some ⟨q, 0, none⟩) 1 1 ∧ w1.cell? ⟨q, 0, none⟩ = some (.int .u8 (16 * digI a + digI b))))
            (by kernel_rfl) (by kernel_rfl) (by kernel_rfl) (by kernel_rfl) (by kernel_rfl) (by decide) ?_ ?_ ?_
          · intro _
            exact ⟨hb.drew, fun h => (by cases h)⟩
          · simp only [List.take_succ_cons, List.take_zero]
            refine ⟨?_, ?_, ?_, ?_, ?_, ?_, ?_, ?_, ?_, ?_, ?_, ?_, ?_, ?_, ?_, ?_, trivial⟩
            all_goals
              intro L x w9 hS hl hp K hK
              have c1 := hS.1
              have c2 := hS.2
              clear hS hb
              replace hK := hK.out
              simp only [actMix, pickV, List.tail_cons, List.headD_cons, Act.put, List.setIfInBounds_toArray, List.set_cons_zero, List.set_cons_succ] at hK ⊢
            · clear hp
              go_simp
              with_reducible refine hK _ ?_
              exact ⟨c1, fun h => (by simpa [updV] using c2 (by simpa [setL] using h))⟩
            · clear hp
              go_simp
              with_reducible refine hK _ ?_
              exact ⟨c1, fun h => (by simpa [updV] using c2 (by simpa [setL] using h))⟩
            · clear hp
              go_simp
              with_reducible refine hK _ ?_
              exact ⟨c1, fun h => (by simpa [updV] using c2 (by simpa [setL] using h))⟩
            · clear hp
              go_simp
              with_reducible refine hK _ ?_
              exact ⟨c1, fun h => (by simpa [updV] using c2 (by simpa [setL] using h))⟩
            · clear hp
              go_simp
              refine (digit33 a _).mono ?_
              rintro e w8 ⟨rfl, rfl⟩
              with_reducible refine hK _ ?_
              exact ⟨c1, fun h => (by simpa [updV] using c2 (by simpa [setL] using h))⟩
            · clear hp
              go_simp
              with_reducible refine hK _ ?_
              exact ⟨c1, fun h => (by simpa [updV] using c2 (by simpa [setL] using h))⟩
            · clear hp
              go_simp
              with_reducible refine hK _ ?_
              exact ⟨c1, fun h => (by simpa [updV] using c2 (by simpa [setL] using h))⟩
            · clear hp
              go_simp
              with_reducible refine hK _ ?_
              exact ⟨c1, fun h => (by simpa [updV] using c2 (by simpa [setL] using h))⟩
            · clear hp
              have hw9 := HW9.out
              go_simp
              with_reducible refine hK _ ?_
              exact ⟨c1, fun h => (by simpa [updV] using c2 (by simpa [setL] using h))⟩
            · clear hp
              go_simp
              with_reducible refine hK _ ?_
              exact ⟨c1, fun h => (by simpa [updV] using c2 (by simpa [setL] using h))⟩
            · clear hp
              go_simp
              refine (digit33 b _).mono ?_
              rintro e w8 ⟨rfl, rfl⟩
              with_reducible refine hK _ ?_
              exact ⟨c1, fun h => (by simpa [updV] using c2 (by simpa [setL] using h))⟩
            · clear hp
              go_simp
              with_reducible refine hK _ ?_
              exact ⟨c1, fun h => (by simpa [updV] using c2 (by simpa [setL] using h))⟩
            · clear hp
              go_simp
              with_reducible refine hK _ ?_
              exact ⟨c1, fun h => (by simpa [updV] using c2 (by simpa [setL] using h))⟩
            · clear hp c2
              have hs9 := c1.size
              go_simp
              with_reducible refine hK _ _ ?_
              exact ⟨c1.alloc hs9 _, fun _ => ⟨w9.heap.size, by simp [updV], by simp⟩⟩
            · have h13 : L 13 = true := allL_mem hp 13 (by decide +kernel)
              obtain ⟨b9, hx9, hc9⟩ := c2 h13
              clear hp c2
              rw [hx9] at hK ⊢
              have hcv := run_convert_bytes_arg (P := Tryd.prog) w9 26 5 Tryd.underlying26 Tryd.underlying5 b9 0 1 1 [16 * digI a + digI b] rfl (fun i hi => by
                match i, hi with
                | 0, _ => exact hc9) 9 Tryd.underlying9
              go_simp
              with_reducible refine hK _ ?_
              exact ⟨c1, fun _ => ⟨b9, by simpa [updV] using hx9, hc9⟩⟩
            · clear hp
              have hsum := HSUM.out
              go_simp
              with_reducible refine hK _ ?_
              exact ⟨c1, fun h => (by simpa [updV] using c2 (by simpa [setL] using h))⟩
          intro L x w9 hS hL
          have hb1 := hS.1
          clear hS hL hb
          simp only [actMix, pickV, List.tail_cons, List.headD_cons, Act.put, List.setIfInBounds_toArray, List.set_cons_zero, List.set_cons_succ, List.replicate_succ, List.replicate_zero, List.drop_succ_cons, List.drop_zero, List.take_succ_cons, List.take_zero]
          go_wp2_with fail
          go_roundw
          case rel =>
            refine ⟨j + 1, z ++ strOfNums [16 * digI a + digI b], by omega, by rw [hzz, hz], by go_num, rfl, ?_, hb1⟩
            refine Lib.hid ?_
            rw [HST.out]
            simp [strOfNums]
          case measure => simp [RowKit.intOf]; omega
        · have hno : unhexP s.data.toList = none := by
            rw [hr.out, drop_two _ j hll, unhexP, if_neg (by rw [← HA.out, ← HB.out]; exact hok)]; rfl
          have hv : unhexV s.data.toList = .tuple #[.string ⟨#[]⟩, .bool false] := by unfold unhexV; rw [hno]
          have HV := Lib.hid hv
          clear hno hv
          by_cases h1 : digI a < 0
          · go_wp2_with (go_at_call 33; refine (digit33 _ _).mono ?_; rintro e w' ⟨rfl, rfl⟩)
            go_ret2
            exact ⟨by rw [HV.out]; rfl, hb⟩
          · have h2 : digI b < 0 := by omega
            have h1' : ¬ digI a < 0 := h1
            clear hok
            go_wp2_with (go_at_call 33; refine (digit33 _ _).mono ?_; rintro e w' ⟨rfl, rfl⟩)
            go_ret2
            exact ⟨by rw [HV.out]; rfl, hb⟩
    · have hje : 2 * j = s.size := by omega
      have hfin : unhexV s.data.toList = .tuple #[.string z, .bool true] := by
        unfold unhexV
        rw [hr.out, List.drop_eq_nil_of_le (by rw [← Lib.size_eq]; omega)]
        simp only [unhexP, Option.map_some, List.append_nil]
      have HFIN := Lib.hid hfin
      have j1 : ¬ (2 * (j : Int)) < s.size := by omega
      clear hfin hr
      go_wp2_with fail
      go_ret2
      exact ⟨by rw [HFIN.out]; rfl, hb⟩
end Go.Proofs.YtfelkdghjbecpaaDoor
