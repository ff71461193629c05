/- mac, the reference: pad, Sum, Tag. -/
import Derived.Test.YtllmlngfmcbaaaaGreatDoorMacF
namespace Go.Proofs.YtllmlngfmcbaaaaGreatDoor
open Go.RowKit

theorem maskL_at (k : List UInt8) (m : UInt8) (j : Nat) (h : j < 64) : (maskL k m).take (j + 1) = (maskL k m).take j ++ [((keyB k).getD j 0) ^^^ m] := by
  have hl := maskL_length k m
  have hg : (maskL k m)[j]'(by omega) = ((keyB k).getD j 0) ^^^ m := by simp [maskL, pad64]
  rw [List.take_succ_eq_append_getElem (by omega), hg]

set_option maxRecDepth 100000 in
set_option maxHeartbeats 1000000 in
theorem rpad36 (k : ByteArray) (hk : k.size ≤ 1000000) (m : UInt8) (mi : Int) (hm : mi = (m.toNat : Int)) (w : World) :
    Calls Tryz.prog 53 #[.string k, .int .u8 mi] w fun e w' => e = .returned (.string ⟨(maskL k.data.toList m).toArray⟩) ∧ Below w.heap.size w w' := by
  subst hm
  obtain ⟨i0, hi, hz0, hz1, hz2⟩ := info_parts info5
  by_cases hlen : k.size > 64
  · have hkb : blakeL k.data.toList = keyB k.data.toList := by unfold keyB; rw [← Lib.size_eq, if_pos hlen]
    have HKB0 := Lib.hid hkb
    have j1 : (64 : Int) < k.size := by omega
    have hrs := rsum13 blkSpec k (by omega) w
    have HRS := Lib.hid hrs
    obtain ⟨s, hs⟩ : ∃ s : ByteArray, s = ⟨(blakeL k.data.toList).toArray⟩ := ⟨_, rfl⟩
    have HKB : Hid (s.data.toList = keyB k.data.toList) := by rw [← HKB0.out, hs]; rfl
    have hsz : s.size ≤ 1000000 := by rw [Lib.size_eq, hs]; show (blakeL _).length ≤ _; rw [blakeL_length]; decide
    rw [← hs] at HRS
    clear hkb hlen hrs HKB0 hs
    go_enter Tryz.func53, Tryz.ntmps53
    go_wp2_with fail
    refine HRS.out.mono ?_
    rintro e w1 ⟨rfl, hb1⟩
    have hs1 := hb1.size
    clear HRS
    go_wp2_with fail
    go_loopw [5, 6, 7] (fun v i _ wr => ∃ j : Nat, j ≤ 64 ∧ i = .int .i64 (j : Int) ∧ Hid (wr.ownsRow w1.heap.size 5 1 v j (u8s ((maskL k.data.toList m).take j))) ∧ Below w1.heap.size w1 wr)
      (fun _ i _ _ => 64 - (intOf i).toNat)
    case atStart => exact ⟨0, by decide, rfl, World.ownsRow_made w1 #[] 0 (Nat.le_refl _) (Nat.zero_le _) rfl, below_alloc _ _⟩
    case round =>
      obtain ⟨j, hj, rfl, hown, hbq⟩ := hrel
      have hsq := hbq.size
      by_cases hlt : j < 64
      · have hst := maskL_at k.data.toList m j hlt
        rw [← HKB.out] at hst
        have HST := Lib.hid hst
        have hx := u8_xor (s.data.toList.getD j 0) m
        obtain ⟨y, hy⟩ : ∃ y, y = (s.data.toList.getD j 0) ^^^ m := ⟨_, rfl⟩
        rw [← hy] at hx
        have HY := Lib.hid hy
        have j3 : (j : Int) < 64 := by omega
        clear hst hy
        by_cases hin : j < s.size
        · have hg : (s.data.toList.getD j 0) = s[j] := by
            have : s.data.toList[j]? = some s[j] := by
              rw [List.getElem?_eq_getElem (by rw [← Lib.size_eq]; exact hin)]
              rfl
            rw [List.getD_eq_getElem?_getD, this]
            rfl
          rw [hg] at hx
          have j4 : (j : Int) < s.size := by omega
          clear hg
          have hnw : ∀ i u, ([Value.int .u8 (y.toNat : Int)] : List Value)[i]? = some u → (wr.alloc (.cells #[.int .u8 (y.toNat : Int)] 5)).cell? ((⟨wr.heap.size, 0, none⟩ : Addr).add i) = some u := by
            intro i u hu
            match i, hu with
            | 0, hu => obtain rfl : Value.int .u8 (y.toNat : Int) = u := Option.some.inj hu; rw [Addr.add_mid]; simp
            | i + 1, hu => simp at hu
          have HNW := Lib.hid hnw
          clear hnw
          go_wp2_with (at_builtin; refine wpList_append_own _ rfl _ _ 62 rfl w1.heap.size 5 i0 (.int .u8 0) 1 1 Tryz.underlying62 hi hz0 hz1 hz2 rfl (by decide) _ _ _ rfl (hown.out.alloc _) ⟨wr.heap.size, 0, none⟩ 1 1 [.int .u8 (y.toNat : Int)] rfl rfl HNW.out (by intro u hu; simp at hu; subst hu; rfl) (by unfold maxLen; omega) (by omega) (by simp; omega) ?_)
          intro v' w9 hown' hgrow _
          have hown2 : w9.ownsRow w1.heap.size 5 1 v' (j + 1) (u8s ((maskL k.data.toList m).take (j + 1))) := by
            rw [HST.out, ← HY.out]
            unfold u8s
            rw [List.map_append]
            exact hown'
          have hb9 : Below w1.heap.size w1 w9 := by
            refine (hbq.alloc hsq (.cells #[.int .u8 (y.toNat : Int)] 5)).grown hgrow (by simp; omega) (fun k hk => (hown.out.lt k hk).1)
          clear hown hown' hgrow hbq hsq
          go_wp2_with fail
          go_roundw
          case rel => exact ⟨j + 1, by omega, by go_num, hown2, hb9⟩
          case measure => simp [intOf]; omega
        · have hg : (s.data.toList.getD j 0) = 0 := by
            rw [List.getD_eq_getElem?_getD, List.getElem?_eq_none (by rw [← Lib.size_eq]; omega)]
            rfl
          rw [hg] at hx
          have hx0 : bits .xor .u8 0 (m.toNat : Int) = (y.toNat : Int) := hx
          have j4 : ¬ (j : Int) < s.size := by omega
          clear hg hx
          have hnw : ∀ i u, ([Value.int .u8 (y.toNat : Int)] : List Value)[i]? = some u → (wr.alloc (.cells #[.int .u8 (y.toNat : Int)] 5)).cell? ((⟨wr.heap.size, 0, none⟩ : Addr).add i) = some u := by
            intro i u hu
            match i, hu with
            | 0, hu => obtain rfl : Value.int .u8 (y.toNat : Int) = u := Option.some.inj hu; rw [Addr.add_mid]; simp
            | i + 1, hu => simp at hu
          have HNW := Lib.hid hnw
          clear hnw
          go_wp2_with (at_builtin; refine wpList_append_own _ rfl _ _ 62 rfl w1.heap.size 5 i0 (.int .u8 0) 1 1 Tryz.underlying62 hi hz0 hz1 hz2 rfl (by decide) _ _ _ rfl (hown.out.alloc _) ⟨wr.heap.size, 0, none⟩ 1 1 [.int .u8 (y.toNat : Int)] rfl rfl HNW.out (by intro u hu; simp at hu; subst hu; rfl) (by unfold maxLen; omega) (by omega) (by simp; omega) ?_)
          intro v' w9 hown' hgrow _
          have hown2 : w9.ownsRow w1.heap.size 5 1 v' (j + 1) (u8s ((maskL k.data.toList m).take (j + 1))) := by
            rw [HST.out, ← HY.out]
            unfold u8s
            rw [List.map_append]
            exact hown'
          have hb9 : Below w1.heap.size w1 w9 := by
            refine (hbq.alloc hsq (.cells #[.int .u8 (y.toNat : Int)] 5)).grown hgrow (by simp; omega) (fun k hk => (hown.out.lt k hk).1)
          clear hown hown' hgrow hbq hsq
          go_wp2_with fail
          go_roundw
          case rel => exact ⟨j + 1, by omega, by go_num, hown2, hb9⟩
          case measure => simp [intOf]; omega
      · obtain rfl : j = 64 := by omega
        obtain ⟨a', c', rfl⟩ := row_slice hown.out
        have hfull : (maskL k.data.toList m).take 64 = maskL k.data.toList m := List.take_of_length_le (by rw [maskL_length]; exact Nat.le_refl _)
        rw [hfull] at hown
        have hcv := own_string (maskL_length _ _) hown.out
        clear hown hfull
        go_wp2_with fail
        go_ret
        exact ⟨rfl, hb1.trans (hbq.mono hs1)⟩
  · have HKB : Hid (k.data.toList = keyB k.data.toList) := by show _ = _; unfold keyB; rw [← Lib.size_eq, if_neg hlen]
    have j1 : ¬ (64 : Int) < k.size := by omega
    obtain ⟨s, hs⟩ : ∃ s, s = k := ⟨k, rfl⟩
    have hsz : s.size ≤ 1000000 := by rw [hs]; exact hk
    have HKB : Hid (s.data.toList = keyB k.data.toList) := by rw [hs]; exact HKB
    obtain ⟨w1, hw1⟩ : ∃ w1, w1 = w := ⟨w, rfl⟩
    have hb1 : Below w.heap.size w w1 := by rw [hw1]; exact Below.refl _ _
    have hs1 : w.heap.size ≤ w1.heap.size := hb1.size
    have hke : k.data.toList = k.data.toList := rfl
    obtain ⟨kl, hkl⟩ : ∃ kl, kl = k.data.toList := ⟨_, rfl⟩
    subst hs hw1
    clear hlen hke hkl
    go_enter Tryz.func53, Tryz.ntmps53
    go_wp2_with fail
    go_loopw [5, 6, 7] (fun v i _ wr => ∃ j : Nat, j ≤ 64 ∧ i = .int .i64 (j : Int) ∧ Hid (wr.ownsRow w1.heap.size 5 1 v j (u8s ((maskL s.data.toList m).take j))) ∧ Below w1.heap.size w1 wr)
      (fun _ i _ _ => 64 - (intOf i).toNat)
    case atStart => exact ⟨0, by decide, rfl, World.ownsRow_made w1 #[] 0 (Nat.le_refl _) (Nat.zero_le _) rfl, below_alloc _ _⟩
    case round =>
      obtain ⟨j, hj, rfl, hown, hbq⟩ := hrel
      have hsq := hbq.size
      by_cases hlt : j < 64
      · have hst := maskL_at s.data.toList m j hlt
        rw [← HKB.out] at hst
        have HST := Lib.hid hst
        have hx := u8_xor (s.data.toList.getD j 0) m
        obtain ⟨y, hy⟩ : ∃ y, y = (s.data.toList.getD j 0) ^^^ m := ⟨_, rfl⟩
        rw [← hy] at hx
        have HY := Lib.hid hy
        have j3 : (j : Int) < 64 := by omega
        clear hst hy
        by_cases hin : j < s.size
        · have hg : (s.data.toList.getD j 0) = s[j] := by
            have : s.data.toList[j]? = some s[j] := by
              rw [List.getElem?_eq_getElem (by rw [← Lib.size_eq]; exact hin)]
              rfl
            rw [List.getD_eq_getElem?_getD, this]
            rfl
          rw [hg] at hx
          have j4 : (j : Int) < s.size := by omega
          clear hg
          have hnw : ∀ i u, ([Value.int .u8 (y.toNat : Int)] : List Value)[i]? = some u → (wr.alloc (.cells #[.int .u8 (y.toNat : Int)] 5)).cell? ((⟨wr.heap.size, 0, none⟩ : Addr).add i) = some u := by
            intro i u hu
            match i, hu with
            | 0, hu => obtain rfl : Value.int .u8 (y.toNat : Int) = u := Option.some.inj hu; rw [Addr.add_mid]; simp
            | i + 1, hu => simp at hu
          have HNW := Lib.hid hnw
          clear hnw
          go_wp2_with (at_builtin; refine wpList_append_own _ rfl _ _ 62 rfl w1.heap.size 5 i0 (.int .u8 0) 1 1 Tryz.underlying62 hi hz0 hz1 hz2 rfl (by decide) _ _ _ rfl (hown.out.alloc _) ⟨wr.heap.size, 0, none⟩ 1 1 [.int .u8 (y.toNat : Int)] rfl rfl HNW.out (by intro u hu; simp at hu; subst hu; rfl) (by unfold maxLen; omega) (by omega) (by simp; omega) ?_)
          intro v' w9 hown' hgrow _
          have hown2 : w9.ownsRow w1.heap.size 5 1 v' (j + 1) (u8s ((maskL s.data.toList m).take (j + 1))) := by
            rw [HST.out, ← HY.out]
            unfold u8s
            rw [List.map_append]
            exact hown'
          have hb9 : Below w1.heap.size w1 w9 := by
            refine (hbq.alloc hsq (.cells #[.int .u8 (y.toNat : Int)] 5)).grown hgrow (by simp; omega) (fun k hk => (hown.out.lt k hk).1)
          clear hown hown' hgrow hbq hsq
          go_wp2_with fail
          go_roundw
          case rel => exact ⟨j + 1, by omega, by go_num, hown2, hb9⟩
          case measure => simp [intOf]; omega
        · have hg : (s.data.toList.getD j 0) = 0 := by
            rw [List.getD_eq_getElem?_getD, List.getElem?_eq_none (by rw [← Lib.size_eq]; omega)]
            rfl
          rw [hg] at hx
          have hx0 : bits .xor .u8 0 (m.toNat : Int) = (y.toNat : Int) := hx
          have j4 : ¬ (j : Int) < s.size := by omega
          clear hg hx
          have hnw : ∀ i u, ([Value.int .u8 (y.toNat : Int)] : List Value)[i]? = some u → (wr.alloc (.cells #[.int .u8 (y.toNat : Int)] 5)).cell? ((⟨wr.heap.size, 0, none⟩ : Addr).add i) = some u := by
            intro i u hu
            match i, hu with
            | 0, hu => obtain rfl : Value.int .u8 (y.toNat : Int) = u := Option.some.inj hu; rw [Addr.add_mid]; simp
            | i + 1, hu => simp at hu
          have HNW := Lib.hid hnw
          clear hnw
          go_wp2_with (at_builtin; refine wpList_append_own _ rfl _ _ 62 rfl w1.heap.size 5 i0 (.int .u8 0) 1 1 Tryz.underlying62 hi hz0 hz1 hz2 rfl (by decide) _ _ _ rfl (hown.out.alloc _) ⟨wr.heap.size, 0, none⟩ 1 1 [.int .u8 (y.toNat : Int)] rfl rfl HNW.out (by intro u hu; simp at hu; subst hu; rfl) (by unfold maxLen; omega) (by omega) (by simp; omega) ?_)
          intro v' w9 hown' hgrow _
          have hown2 : w9.ownsRow w1.heap.size 5 1 v' (j + 1) (u8s ((maskL s.data.toList m).take (j + 1))) := by
            rw [HST.out, ← HY.out]
            unfold u8s
            rw [List.map_append]
            exact hown'
          have hb9 : Below w1.heap.size w1 w9 := by
            refine (hbq.alloc hsq (.cells #[.int .u8 (y.toNat : Int)] 5)).grown hgrow (by simp; omega) (fun k hk => (hown.out.lt k hk).1)
          clear hown hown' hgrow hbq hsq
          go_wp2_with fail
          go_roundw
          case rel => exact ⟨j + 1, by omega, by go_num, hown2, hb9⟩
          case measure => simp [intOf]; omega
      · obtain rfl : j = 64 := by omega
        obtain ⟨a', c', rfl⟩ := row_slice hown.out
        have hfull : (maskL s.data.toList m).take 64 = maskL s.data.toList m := List.take_of_length_le (by rw [maskL_length]; exact Nat.le_refl _)
        rw [hfull] at hown
        have hcv := own_string (maskL_length _ _) hown.out
        clear hown hfull
        go_wp2_with fail
        go_ret
        exact ⟨rfl, hb1.trans (hbq.mono hs1)⟩
end Go.Proofs.YtllmlngfmcbaaaaGreatDoor
