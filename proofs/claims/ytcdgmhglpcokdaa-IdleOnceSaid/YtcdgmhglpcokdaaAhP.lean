/- container/heap: down, over agenda's queue (written by genagp.py). -/
import Derived.Test.YtcdgmhglpcokdaaAhN
namespace Go.Proofs.Ytcdgmhglpcokdaa
open Go.RowKit
section PlV
variable {pl : Pl}

/-- What down keeps: nothing has moved yet, or the place J has come from above. -/
def DnS (Q Q' : Nat → It) (n i0 J : Nat) : Prop := (J = i0 ∧ Q' = Q ∧ OffI leI Q n i0) ∨ (i0 < J ∧ DnI leI Q' n J)
/-- What down leaves. -/
def DnP (Q Q' : Nat → It) (n i0 : Nat) (b : Bool) : Prop := (b = true → HeapAt leI Q' n) ∧ (b = false → Q' = Q ∧ UpI leI Q n i0)
theorem DnS.stop {Q Q' : Nat → It} {n i0 J : Nat} (h : DnS Q Q' n i0 J) (hk : ∀ i, 0 < i → i < n → (i - 1) / 2 = J → leI (Q' J) (Q' i)) : DnP Q Q' n i0 (decide (i0 < J)) := by
  rcases h with ⟨rfl, rfl, h⟩ | ⟨h1, h2⟩
  · rw [decide_eq_false (Nat.lt_irrefl _)]
    exact ⟨fun e => (by cases e), fun _ => ⟨rfl, h.up hk⟩⟩
  · rw [decide_eq_true h1]
    exact ⟨fun _ => h2.done hk, fun e => (by cases e)⟩
theorem DnS.step {Q Q' : Nat → It} {n i0 J C : Nat} (h : DnS Q Q' n i0 J) (hi0 : i0 ≤ J) (hc0 : 0 < C) (hc : C < n) (hcj : (C - 1) / 2 = J) (hl : leI (Q' C) (Q' J)) (hb : ∀ i, 0 < i → i < n → (i - 1) / 2 = J → leI (Q' C) (Q' i)) : DnS Q (swp Q' J C) n i0 C := by
  right
  refine ⟨by omega, ?_⟩
  rcases h with ⟨rfl, rfl, h⟩ | ⟨h1, h2⟩
  · exact h.step hc0 hc hcj hl hb
  · exact h2.step hc0 hc hcj hl hb
theorem kids_one {Q : Nat → It} {n J : Nat} (h2 : ¬ 2 * J + 2 < n) : ∀ i, 0 < i → i < n → (i - 1) / 2 = J → leI (Q (2 * J + 1)) (Q i) := fun i h0 hi hk => by
  obtain rfl : i = 2 * J + 1 := by omega
  exact leI_refl _
theorem kids_left {Q : Nat → It} {n J : Nat} (h : leI (Q (2 * J + 1)) (Q (2 * J + 2))) : ∀ i, 0 < i → i < n → (i - 1) / 2 = J → leI (Q (2 * J + 1)) (Q i) := fun i h0 hi hk => by
  have : i = 2 * J + 1 ∨ i = 2 * J + 2 := by omega
  rcases this with rfl | rfl
  · exact leI_refl _
  · exact h
theorem kids_right {Q : Nat → It} {n J : Nat} (h : leI (Q (2 * J + 2)) (Q (2 * J + 1))) : ∀ i, 0 < i → i < n → (i - 1) / 2 = J → leI (Q (2 * J + 2)) (Q i) := fun i h0 hi hk => by
  have : i = 2 * J + 1 ∨ i = 2 * J + 2 := by omega
  rcases this with rfl | rfl
  · exact h
  · exact leI_refl _
set_option maxHeartbeats 4000000 in
set_option maxRecDepth 100000 in
theorem downS (ab g c N n : Nat) (hnN : n ≤ N) (mp : Value) (sets : Int) (Q : Nat → It) (hN : N ≤ 1000000) (i0 : Nat) (hi0 : i0 < N) (w : World) (h : HpM pl 107 106 w ab g c N mp sets Q) (hu : OffI leI Q n i0) :
    Calls Try.prog 54 #[.iface 109 (.pointer (some ⟨ab, pl.o, none⟩)), .int .i64 (i0 : Int), .int .i64 (n : Int)] w fun e w' => ∃ b Q', e = .returned (.bool b) ∧ HpM pl 107 106 w' ab g c N mp sets Q' ∧ SameQ N Q Q' ∧ (∀ k, n ≤ k → Q' k = Q k) ∧ Keep (HpG g Q N) w w' ∧ DnP Q Q' n i0 b := by
  have HH := Lib.hid h
  have HU : Hid (DnS Q Q n i0 i0) := .inl ⟨rfl, rfl, hu⟩
  have HSQ := Lib.hid (SameQ.refl N Q)

  have HK := Lib.hid (Keep.refl (HpG g Q N) w)
  clear h hu
  go_enter Try.func54, Try.ntmps54
  go_wp2_with fail
  go_loopw [7] (fun j wr => ∃ (J : Nat) (Q' : Nat → It), J < N ∧ i0 ≤ J ∧ j = .int .i64 (J : Int) ∧ Hid (HpM pl 107 106 wr ab g c N mp sets Q') ∧ Hid (DnS Q Q' n i0 J) ∧ Hid (SameQ N Q Q') ∧ Hid (∀ k, n ≤ k → Q' k = Q k) ∧ Hid (Keep (HpG g Q N) w wr)) (fun j _ => N - (intOf j).toNat)
  case atStart => exact ⟨i0, Q, hi0, Nat.le_refl _, rfl, HH, HU, HSQ, (fun _ _ => rfl), HK⟩
  case round =>
    obtain ⟨J, Q', hJN, hij, rfl, hh, hds, hsq, hhi, hk⟩ := hrel
    by_cases c1 : 2 * J + 1 < n
    · have d1 : decide ((n : Int) ≤ 2 * (J : Int) + 1) = false := decide_eq_false (by omega)
      have d2 : decide (2 * (J : Int) + 1 < 0) = false := decide_eq_false (by omega)
      by_cases c2 : 2 * J + 2 < n
      · have d3 : decide (2 * (J : Int) + 1 + 1 < (n : Int)) = true := decide_eq_true (by omega)
        have d4 : 2 * (J : Int) + 1 + 1 = 2 * (J : Int) + 2 := by omega
        have hml := mLessS ab wr _ hh.out.queue
        have hl1 := lessMS ab g c N mp sets Q' (2 * J + 2) (2 * J + 1) (by omega) (by omega) wr hh.out
        rw [show (((2 * J + 2 : Nat) : Nat) : Int) = 2 * (J : Int) + 2 by omega, show (((2 * J + 1 : Nat) : Nat) : Int) = 2 * (J : Int) + 1 by omega] at hl1
        have HL1 := Lib.hid hl1
        clear hl1
        cases hL1 : ltIt (Q' (2 * J + 2)).a (Q' (2 * J + 2)).t (Q' (2 * J + 1)).a (Q' (2 * J + 1)).t with
        | true =>
          rw [hL1] at HL1
          have HKD := Lib.hid (kids_right (Q := Q') (n := n) (J := J) (leI_of_lt hL1))
          clear hL1
          go_wp2_with fail
          refine HL1.out.mono ?_
          rintro e w4 ⟨rfl, hb4⟩
          have HHW := Lib.hid (hh.out.below hb4)
          have HKW := Lib.hid (hk.out.trans (Keep.of_below hb4))
          clear hb4 hml HL1
          obtain ⟨C, hC⟩ : ∃ C, C = 2 * J + 2 := ⟨_, rfl⟩
          have hCn : C < n := by omega
          have hCN : C < N := by omega
          have hC0 : 0 < C := by omega
          have hCJ : (C - 1) / 2 = J := by omega
          have hCi : (C : Int) = 2 * (J : Int) + 2 := by omega
          rw [← hC] at HKD
          have hml9 := mLessS ab w4 _ HHW.out.queue
          have HL2 := Lib.hid (lessMS ab g c N mp sets Q' C J hCN hJN w4 HHW.out)
          rw [hCi] at HL2
          have HCI := Lib.hid hCi
          have HCJ := Lib.hid hCJ
          clear hC hCi hCJ
          cases hL2 : ltIt (Q' C).a (Q' C).t (Q' J).a (Q' J).t with
          | false =>
            rw [hL2] at HL2
            have HST := Lib.hid (hds.out.stop (fun i h0 hi hk => leI_trans _ _ _ (show leI (Q' J) (Q' C) from hL2) (HKD.out i h0 hi hk)))
            clear hL2
            go_wp2_with fail
            refine HL2.out.mono ?_
            rintro e w8 ⟨rfl, hb8⟩
            have HHE := Lib.hid (HHW.out.below hb8)
            have HKE := Lib.hid (HKW.out.trans (Keep.of_below hb8))
            clear hb8 hml9
            by_cases hlt : i0 < J
            · have hd : decide ((i0 : Int) < (J : Int)) = true := decide_eq_true (by omega)
              rw [decide_eq_true hlt] at HST
              go_wp2_with fail
              go_ret
              exact ⟨_, Q', rfl, HHE.out, hsq.out, hhi.out, HKE.out, HST.out⟩
            · have hd : decide ((i0 : Int) < (J : Int)) = false := decide_eq_false (by omega)
              rw [decide_eq_false hlt] at HST
              go_wp2_with fail
              go_ret
              exact ⟨_, Q', rfl, HHE.out, hsq.out, hhi.out, HKE.out, HST.out⟩
          | true =>
            rw [hL2] at HL2
            have HLE : Hid (leI (Q' C) (Q' J)) := leI_of_lt hL2
            clear hL2
            go_wp2_with fail
            refine HL2.out.mono ?_
            rintro e w8 ⟨rfl, hb8⟩
            have HH8 := Lib.hid (HHW.out.below hb8)
            have HK8 := Lib.hid (HKW.out.trans (Keep.of_below hb8))
            clear hb8 hml9 HL2
            have hms := mSwapS ab w8 _ HH8.out.queue
            have HSW := Lib.hid (swapMS ab g c N mp sets Q' J C hJN hCN w8 HH8.out)
            rw [HCI.out] at HSW
            go_wp2_with fail
            refine HSW.out.mono ?_
            rintro e w9 ⟨rfl, hh9, hk9⟩
            have HH9 := Lib.hid hh9
            have HK9 := Lib.hid (HK8.out.trans (hk9.more (fun k _ hg => hsq.out.hpg hg)))
            have HD9 : Hid (DnS Q (swp Q' J C) n i0 C) := hds.out.step hij hC0 hCn HCJ.out HLE.out HKD.out
            have HS9 := Lib.hid (hsq.out.trans (SameQ.swp Q' hJN hCN))
            have HI9 : Hid (∀ k, n ≤ k → swp Q' J C k = Q k) := fun k hk => by rw [swp_o Q' (by omega) (by omega)]; exact hhi.out k hk
            have hiC : i0 ≤ C := by have := HCJ.out; omega
            clear hh9 hk9 hms HSW
            go_wp2_with fail
            rw [← HCI.out]
            go_roundw
            case rel => exact ⟨C, swp Q' J C, hCN, hiC, rfl, HH9, HD9, HS9, HI9, HK9⟩
            case measure => have := HCJ.out; simp [intOf]; omega
        | false =>
          rw [hL1] at HL1
          have HKD := Lib.hid (kids_left (Q := Q') (n := n) (J := J) hL1)
          clear hL1
          go_wp2_with fail
          refine HL1.out.mono ?_
          rintro e w4 ⟨rfl, hb4⟩
          have HHW := Lib.hid (hh.out.below hb4)
          have HKW := Lib.hid (hk.out.trans (Keep.of_below hb4))
          clear hb4 hml HL1
          obtain ⟨C, hC⟩ : ∃ C, C = 2 * J + 1 := ⟨_, rfl⟩
          have hCn : C < n := by omega
          have hCN : C < N := by omega
          have hC0 : 0 < C := by omega
          have hCJ : (C - 1) / 2 = J := by omega
          have hCi : (C : Int) = 2 * (J : Int) + 1 := by omega
          rw [← hC] at HKD
          have hml9 := mLessS ab w4 _ HHW.out.queue
          have HL2 := Lib.hid (lessMS ab g c N mp sets Q' C J hCN hJN w4 HHW.out)
          rw [hCi] at HL2
          have HCI := Lib.hid hCi
          have HCJ := Lib.hid hCJ
          clear hC hCi hCJ
          cases hL2 : ltIt (Q' C).a (Q' C).t (Q' J).a (Q' J).t with
          | false =>
            rw [hL2] at HL2
            have HST := Lib.hid (hds.out.stop (fun i h0 hi hk => leI_trans _ _ _ (show leI (Q' J) (Q' C) from hL2) (HKD.out i h0 hi hk)))
            clear hL2
            go_wp2_with fail
            refine HL2.out.mono ?_
            rintro e w8 ⟨rfl, hb8⟩
            have HHE := Lib.hid (HHW.out.below hb8)
            have HKE := Lib.hid (HKW.out.trans (Keep.of_below hb8))
            clear hb8 hml9
            by_cases hlt : i0 < J
            · have hd : decide ((i0 : Int) < (J : Int)) = true := decide_eq_true (by omega)
              rw [decide_eq_true hlt] at HST
              go_wp2_with fail
              go_ret
              exact ⟨_, Q', rfl, HHE.out, hsq.out, hhi.out, HKE.out, HST.out⟩
            · have hd : decide ((i0 : Int) < (J : Int)) = false := decide_eq_false (by omega)
              rw [decide_eq_false hlt] at HST
              go_wp2_with fail
              go_ret
              exact ⟨_, Q', rfl, HHE.out, hsq.out, hhi.out, HKE.out, HST.out⟩
          | true =>
            rw [hL2] at HL2
            have HLE : Hid (leI (Q' C) (Q' J)) := leI_of_lt hL2
            clear hL2
            go_wp2_with fail
            refine HL2.out.mono ?_
            rintro e w8 ⟨rfl, hb8⟩
            have HH8 := Lib.hid (HHW.out.below hb8)
            have HK8 := Lib.hid (HKW.out.trans (Keep.of_below hb8))
            clear hb8 hml9 HL2
            have hms := mSwapS ab w8 _ HH8.out.queue
            have HSW := Lib.hid (swapMS ab g c N mp sets Q' J C hJN hCN w8 HH8.out)
            rw [HCI.out] at HSW
            go_wp2_with fail
            refine HSW.out.mono ?_
            rintro e w9 ⟨rfl, hh9, hk9⟩
            have HH9 := Lib.hid hh9
            have HK9 := Lib.hid (HK8.out.trans (hk9.more (fun k _ hg => hsq.out.hpg hg)))
            have HD9 : Hid (DnS Q (swp Q' J C) n i0 C) := hds.out.step hij hC0 hCn HCJ.out HLE.out HKD.out
            have HS9 := Lib.hid (hsq.out.trans (SameQ.swp Q' hJN hCN))
            have HI9 : Hid (∀ k, n ≤ k → swp Q' J C k = Q k) := fun k hk => by rw [swp_o Q' (by omega) (by omega)]; exact hhi.out k hk
            have hiC : i0 ≤ C := by have := HCJ.out; omega
            clear hh9 hk9 hms HSW
            go_wp2_with fail
            rw [← HCI.out]
            go_roundw
            case rel => exact ⟨C, swp Q' J C, hCN, hiC, rfl, HH9, HD9, HS9, HI9, HK9⟩
            case measure => have := HCJ.out; simp [intOf]; omega
      · have d3 : decide (2 * (J : Int) + 1 + 1 < (n : Int)) = false := decide_eq_false (by omega)
        have HKD := Lib.hid (kids_one (Q := Q') (n := n) (J := J) c2)
        have HHW := hh
        have HKW := hk
        obtain ⟨C, hC⟩ : ∃ C, C = 2 * J + 1 := ⟨_, rfl⟩
        have hCn : C < n := by omega
        have hCN : C < N := by omega
        have hC0 : 0 < C := by omega
        have hCJ : (C - 1) / 2 = J := by omega
        have hCi : (C : Int) = 2 * (J : Int) + 1 := by omega
        rw [← hC] at HKD
        have hml9 := mLessS ab wr _ HHW.out.queue
        have HL2 := Lib.hid (lessMS ab g c N mp sets Q' C J hCN hJN wr HHW.out)
        rw [hCi] at HL2
        have HCI := Lib.hid hCi
        have HCJ := Lib.hid hCJ
        clear hC hCi hCJ
        cases hL2 : ltIt (Q' C).a (Q' C).t (Q' J).a (Q' J).t with
        | false =>
          rw [hL2] at HL2
          have HST := Lib.hid (hds.out.stop (fun i h0 hi hk => leI_trans _ _ _ (show leI (Q' J) (Q' C) from hL2) (HKD.out i h0 hi hk)))
          clear hL2
          go_wp2_with fail
          refine HL2.out.mono ?_
          rintro e w8 ⟨rfl, hb8⟩
          have HHE := Lib.hid (HHW.out.below hb8)
          have HKE := Lib.hid (HKW.out.trans (Keep.of_below hb8))
          clear hb8 hml9
          by_cases hlt : i0 < J
          · have hd : decide ((i0 : Int) < (J : Int)) = true := decide_eq_true (by omega)
            rw [decide_eq_true hlt] at HST
            go_wp2_with fail
            go_ret
            exact ⟨_, Q', rfl, HHE.out, hsq.out, hhi.out, HKE.out, HST.out⟩
          · have hd : decide ((i0 : Int) < (J : Int)) = false := decide_eq_false (by omega)
            rw [decide_eq_false hlt] at HST
            go_wp2_with fail
            go_ret
            exact ⟨_, Q', rfl, HHE.out, hsq.out, hhi.out, HKE.out, HST.out⟩
        | true =>
          rw [hL2] at HL2
          have HLE : Hid (leI (Q' C) (Q' J)) := leI_of_lt hL2
          clear hL2
          go_wp2_with fail
          refine HL2.out.mono ?_
          rintro e w8 ⟨rfl, hb8⟩
          have HH8 := Lib.hid (HHW.out.below hb8)
          have HK8 := Lib.hid (HKW.out.trans (Keep.of_below hb8))
          clear hb8 hml9 HL2
          have hms := mSwapS ab w8 _ HH8.out.queue
          have HSW := Lib.hid (swapMS ab g c N mp sets Q' J C hJN hCN w8 HH8.out)
          rw [HCI.out] at HSW
          go_wp2_with fail
          refine HSW.out.mono ?_
          rintro e w9 ⟨rfl, hh9, hk9⟩
          have HH9 := Lib.hid hh9
          have HK9 := Lib.hid (HK8.out.trans (hk9.more (fun k _ hg => hsq.out.hpg hg)))
          have HD9 : Hid (DnS Q (swp Q' J C) n i0 C) := hds.out.step hij hC0 hCn HCJ.out HLE.out HKD.out
          have HS9 := Lib.hid (hsq.out.trans (SameQ.swp Q' hJN hCN))
          have HI9 : Hid (∀ k, n ≤ k → swp Q' J C k = Q k) := fun k hk => by rw [swp_o Q' (by omega) (by omega)]; exact hhi.out k hk
          have hiC : i0 ≤ C := by have := HCJ.out; omega
          clear hh9 hk9 hms HSW
          go_wp2_with fail
          rw [← HCI.out]
          go_roundw
          case rel => exact ⟨C, swp Q' J C, hCN, hiC, rfl, HH9, HD9, HS9, HI9, HK9⟩
          case measure => have := HCJ.out; simp [intOf]; omega
    · have d1 : decide ((n : Int) ≤ 2 * (J : Int) + 1) = true := decide_eq_true (by omega)
      have HST := Lib.hid (hds.out.stop (fun i h0 hi hk => by omega))
      have HHE := hh
      have HKE := hk
      by_cases hlt : i0 < J
      · have hd : decide ((i0 : Int) < (J : Int)) = true := decide_eq_true (by omega)
        rw [decide_eq_true hlt] at HST
        go_wp2_with fail
        go_ret
        exact ⟨_, Q', rfl, HHE.out, hsq.out, hhi.out, HKE.out, HST.out⟩
      · have hd : decide ((i0 : Int) < (J : Int)) = false := decide_eq_false (by omega)
        rw [decide_eq_false hlt] at HST
        go_wp2_with fail
        go_ret
        exact ⟨_, Q', rfl, HHE.out, hsq.out, hhi.out, HKE.out, HST.out⟩
set_option maxHeartbeats 4000000 in
set_option maxRecDepth 100000 in
theorem downN (ab g c N n : Nat) (hnN : n ≤ N) (mp : Value) (sets : Int) (Q : Nat → It) (hN : N ≤ 1000000) (i0 : Nat) (hi0 : i0 < N) (w : World) (h : HpM pl 97 99 w ab g c N mp sets Q) (hu : OffI leI Q n i0) :
    Calls Try.prog 54 #[.iface 102 (.pointer (some ⟨ab, pl.o, none⟩)), .int .i64 (i0 : Int), .int .i64 (n : Int)] w fun e w' => ∃ b Q', e = .returned (.bool b) ∧ HpM pl 97 99 w' ab g c N mp sets Q' ∧ SameQ N Q Q' ∧ (∀ k, n ≤ k → Q' k = Q k) ∧ Keep (HpG g Q N) w w' ∧ DnP Q Q' n i0 b := by
  have HH := Lib.hid h
  have HU : Hid (DnS Q Q n i0 i0) := .inl ⟨rfl, rfl, hu⟩
  have HSQ := Lib.hid (SameQ.refl N Q)

  have HK := Lib.hid (Keep.refl (HpG g Q N) w)
  clear h hu
  go_enter Try.func54, Try.ntmps54
  go_wp2_with fail
  go_loopw [7] (fun j wr => ∃ (J : Nat) (Q' : Nat → It), J < N ∧ i0 ≤ J ∧ j = .int .i64 (J : Int) ∧ Hid (HpM pl 97 99 wr ab g c N mp sets Q') ∧ Hid (DnS Q Q' n i0 J) ∧ Hid (SameQ N Q Q') ∧ Hid (∀ k, n ≤ k → Q' k = Q k) ∧ Hid (Keep (HpG g Q N) w wr)) (fun j _ => N - (intOf j).toNat)
  case atStart => exact ⟨i0, Q, hi0, Nat.le_refl _, rfl, HH, HU, HSQ, (fun _ _ => rfl), HK⟩
  case round =>
    obtain ⟨J, Q', hJN, hij, rfl, hh, hds, hsq, hhi, hk⟩ := hrel
    by_cases c1 : 2 * J + 1 < n
    · have d1 : decide ((n : Int) ≤ 2 * (J : Int) + 1) = false := decide_eq_false (by omega)
      have d2 : decide (2 * (J : Int) + 1 < 0) = false := decide_eq_false (by omega)
      by_cases c2 : 2 * J + 2 < n
      · have d3 : decide (2 * (J : Int) + 1 + 1 < (n : Int)) = true := decide_eq_true (by omega)
        have d4 : 2 * (J : Int) + 1 + 1 = 2 * (J : Int) + 2 := by omega
        have hml := mLessN ab wr _ hh.out.queue
        have hl1 := lessMN ab g c N mp sets Q' (2 * J + 2) (2 * J + 1) (by omega) (by omega) wr hh.out
        rw [show (((2 * J + 2 : Nat) : Nat) : Int) = 2 * (J : Int) + 2 by omega, show (((2 * J + 1 : Nat) : Nat) : Int) = 2 * (J : Int) + 1 by omega] at hl1
        have HL1 := Lib.hid hl1
        clear hl1
        cases hL1 : ltIt (Q' (2 * J + 2)).a (Q' (2 * J + 2)).t (Q' (2 * J + 1)).a (Q' (2 * J + 1)).t with
        | true =>
          rw [hL1] at HL1
          have HKD := Lib.hid (kids_right (Q := Q') (n := n) (J := J) (leI_of_lt hL1))
          clear hL1
          go_wp2_with fail
          refine HL1.out.mono ?_
          rintro e w4 ⟨rfl, hb4⟩
          have HHW := Lib.hid (hh.out.below hb4)
          have HKW := Lib.hid (hk.out.trans (Keep.of_below hb4))
          clear hb4 hml HL1
          obtain ⟨C, hC⟩ : ∃ C, C = 2 * J + 2 := ⟨_, rfl⟩
          have hCn : C < n := by omega
          have hCN : C < N := by omega
          have hC0 : 0 < C := by omega
          have hCJ : (C - 1) / 2 = J := by omega
          have hCi : (C : Int) = 2 * (J : Int) + 2 := by omega
          rw [← hC] at HKD
          have hml9 := mLessN ab w4 _ HHW.out.queue
          have HL2 := Lib.hid (lessMN ab g c N mp sets Q' C J hCN hJN w4 HHW.out)
          rw [hCi] at HL2
          have HCI := Lib.hid hCi
          have HCJ := Lib.hid hCJ
          clear hC hCi hCJ
          cases hL2 : ltIt (Q' C).a (Q' C).t (Q' J).a (Q' J).t with
          | false =>
            rw [hL2] at HL2
            have HST := Lib.hid (hds.out.stop (fun i h0 hi hk => leI_trans _ _ _ (show leI (Q' J) (Q' C) from hL2) (HKD.out i h0 hi hk)))
            clear hL2
            go_wp2_with fail
            refine HL2.out.mono ?_
            rintro e w8 ⟨rfl, hb8⟩
            have HHE := Lib.hid (HHW.out.below hb8)
            have HKE := Lib.hid (HKW.out.trans (Keep.of_below hb8))
            clear hb8 hml9
            by_cases hlt : i0 < J
            · have hd : decide ((i0 : Int) < (J : Int)) = true := decide_eq_true (by omega)
              rw [decide_eq_true hlt] at HST
              go_wp2_with fail
              go_ret
              exact ⟨_, Q', rfl, HHE.out, hsq.out, hhi.out, HKE.out, HST.out⟩
            · have hd : decide ((i0 : Int) < (J : Int)) = false := decide_eq_false (by omega)
              rw [decide_eq_false hlt] at HST
              go_wp2_with fail
              go_ret
              exact ⟨_, Q', rfl, HHE.out, hsq.out, hhi.out, HKE.out, HST.out⟩
          | true =>
            rw [hL2] at HL2
            have HLE : Hid (leI (Q' C) (Q' J)) := leI_of_lt hL2
            clear hL2
            go_wp2_with fail
            refine HL2.out.mono ?_
            rintro e w8 ⟨rfl, hb8⟩
            have HH8 := Lib.hid (HHW.out.below hb8)
            have HK8 := Lib.hid (HKW.out.trans (Keep.of_below hb8))
            clear hb8 hml9 HL2
            have hms := mSwapN ab w8 _ HH8.out.queue
            have HSW := Lib.hid (swapMN ab g c N mp sets Q' J C hJN hCN w8 HH8.out)
            rw [HCI.out] at HSW
            go_wp2_with fail
            refine HSW.out.mono ?_
            rintro e w9 ⟨rfl, hh9, hk9⟩
            have HH9 := Lib.hid hh9
            have HK9 := Lib.hid (HK8.out.trans (hk9.more (fun k _ hg => hsq.out.hpg hg)))
            have HD9 : Hid (DnS Q (swp Q' J C) n i0 C) := hds.out.step hij hC0 hCn HCJ.out HLE.out HKD.out
            have HS9 := Lib.hid (hsq.out.trans (SameQ.swp Q' hJN hCN))
            have HI9 : Hid (∀ k, n ≤ k → swp Q' J C k = Q k) := fun k hk => by rw [swp_o Q' (by omega) (by omega)]; exact hhi.out k hk
            have hiC : i0 ≤ C := by have := HCJ.out; omega
            clear hh9 hk9 hms HSW
            go_wp2_with fail
            rw [← HCI.out]
            go_roundw
            case rel => exact ⟨C, swp Q' J C, hCN, hiC, rfl, HH9, HD9, HS9, HI9, HK9⟩
            case measure => have := HCJ.out; simp [intOf]; omega
        | false =>
          rw [hL1] at HL1
          have HKD := Lib.hid (kids_left (Q := Q') (n := n) (J := J) hL1)
          clear hL1
          go_wp2_with fail
          refine HL1.out.mono ?_
          rintro e w4 ⟨rfl, hb4⟩
          have HHW := Lib.hid (hh.out.below hb4)
          have HKW := Lib.hid (hk.out.trans (Keep.of_below hb4))
          clear hb4 hml HL1
          obtain ⟨C, hC⟩ : ∃ C, C = 2 * J + 1 := ⟨_, rfl⟩
          have hCn : C < n := by omega
          have hCN : C < N := by omega
          have hC0 : 0 < C := by omega
          have hCJ : (C - 1) / 2 = J := by omega
          have hCi : (C : Int) = 2 * (J : Int) + 1 := by omega
          rw [← hC] at HKD
          have hml9 := mLessN ab w4 _ HHW.out.queue
          have HL2 := Lib.hid (lessMN ab g c N mp sets Q' C J hCN hJN w4 HHW.out)
          rw [hCi] at HL2
          have HCI := Lib.hid hCi
          have HCJ := Lib.hid hCJ
          clear hC hCi hCJ
          cases hL2 : ltIt (Q' C).a (Q' C).t (Q' J).a (Q' J).t with
          | false =>
            rw [hL2] at HL2
            have HST := Lib.hid (hds.out.stop (fun i h0 hi hk => leI_trans _ _ _ (show leI (Q' J) (Q' C) from hL2) (HKD.out i h0 hi hk)))
            clear hL2
            go_wp2_with fail
            refine HL2.out.mono ?_
            rintro e w8 ⟨rfl, hb8⟩
            have HHE := Lib.hid (HHW.out.below hb8)
            have HKE := Lib.hid (HKW.out.trans (Keep.of_below hb8))
            clear hb8 hml9
            by_cases hlt : i0 < J
            · have hd : decide ((i0 : Int) < (J : Int)) = true := decide_eq_true (by omega)
              rw [decide_eq_true hlt] at HST
              go_wp2_with fail
              go_ret
              exact ⟨_, Q', rfl, HHE.out, hsq.out, hhi.out, HKE.out, HST.out⟩
            · have hd : decide ((i0 : Int) < (J : Int)) = false := decide_eq_false (by omega)
              rw [decide_eq_false hlt] at HST
              go_wp2_with fail
              go_ret
              exact ⟨_, Q', rfl, HHE.out, hsq.out, hhi.out, HKE.out, HST.out⟩
          | true =>
            rw [hL2] at HL2
            have HLE : Hid (leI (Q' C) (Q' J)) := leI_of_lt hL2
            clear hL2
            go_wp2_with fail
            refine HL2.out.mono ?_
            rintro e w8 ⟨rfl, hb8⟩
            have HH8 := Lib.hid (HHW.out.below hb8)
            have HK8 := Lib.hid (HKW.out.trans (Keep.of_below hb8))
            clear hb8 hml9 HL2
            have hms := mSwapN ab w8 _ HH8.out.queue
            have HSW := Lib.hid (swapMN ab g c N mp sets Q' J C hJN hCN w8 HH8.out)
            rw [HCI.out] at HSW
            go_wp2_with fail
            refine HSW.out.mono ?_
            rintro e w9 ⟨rfl, hh9, hk9⟩
            have HH9 := Lib.hid hh9
            have HK9 := Lib.hid (HK8.out.trans (hk9.more (fun k _ hg => hsq.out.hpg hg)))
            have HD9 : Hid (DnS Q (swp Q' J C) n i0 C) := hds.out.step hij hC0 hCn HCJ.out HLE.out HKD.out
            have HS9 := Lib.hid (hsq.out.trans (SameQ.swp Q' hJN hCN))
            have HI9 : Hid (∀ k, n ≤ k → swp Q' J C k = Q k) := fun k hk => by rw [swp_o Q' (by omega) (by omega)]; exact hhi.out k hk
            have hiC : i0 ≤ C := by have := HCJ.out; omega
            clear hh9 hk9 hms HSW
            go_wp2_with fail
            rw [← HCI.out]
            go_roundw
            case rel => exact ⟨C, swp Q' J C, hCN, hiC, rfl, HH9, HD9, HS9, HI9, HK9⟩
            case measure => have := HCJ.out; simp [intOf]; omega
      · have d3 : decide (2 * (J : Int) + 1 + 1 < (n : Int)) = false := decide_eq_false (by omega)
        have HKD := Lib.hid (kids_one (Q := Q') (n := n) (J := J) c2)
        have HHW := hh
        have HKW := hk
        obtain ⟨C, hC⟩ : ∃ C, C = 2 * J + 1 := ⟨_, rfl⟩
        have hCn : C < n := by omega
        have hCN : C < N := by omega
        have hC0 : 0 < C := by omega
        have hCJ : (C - 1) / 2 = J := by omega
        have hCi : (C : Int) = 2 * (J : Int) + 1 := by omega
        rw [← hC] at HKD
        have hml9 := mLessN ab wr _ HHW.out.queue
        have HL2 := Lib.hid (lessMN ab g c N mp sets Q' C J hCN hJN wr HHW.out)
        rw [hCi] at HL2
        have HCI := Lib.hid hCi
        have HCJ := Lib.hid hCJ
        clear hC hCi hCJ
        cases hL2 : ltIt (Q' C).a (Q' C).t (Q' J).a (Q' J).t with
        | false =>
          rw [hL2] at HL2
          have HST := Lib.hid (hds.out.stop (fun i h0 hi hk => leI_trans _ _ _ (show leI (Q' J) (Q' C) from hL2) (HKD.out i h0 hi hk)))
          clear hL2
          go_wp2_with fail
          refine HL2.out.mono ?_
          rintro e w8 ⟨rfl, hb8⟩
          have HHE := Lib.hid (HHW.out.below hb8)
          have HKE := Lib.hid (HKW.out.trans (Keep.of_below hb8))
          clear hb8 hml9
          by_cases hlt : i0 < J
          · have hd : decide ((i0 : Int) < (J : Int)) = true := decide_eq_true (by omega)
            rw [decide_eq_true hlt] at HST
            go_wp2_with fail
            go_ret
            exact ⟨_, Q', rfl, HHE.out, hsq.out, hhi.out, HKE.out, HST.out⟩
          · have hd : decide ((i0 : Int) < (J : Int)) = false := decide_eq_false (by omega)
            rw [decide_eq_false hlt] at HST
            go_wp2_with fail
            go_ret
            exact ⟨_, Q', rfl, HHE.out, hsq.out, hhi.out, HKE.out, HST.out⟩
        | true =>
          rw [hL2] at HL2
          have HLE : Hid (leI (Q' C) (Q' J)) := leI_of_lt hL2
          clear hL2
          go_wp2_with fail
          refine HL2.out.mono ?_
          rintro e w8 ⟨rfl, hb8⟩
          have HH8 := Lib.hid (HHW.out.below hb8)
          have HK8 := Lib.hid (HKW.out.trans (Keep.of_below hb8))
          clear hb8 hml9 HL2
          have hms := mSwapN ab w8 _ HH8.out.queue
          have HSW := Lib.hid (swapMN ab g c N mp sets Q' J C hJN hCN w8 HH8.out)
          rw [HCI.out] at HSW
          go_wp2_with fail
          refine HSW.out.mono ?_
          rintro e w9 ⟨rfl, hh9, hk9⟩
          have HH9 := Lib.hid hh9
          have HK9 := Lib.hid (HK8.out.trans (hk9.more (fun k _ hg => hsq.out.hpg hg)))
          have HD9 : Hid (DnS Q (swp Q' J C) n i0 C) := hds.out.step hij hC0 hCn HCJ.out HLE.out HKD.out
          have HS9 := Lib.hid (hsq.out.trans (SameQ.swp Q' hJN hCN))
          have HI9 : Hid (∀ k, n ≤ k → swp Q' J C k = Q k) := fun k hk => by rw [swp_o Q' (by omega) (by omega)]; exact hhi.out k hk
          have hiC : i0 ≤ C := by have := HCJ.out; omega
          clear hh9 hk9 hms HSW
          go_wp2_with fail
          rw [← HCI.out]
          go_roundw
          case rel => exact ⟨C, swp Q' J C, hCN, hiC, rfl, HH9, HD9, HS9, HI9, HK9⟩
          case measure => have := HCJ.out; simp [intOf]; omega
    · have d1 : decide ((n : Int) ≤ 2 * (J : Int) + 1) = true := decide_eq_true (by omega)
      have HST := Lib.hid (hds.out.stop (fun i h0 hi hk => by omega))
      have HHE := hh
      have HKE := hk
      by_cases hlt : i0 < J
      · have hd : decide ((i0 : Int) < (J : Int)) = true := decide_eq_true (by omega)
        rw [decide_eq_true hlt] at HST
        go_wp2_with fail
        go_ret
        exact ⟨_, Q', rfl, HHE.out, hsq.out, hhi.out, HKE.out, HST.out⟩
      · have hd : decide ((i0 : Int) < (J : Int)) = false := decide_eq_false (by omega)
        rw [decide_eq_false hlt] at HST
        go_wp2_with fail
        go_ret
        exact ⟨_, Q', rfl, HHE.out, hsq.out, hhi.out, HKE.out, HST.out⟩
end PlV
end Go.Proofs.Ytcdgmhglpcokdaa
