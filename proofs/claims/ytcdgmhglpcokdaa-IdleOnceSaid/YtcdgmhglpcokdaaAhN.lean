/- container/heap: up, over agenda's queue (written by genagn.py). -/
import Derived.Test.YtcdgmhglpcokdaaAhL
import Derived.Test.YtcdgmhglpcokdaaAhF
namespace Go.Proofs.Ytcdgmhglpcokdaa
open Go.RowKit
section PlV
variable {pl : Pl}

set_option maxHeartbeats 2000000 in
set_option maxRecDepth 100000 in
theorem upS (ab g c N n : Nat) (hnN : n ≤ N) (mp : Value) (sets : Int) (Q : Nat → It) (hn : N ≤ 1000000) (J0 : Nat) (hJ : J0 < n) (w : World) (h : HpM pl 107 106 w ab g c N mp sets Q) (hu : UpI leI Q n J0) :
    Calls Try.prog 55 #[.iface 109 (.pointer (some ⟨ab, pl.o, none⟩)), .int .i64 (J0 : Int)] w fun e w' => e = .returned (.tuple #[]) ∧ ∃ Q', HpM pl 107 106 w' ab g c N mp sets Q' ∧ HeapAt leI Q' n ∧ SameQ N Q Q' ∧ (∀ k, n ≤ k → Q' k = Q k) ∧ Keep (HpG g Q N) w w' := by
  have HH := Lib.hid h
  have HU := Lib.hid hu
  have HSQ := Lib.hid (SameQ.refl N Q)
  have HK := Lib.hid (Keep.refl (HpG g Q N) w)
  clear h hu
  go_enter Try.func55, Try.ntmps55
  go_wp2_with fail
  go_loopw [1] (fun j wr => ∃ (J : Nat) (Q' : Nat → It), J < n ∧ j = .int .i64 (J : Int) ∧ Hid (HpM pl 107 106 wr ab g c N mp sets Q') ∧ Hid (UpI leI Q' n J) ∧ Hid (SameQ N Q Q') ∧ Hid (∀ k, n ≤ k → Q' k = Q k) ∧ Hid (Keep (HpG g Q N) w wr)) (fun j _ => (intOf j).toNat)
  case atStart => exact ⟨J0, Q, hJ, rfl, HH, HU, HSQ, (fun _ _ => rfl), HK⟩
  case round =>
    obtain ⟨J, Q', hJn, rfl, hh, hui, hsq, hhi, hk⟩ := hrel
    have hJN : J < N := Nat.lt_of_lt_of_le hJn hnN
    by_cases h0 : J = 0
    · subst h0
      have hq0 : Int.tdiv (-1) 2 = 0 := by decide
      go_wp2_with fail
      refine bodyPost_end (v := .tuple #[]) (by simp [results, Try.results55]) rfl ?_
      exact ⟨rfl, Q', hh.out, hui.out.done (.inl rfl), hsq.out, hhi.out, hk.out⟩
    · obtain ⟨P, hP⟩ : ∃ P, P = (J - 1) / 2 := ⟨_, rfl⟩
      have hPJ : P < J := by omega
      have hPn : P < n := by omega
      have hPN : P < N := by omega
      have hq1 : Int.tdiv ((J : Int) - 1) 2 = (P : Int) := by rw [Int.tdiv_eq_ediv_of_nonneg (by omega)]; omega
      have hq2 : ((P : Int) == (J : Int)) = false := by simp; omega
      have hml := mLessS ab wr _ hh.out.queue
      have HLS := Lib.hid (lessMS ab g c N mp sets Q' J P hJN hPN wr hh.out)
      have HP := Lib.hid hP
      clear hP h0
      cases hL : ltIt (Q' J).a (Q' J).t (Q' P).a (Q' P).t with
      | false =>
        rw [hL] at HLS
        have HLE : Hid (leI (Q' P) (Q' J)) := hL
        clear hL
        go_wp2_with fail
        refine HLS.out.mono ?_
        rintro e w2 ⟨rfl, hb2⟩
        have HH2 := Lib.hid (hh.out.below hb2)
        have HK2 := Lib.hid (hk.out.trans (Keep.of_below hb2))
        clear hb2
        go_wp2_with fail
        refine bodyPost_end (v := .tuple #[]) (by simp [results, Try.results55]) rfl ?_
        exact ⟨rfl, Q', HH2.out, hui.out.done (.inr (by rw [← HP.out]; exact HLE.out)), hsq.out, hhi.out, HK2.out⟩
      | true =>
        rw [hL] at HLS
        have HLE : Hid (leI (Q' J) (Q' P)) := leI_of_lt hL
        clear hL
        go_wp2_with fail
        refine HLS.out.mono ?_
        rintro e w2 ⟨rfl, hb2⟩
        have HH2 := Lib.hid (hh.out.below hb2)
        have HK2 := Lib.hid (hk.out.trans (Keep.of_below hb2))
        clear hb2 hml HLS
        have hms := mSwapS ab w2 _ HH2.out.queue
        have HSW := Lib.hid (swapMS ab g c N mp sets Q' P J hPN hJN w2 HH2.out)
        go_wp2_with fail
        refine HSW.out.mono ?_
        rintro e w3 ⟨rfl, hh3, hk3⟩
        have HH3 := Lib.hid hh3
        have HK3 := Lib.hid (HK2.out.trans (hk3.more (fun k _ hg => hsq.out.hpg hg)))
        have HU3 : Hid (UpI leI (swp Q' P J) n P) := by
          have := hui.out.step leI_trans (by omega) hJn (by rw [← HP.out]; exact HLE.out)
          rw [← HP.out] at this
          exact this
        have HI3 : Hid (∀ k, n ≤ k → swp Q' P J k = Q k) := fun k hk => by rw [swp_o Q' (by omega) (by omega)]; exact hhi.out k hk
        have HS3 := Lib.hid (hsq.out.trans (SameQ.swp Q' hPN hJN))
        clear hh3 hk3 hms HSW
        go_wp2_with fail
        go_roundw
        case rel => exact ⟨P, swp Q' P J, hPn, rfl, HH3, HU3, HS3, HI3, HK3⟩
        case measure => simp [intOf]; omega
set_option maxHeartbeats 2000000 in
set_option maxRecDepth 100000 in
theorem upN (ab g c N n : Nat) (hnN : n ≤ N) (mp : Value) (sets : Int) (Q : Nat → It) (hn : N ≤ 1000000) (J0 : Nat) (hJ : J0 < n) (w : World) (h : HpM pl 97 99 w ab g c N mp sets Q) (hu : UpI leI Q n J0) :
    Calls Try.prog 55 #[.iface 102 (.pointer (some ⟨ab, pl.o, none⟩)), .int .i64 (J0 : Int)] w fun e w' => e = .returned (.tuple #[]) ∧ ∃ Q', HpM pl 97 99 w' ab g c N mp sets Q' ∧ HeapAt leI Q' n ∧ SameQ N Q Q' ∧ (∀ k, n ≤ k → Q' k = Q k) ∧ Keep (HpG g Q N) w w' := by
  have HH := Lib.hid h
  have HU := Lib.hid hu
  have HSQ := Lib.hid (SameQ.refl N Q)
  have HK := Lib.hid (Keep.refl (HpG g Q N) w)
  clear h hu
  go_enter Try.func55, Try.ntmps55
  go_wp2_with fail
  go_loopw [1] (fun j wr => ∃ (J : Nat) (Q' : Nat → It), J < n ∧ j = .int .i64 (J : Int) ∧ Hid (HpM pl 97 99 wr ab g c N mp sets Q') ∧ Hid (UpI leI Q' n J) ∧ Hid (SameQ N Q Q') ∧ Hid (∀ k, n ≤ k → Q' k = Q k) ∧ Hid (Keep (HpG g Q N) w wr)) (fun j _ => (intOf j).toNat)
  case atStart => exact ⟨J0, Q, hJ, rfl, HH, HU, HSQ, (fun _ _ => rfl), HK⟩
  case round =>
    obtain ⟨J, Q', hJn, rfl, hh, hui, hsq, hhi, hk⟩ := hrel
    have hJN : J < N := Nat.lt_of_lt_of_le hJn hnN
    by_cases h0 : J = 0
    · subst h0
      have hq0 : Int.tdiv (-1) 2 = 0 := by decide
      go_wp2_with fail
      refine bodyPost_end (v := .tuple #[]) (by simp [results, Try.results55]) rfl ?_
      exact ⟨rfl, Q', hh.out, hui.out.done (.inl rfl), hsq.out, hhi.out, hk.out⟩
    · obtain ⟨P, hP⟩ : ∃ P, P = (J - 1) / 2 := ⟨_, rfl⟩
      have hPJ : P < J := by omega
      have hPn : P < n := by omega
      have hPN : P < N := by omega
      have hq1 : Int.tdiv ((J : Int) - 1) 2 = (P : Int) := by rw [Int.tdiv_eq_ediv_of_nonneg (by omega)]; omega
      have hq2 : ((P : Int) == (J : Int)) = false := by simp; omega
      have hml := mLessN ab wr _ hh.out.queue
      have HLS := Lib.hid (lessMN ab g c N mp sets Q' J P hJN hPN wr hh.out)
      have HP := Lib.hid hP
      clear hP h0
      cases hL : ltIt (Q' J).a (Q' J).t (Q' P).a (Q' P).t with
      | false =>
        rw [hL] at HLS
        have HLE : Hid (leI (Q' P) (Q' J)) := hL
        clear hL
        go_wp2_with fail
        refine HLS.out.mono ?_
        rintro e w2 ⟨rfl, hb2⟩
        have HH2 := Lib.hid (hh.out.below hb2)
        have HK2 := Lib.hid (hk.out.trans (Keep.of_below hb2))
        clear hb2
        go_wp2_with fail
        refine bodyPost_end (v := .tuple #[]) (by simp [results, Try.results55]) rfl ?_
        exact ⟨rfl, Q', HH2.out, hui.out.done (.inr (by rw [← HP.out]; exact HLE.out)), hsq.out, hhi.out, HK2.out⟩
      | true =>
        rw [hL] at HLS
        have HLE : Hid (leI (Q' J) (Q' P)) := leI_of_lt hL
        clear hL
        go_wp2_with fail
        refine HLS.out.mono ?_
        rintro e w2 ⟨rfl, hb2⟩
        have HH2 := Lib.hid (hh.out.below hb2)
        have HK2 := Lib.hid (hk.out.trans (Keep.of_below hb2))
        clear hb2 hml HLS
        have hms := mSwapN ab w2 _ HH2.out.queue
        have HSW := Lib.hid (swapMN ab g c N mp sets Q' P J hPN hJN w2 HH2.out)
        go_wp2_with fail
        refine HSW.out.mono ?_
        rintro e w3 ⟨rfl, hh3, hk3⟩
        have HH3 := Lib.hid hh3
        have HK3 := Lib.hid (HK2.out.trans (hk3.more (fun k _ hg => hsq.out.hpg hg)))
        have HU3 : Hid (UpI leI (swp Q' P J) n P) := by
          have := hui.out.step leI_trans (by omega) hJn (by rw [← HP.out]; exact HLE.out)
          rw [← HP.out] at this
          exact this
        have HI3 : Hid (∀ k, n ≤ k → swp Q' P J k = Q k) := fun k hk => by rw [swp_o Q' (by omega) (by omega)]; exact hhi.out k hk
        have HS3 := Lib.hid (hsq.out.trans (SameQ.swp Q' hPN hJN))
        clear hh3 hk3 hms HSW
        go_wp2_with fail
        go_roundw
        case rel => exact ⟨P, swp Q' P J, hPn, rfl, HH3, HU3, HS3, HI3, HK3⟩
        case measure => simp [intOf]; omega
end PlV
end Go.Proofs.Ytcdgmhglpcokdaa
