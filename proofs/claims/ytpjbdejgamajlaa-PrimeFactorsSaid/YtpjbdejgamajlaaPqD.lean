/- The law PrimeFactors. -/
import Derived.Test.YtpjbdejgamajlaaPqC
namespace Go.Proofs.Ytpjbdejgamajlaa
open Go.RowKit

set_option maxHeartbeats 2000000 in
theorem lawPrimeFactors (n : Int) (w : World) :
    Calls Try.prog 4 #[.int .i64 n] w fun e w' => e = .returned (.bool true) ∧ Below w.heap.size w w' := by
  have HB := Lib.hid (Below.refl w.heap.size w)
  by_cases h2 : n < 2
  · go_enter Try.func4, Try.ntmps4
    go_wp2_with fail
    refine (awake7 _).mono ?_
    rintro e w' ⟨rfl, rfl⟩
    go_wp2_with fail
    refine (factors10_no n (.inl h2) _).mono ?_
    rintro e w' ⟨rfl, rfl⟩
    go_wp2_with fail
    go_ret
    exact ⟨rfl, HB.out⟩
  by_cases hm : 1048576 < n
  · go_enter Try.func4, Try.ntmps4
    go_wp2_with fail
    refine (awake7 _).mono ?_
    rintro e w' ⟨rfl, rfl⟩
    go_wp2_with fail
    refine (factors10_no n (.inr hm) _).mono ?_
    rintro e w' ⟨rfl, rfl⟩
    go_wp2_with fail
    go_ret
    exact ⟨rfl, HB.out⟩
  obtain ⟨N, rfl⟩ := Int.eq_ofNat_of_zero_le (show 0 ≤ n by omega)
  have h2' : 2 ≤ N := by omega
  have hm' : N ≤ 1048576 := by omega
  go_enter Try.func4, Try.ntmps4
  go_wp2_with fail
  refine (awake7 _).mono ?_
  rintro e w' ⟨rfl, hw'⟩
  subst hw'
  go_wp2_with fail
  refine (factors10 N h2' hm' _).mono ?_
  rintro e w1 ⟨ps, a, c, rfl, hf, hn, hb⟩
  have HN := Lib.hid hn
  have HB1 := Lib.hid hb
  have HF := Lib.hid hf
  have hlen := hf.len hm'
  clear hn hb hf HB
  go_wp2_with fail
  go_loopw [4, 5, 6, 22] (fun p _ _ i wr => ∃ j : Nat, j ≤ ps.length ∧ i = .int .i64 (j : Int) ∧ p = .int .i64 ((prodN ps j : Nat) : Int) ∧ wr = w1) (fun _ _ _ i _ => ps.length - (intOf i).toNat)
  case atStart => exact ⟨0, Nat.zero_le _, rfl, rfl, rfl⟩
  case round =>
    obtain ⟨j, hj, rfl, rfl, hwr⟩ := hrel
    subst hwr
    by_cases hlt : j < ps.length
    · obtain h0 | ⟨g, rfl, hg, hc⟩ := HN.out
      · subst h0; simp at hlt
      have c1 := hc j ps[j] (by simp [hlt])
      have hpr := HF.out.prime ps[j] (List.getElem_mem hlt)
      have hp1 := HF.out.end j (by omega)
      have hp2 := HF.out.end (j + 1) (by omega)
      rw [prodN_step hlt] at hp2
      have hnext := prodN_step hlt
      have hip : isP ((ps[j] : Nat) : Int) = true := by
        have h3 := primeB_spec hpr
        have h4 : ps[j] ∣ N := by
          have := prodN_dvd ps (j + 1)
          have h5 := HF.out.prod
          rw [Nat.mul_one] at h5
          rw [h5, hnext] at this
          exact Nat.dvd_trans (Nat.dvd_mul_left _ _) this
        rw [isP_mid h3.1 (Nat.le_trans (Nat.le_of_dvd (by omega) h4) hm')]
        exact hpr
      have j1 : (j : Int) < ps.length := by omega
      have hpn : ¬ (N : Int) < ((prodN ps j : Nat) : Int) := by omega
      have hcast : ((prodN ps j : Nat) : Int) * ((ps[j] : Nat) : Int) = ((prodN ps j * ps[j] : Nat) : Int) := by simp
      have HE := Lib.hid hnext
      by_cases hj0 : j = 0
      · subst hj0
        generalize ps[0] = d at *
        clear hc hpr hp1 hnext
        generalize prodN ps 0 * d = Q at *
        generalize prodN ps 0 = P at *
        go_wp2_with fail
        refine (refis11 _ _).mono ?_
        rintro e w' ⟨rfl, hw'⟩
        subst hw'
        go_wp2_with fail
        go_roundw
        case rel => exact ⟨1, hlt, by go_num, by rw [HE.out], by trivial⟩
        case measure => simp [intOf]; omega
      · obtain ⟨k, rfl⟩ : ∃ k, j = k + 1 := ⟨j - 1, by omega⟩
        have c2 := hc k ps[k] (by rw [List.getElem?_eq_getElem])
        have hle := HF.out.at (k + 1) hlt (by omega)
        rw [show ps[k + 1 - 1] = ps[k] from rfl] at hle
        have hle' : ¬ ((ps[k + 1] : Nat) : Int) < ((ps[k] : Nat) : Int) := by omega
        have hsub : ((k + 1 : Nat) : Int) - 1 = (k : Int) := by omega
        have hkl : (k : Int) < ps.length := by omega
        have hk0 : (0 : Int) < ((k + 1 : Nat) : Int) := by omega
        clear hc hpr hp1 hnext hle
        generalize prodN ps (k + 1) * ps[k + 1] = Q at *
        generalize prodN ps (k + 1) = P at *
        generalize ps[k + 1] = d at *
        generalize ps[k] = d' at *
        go_wp2_with fail
        refine (refis11 _ _).mono ?_
        rintro e w' ⟨rfl, hw'⟩
        subst hw'
        go_wp2_with fail
        go_roundw
        case rel => exact ⟨k + 1 + 1, hlt, by go_num, by rw [HE.out], by trivial⟩
        case measure => simp [intOf]; omega
    · obtain rfl : ps.length = j := by omega
      have hne : ¬ (ps.length : Int) < ps.length := by omega
      have he := HF.out.fin
      have HE := Lib.hid he
      clear he
      go_wp2_with fail
      go_ret
      exact ⟨by rw [HE.out]; simp, HB1.out⟩
end Go.Proofs.Ytpjbdejgamajlaa
