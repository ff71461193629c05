/- maglev with equal weights, as math; Pick; stewardlaw18.awake. -/
import Derived.Test.YtlcpkplipfcdaaaDoorMgK
namespace Go.Proofs.YtlcpkplipfcdaaaDoor
open Go.RowKit

theorem shN_set {own : Nat → Int} {p k i m : Nat} (hp : own p = -1) (hpm : p < m) : shN (setI own p k) i m = shN own i m + (if i = k then 1 else 0) := by
  unfold shN
  by_cases e : i = k
  · subst e
    rw [if_pos rfl]
    refine cntF_set (k := p) ?_ ?_ hpm (fun q hq => ?_)
    · rw [hp]; exact decide_eq_false (by omega)
    · unfold setI; rw [if_pos rfl]; exact decide_eq_true rfl
    · unfold setI; rw [if_neg hq]
  · rw [if_neg e]
    refine cntF_same (k := p) ?_ (fun q hq => ?_)
    · unfold setI; rw [if_pos rfl, hp, decide_eq_false (by omega), decide_eq_false (by omega)]
    · unfold setI; rw [if_neg hq]
/-- How often an entry's turn has come. -/
def turns (n i : Nat) : Nat → Nat
  | 0 => 0
  | t + 1 => turns n i t + (if i = t % n then 1 else 0)
theorem turns_is {n i : Nat} (hn : 0 < n) (hi : i < n) : ∀ T, turns n i T = T / n + (if i < T % n then 1 else 0)
  | 0 => by simp [turns]
  | T + 1 => by
    unfold turns
    rw [turns_is hn hi T]
    have h1 := Nat.div_add_mod T n
    have h2 := Nat.mod_lt T hn
    generalize hq : T / n = q at *
    generalize hr : T % n = r at *
    by_cases e : r + 1 = n
    · have h3 : T + 1 = n * (q + 1) := by rw [Nat.mul_add, Nat.mul_one]; omega
      rw [h3, Nat.mul_div_cancel_left _ hn, Nat.mul_mod_right]
      by_cases e2 : i = r
      · rw [if_pos e2, if_neg (by omega), if_neg (by omega)]
      · rw [if_neg e2, if_pos (by omega), if_neg (by omega)]
    · have h3 : T + 1 = n * q + (r + 1) := by omega
      rw [h3, Nat.mul_add_div hn, Nat.mul_add_mod, Nat.mod_eq_of_lt (show r + 1 < n by omega), Nat.div_eq_of_lt (show r + 1 < n by omega), Nat.add_zero]
      by_cases e2 : i = r
      · rw [if_pos e2, if_neg (by omega), if_pos (by omega)]
      · rw [if_neg e2]
        by_cases e3 : i < r
        · rw [if_pos e3, if_pos (by omega)]
        · rw [if_neg e3, if_neg (by omega)]
/-- With equal weights each round gives each a place. -/
theorem fair_run {P : Par} (h : P.Ok) (hw : ∀ i, i < P.n → P.W i = P.G) : ∀ T, T ≤ P.m → (P.run T).cnt = T ∧ (∀ i, i < P.n → (P.run T).ow i = 0) ∧ ∀ i, i < P.n → shN (P.run T).own i P.m = turns P.n i T
  | 0, _ => by
    refine ⟨rfl, fun _ _ => rfl, fun i _ => ?_⟩
    show cntF (fun q => decide ((-1 : Int) = (i : Int))) P.m = 0
    rw [cntF_congr (q := fun _ => false) (fun q _ => decide_eq_false (by omega)), cntF_none]
  | T + 1, hT => by
    obtain ⟨h1, h2, h3⟩ := fair_run h hw T (by omega)
    have hi := Nat.mod_lt T h.n0
    have hI := Par.run_inv h T
    have hf := hI.free h (by omega) hi
    have hs : P.run (T + 1) = P.take (T % P.n) (P.run T) := by
      show P.stp (T % P.n) (P.run T) = _
      unfold Par.stp
      rw [if_neg (by omega), if_neg (by rw [h2 _ hi, hw _ hi]; omega)]
    rw [hs]
    refine ⟨by show (P.run T).cnt + 1 = _; omega, fun i hin => ?_, fun i hin => ?_⟩
    · show setI (P.run T).ow (T % P.n) ((P.run T).ow (T % P.n) + P.W (T % P.n) - P.G) i = 0
      unfold setI
      split
      · rw [h2 _ hi, hw _ hi]; omega
      · exact h2 i hin
    · show shN (setI (P.run T).own (P.pl (T % P.n) (P.nxt (T % P.n) (P.run T))) (T % P.n : Nat)) i P.m = _
      rw [shN_set hf.2.2.1 (Par.pl_lt h _ _), h3 i hin]
      rfl
/-- The sum of the first shares. -/
def sumN (own : Nat → Int) (m : Nat) : Nat → Nat
  | 0 => 0
  | j + 1 => sumN own m j + shN own j m
theorem sumN_zero (own : Nat → Int) : ∀ n, sumN own 0 n = 0
  | 0 => rfl
  | n + 1 => by unfold sumN; rw [sumN_zero own n]; rfl
theorem sumN_step (own : Nat → Int) (m : Nat) : ∀ n, sumN own (m + 1) n = sumN own m n + (if 0 ≤ own m ∧ own m < n then 1 else 0)
  | 0 => by unfold sumN; rw [if_neg (by omega)]
  | n + 1 => by
    unfold sumN
    rw [sumN_step own m n, shN_step]
    by_cases e : own m = (n : Int)
    · rw [if_neg (by omega), if_pos e, if_pos (by omega)]; omega
    · rw [if_neg e]
      by_cases e2 : 0 ≤ own m ∧ own m < n
      · rw [if_pos e2, if_pos (by omega)]; omega
      · rw [if_neg e2, if_neg (by omega)]; omega
theorem sumN_full {own : Nat → Int} {n : Nat} : ∀ m, (∀ q, q < m → 0 ≤ own q ∧ own q < n) → sumN own m n = m
  | 0, _ => sumN_zero own n
  | m + 1, h => by rw [sumN_step, sumN_full m (fun q hq => h q (by omega)), if_pos (h m (by omega))]
theorem sumN_le {own : Nat → Int} {m : Nat} : ∀ n, sumN own m n ≤ n * m
  | 0 => Nat.zero_le _
  | n + 1 => by unfold sumN; have := sumN_le (own := own) (m := m) n; have := shN_le own n m; rw [Nat.add_mul, Nat.one_mul]; omega
/-- All places are given. -/
theorem Assigned.full {k : Nat → UInt8} {es : List Ent} {m : Nat} {own : Nat → Int} (h : Assigned k es m own) (hne : es ≠ []) (hp : primeB m = true) (hv : ∀ e ∈ es, okW e = true) : ∀ q, q < m → 0 ≤ own q ∧ own q < es.length := by
  intro q hq
  rcases h with ⟨h0, _⟩ | ⟨_, T, hT, rfl⟩
  · exact absurd h0 hne
  · have hI := Par.run_inv (parOf_ok (k := k) (m := m) hne hp hv).1 T
    have hc := hI.cnt
    rw [hT] at hc
    have h2 := cntF_full hc.symm q hq
    have h3 : ((parOf k es m).run T).own q ≠ -1 := of_decide_eq_true h2
    rcases hI.rng q with h4 | h4
    · exact absurd h4 h3
    · exact h4
/-- With equal weights no two shares are more than 1 apart. -/
theorem Assigned.fair {k : Nat → UInt8} {es : List Ent} {m : Nat} {own : Nat → Int} {v : Int} (h : Assigned k es m own) (hne : es ≠ []) (hp : primeB m = true) (hv : ∀ e ∈ es, okW e = true) (he : ∀ e ∈ es, e.2 = v) : ∃ d, d ≤ m ∧ ∀ i, i < es.length → d ≤ shN own i m ∧ shN own i m ≤ d + 1 := by
  rcases h with ⟨h0, _⟩ | ⟨_, T, hT, rfl⟩
  · exact absurd h0 hne
  · have hok := (parOf_ok (k := k) (m := m) hne hp hv).1
    have hw : ∀ i, i < (parOf k es m).n → (parOf k es m).W i = v.toNat := fun i hi => by
      have hi : i < es.length := hi
      rw [parOf_W hi, he _ (List.getElem_mem hi)]
    obtain ⟨i0, hi0, hg⟩ := hok.g
    have hf := fair_run hok (fun i hi => by rw [hw i hi, ← hg, hw i0 hi0]) m (Nat.le_refl _)
    rw [Par.run_same _ hT hf.1]
    refine ⟨m / es.length, Nat.div_le_self _ _, fun i hi => ?_⟩
    have h3 : shN ((parOf k es m).run m).own i m = turns es.length i m := hf.2.2 i hi
    rw [h3, turns_is (List.length_pos_iff.2 hne) hi]
    split <;> omega
set_option maxHeartbeats 1000000 in
theorem pick26 (tb m : Nat) (hm0 : 0 < m) (hm : m ≤ 1048576) (ns : List ByteArray) (hn : ns.length ≤ 1000) (own : Nat → Int) (hok : OwnOk ns.length m own) (x : Nat) (hx : x < 18446744073709551616) (w : World) (h : TableAt w tb ns m own) :
    Calls Tryd.prog 21 #[.pointer (some ⟨tb, 0, none⟩), .int .u64 x] w fun e w' => e = .returned (.string (atN ns m own (belowN x m))) ∧ Below w.heap.size w w' := by
  have HS := Lib.hid (size11 tb m ns own w h)
  have HB := Lib.hid (below15 x m hx hm0 (by omega) w)
  have HA := Lib.hid (at13 tb m ns hn own hok (belowN x m) w h)
  clear h hok
  generalize belowN x m = y at *
  go_enter Tryd.func21, Tryd.ntmps21
  go_wp2_with (first | (go_at_call 15; refine HS.out.mono ?_; rintro e w' ⟨rfl, rfl⟩) | (go_at_call 46; refine HB.out.mono ?_; rintro e w' ⟨rfl, rfl⟩) | (go_at_call 17; refine HA.out.mono ?_; rintro e w' ⟨rfl, hB⟩))
  go_ret
  exact ⟨rfl, hB⟩
end Go.Proofs.YtlcpkplipfcdaaaDoor
