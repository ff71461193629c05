/- ramp: weights that grow, as math. -/
import Derived.Test.YtklfpnnnoaaiaabBase
namespace Go.Proofs.Ytklfpnnnoaaiaab
open Go.RowKit

def fullN (x : Int) : Nat := (min (max x 1) 65535).toNat
def tickN (x : Int) : Nat := (min (max x 0) 1099511627776).toNat
def lastN (x : Int) : Nat := (min (max x 0) 1048576).toNat
theorem fullN_b (x : Int) : 1 ≤ fullN x ∧ fullN x ≤ 65535 := by unfold fullN; omega
theorem tickN_b (x : Int) : tickN x ≤ 1099511627776 := by unfold tickN; omega
theorem lastN_b (x : Int) : lastN x ≤ 1048576 := by unfold lastN; omega
/-- The part of a weight at an age. -/
def gI (W : Nat) (age : Int) (S : Nat) : Nat := if S = 0 ∨ (S : Int) ≤ age then W else max (W * age.toNat / S) 1
section
variable {W S m : Nat} {a b : Int}
theorem gI_full (h : S = 0 ∨ (S : Int) ≤ a) : gI W a S = W := if_pos h
theorem gI_part (h0 : S ≠ 0) (h : a < S) : gI W a S = max (W * a.toNat / S) 1 := if_neg (by omega)
theorem gI_neg (h0 : S ≠ 0) (h : a ≤ 0) : gI W a S = 1 := by
  rw [gI_part h0 (by omega), show a.toNat = 0 by omega, Nat.mul_zero, Nat.zero_div]; rfl
theorem gI_le (hW : 1 ≤ W) : gI W a S ≤ W := by
  unfold gI
  split
  · exact Nat.le_refl _
  · rename_i h
    have h1 : W * a.toNat / S ≤ W := by
      apply Nat.div_le_of_le_mul
      rw [Nat.mul_comm S W]
      exact Nat.mul_le_mul_left W (by omega)
    omega
theorem gI_pos (hW : 1 ≤ W) : 1 ≤ gI W a S := by
  unfold gI
  split
  · exact hW
  · omega
theorem gI_mono (hW : 1 ≤ W) (h : a ≤ b) : gI W a S ≤ gI W b S := by
  by_cases hb : S = 0 ∨ (S : Int) ≤ b
  · rw [gI_full hb]; exact gI_le hW
  · rw [gI_part (a := b) (by omega) (by omega), gI_part (a := a) (by omega) (by omega)]
    have h1 : W * a.toNat / S ≤ W * b.toNat / S := Nat.div_le_div_right (Nat.mul_le_mul_left W (by omega))
    omega
/-- The age at which a weight is more than m. -/
def nxK (W m S : Nat) : Nat := ((m + 1) * S + W - 1) / W
theorem nxK_pos (hW : 1 ≤ W) (hm : m < W) (hS : 0 < S) : 1 ≤ nxK W m S := by
  unfold nxK
  rw [Nat.le_div_iff_mul_le (by omega)]
  have : 1 ≤ (m + 1) * S := Nat.mul_pos (by omega) hS
  omega
theorem nxK_le (hm : m < W) : nxK W m S ≤ S := by
  unfold nxK
  have h1 : (m + 1) * S ≤ W * S := Nat.mul_le_mul_right S (by omega)
  have h2 : ((m + 1) * S + W - 1) / W < S + 1 := by
    have h3 : (S + 1) * W = W * S + W := by rw [Nat.add_mul, Nat.mul_comm S W]; omega
    rw [Nat.div_lt_iff_lt_mul (by omega), h3]
    omega
  omega
theorem gI_gt (h1 : 1 ≤ m) (hm : m < W) (hS : 0 < S) : m < gI W a S ↔ (nxK W m S : Int) ≤ a := by
  have hp := nxK_pos (S := S) (by omega) hm hS
  have hl := nxK_le (S := S) hm
  by_cases h : (S : Int) ≤ a
  · rw [gI_full (.inr h)]
    constructor
    · intro _; omega
    · intro _; exact hm
  · rw [gI_part (by omega) (by omega)]
    have e1 : m < max (W * a.toNat / S) 1 ↔ m + 1 ≤ W * a.toNat / S := by omega
    rw [e1, Nat.le_div_iff_mul_le hS]
    have e2 : (nxK W m S : Int) ≤ a ↔ nxK W m S < a.toNat + 1 := by omega
    rw [e2]
    unfold nxK
    have h3 : (a.toNat + 1) * W = W * a.toNat + W := by rw [Nat.add_mul, Nat.mul_comm W]; omega
    rw [Nat.div_lt_iff_lt_mul (by omega), h3]
    have h4 : 1 ≤ (m + 1) * S := Nat.mul_pos (by omega) hS
    omega
end
/-- A weight at a tick. -/
def wtN (wt since now slow : Int) : Nat := gI (fullN wt) ((tickN now : Int) - (tickN since : Int)) (lastN slow)
theorem tickN_id {x : Int} (h0 : 0 ≤ x) (h1 : x ≤ 1099511627776) : (tickN x : Int) = x := by unfold tickN; omega
theorem tickN_idN {x : Int} : tickN (tickN x : Int) = tickN x := by
  have := tickN_b x
  have := tickN_id (x := (tickN x : Int)) (by omega) (by omega)
  omega
theorem wtN_tick (wt since now slow : Int) : wtN wt since (tickN now : Int) slow = wtN wt since now slow := by unfold wtN; rw [tickN_idN]
theorem wtN_mono {wt since a b slow : Int} (h : a ≤ b) : wtN wt since a slow ≤ wtN wt since b slow := by
  unfold wtN
  apply gI_mono (fullN_b wt).1
  unfold tickN
  omega
theorem wtN_le (wt since now slow : Int) : wtN wt since now slow ≤ fullN wt := gI_le (fullN_b wt).1
theorem wtN_pos (wt since now slow : Int) : 1 ≤ wtN wt since now slow := gI_pos (fullN_b wt).1
theorem wtN_full {wt since now slow : Int} (h : (tickN since : Int) + lastN slow ≤ tickN now) : wtN wt since now slow = fullN wt := by
  unfold wtN
  exact gI_full (.inr (by omega))
/-- What Next answers. -/
def nextP (wt since now slow : Int) : Int × Bool :=
  if wtN wt since now slow = fullN wt then (0, false)
  else if ((tickN since + nxK (fullN wt) (wtN wt since now slow) (lastN slow) : Nat) : Int) > 1099511627776 then (0, false)
  else (((tickN since + nxK (fullN wt) (wtN wt since now slow) (lastN slow) : Nat) : Int), true)
theorem wtN_gt {wt since now slow t : Int} (hn : wtN wt since now slow ≠ fullN wt) : wtN wt since now slow < wtN wt since t slow ↔ ((tickN since + nxK (fullN wt) (wtN wt since now slow) (lastN slow) : Nat) : Int) ≤ (tickN t : Int) := by
  have h1 := wtN_le wt since now slow
  have h2 := wtN_pos wt since now slow
  have hS : 0 < lastN slow := by
    rcases Nat.eq_zero_or_pos (lastN slow) with h | h
    · exact absurd (by unfold wtN; exact gI_full (.inl h)) hn
    · exact h
  generalize wtN wt since now slow = m at *
  have h3 := gI_gt (W := fullN wt) (S := lastN slow) (m := m) (a := (tickN t : Int) - (tickN since : Int)) h2 (by omega) hS
  show m < gI (fullN wt) ((tickN t : Int) - (tickN since : Int)) (lastN slow) ↔ _
  rw [h3]
  omega
theorem next_spec (wt since now slow : Int) :
    ((nextP wt since now slow).2 = false → (nextP wt since now slow).1 = 0 ∧ ∀ t : Int, (tickN now : Int) ≤ t → t ≤ 1099511627776 → wtN wt since t slow = wtN wt since now slow) ∧
    ((nextP wt since now slow).2 = true → (tickN now : Int) < (nextP wt since now slow).1 ∧ (nextP wt since now slow).1 ≤ 1099511627776 ∧ wtN wt since (nextP wt since now slow).1 slow ≠ wtN wt since now slow ∧ wtN wt since ((nextP wt since now slow).1 - 1) slow = wtN wt since now slow) := by
  have hmono : ∀ t : Int, (tickN now : Int) ≤ t → wtN wt since now slow ≤ wtN wt since t slow := fun t ht => by
    rw [← wtN_tick wt since now]; exact wtN_mono ht
  unfold nextP
  by_cases hn : wtN wt since now slow = fullN wt
  · rw [if_pos hn]
    refine ⟨fun _ => ⟨rfl, fun t h1 _ => ?_⟩, (fun h => by cases h)⟩
    have := hmono t h1
    have := wtN_le wt since t slow
    omega
  · rw [if_neg hn]
    have hg := fun t => wtN_gt (t := t) hn
    have hself := hg now
    generalize hk : tickN since + nxK (fullN wt) (wtN wt since now slow) (lastN slow) = K at *
    have hK : (tickN now : Int) < (K : Int) := by
      rcases Int.lt_or_le (tickN now : Int) (K : Int) with h | h
      · exact h
      · exact absurd (hself.2 h) (Nat.lt_irrefl _)
    by_cases hc : (K : Int) > 1099511627776
    · rw [if_pos hc]
      refine ⟨fun _ => ⟨rfl, fun t h1 h2 => ?_⟩, (fun h => by cases h)⟩
      have h3 := hmono t h1
      have h4 : ¬ wtN wt since now slow < wtN wt since t slow := fun h => by
        have := (hg t).1 h
        have := tickN_b t
        omega
      omega
    · rw [if_neg hc]
      refine ⟨(fun h => by cases h), fun _ => ⟨hK, by omega, ?_, ?_⟩⟩
      · have h3 : wtN wt since now slow < wtN wt since (K : Int) slow := (hg (K : Int)).2 (by rw [tickN_id (by omega) (by omega)]; exact Int.le_refl _)
        show wtN wt since (K : Int) slow ≠ _
        omega
      · show wtN wt since ((K : Int) - 1) slow = _
        have h3 := hmono ((K : Int) - 1) (by omega)
        have h4 : ¬ wtN wt since now slow < wtN wt since ((K : Int) - 1) slow := fun h => by
          have := (hg _).1 h
          rw [tickN_id (by omega) (by omega)] at this
          omega
        omega
theorem fullA (x : Int) : min (max x 1) 65535 = (fullN x : Int) := by unfold fullN; omega
theorem fullB (x : Int) : max 1 (min x 65535) = (fullN x : Int) := by unfold fullN; omega
theorem tickA (x : Int) : min (max x 0) 1099511627776 = (tickN x : Int) := by unfold tickN; omega
theorem tickB (x : Int) : max 0 (min x 1099511627776) = (tickN x : Int) := by unfold tickN; omega
theorem lastA (x : Int) : min (max x 0) 1048576 = (lastN x : Int) := by unfold lastN; omega
theorem lastB (x : Int) : max 0 (min x 1048576) = (lastN x : Int) := by unfold lastN; omega
theorem tdivR (a b : Nat) : ((a : Int).tdiv (b : Int)) = ((a / b : Nat) : Int) := by rw [Int.tdiv_eq_ediv_of_nonneg (by omega)]; rfl
end Go.Proofs.Ytklfpnnnoaaiaab
