/- the order of items: by ticks, then by turns. -/
import Derived.Test.YtcdgmhglpcokdaaAhJ
namespace Go.Proofs.Ytcdgmhglpcokdaa
open Go.RowKit

theorem ltIt_iff (a t b u : Int) : ltIt a t b u = decide (a < b ∨ a = b ∧ t < u) := by
  unfold ltIt cmpIt orI
  congr 1
  apply propext
  rcases Int.lt_trichotomy a b with h | h | h
  · rw [cmpI_lt h]
    simp only [show ¬ (-1 : Int) = 0 by omega, if_false]
    omega
  · subst h
    rw [cmpI_eq, if_pos rfl]
    rcases Int.lt_trichotomy t u with h | h | h
    · rw [cmpI_lt h]; omega
    · subst h; rw [cmpI_eq]; omega
    · rw [cmpI_gt h]; omega
  · rw [cmpI_gt h]
    simp only [show ¬ (1 : Int) = 0 by omega, if_false]
    omega
/-- One item doesn't go behind another. -/
def leI (p q : It) : Prop := ltIt q.a q.t p.a p.t = false
theorem leI_iff (p q : It) : leI p q ↔ (p.a < q.a ∨ p.a = q.a ∧ p.t ≤ q.t) := by
  unfold leI
  rw [ltIt_iff, decide_eq_false_iff_not]
  omega
theorem leI_refl (p : It) : leI p p := (leI_iff p p).2 (by omega)
theorem leI_trans (p q r : It) (h1 : leI p q) (h2 : leI q r) : leI p r := by
  rw [leI_iff] at h1 h2 ⊢
  omega
theorem leI_of_lt {p q : It} (h : ltIt p.a p.t q.a q.t = true) : leI p q := by
  rw [ltIt_iff, decide_eq_true_eq] at h
  rw [leI_iff]
  omega
end Go.Proofs.Ytcdgmhglpcokdaa
