/- heaps as math: what container/heap's up and down keep. -/
import Derived.Test.YtcdgmhglpcokdaaBase
namespace Go.Proofs.Ytcdgmhglpcokdaa
open Go.RowKit

section HeapMath
variable {α : Type} {le : α → α → Prop}
/-- A heap of n elements. -/
def HeapAt (le : α → α → Prop) (Q : Nat → α) (n : Nat) : Prop := ∀ i, 0 < i → i < n → le (Q ((i - 1) / 2)) (Q i)
/-- Two elements change places. -/
def swp (Q : Nat → α) (a b : Nat) : Nat → α := fun i => if i = a then Q b else if i = b then Q a else Q i
theorem swp_a (Q : Nat → α) (a b : Nat) : swp Q a b a = Q b := by simp [swp]
theorem swp_b (Q : Nat → α) (a b : Nat) : swp Q a b b = Q a := by
  unfold swp
  by_cases h : b = a
  · rw [if_pos h, h]
  · rw [if_neg h, if_pos rfl]
theorem swp_o (Q : Nat → α) {a b i : Nat} (h1 : i ≠ a) (h2 : i ≠ b) : swp Q a b i = Q i := by simp [swp, h1, h2]
theorem heap_least (rf : ∀ a, le a a) (tr : ∀ a b c, le a b → le b c → le a c) {Q : Nat → α} {n : Nat} (h : HeapAt le Q n) : ∀ i, i < n → le (Q 0) (Q i) := by
  intro i
  induction i using Nat.strongRecOn with
  | ind i ih =>
    intro hi
    by_cases h0 : i = 0
    · subst h0; exact rf _
    · exact tr _ _ _ (ih ((i - 1) / 2) (by omega) (by omega)) (h i (by omega) hi)
/-- A heap but for one place and the one above it. -/
structure UpI (le : α → α → Prop) (Q : Nat → α) (n j : Nat) : Prop where
  all : ∀ i, 0 < i → i < n → i ≠ j → le (Q ((i - 1) / 2)) (Q i)
  kid : ∀ i, 0 < i → i < n → (i - 1) / 2 = j → 0 < j → le (Q ((j - 1) / 2)) (Q i)
theorem UpI.done {Q : Nat → α} {n j : Nat} (h : UpI le Q n j) (hj : j = 0 ∨ le (Q ((j - 1) / 2)) (Q j)) : HeapAt le Q n := fun i h0 hi => by
  by_cases e : i = j
  · subst e
    rcases hj with hj | hj
    · omega
    · exact hj
  · exact h.all i h0 hi e
theorem UpI.step (tr : ∀ a b c, le a b → le b c → le a c) {Q : Nat → α} {n j : Nat} (h : UpI le Q n j) (hj : 0 < j) (hn : j < n) (hl : le (Q j) (Q ((j - 1) / 2))) : UpI le (swp Q ((j - 1) / 2) j) n ((j - 1) / 2) := by
  obtain ⟨p, hp⟩ : ∃ p, p = (j - 1) / 2 := ⟨_, rfl⟩
  rw [← hp] at hl ⊢
  have hpj : p < j := by omega
  refine ⟨fun i h0 hi hne => ?_, fun i h0 hi hk hp0 => ?_⟩
  · by_cases e : i = j
    · subst e
      rw [swp_b, ← hp, swp_a]
      exact hl
    · rw [swp_o Q hne e]
      by_cases e1 : (i - 1) / 2 = p
      · rw [e1, swp_a]
        have := h.all i h0 hi e
        rw [e1] at this
        exact tr _ _ _ hl this
      · by_cases e2 : (i - 1) / 2 = j
        · rw [e2, swp_b]
          have := h.kid i h0 hi e2 hj
          rw [← hp] at this
          exact this
        · rw [swp_o Q e1 e2]
          exact h.all i h0 hi e
  · have hq : (p - 1) / 2 ≠ p ∧ (p - 1) / 2 ≠ j := by omega
    rw [swp_o Q hq.1 hq.2]
    have hpp := h.all p hp0 (by omega) (by omega)
    by_cases e : i = j
    · subst e
      rw [swp_b]
      exact hpp
    · rw [swp_o Q (by omega) e]
      have := h.all i h0 hi e
      rw [hk] at this
      exact tr _ _ _ hpp this
/-- A heap but for one place and those below it. -/
structure DnI (le : α → α → Prop) (Q : Nat → α) (n j : Nat) : Prop where
  all : ∀ i, 0 < i → i < n → (i - 1) / 2 ≠ j → le (Q ((i - 1) / 2)) (Q i)
  kid : ∀ i, 0 < i → i < n → (i - 1) / 2 = j → 0 < j → le (Q ((j - 1) / 2)) (Q i)
theorem DnI.done {Q : Nat → α} {n j : Nat} (h : DnI le Q n j) (hj : ∀ i, 0 < i → i < n → (i - 1) / 2 = j → le (Q j) (Q i)) : HeapAt le Q n := fun i h0 hi => by
  by_cases e : (i - 1) / 2 = j
  · have := hj i h0 hi e
    rw [e]; exact this
  · exact h.all i h0 hi e
theorem DnI.step {Q : Nat → α} {n j c : Nat} (h : DnI le Q n j) (hc0 : 0 < c) (hc : c < n) (hcj : (c - 1) / 2 = j) (hl : le (Q c) (Q j)) (hb : ∀ i, 0 < i → i < n → (i - 1) / 2 = j → le (Q c) (Q i)) : DnI le (swp Q j c) n c := by
  have hjc : j < c := by omega
  refine ⟨fun i h0 hi hne => ?_, fun i h0 hi hk _ => ?_⟩
  · by_cases e : i = c
    · subst e
      rw [swp_b, hcj, swp_a]
      exact hl
    · by_cases e1 : (i - 1) / 2 = j
      · rw [e1, swp_a]
        by_cases e3 : i = j
        · omega
        · rw [swp_o Q e3 e]
          exact hb i h0 hi e1
      · rw [swp_o Q e1 hne]
        by_cases e3 : i = j
        · subst e3
          rw [swp_a]
          exact h.kid c hc0 hc hcj h0
        · rw [swp_o Q e3 e]
          exact h.all i h0 hi e1
  · rw [hcj, swp_a]
    have hi1 : i ≠ j := by omega
    have hi2 : i ≠ c := by omega
    rw [swp_o Q hi1 hi2]
    have := h.all i h0 hi (by omega)
    rw [hk] at this
    exact this
/-- A heap but for one place, those below it and the one above it. -/
structure OffI (le : α → α → Prop) (Q : Nat → α) (n j : Nat) : Prop where
  all : ∀ i, 0 < i → i < n → i ≠ j → (i - 1) / 2 ≠ j → le (Q ((i - 1) / 2)) (Q i)
  kid : ∀ i, 0 < i → i < n → (i - 1) / 2 = j → 0 < j → le (Q ((j - 1) / 2)) (Q i)
theorem OffI.up {Q : Nat → α} {n j : Nat} (h : OffI le Q n j) (hj : ∀ i, 0 < i → i < n → (i - 1) / 2 = j → le (Q j) (Q i)) : UpI le Q n j :=
  ⟨fun i h0 hi hne => by
    by_cases e : (i - 1) / 2 = j
    · have := hj i h0 hi e
      rw [e]; exact this
    · exact h.all i h0 hi hne e, h.kid⟩
theorem OffI.step {Q : Nat → α} {n j c : Nat} (h : OffI le Q n j) (hc0 : 0 < c) (hc : c < n) (hcj : (c - 1) / 2 = j) (hl : le (Q c) (Q j)) (hb : ∀ i, 0 < i → i < n → (i - 1) / 2 = j → le (Q c) (Q i)) : DnI le (swp Q j c) n c := by
  have hjc : j < c := by omega
  refine ⟨fun i h0 hi hne => ?_, fun i h0 hi hk _ => ?_⟩
  · by_cases e : i = c
    · subst e
      rw [swp_b, hcj, swp_a]
      exact hl
    · by_cases e1 : (i - 1) / 2 = j
      · rw [e1, swp_a]
        by_cases e3 : i = j
        · omega
        · rw [swp_o Q e3 e]
          exact hb i h0 hi e1
      · rw [swp_o Q e1 hne]
        by_cases e3 : i = j
        · subst e3
          rw [swp_a]
          exact h.kid c hc0 hc hcj h0
        · rw [swp_o Q e3 e]
          exact h.all i h0 hi e3 e1
  · rw [hcj, swp_a]
    have hi1 : i ≠ j := by omega
    have hi2 : i ≠ c := by omega
    rw [swp_o Q hi1 hi2]
    have := h.all i h0 hi hi1 (by omega)
    rw [hk] at this
    exact this
/-- The last one put where one was taken out. -/
theorem HeapAt.off (tr : ∀ a b c, le a b → le b c → le a c) {Q : Nat → α} {n j : Nat} (h : HeapAt le Q (n + 1)) (hj : j < n) : OffI le (swp Q j n) n j := by
  refine ⟨fun i h0 hi h1 h2 => ?_, fun i h0 hi hk h0j => ?_⟩
  · rw [swp_o Q h2 (by omega), swp_o Q h1 (by omega)]
    exact h i h0 (by omega)
  · rw [swp_o Q (by omega) (by omega), swp_o Q (by omega) (by omega)]
    have h2 := h i h0 (by omega)
    rw [hk] at h2
    exact tr _ _ _ (h j h0j (by omega)) h2
/-- One put behind the last. -/
theorem HeapAt.push {Q Q' : Nat → α} {n : Nat} (h : HeapAt le Q n) (hq : ∀ i, i < n → Q' i = Q i) : UpI le Q' (n + 1) n :=
  ⟨fun i h0 hi hne => by rw [hq i (by omega), hq _ (by omega)]; exact h i h0 (by omega), fun i h0 hi hk _ => by omega⟩
/-- All but the last. -/
theorem HeapAt.pop {Q : Nat → α} {n : Nat} (h : HeapAt le Q (n + 1)) : HeapAt le Q n := fun i h0 hi => h i h0 (by omega)
end HeapMath
end Go.Proofs.Ytcdgmhglpcokdaa
