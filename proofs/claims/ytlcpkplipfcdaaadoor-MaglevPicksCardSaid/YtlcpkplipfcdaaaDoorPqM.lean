/- prime: numbers: the least divisor, which numbers are primes, Euclid's algorithm, rows. -/
import Derived.Test.YtlcpkplipfcdaaaDoorBase
namespace Go.Proofs.YtlcpkplipfcdaaaDoor

/-- Has the number no divisor but 1 and itself? -/
def primeB (n : Nat) : Bool := decide (2 ≤ n ∧ ∀ d, d < n → 2 ≤ d → ¬ d ∣ n)
/-- The least divisor above 1. -/
def LD (n p : Nat) : Prop := 2 ≤ p ∧ p ∣ n ∧ ∀ k, 2 ≤ k → k ∣ n → p ≤ k
theorem primeB_spec {n : Nat} (h : primeB n = true) : 2 ≤ n ∧ ∀ d, d < n → 2 ≤ d → ¬ d ∣ n := of_decide_eq_true h
theorem LD.le {n p : Nat} (h : LD n p) (hn : 2 ≤ n) : p ≤ n := h.2.2 n hn (Nat.dvd_refl n)
theorem LD.eq {n p q : Nat} (h : LD n p) (h' : LD n q) : p = q := Nat.le_antisymm (h.2.2 q h'.1 h'.2.1) (h'.2.2 p h.1 h.2.1)
theorem LD.self {n : Nat} (hn : 2 ≤ n) : LD n n ↔ primeB n = true := by
  constructor
  · intro h
    refine decide_eq_true ⟨hn, fun d hd h2 hdv => ?_⟩
    have := h.2.2 d h2 hdv
    omega
  · intro h
    obtain ⟨_, h2⟩ := primeB_spec h
    refine ⟨hn, Nat.dvd_refl n, fun k hk hkn => ?_⟩
    rcases Nat.lt_or_ge k n with hlt | hge
    · exact absurd hkn (h2 k hlt hk)
    · exact hge
theorem LD.prime {n p : Nat} (h : LD n p) : primeB p = true :=
  (LD.self h.1).1 ⟨h.1, Nat.dvd_refl p, fun k hk hkp => h.2.2 k hk (Nat.dvd_trans hkp h.2.1)⟩
/-- No divisor from 2 up to d. -/
def NoDiv (n d : Nat) : Prop := ∀ k, 2 ≤ k → k < d → ¬ k ∣ n
theorem NoDiv.two (n : Nat) : NoDiv n 2 := fun k h1 h2 => by omega
theorem NoDiv.step {n d : Nat} (h : NoDiv n d) (hd : ¬ d ∣ n) : NoDiv n (d + 1) := fun k h1 h2 => by
  rcases Nat.lt_or_ge k d with hk | hk
  · exact h k h1 hk
  · obtain rfl : k = d := by omega
    exact hd
theorem NoDiv.hit {n d : Nat} (h : NoDiv n d) (h2 : 2 ≤ d) (hd : d ∣ n) : LD n d := ⟨h2, hd, fun k hk hkn => by
  rcases Nat.lt_or_ge k d with hl | hl
  · exact absurd hkn (h k hk hl)
  · exact hl⟩
theorem NoDiv.stop {n d : Nat} (h : NoDiv n d) (hn : 2 ≤ n) (hd : n < d * d) : LD n n := by
  refine ⟨hn, Nat.dvd_refl n, fun k hk hkn => ?_⟩
  refine Nat.le_of_not_lt fun hl => ?_
  obtain ⟨q, hq⟩ := hkn
  have hq2 : 2 ≤ q := by
    rcases Nat.lt_or_ge q 2 with hq1 | hq1
    · obtain rfl | rfl : q = 0 ∨ q = 1 := by omega
      · omega
      · omega
    · exact hq1
  have hkd : d ≤ k := by
    rcases Nat.lt_or_ge k d with hk1 | hk1
    · exact absurd ⟨q, hq⟩ (h k hk hk1)
    · exact hk1
  have hqd : d ≤ q := by
    rcases Nat.lt_or_ge q d with hk1 | hk1
    · exact absurd ⟨k, by rw [Nat.mul_comm]; exact hq⟩ (h q hq2 hk1)
    · exact hk1
  have := Nat.mul_le_mul hkd hqd
  omega
/-- Is the number a prime of at most 2^20? -/
def isP (n : Int) : Bool := decide (2 ≤ n) && decide (n ≤ 1048576) && primeB n.toNat
theorem NoDiv.prime {n d : Nat} (h : NoDiv n d) (hn : 2 ≤ n) (hd : n < d * d) : primeB n = true := (LD.self hn).1 (h.stop hn hd)
theorem NoDiv.not {n d : Nat} (h2 : 2 ≤ d) (hd : d ∣ n) (hdd : d * d ≤ n) : primeB n = false := by
  cases hp : primeB n with
  | false => rfl
  | true =>
    obtain ⟨_, hh⟩ := primeB_spec hp
    have : d < n := by
      have := Nat.mul_le_mul_right d h2
      omega
    exact absurd hd (hh d this h2)
theorem isP_low {n : Int} (h : n < 2) : isP n = false := by unfold isP; rw [decide_eq_false (by omega : ¬ 2 ≤ n)]; rfl
theorem isP_high {n : Int} (h : 1048576 < n) : isP n = false := by unfold isP; rw [decide_eq_false (by omega : ¬ n ≤ 1048576)]; simp
theorem isP_mid {n : Nat} (h : 2 ≤ n) (h' : n ≤ 1048576) : isP (n : Int) = primeB n := by
  unfold isP
  rw [decide_eq_true (by omega : (2 : Int) ≤ n), decide_eq_true (by omega : (n : Int) ≤ 1048576)]
  simp
theorem isP_LD {n p : Nat} (h : 2 ≤ n) (h' : n ≤ 1048576) (hl : LD n p) : isP (n : Int) = decide ((p : Int) = n) := by
  rw [isP_mid h h']
  by_cases e : p = n
  · subst e; rw [(LD.self h).1 hl]; simp
  · rw [decide_eq_false (by omega)]
    cases hp : primeB n with
    | false => rfl
    | true => exact absurd (hl.eq ((LD.self h).2 hp)) e
/-- Factors: what has been found, and what is left. -/
structure Fac (N : Nat) (ps : List Nat) (c : Nat) : Prop where
  prod : ps.foldl (· * ·) 1 * c = N
  prime : ∀ p ∈ ps, primeB p = true
  le : ∀ p ∈ ps, ∀ k, 2 ≤ k → k ∣ c → p ≤ k
  up : ps.Pairwise (· ≤ ·)
  pos : 1 ≤ c
  small : 2 ^ ps.length * c ≤ N
theorem Fac.start {N : Nat} (h : 1 ≤ N) : Fac N [] N := ⟨by simp, by simp, by simp, .nil, h, by simp⟩
theorem Fac.step {N c p : Nat} {ps : List Nat} (h : Fac N ps c) (hp : LD c p) : Fac N (ps ++ [p]) (c / p) := by
  obtain ⟨q, hq⟩ := hp.2.1
  have hp0 : 0 < p := by have := hp.1; omega
  have hc : c / p = q := by rw [hq]; exact Nat.mul_div_cancel_left q hp0
  rw [hc]
  have hpos := h.pos
  have hq0 : 1 ≤ q := by
    rcases Nat.eq_zero_or_pos q with e | e
    · subst e; omega
    · exact e
  refine ⟨?_, ?_, ?_, ?_, hq0, ?_⟩
  · rw [List.foldl_append, List.foldl_cons, List.foldl_nil, Nat.mul_assoc, ← hq]; exact h.prod
  · intro x hx
    rcases List.mem_append.1 hx with hx | hx
    · exact h.prime x hx
    · obtain rfl : x = p := by simpa using hx
      exact hp.prime
  · intro x hx k hk hkq
    have hkc : k ∣ c := by rw [hq]; exact Nat.dvd_trans hkq (Nat.dvd_mul_left q p)
    rcases List.mem_append.1 hx with hx | hx
    · exact h.le x hx k hk hkc
    · obtain rfl : x = p := by simpa using hx
      exact hp.2.2 k hk hkc
  · rw [List.pairwise_append]
    refine ⟨h.up, List.pairwise_singleton _ _, fun x hx y hy => ?_⟩
    obtain rfl : y = p := by simpa using hy
    exact h.le x hx _ hp.1 hp.2.1
  · have h1 := h.small
    have h2 : 2 * q ≤ c := by rw [hq]; exact Nat.mul_le_mul_right q hp.1
    have h3 := Nat.mul_le_mul_left (2 ^ ps.length) h2
    rw [List.length_append, List.length_singleton, Nat.pow_succ, Nat.mul_assoc]
    omega
theorem Fac.len {N c : Nat} {ps : List Nat} (h : Fac N ps c) (hN : N ≤ 1048576) : ps.length ≤ 20 := by
  rcases Nat.lt_or_ge 20 ps.length with hl | hl
  · have h1 : 2 ^ 21 ≤ 2 ^ ps.length := Nat.pow_le_pow_right (by decide) hl
    have h2 := h.small
    have h3 := Nat.mul_le_mul_left (2 ^ ps.length) h.pos
    have h4 : (2 : Nat) ^ 21 = 2097152 := by decide
    omega
  · exact hl
/-- The product of the first ones. -/
def prodN (ps : List Nat) (i : Nat) : Nat := (ps.take i).foldl (· * ·) 1
theorem foldl_mul (ps : List Nat) (a : Nat) : ps.foldl (· * ·) a = a * ps.foldl (· * ·) 1 := by
  induction ps generalizing a with
  | nil => simp
  | cons x r ih => rw [List.foldl_cons, List.foldl_cons, ih (a * x), ih (1 * x), Nat.one_mul, Nat.mul_assoc]
theorem prodN_step {ps : List Nat} {i : Nat} (h : i < ps.length) : prodN ps (i + 1) = prodN ps i * ps[i] := by
  unfold prodN
  rw [List.take_succ_eq_append_getElem h, List.foldl_append, List.foldl_cons, List.foldl_nil]
theorem prodN_all (ps : List Nat) : prodN ps ps.length = ps.foldl (· * ·) 1 := by unfold prodN; rw [List.take_length]
theorem prodN_dvd (ps : List Nat) (i : Nat) : prodN ps i ∣ ps.foldl (· * ·) 1 := by
  unfold prodN
  have h : ps.foldl (· * ·) 1 = (ps.take i).foldl (· * ·) 1 * (ps.drop i).foldl (· * ·) 1 := by
    rw [← foldl_mul, ← List.foldl_append, List.take_append_drop]
  rw [h]
  exact Nat.dvd_mul_right _ _
theorem Fac.end {N : Nat} {ps : List Nat} (h : Fac N ps 1) (i : Nat) (hN : 0 < N) : prodN ps i ≤ N := by
  have hp := h.prod
  rw [Nat.mul_one] at hp
  exact Nat.le_of_dvd hN (by rw [← hp]; exact prodN_dvd ps i)
theorem Fac.fin {N : Nat} {ps : List Nat} (h : Fac N ps 1) : prodN ps ps.length = N := by
  rw [prodN_all, ← h.prod, Nat.mul_one]
theorem Fac.at {N c : Nat} {ps : List Nat} (h : Fac N ps c) (i : Nat) (hi : i < ps.length) (hi1 : 0 < i) : ps[i - 1] ≤ ps[i] :=
  List.pairwise_iff_getElem.1 h.up (i - 1) i (by omega) hi (by omega)
/-- Euclid. -/
theorem gcd_step {a b : Nat} : Nat.gcd (b % a) a = Nat.gcd a b := by rw [Nat.gcd_rec a b]
/-- The places of a row. -/
def rowL (m f s : Nat) : List Nat := (List.range m).map fun i => (f + i * s) % m
theorem rowL_len (m f s : Nat) : (rowL m f s).length = m := by simp [rowL]
theorem rowL_at {m f s i : Nat} (h : i < m) : (rowL m f s)[i]? = some ((f + i * s) % m) := by
  unfold rowL
  rw [List.getElem?_map, List.getElem?_range h]; rfl
theorem row_next (m f s i : Nat) : (((f + i * s) % m) + s) % m = (f + (i + 1) * s) % m := by
  rw [Nat.mod_add_mod, Nat.succ_mul, Nat.add_assoc]
theorem coprime_dvd {m s k : Nat} (h : Nat.gcd s m = 1) (hd : m ∣ k * s) : m ∣ k :=
  Nat.Coprime.dvd_of_dvd_mul_right (show Nat.gcd m s = 1 by rw [Nat.gcd_comm]; exact h) hd
theorem row_inj {m f s i j : Nat} (h : Nat.gcd s m = 1) (hi : i < j) (hj : j < m) : (f + i * s) % m ≠ (f + j * s) % m := by
  intro e
  have h1 : m ∣ (f + j * s) - (f + i * s) := by
    have h2 := Nat.sub_mod_eq_zero_of_mod_eq e.symm
    exact Nat.dvd_of_mod_eq_zero h2
  have h3 : (f + j * s) - (f + i * s) = (j - i) * s := by rw [Nat.sub_mul]; omega
  rw [h3] at h1
  have h4 := coprime_dvd h h1
  have := Nat.le_of_dvd (by omega) h4
  omega
theorem row_back {m f s : Nat} (hm : 2 ≤ m) (h : Nat.gcd s m ≠ 1) : ∃ j, 0 < j ∧ j < m ∧ (f + j * s) % m = (f + 0 * s) % m := by
  obtain ⟨q, hq⟩ := Nat.gcd_dvd_right s m
  obtain ⟨t, ht⟩ := Nat.gcd_dvd_left s m
  have hg : 0 < Nat.gcd s m := Nat.gcd_pos_of_pos_right s (by omega)
  generalize Nat.gcd s m = g at *
  have hg2 : 2 ≤ g := by omega
  have hq0 : 0 < q := by
    rcases Nat.eq_zero_or_pos q with e | e
    · subst e; omega
    · exact e
  have hqm : q < m := by
    have := Nat.mul_le_mul_right q hg2
    omega
  refine ⟨q, hq0, hqm, ?_⟩
  have e : q * s = m * t := by
    rw [ht, hq, Nat.mul_left_comm, ← Nat.mul_assoc]
  rw [e, Nat.zero_mul, Nat.add_zero, Nat.add_mul_mod_self_left]
/-- Euclid's algorithm with the first of its factors: what holds in each round. -/
structure InvE (m A R S : Nat) (x y : Int) : Prop where
  c1 : (m : Int) ∣ (R : Int) - x * A
  c2 : (m : Int) ∣ (S : Int) - y * A
  g : Nat.gcd R S = Nat.gcd A m
  r : 1 ≤ R
  rm : R ≤ m
  b : ∃ (s : Int) (u v : Nat), (s = 1 ∨ s = -1) ∧ x = s * u ∧ y = -(s * v) ∧ v * R + u * S = m ∧ u ≤ m
theorem InvE.start {m A : Nat} (hm : 2 ≤ m) : InvE m A m A 0 1 := by
  refine ⟨?_, ?_, ?_, by omega, by omega, -1, 0, 1, .inr rfl, rfl, rfl, by omega, by omega⟩
  · simp
  · simp
  · exact Nat.gcd_comm m A
theorem InvE.yb {m A R S : Nat} {x y : Int} (h : InvE m A R S x y) : -(m : Int) ≤ y ∧ y ≤ m := by
  obtain ⟨s, u, v, hs, _, hy, hm, _⟩ := h.b
  have h1 := Nat.mul_le_mul_left v h.r
  have h2 : v ≤ m := by omega
  rcases hs with rfl | rfl <;> omega
theorem InvE.xb {m A R S : Nat} {x y : Int} (h : InvE m A R S x y) : -(m : Int) ≤ x ∧ x ≤ m := by
  obtain ⟨s, u, v, hs, hx, _, _, hu⟩ := h.b
  rcases hs with rfl | rfl <;> omega
theorem InvE.step {m A R S : Nat} {x y : Int} (h : InvE m A R S x y) (hS : 0 < S) (hSR : S ≤ m) : InvE m A S (R % S) y (x - ((R / S : Nat) : Int) * y) := by
  have hd := Nat.div_add_mod R S
  obtain ⟨c1, c2, g, r, rm, s, u, v, hs, hx, hy, hm, hu⟩ := h
  have hq : ((R % S : Nat) : Int) = (R : Int) - ((R / S : Nat) : Int) * S := by
    have : (R : Int) = ((S * (R / S) + R % S : Nat) : Int) := by rw [hd]
    rw [this, Int.natCast_add, Int.natCast_mul, Int.mul_comm (S : Int)]
    omega
  refine ⟨c2, ?_, ?_, hS, hSR, -s, v, u + (R / S) * v, ?_, ?_, ?_, ?_, ?_⟩
  · rw [hq]
    have e : (R : Int) - ((R / S : Nat) : Int) * S - (x - ((R / S : Nat) : Int) * y) * A = ((R : Int) - x * A) - ((R / S : Nat) : Int) * ((S : Int) - y * A) := by grind
    rw [e]
    exact Int.dvd_sub c1 (Int.dvd_mul_of_dvd_right c2)
  · rw [← g, Nat.gcd_comm S, Nat.gcd_comm R S, Nat.gcd_rec S R]
  · omega
  · rw [hy]; grind
  · rw [hx, hy]; simp only [Int.natCast_add, Int.natCast_mul]; grind
  · have e : (u + R / S * v) * S + v * (R % S) = v * (S * (R / S) + R % S) + u * S := by grind
    rw [e, hd]; exact hm
  · have h1 := Nat.mul_le_mul_left v r
    omega
theorem InvE.fin {m A R : Nat} {x y : Int} (h : InvE m A R 0 x y) (hm : 2 ≤ m) (hR : R = 1) : 0 < x % m ∧ x % m < m ∧ ((A : Int) * (x % m)) % m = 1 := by
  have h0 := Int.emod_nonneg x (b := (m : Int)) (by omega)
  have h1 := Int.emod_lt_of_pos x (b := (m : Int)) (by omega)
  have h2 : ((A : Int) * (x % m)) % m = 1 := by
    rw [Int.mul_emod, Int.emod_emod_of_dvd _ (Int.dvd_refl _), ← Int.mul_emod]
    obtain ⟨k, hk⟩ := h.c1
    have e : (A : Int) * x = 1 + m * (-k) := by subst hR; grind
    rw [e, Int.add_mul_emod_self_left, Int.emod_eq_of_lt (by omega) (by omega)]
  refine ⟨?_, h1, h2⟩
  rcases Int.lt_or_eq_of_le h0 with h3 | h3
  · exact h3
  · rw [← h3, Int.mul_zero, Int.zero_emod] at h2; omega
end Go.Proofs.YtlcpkplipfcdaaaDoor
