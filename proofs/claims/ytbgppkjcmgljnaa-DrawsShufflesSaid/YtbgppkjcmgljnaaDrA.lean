/- draws: a Draws in memory; New, Next, Left, Short, Pick, Two. -/
import Derived.Test.YtbgppkjcmgljnaaBelow
import Derived.Deep.MidRow
import Derived.OwnWalk
import Derived.Laws.AppendOwn
import Derived.Laws.AppendOwnNone
namespace Go.Proofs.Ytbgppkjcmgljnaa
open Go.RowKit

/-- What lies behind a slice of numbers. -/
def NumsAt (w : World) (b M : Nat) (a : Option Addr) (c : Nat) (xs : List Nat) : Prop :=
  xs = [] ∨ ∃ g o, a = some ⟨g, o, none⟩ ∧ g ≠ b ∧ g < M ∧ xs.length ≤ c ∧ ∀ (j : Nat) x, xs[j]? = some x → w.cell? ⟨g, o + j, none⟩ = some (.int .u64 (x : Int))
/-- A Draws with these numbers, of which so many were lacking. -/
structure DrawsAt (w : World) (b M : Nat) (xs : List Nat) (s : Nat) : Prop where
  lt : b < w.heap.size
  cells : ∃ a c, w.cell? ⟨b, 0, none⟩ = some (.slice a xs.length c) ∧ NumsAt w b M a c xs
  room : M ≤ w.heap.size
  short : w.cell? ⟨b, 1, none⟩ = some (.int .i64 (s : Int))
  f0 : w.frozen? ⟨b, 0, none⟩ = false
  f1 : w.frozen? ⟨b, 1, none⟩ = false
  le : ∀ x ∈ xs, x < 18446744073709551616
/-- Only the block b has been touched. -/
structure Touch (b : Nat) (w w' : World) : Prop where
  below : ∀ B, B ≤ b → Below B w w'
  size : w'.heap.size = w.heap.size
  cell : ∀ g o, g ≠ b → w'.cell? ⟨g, o, none⟩ = w.cell? ⟨g, o, none⟩
  frozen : ∀ a, w'.frozen? a = w.frozen? a
theorem Touch.refl (b : Nat) (w : World) : Touch b w w := ⟨fun _ _ => Below.refl _ _, rfl, fun _ _ _ => rfl, fun _ => rfl⟩
theorem Touch.trans {b : Nat} {w w' w'' : World} (h : Touch b w w') (h' : Touch b w' w'') : Touch b w w'' :=
  ⟨fun B hB => (h.below B hB).trans (h'.below B hB), h'.size.trans h.size, fun g o hg => (h'.cell g o hg).trans (h.cell g o hg), fun a => (h'.frozen a).trans (h.frozen a)⟩
theorem Touch.set (b i : Nat) (w : World) (v : Value) : Touch b w (w.setCell ⟨b, i, none⟩ v) :=
  ⟨fun B hB => (Below.refl B w).setCell (p := ⟨b, i, none⟩) hB _, by simp, fun g o hg => World.cell?_setCell_other _ _ _ _ (by simp), fun a => World.frozen?_setCell _ _ _ _⟩
theorem NumsAt.touch {w w' : World} {b M : Nat} {a : Option Addr} {c : Nat} {xs : List Nat} (h : NumsAt w b M a c xs) (ht : Touch b w w') : NumsAt w' b M a c xs := by
  rcases h with h | ⟨g, o, ha, hg, hlt, hl, hc⟩
  · exact .inl h
  · exact .inr ⟨g, o, ha, hg, hlt, hl, fun j x hx => by rw [ht.cell _ _ hg]; exact hc j x hx⟩

def lackN (xs : List Nat) (s : Nat) : Nat := if xs = [] then s + 1 else s
theorem lackN_nil (s : Nat) : lackN [] s = s + 1 := rfl
theorem lackN_cons (x : Nat) (r : List Nat) (s : Nat) : lackN (x :: r) s = s := rfl
set_option maxHeartbeats 1000000 in
theorem next14 (b M : Nat) (xs : List Nat) (s : Nat) (hs : s ≤ 1000000000) (w : World) (h : DrawsAt w b M xs s) :
    Calls Try.prog 14 #[.pointer (some ⟨b, 0, none⟩)] w fun e w' => e = .returned (.int .u64 ((xs.headD 0 : Nat) : Int)) ∧ (DrawsAt w' b M xs.tail (lackN xs s) ∧ Touch b w w') := by
  obtain ⟨hlt, ⟨a, c, c0, hn⟩, hM, c1, f0, f1, hle⟩ := h
  cases xs with
  | nil =>
    rw [lackN_nil]
    have hw : wrap64 ((s : Int) + 1) = ((s + 1 : Nat) : Int) := by unfold wrap64; omega
    go_enter Try.func14, Try.ntmps14
    go_wp2_with fail
    go_ret
    refine ⟨rfl, ⟨?_, ?_, by simpa using hM, ?_, ?_, ?_, ?_⟩, Touch.set _ _ _ _⟩
    · simpa using hlt
    · exact ⟨a, c, by rw [World.cell?_setCell_other _ _ _ _ (by simp)]; exact c0, .inl rfl⟩
    · rw [World.cell?_setCell_same _ _ _ c1]; rfl
    · rw [World.frozen?_setCell]; exact f0
    · rw [World.frozen?_setCell]; exact f1
    · intro x hx; cases hx
  | cons x r =>
    rw [lackN_cons]
    rcases hn with hn | ⟨g, o, rfl, hg, hgl, hl, hc⟩
    · cases hn
    have cg := hc 0 x rfl
    rw [Nat.add_zero] at cg
    have hc' : ∀ (j : Nat) y, r[j]? = some y → w.cell? ⟨g, o + 1 + j, none⟩ = some (.int .u64 (y : Int)) := fun j y hy => by
      rw [show o + 1 + j = o + (j + 1) by omega]; exact hc (j + 1) y (by simpa using hy)
    simp only [List.length_cons] at c0 hl
    have hl0 : r.length + 1 ≤ c := hl
    go_enter Try.func14, Try.ntmps14
    go_wp2_with fail
    · rename_i hc1
      obtain rfl : r = [] := List.eq_nil_of_length_eq_zero (by omega)
      go_ret
      refine ⟨rfl, ⟨?_, ?_, by simpa using hM, ?_, ?_, ?_, ?_⟩, Touch.set _ _ _ _⟩
      · simpa using hlt
      · exact ⟨some ⟨g, o, none⟩, 0, by rw [World.cell?_setCell_same _ _ _ c0], .inl rfl⟩
      · rw [World.cell?_setCell_other _ _ _ _ (by simp)]; exact c1
      · rw [World.frozen?_setCell]; exact f0
      · rw [World.frozen?_setCell]; exact f1
      · intro x hx; cases hx
    · rename_i hc1
      go_ret
      refine ⟨rfl, ⟨?_, ?_, by simpa using hM, ?_, ?_, ?_, ?_⟩, Touch.set _ _ _ _⟩
      · simpa using hlt
      · refine ⟨some ⟨g, o + 1, none⟩, c - 1, by rw [World.cell?_setCell_same _ _ _ c0], .inr ⟨g, o + 1, rfl, hg, hgl, by show r.length ≤ c - 1; omega, fun j y hy => ?_⟩⟩
        rw [World.cell?_setCell_other _ _ _ _ (by simp)]
        exact hc' j y hy
      · rw [World.cell?_setCell_other _ _ _ _ (by simp)]; exact c1
      · rw [World.frozen?_setCell]; exact f0
      · rw [World.frozen?_setCell]; exact f1
      · intro y hy; exact hle y (List.mem_cons_of_mem _ hy)
theorem headD_lt {xs : List Nat} (h : ∀ x ∈ xs, x < 18446744073709551616) : xs.headD 0 < 18446744073709551616 := by
  cases xs with
  | nil => decide
  | cons x r => exact h x (List.mem_cons_self ..)
/-- What Pick leaves: the number, the numbers that remain, how many were lacking. -/
def pickN (xs : List Nat) (n : Nat) : Int := belowN (xs.headD 0) n
theorem pickN_ok {xs : List Nat} (h : ∀ x ∈ xs, x < 18446744073709551616) {n : Nat} (hn : 0 < n) : ∃ k : Nat, pickN xs n = (k : Int) ∧ k < n :=
  ⟨_, rfl, belowN_lt _ _ (headD_lt h) hn⟩
theorem lackN_le (xs : List Nat) (s : Nat) : lackN xs s ≤ s + 1 := by unfold lackN; split <;> omega
theorem pick12 (b M n : Nat) (hn : 2 ≤ n) (hm : n ≤ 9223372036854775807) (xs : List Nat) (s : Nat) (hs : s ≤ 1000000000) (w : World) (h : DrawsAt w b M xs s) :
    Calls Try.prog 12 #[.pointer (some ⟨b, 0, none⟩), .int .i64 (n : Int)] w fun e w' => e = .returned (.int .i64 (pickN xs n)) ∧ (DrawsAt w' b M xs.tail (lackN xs s) ∧ Touch b w w') := by
  have hN := next14 b M xs s hs w h
  have hB := fun w => below15 (xs.headD 0) n (headD_lt h.le) (by omega) hm w
  have g : ¬ ((n : Int) < 2) := by omega
  unfold pickN
  generalize xs.headD 0 = x at *
  clear h hm
  go_enter Try.func12, Try.ntmps12
  go_wp2_with fail
  refine hN.mono ?_
  rintro e w1 ⟨rfl, h1, ht⟩
  go_wp2_with fail
  refine (calls_flip (hB _)).mono ?_
  rintro e w' ⟨rfl, rfl⟩
  go_wp2_with fail
  go_ret
  exact ⟨rfl, h1, ht⟩
theorem two8_no (b : Nat) (n : Int) (hn : n < 2) (w : World) :
    Calls Try.prog 8 #[.pointer (some ⟨b, 0, none⟩), .int .i64 n] w fun e w' => e = .returned (.tuple #[.int .i64 0, .int .i64 0]) ∧ w' = w := by
  go_enter Try.func8, Try.ntmps8
  go_wp2_with fail
  go_ret2
  exact ⟨rfl, rfl⟩
set_option maxHeartbeats 1000000 in
theorem two8 (b M n : Nat) (hn : 2 ≤ n) (hm : n ≤ 9223372036854775807) (xs : List Nat) (s : Nat) (hs : s ≤ 1000000) (w : World) (h : DrawsAt w b M xs s) :
    Calls Try.prog 8 #[.pointer (some ⟨b, 0, none⟩), .int .i64 (n : Int)] w fun e w' =>
      ∃ p q : Nat, e = .returned (.tuple #[.int .i64 (p : Int), .int .i64 (q : Int)]) ∧ p < n ∧ q < n ∧ p ≠ q ∧ (∃ s', DrawsAt w' b M xs.tail.tail s') ∧ Touch b w w' := by
  obtain ⟨k, hk, hkn⟩ := pickN_ok h.le (n := n) (by omega)
  have hP := pick12 b M n hn hm xs s (by omega) w h
  rw [hk] at hP
  have hl := lackN_le xs s
  have hN := fun w1 (h1 : DrawsAt w1 b M xs.tail (lackN xs s)) => next14 b M xs.tail (lackN xs s) (by omega) w1 h1
  have hle : ∀ x ∈ xs.tail, x < 18446744073709551616 := fun x hx => h.le x (List.mem_of_mem_tail hx)
  have hB := fun w => below15 (xs.tail.headD 0) (n - 1) (headD_lt hle) (by omega) (by omega) w
  have hq := belowN_lt (xs.tail.headD 0) (n - 1) (headD_lt hle) (by omega)
  obtain ⟨m, hm2⟩ : ∃ m : Nat, belowN (xs.tail.headD 0) (n - 1) = (m : Int) ∧ m < n - 1 := ⟨_, rfl, hq⟩
  rw [hm2.1] at hB
  have hB : ∀ (z : Int), z = ((n - 1 : Nat) : Int) → ∀ w, Calls Try.prog 13 #[.int .u64 (xs.tail.headD 0 : Nat), .int .i64 z] w fun e w' => e = .returned (.int .i64 (m : Int)) ∧ w = w' := fun z hz w => by rw [hz]; exact hB w
  have hmn := hm2.2
  have g : ¬ ((n : Int) < 2) := by omega
  have e1 : wrap64 ((n : Int) - 1) = ((n - 1 : Nat) : Int) := by unfold wrap64; omega
  clear hm2 hq hle hl hk h
  generalize xs.tail.headD 0 = x at *
  generalize lackN xs s = s1 at *
  generalize xs.tail = ys at *
  by_cases hc : (k : Int) ≤ m
  · have e2 : wrap64 ((m : Int) + 1) = ((m + 1 : Nat) : Int) := by unfold wrap64; omega
    go_enter Try.func8, Try.ntmps8
    go_wp2_with fail
    refine hP.mono ?_
    rintro e w1 ⟨rfl, h1, ht1⟩
    go_wp2_with fail
    refine (hN w1 h1).mono ?_
    rintro e w2 ⟨rfl, h2, ht2⟩
    go_wp2_with fail
    with_reducible refine (calls_flip (hB _ (by first | omega | (unfold wrap64; omega)) _)).mono ?_
    rintro e w' ⟨rfl, rfl⟩
    go_wp2_with fail
    go_ret2
    exact ⟨k, m + 1, rfl, hkn, by omega, by omega, ⟨_, h2⟩, ht1.trans ht2⟩
  · go_enter Try.func8, Try.ntmps8
    go_wp2_with fail
    refine hP.mono ?_
    rintro e w1 ⟨rfl, h1, ht1⟩
    go_wp2_with fail
    refine (hN w1 h1).mono ?_
    rintro e w2 ⟨rfl, h2, ht2⟩
    go_wp2_with fail
    with_reducible refine (calls_flip (hB _ (by first | omega | (unfold wrap64; omega)) _)).mono ?_
    rintro e w' ⟨rfl, rfl⟩
    go_wp2_with fail
    go_ret2
    exact ⟨k, m, rfl, hkn, by omega, by omega, ⟨_, h2⟩, ht1.trans ht2⟩
end Go.Proofs.Ytbgppkjcmgljnaa
