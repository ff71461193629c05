/- The walk of the statement OctetLists. -/
import Derived.Test.YtneagccakoakpaaDoorListR
import Derived.Test.YtneagccakoakpaaDoorFewO
namespace Go.Proofs.YtneagccakoakpaaDoor
open Go.RowKit

theorem sumS_few (xs : List ByteArray) : ∀ n m, sumS (fewS xs n m) ≤ n * (m + 1) := by
  intro n m
  have h : ∀ ys : List ByteArray, (∀ y ∈ ys, y.size ≤ m) → sumS ys ≤ ys.length * (m + 1) := by
    intro ys
    induction ys with
    | nil => intro _; simp [sumS]
    | cons a r ih =>
      intro h
      have h1 := ih (fun y hy => h y (List.mem_cons_of_mem _ hy))
      have h2 := h a List.mem_cons_self
      have h3 : sumS (a :: r) = a.size + 1 + sumS r := by simp [sumS]
      rw [h3, List.length_cons, Nat.add_mul, Nat.one_mul]
      omega
  have h1 := h (fewS xs n m) (fun y hy => by
    unfold fewS at hy
    obtain ⟨x, _, rfl⟩ := List.mem_map.1 hy
    exact cutS_size x m)
  have h2 : (fewS xs n m).length ≤ n := by unfold fewS; rw [List.length_map, List.length_take]; omega
  exact Nat.le_trans h1 (Nat.mul_le_mul_right _ h2)
theorem list34_any (a : Option Addr) (c : Nat) (xs : List ByteArray) (hsum : sumS xs ≤ 1000000000) (w : World) (hx : IsStrs w a c xs) :
    Calls Tryd.prog 34 #[.slice a xs.length c] w fun e w' => ∃ b d, e = .returned (.slice b (bsOf (listP xs)).length d) ∧ IsStrs w' b d (bsOf (listP xs)) ∧ Below w.heap.size w w' := by
  refine (list34 a c xs hsum w hx).mono ?_
  rintro e w' ⟨v, rfl, hrow, hb⟩
  obtain ⟨b, d, rfl, hs⟩ := own_isStrs hrow
  exact ⟨b, d, rfl, hs, hb⟩

set_option maxRecDepth 100000 in
set_option maxHeartbeats 1000000 in
theorem lawOctetLists (a : Option Addr) (c : Nat) (xs : List ByteArray) (hlen : xs.length ≤ 9223372036854775807) (w : World) (hw : Laid5 w) (hx : IsStrs w a c xs) :
    Calls Tryd.prog 7 #[.slice a xs.length c] w fun e w' => e = .returned (.bool true) ∧ Below w.heap.size w w' := by
  have HX := Lib.hid hx
  have HW := Lib.hid hw
  clear hx hw
  go_enter Tryd.func7, Tryd.ntmps7
  go_wp2_with fail
  refine (awake12 w HW.out).mono ?_
  rintro e w1 ⟨rfl, hb1⟩
  have X1 : Hid (IsStrs w1 a c xs) := HX.out.below hb1
  have W1 : Hid (Laid5 w1) := HW.out.below hb1
  clear HX HW
  go_wp2_with fail
  refine (few14n a c xs 6 30 (by decide) hlen w1 X1.out).mono ?_
  rintro e w2 ⟨a2, c2, rfl, hs2, _, hb2⟩
  have hsum := sumS_few xs 6 30
  have hfl := sum_len (fewS xs 6 30)
  generalize fewS xs 6 30 = ys at *
  have W2 : Hid (Laid5 w2) := W1.out.below hb2
  have X2 := Lib.hid hs2
  have b2 := hb1.trans (hb2.mono hb1.size)
  clear hs2 X1 W1 hb1 hb2
  go_wp2_with fail
  refine (list_any a2 c2 ys (by omega) w2 X2.out W2.out).mono ?_
  rintro e w3 ⟨a3, c3, rfl, hs3, hb3⟩
  have X3 : Hid (IsStrs w3 a2 c2 ys) := X2.out.below hb3
  have S3 := Lib.hid hs3
  have b3 := b2.trans (hb3.mono b2.size)
  have hl : (bsOf (listP ys)).length ≤ 9223372036854775807 := by
    rw [bsOf_length]
    have := accL_bound ys ys.length
    rw [List.take_of_length_le (Nat.le_refl _)] at this
    unfold listP
    omega
  clear hs3 X2 W2 hb3 b2
  go_wp2_with fail
  refine (list34_any a2 c2 ys (by omega) w3 X3.out).mono ?_
  rintro e w4 ⟨a4, c4, rfl, hs4, hb4⟩
  have S4 : Hid (IsStrs w4 a3 c3 (bsOf (listP ys))) := S3.out.below hb4
  have b4 := b3.trans (hb4.mono b3.size)
  generalize bsOf (listP ys) = zs at *
  have T4 := Lib.hid hs4
  clear hs4 X3 S3 hb4 b3
  go_wp2_with fail
  refine (same_yes a3 c3 zs a4 c4 zs.length rfl hl w4 S4.out T4.out).mono ?_
  rintro e w5 ⟨rfl, hb5⟩
  have b5 := b4.trans (hb5.mono b4.size)
  go_wp2_with fail
  go_ret
  exact ⟨rfl, b5⟩
end Go.Proofs.YtneagccakoakpaaDoor
