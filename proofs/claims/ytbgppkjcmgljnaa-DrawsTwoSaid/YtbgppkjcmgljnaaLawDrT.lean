/- The walk of the statement DrawsTwo. -/
import Derived.Test.YtbgppkjcmgljnaaDrB
namespace Go.Proofs.Ytbgppkjcmgljnaa
open Go.RowKit

/-- A slice of numbers that is handed in. -/
def IsU64s (w : World) (a : Option Addr) (c : Nat) (xs : List Nat) : Prop :=
  ((a = none ∧ xs = [] ∧ c = 0) ∨ ∃ ad, a = some ad ∧ xs.length ≤ c ∧ ∀ (j : Nat) x, xs[j]? = some x → ad.block < w.heap.size ∧ w.cell? (ad.add j) = some (.int .u64 (x : Int))) ∧ ∀ x ∈ xs, x < 18446744073709551616
theorem add_block (ad : Addr) (j : Nat) : (ad.add j).block = ad.block := by unfold Addr.add; split <;> rfl
theorem IsU64s.src {w w' : World} {a : Option Addr} {c : Nat} {xs : List Nat} (h : IsU64s w a c xs) (hb : Below w.heap.size w w') (k : Nat) : SrcAt w' a c (xs.take k) := by
  rcases h.1 with ⟨ha, hx, hc⟩ | ⟨ad, ha, _, hc⟩
  · exact .inl ⟨ha, by rw [hx, List.take_nil], hc⟩
  · refine .inr ⟨ad, ha, fun j x hx => ?_⟩
    rw [List.getElem?_take] at hx
    split at hx
    · obtain ⟨h1, h2⟩ := hc j x hx
      rw [hb.cell (p := ad.add j) (by rw [add_block]; exact h1)]
      exact h2
    · cases hx
theorem take_min (xs : List Nat) (m : Nat) : ∃ k : Nat, k ≤ m ∧ k ≤ xs.length ∧ (xs.take k).length = k ∧ (if (m : Int) < (xs.length : Int) then (m : Int) else (xs.length : Int)) = (k : Int) := by
  by_cases h : (m : Int) < xs.length
  · exact ⟨m, Nat.le_refl _, by omega, by simp; omega, by rw [if_pos h]⟩
  · exact ⟨xs.length, by omega, Nat.le_refl _, by simp, by rw [if_neg h]⟩
set_option maxHeartbeats 2000000 in
set_option maxRecDepth 100000 in
theorem lawDrawsTwo (a : Option Addr) (c : Nat) (xs : List Nat) (n : Int) (hn1 : n ≤ 9223372036854775807) (w : World) (hx : IsU64s w a c xs) :
    Calls Try.prog 3 #[.slice a xs.length c, .int .i64 n] w fun e w' => e = .returned (.bool true) ∧ Below w.heap.size w w' := by
  have HA := Lib.hid (awake14 w)
  have HX := Lib.hid hx
  obtain ⟨k, hk9, hkl, hkt, hmin⟩ := take_min xs 9
  have hmin : (if (9 : Int) < (xs.length : Int) then (9 : Int) else (xs.length : Int)) = (k : Int) := hmin
  have hle : ∀ x ∈ xs.take k, x < 18446744073709551616 := fun x h => hx.2 x (List.mem_of_mem_take h)
  have hkc : k ≤ c := by
    rcases hx.1 with ⟨_, h, _⟩ | ⟨_, _, h, _⟩
    · rw [h] at hkl; simp at hkl; omega
    · omega
  have HL := Lib.hid hle
  have HT := Lib.hid hkt
  clear hle hkt hx
  go_enter Try.func3, Try.ntmps3
  go_wp2_with fail
  refine HA.out.mono ?_
  rintro e w1 ⟨rfl, hb1⟩
  go_wp2_with fail
  refine (new6 w1).mono ?_
  rintro e w2 ⟨rfl, hf, hb2⟩
  have HF := Lib.hid hf
  clear hf
  have HP := push7 w1.heap.size c a (xs.take k) (by rw [HT.out]; omega) HL.out w2 HF.out (HX.out.src (hb1.trans (hb2.mono hb1.size)) k)
  rw [HT.out] at HP
  have HP := Lib.hid HP
  have hkl' : (k : Int) ≤ xs.length := by omega
  go_wp2_with fail
  refine HP.out.mono ?_
  rintro e w3 ⟨rfl, hd, hb3⟩
  have HD := Lib.hid hd
  have hbB : Below w.heap.size w w3 := hb1.trans (((hb2.trans (hb3 _ (Nat.le_refl _)))).mono hb1.size)
  have hz1 := hb1.size
  clear hd hb1 hb2 hb3 HP HF HL hmin hkl' hkc hkl hk9
  by_cases hn : n < 2
  · go_wp2_with fail
    refine (calls_flop (two8_no _ n hn w3)).mono ?_
    rintro e w' ⟨rfl, rfl⟩
    go_wp2_with fail
    with_reducible refine (calls_flop (short9 _ _ _ _ w3 HD.out)).mono ?_
    rintro e w' ⟨rfl, rfl⟩
    go_wp2_with fail
    go_ret
    exact ⟨rfl, hbB⟩
  · obtain ⟨N, rfl⟩ := Int.eq_ofNat_of_zero_le (show 0 ≤ n by omega)
    have HW := Lib.hid (two8 _ _ N (by omega) (by omega) _ 0 (by decide) w3 HD.out)
    go_wp2_with fail
    refine HW.out.mono ?_
    rintro e w4 ⟨p, q, rfl, hp, hq, hpq, _, ht⟩
    have hbC := hbB.trans (ht.below w.heap.size hz1)
    have g1 : (p : Int) < N := by omega
    have g2 : (q : Int) < N := by omega
    have g3 : ((p : Int) != (q : Int)) = true := by rw [bne_iff_ne]; omega
    clear hp hq hpq ht HW HD hbB
    go_wp2_with fail
    go_ret
    exact ⟨by simp, hbC⟩
end Go.Proofs.Ytbgppkjcmgljnaa
