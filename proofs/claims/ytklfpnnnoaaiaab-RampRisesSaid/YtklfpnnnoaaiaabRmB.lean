/- ramp: Next, Steps, the law's Numbers; the fixed facts; the three laws. -/
import Derived.Test.YtklfpnnnoaaiaabRmA
import Derived.Test.YtklfpnnnoaaiaabKeepN
import Derived.OwnWalk
import Derived.BigQuiet
import Derived.Deep.MidRow
import Derived.Laws.MakeOwn
namespace Go.Proofs.Ytklfpnnnoaaiaab
open Go.RowKit

set_option maxHeartbeats 1000000 in
theorem nextC (wt since now slow : Int) (w : World) :
    Calls Try.prog 9 #[.int .i64 wt, .int .i64 since, .int .i64 now, .int .i64 slow] w fun e w' => e = .returned (.tuple #[.int .i64 (nextP wt since now slow).1, .bool (nextP wt since now slow).2]) ∧ w' = w := by
  have HW := weightC wt since now slow
  have HF := fullC wt
  have HS := tickC since
  have HL := lastC slow
  have b1 := fullN_b wt
  have b3 := tickN_b since
  have b4 := lastN_b slow
  have hle := wtN_le wt since now slow
  unfold nextP nxK
  generalize wtN wt since now slow = m at *
  generalize fullN wt = W at *
  generalize tickN since = T at *
  generalize lastN slow = S at *
  by_cases he : m = W
  · rw [if_pos he]
    have q : ((m : Int) == (W : Int)) = true := by simp [he]
    clear hle
    go_enter Try.func9, Try.ntmps9
    go_wp2_with fail
    refine (HW _).mono ?_
    rintro e w' ⟨rfl, rfl⟩
    go_wp2_with fail
    refine (HF _).mono ?_
    rintro e w' ⟨rfl, rfl⟩
    go_wp2_with fail
    refine (HS _).mono ?_
    rintro e w' ⟨rfl, rfl⟩
    go_wp2_with fail
    refine (HL _).mono ?_
    rintro e w' ⟨rfl, rfl⟩
    go_wp2_with fail
    go_ret2
    exact ⟨rfl, rfl⟩
  rw [if_neg he]
  have hP : (m + 1) * S ≤ 65536 * 1048576 := Nat.mul_le_mul (by omega) b4
  have q : ((m : Int) == (W : Int)) = false := beq_eq_false_iff_ne.2 (by omega)
  have em : ((m : Int) + 1) * (S : Int) = (((m + 1) * S : Nat) : Int) := by simp
  generalize (m + 1) * S = P at *
  have hK : (P + W - 1) / W ≤ P + W - 1 := Nat.div_le_self _ _
  have ed : ((P : Int) + (W : Int) - 1).tdiv (W : Int) = (((P + W - 1) / W : Nat) : Int) := by rw [← tdivR]; congr 1; omega
  have z : ¬ (W : Int) = 0 := by omega
  generalize (P + W - 1) / W = K at *
  have eT : ((T + K : Nat) : Int) = (T : Int) + (K : Int) := by omega
  rw [eT]
  by_cases hc : (T : Int) + (K : Int) > 1099511627776
  · rw [if_pos hc]
    have hc2 : (1099511627776 : Int) < (T : Int) + (K : Int) := hc
    clear eT
    go_enter Try.func9, Try.ntmps9
    go_wp2_with fail
    refine (HW _).mono ?_
    rintro e w' ⟨rfl, rfl⟩
    go_wp2_with fail
    refine (HF _).mono ?_
    rintro e w' ⟨rfl, rfl⟩
    go_wp2_with fail
    refine (HS _).mono ?_
    rintro e w' ⟨rfl, rfl⟩
    go_wp2_with fail
    refine (HL _).mono ?_
    rintro e w' ⟨rfl, rfl⟩
    go_wp2_with fail
    go_ret2
    exact ⟨rfl, rfl⟩
  · rw [if_neg hc]
    have hc2 : ¬ (1099511627776 : Int) < (T : Int) + (K : Int) := hc
    clear eT
    go_enter Try.func9, Try.ntmps9
    go_wp2_with fail
    refine (HW _).mono ?_
    rintro e w' ⟨rfl, rfl⟩
    go_wp2_with fail
    refine (HF _).mono ?_
    rintro e w' ⟨rfl, rfl⟩
    go_wp2_with fail
    refine (HS _).mono ?_
    rintro e w' ⟨rfl, rfl⟩
    go_wp2_with fail
    refine (HL _).mono ?_
    rintro e w' ⟨rfl, rfl⟩
    go_wp2_with fail
    go_ret2
    exact ⟨rfl, rfl⟩
theorem infoI64r : (Try.prog.info? 3).map (fun i => (i.zero, i.size, i.bytes)) = some (some (.int .i64 0), 1, 8) := by kernel_rfl
def stepV (k : Nat) : Array Value := ((List.range 6).map fun j => Value.int .i64 (if j < k then (gI 10 (j : Int) 5 : Nat) else 0)).toArray
theorem stepV_put {j : Nat} (h : j < 6) : (stepV j).setIfInBounds j (.int .i64 (gI 10 (j : Int) 5 : Nat)) = stepV (j + 1) := by
  obtain rfl | rfl | rfl | rfl | rfl | rfl : j = 0 ∨ j = 1 ∨ j = 2 ∨ j = 3 ∨ j = 4 ∨ j = 5 := by omega
  all_goals rfl
theorem stepV_at {k j : Nat} (h : j < 6) : (stepV k)[j]? = some (Value.int .i64 (if j < k then (gI 10 (j : Int) 5 : Nat) else 0)) := by
  unfold stepV
  rw [List.getElem?_toArray, List.getElem?_map, List.getElem?_range h, Option.map_some]
/-- Steps(10, 3, 5). -/
theorem steps5 (w : World) : Calls Try.prog 11 #[.int .i64 10, .int .i64 3, .int .i64 5] w fun e w' => e = .returned (.slice (some ⟨w.heap.size, 0, none⟩) 6 6) ∧ Row w' w.heap.size 3 (stepV 6) ∧ Below w.heap.size w w' := by
  obtain ⟨i0, hi, hz0, hz1, hz2⟩ := info_parts infoI64r
  have hmk := run_make (P := Try.prog) w 31 3 i0 (.int .i64 0) Try.underlying31 hi hz0 .i64 .i64 6 6 (by omega) (by omega) (by rw [hz2]; omega) (by omega)
  rw [hz1] at hmk
  have e0 : madeCells (Value.int .i64 0).cells ((6 : Int).toNat * 1) = stepV 0 := by kernel_rfl
  rw [e0] at hmk
  have HB0 := Lib.hid (below_alloc w (.cells (stepV 0) 3))
  have HR0 := Lib.hid (Row.new w 3 (stepV 0))
  have HF : Hid (∀ w, Calls Try.prog 13 #[.int .i64 10] w fun e w' => e = .returned (.int .i64 10) ∧ w' = w) := fun w => fullC 10 w
  go_enter Try.func11, Try.ntmps11
  go_wp2_with fail
  refine (HF.out _).mono ?_
  rintro e w' ⟨rfl, hw⟩
  subst w'
  go_wp2_with fail
  clear hmk e0
  have HG := Lib.hid (fun (j : Nat) (hj : j < 6) w => grownC 10 5 (j : Int) (by decide) (by decide) (by decide) (by omega) (by omega) w)
  go_loopw [19] (fun i wr => ∃ j : Nat, j ≤ 6 ∧ i = .int .i64 (j : Int) ∧ Hid (Row wr w.heap.size 3 (stepV j)) ∧ Hid (Below w.heap.size w wr)) (fun i _ => 6 - (intOf i).toNat)
  case atStart => exact ⟨0, Nat.zero_le _, rfl, HR0, HB0⟩
  case round =>
    clear HR0 HB0
    obtain ⟨j, hj, rfl, HR, HB⟩ := hrel
    by_cases hlt : j < 6
    · have j1 : (j : Int) < 6 := by omega
      have hg := HG.out j hlt
      have hc : wr.cell? ⟨w.heap.size, j, none⟩ = some (.int .i64 0) := by rw [HR.out.cell, stepV_at hlt, if_neg (Nat.lt_irrefl _)]
      have hz := HR.out.free j
      have hr2 := HR.out.put j (.int .i64 (gI 10 (j : Int) 5 : Nat))
      rw [stepV_put hlt] at hr2
      have HR2 := Lib.hid hr2
      have HB2 := Lib.hid (HB.out.setCell (p := ⟨w.heap.size, j, none⟩) (Nat.le_refl _) (.int .i64 (gI 10 (j : Int) 5 : Nat)))
      clear hr2
      generalize gI 10 (j : Int) 5 = G at *
      go_wp2_with fail
      refine (hg _).mono ?_
      rintro e w' ⟨rfl, hw⟩
      subst w'
      go_wp2_with fail
      go_roundw
      case rel => exact ⟨j + 1, hlt, by go_num, HR2, HB2⟩
      case measure => simp [intOf]; omega
    · obtain rfl : j = 6 := by omega
      go_wp2_with fail
      go_ret
      exact ⟨rfl, HR.out, HB.out⟩
set_option maxHeartbeats 1000000 in
/-- Numbers of the same numbers. -/
theorem numbers10 (xs : List Int) (hl : xs.length ≤ 1000) (b1 b2 c1 c2 : Nat) (w : World) (h1 : ∀ (j : Nat) x, xs[j]? = some x → w.cell? ⟨b1, j, none⟩ = some (.int .i64 x)) (h2 : ∀ (j : Nat) x, xs[j]? = some x → w.cell? ⟨b2, j, none⟩ = some (.int .i64 x)) :
    Calls Try.prog 10 #[.slice (some ⟨b1, 0, none⟩) xs.length c1, .slice (some ⟨b2, 0, none⟩) xs.length c2] w fun e w' => e = .returned (.bool true) ∧ ∃ n, w' = w.drewN n := by
  have hne : ((xs.length : Int) != (xs.length : Int)) = false := by simp
  have H1 := Lib.hid h1
  have H2 := Lib.hid h2
  have HL := Lib.hid hl
  clear h1 h2
  go_enter Try.func10, Try.ntmps10
  go_wp2_with fail
  clear hne
  go_loopw [13] (fun i wr => ∃ j : Nat, j ≤ xs.length ∧ i = .int .i64 (j : Int) ∧ Hid (∃ n, wr = w.drewN n)) (fun i _ => xs.length - (intOf i).toNat)
  case atStart => exact ⟨0, Nat.zero_le _, rfl, 0, rfl⟩
  case round =>
    obtain ⟨j, hj, rfl, HN⟩ := hrel
    by_cases hlt : j < xs.length
    · have c1 : wr.cell? ⟨b1, j, none⟩ = some (.int .i64 xs[j]) := by obtain ⟨n, rfl⟩ := HN.out; exact H1.out j _ (List.getElem?_eq_getElem hlt)
      have c2 : wr.cell? ⟨b2, j, none⟩ = some (.int .i64 xs[j]) := by obtain ⟨n, rfl⟩ := HN.out; exact H2.out j _ (List.getElem?_eq_getElem hlt)
      have j1 : (j : Int) < xs.length := by omega
      generalize xs[j] = x at *
      have hn : Hid (∀ k, ∃ n, wr.drewN k = w.drewN n) := fun k => by obtain ⟨n, rfl⟩ := HN.out; exact ⟨n + k, by simp [World.drewN, Nat.add_assoc]⟩
      have ne : (x != x) = false := by simp
      go_wp2_with fail
      go_quiet (fail)
      go_wp2_with fail
      go_roundw
      case rel => exact ⟨j + 1, hlt, by go_num, hn.out _⟩
      case measure => simp [intOf]; omega
    · obtain rfl : j = xs.length := by omega
      go_wp2_with fail
      go_ret
      exact ⟨rfl, HN.out⟩
def sixL : List Int := [1, 2, 4, 6, 8, 10]
theorem six_steps : ∀ (j : Nat) x, sixL[j]? = some x → (stepV 6)[j]? = some (.int .i64 x) := by
  have h : stepV 6 = (sixL.map (Value.int .i64)).toArray := by kernel_rfl
  intro j x hx
  rw [h, List.getElem?_toArray, List.getElem?_map, hx]; rfl
theorem awake6r (w : World) : Calls Try.prog 6 #[] w fun e w' => e = .returned (.bool true) ∧ Below w.heap.size w w' := by
  have HB0 := Lib.hid (Below.refl w.heap.size w)
  have hn := nextC 10 0 1 5
  rw [show (nextP 10 0 1 5).1 = 2 by decide +kernel, show (nextP 10 0 1 5).2 = true by decide +kernel] at hn
  go_enter Try.func6, Try.ntmps6
  go_wp2_with fail
  refine (hn _).mono ?_
  rintro e w' ⟨rfl, hw⟩
  subst w'
  go_wp2_with fail
  refine (steps5 _).mono ?_
  rintro e w1 ⟨rfl, hr, hb⟩
  have HR := Lib.hid hr
  have HB := Lib.hid hb
  clear hr hb hn HB0
  go_wp2_with fail
  have hsz := HB.out.size
  have hr1 := (HR.out.alloc (.cells #[.int .i64 1, .int .i64 2, .int .i64 4, .int .i64 6, .int .i64 8, .int .i64 10] 3))
  have hr2 := Row.new w1 3 #[.int .i64 1, .int .i64 2, .int .i64 4, .int .i64 6, .int .i64 8, .int .i64 10]
  have HBa := Lib.hid (HB.out.alloc hsz (.cells #[.int .i64 1, .int .i64 2, .int .i64 4, .int .i64 6, .int .i64 8, .int .i64 10] 3))
  have HN := Lib.hid (numbers10 sixL (by decide) w.heap.size w1.heap.size 6 6 _ (fun j x hx => (hr1.cell j).trans (six_steps j x hx)) (fun j x hx => (hr2.cell j).trans (by
    have h : (#[.int .i64 1, .int .i64 2, .int .i64 4, .int .i64 6, .int .i64 8, .int .i64 10] : Array Value) = (sixL.map (Value.int .i64)).toArray := rfl
    rw [h, List.getElem?_toArray, List.getElem?_map, hx]; rfl)))
  clear hr1 hr2 HR HB hsz
  refine HN.out.mono ?_
  rintro e w2 ⟨rfl, n, rfl⟩
  have HBn : Hid (Below w.heap.size w ((w1.alloc (.cells #[.int .i64 1, .int .i64 2, .int .i64 4, .int .i64 6, .int .i64 8, .int .i64 10] 3)).drewN n)) := HBa.out.trans ⟨rfl, rfl, rfl, Nat.le_refl _, fun _ _ => rfl⟩
  clear HN HBa
  go_wp2_with fail
  go_ret
  exact ⟨rfl, HBn.out⟩
/-- What a law finds in the record that is handed in. -/
structure Grw (w0 w : World) (wt since now slow : Int) : Prop where
  row : Row w w0.heap.size 23 #[.int .i64 wt, .int .i64 since, .int .i64 now, .int .i64 slow]
  bel : Below w0.heap.size w0 w
section
variable {w0 w : World} {wt since now slow : Int}
theorem Grw.start (h : Below (w0.alloc (.cells #[.int .i64 wt, .int .i64 since, .int .i64 now, .int .i64 slow] 23)).heap.size (w0.alloc (.cells #[.int .i64 wt, .int .i64 since, .int .i64 now, .int .i64 slow] 23)) w) : Grw w0 w wt since now slow :=
  ⟨(Row.new w0 _ _).below h, (below_alloc w0 _).trans (h.mono (by simp))⟩
theorem Grw.c0 (h : Grw w0 w wt since now slow) : w.cell? ⟨w0.heap.size, 0, none⟩ = some (.int .i64 wt) := by rw [h.row.cell]; rfl
theorem Grw.c1 (h : Grw w0 w wt since now slow) : w.cell? ⟨w0.heap.size, 1, none⟩ = some (.int .i64 since) := by rw [h.row.cell]; rfl
theorem Grw.c2 (h : Grw w0 w wt since now slow) : w.cell? ⟨w0.heap.size, 2, none⟩ = some (.int .i64 now) := by rw [h.row.cell]; rfl
theorem Grw.c3 (h : Grw w0 w wt since now slow) : w.cell? ⟨w0.heap.size, 3, none⟩ = some (.int .i64 slow) := by rw [h.row.cell]; rfl
theorem Grw.drewN (h : Grw w0 w wt since now slow) (n : Nat) : Grw w0 (w.drewN n) wt since now slow := ⟨h.row.drewN n, h.bel.trans ⟨rfl, rfl, rfl, Nat.le_refl _, fun _ _ => rfl⟩⟩
end
set_option maxHeartbeats 1000000 in
theorem lawRampWeights (wt since now slow : Int) (w : World) :
    Calls Try.prog 3 #[.agg #[.int .i64 wt, .int .i64 since, .int .i64 now, .int .i64 slow]] w fun e w' => e = .returned (.bool true) ∧ Below w.heap.size w w' := by
  have HW := weightC wt since now slow
  have HR := weightR wt since now slow
  have hle := wtN_le wt since now slow
  have hb := fullN_b wt
  have hp := wtN_pos wt since now slow
  generalize wtN wt since now slow = m at *
  have h1 : m ≤ 65535 := by omega
  have h2 : (m : Int) ≤ 65535 := by omega
  have h3 : (1 : Int) ≤ (m : Int) := by omega
  have e1 : ((m : Int) == (m : Int)) = true := by simp
  clear hle hb
  go_enter Try.func3, Try.ntmps3
  go_wp2_with (go_at_call 6; refine (awake6r _).mono ?_; rintro e w1 ⟨rfl, hb1⟩; have HG := Lib.hid (Grw.start hb1); have c0 := HG.out.c0; have c1 := HG.out.c1; have c2 := HG.out.c2; have c3 := HG.out.c3; clear hb1)
  refine (HW _).mono ?_
  rintro e w' ⟨rfl, hw⟩
  subst w'
  go_wp2_with fail
  refine (HR _).mono ?_
  rintro e w' ⟨rfl, hw⟩
  subst w'
  go_wp2_with fail
  go_ret
  exact ⟨rfl, HG.out.bel⟩
theorem and_nat (x : Int) (k : Nat) (hk : k < 9223372036854775808) (hb : (BitVec.ofInt 64 (k : Int)).toNat = k) : ∃ n : Nat, n ≤ k ∧ bits .and .i64 x (k : Int) = (n : Int) := by
  have h : (BitVec.ofInt 64 x &&& BitVec.ofInt 64 (k : Int)).toNat ≤ k := by
    rw [BitVec.toNat_and, hb]
    exact Nat.and_le_right
  refine ⟨(BitVec.ofInt 64 x &&& BitVec.ofInt 64 (k : Int)).toNat, h, ?_⟩
  show IntKind.i64.wrap (((BitVec.ofInt 64 x &&& BitVec.ofInt 64 (k : Int)).toNat : Nat) : Int) = _
  exact IntWalk.i64_in _ (by omega)
theorem and24 (x : Int) : ∃ n : Nat, n ≤ 16777215 ∧ bits .and .i64 x 16777215 = (n : Int) := and_nat x 16777215 (by decide) (by decide)
theorem and16 (x : Int) : ∃ n : Nat, n ≤ 65535 ∧ bits .and .i64 x 65535 = (n : Int) := and_nat x 65535 (by decide) (by decide)
theorem and8 (x : Int) : ∃ n : Nat, n ≤ 255 ∧ bits .and .i64 x 255 = (n : Int) := and_nat x 255 (by decide) (by decide)
set_option maxHeartbeats 2000000 in
theorem lawRampRises (wt since now slow more : Int) (w : World) :
    Calls Try.prog 4 #[.agg #[.int .i64 wt, .int .i64 since, .int .i64 now, .int .i64 slow], .int .i64 more] w fun e w' => e = .returned (.bool true) ∧ Below w.heap.size w w' := by
  obtain ⟨S, hS, eS⟩ := and24 since
  obtain ⟨N, hN, eN⟩ := and24 now
  obtain ⟨M, hM, eM⟩ := and16 more
  obtain ⟨u1, f1⟩ : ∃ u1 : Int, u1 = min wt 65535 := ⟨_, rfl⟩
  obtain ⟨u2, f2⟩ : ∃ u2 : Int, u2 = min slow 1048576 := ⟨_, rfl⟩
  have f3 := fullB wt
  have f4 := lastB slow
  rw [← f1] at f3
  rw [← f2] at f4
  have p1 : (if (65535 : Int) < wt then 65535 else wt) = u1 := by split <;> omega
  have p2 : (if (1048576 : Int) < slow then 1048576 else slow) = u2 := by split <;> omega
  have p3 : (if (1 : Int) < u1 then u1 else 1) = (fullN wt : Int) := by split <;> omega
  have p4 : (if (0 : Int) < u2 then u2 else 0) = (lastN slow : Int) := by split <;> omega
  clear f1 f2 f3 f4
  have hL := lastN_b slow
  have h1 := wtN_mono (wt := wt) (since := (S : Int)) (slow := slow) (a := (N : Int)) (b := (N : Int) + (M : Int)) (by omega)
  have h2 := wtN_le wt (S : Int) ((N : Int) + (M : Int)) slow
  have h3 := wtN_full (wt := wt) (since := (S : Int)) (now := (S : Int) + (lastN slow : Int)) (slow := slow) (by rw [tickN_id (by omega) (by omega), tickN_id (by omega) (by omega)]; omega)
  have hA := weightC wt (S : Int) (N : Int) slow
  have hB := weightC wt (S : Int) ((N : Int) + (M : Int)) slow
  have hC := weightC wt (S : Int) ((S : Int) + (lastN slow : Int)) slow
  rw [h3] at hC
  clear h3
  generalize wtN wt (S : Int) (N : Int) slow = m1 at *
  generalize wtN wt (S : Int) ((N : Int) + (M : Int)) slow = m2 at *
  generalize fullN wt = F at *
  generalize lastN slow = L at *
  have g1 : (m1 : Int) ≤ (m2 : Int) := by omega
  have g2 : (m2 : Int) ≤ (F : Int) := by omega
  have e1 : ((F : Int) == (F : Int)) = true := by simp
  have HA := Lib.hid hA
  have HB := Lib.hid hB
  have HC := Lib.hid hC
  clear hA hB hC
  go_enter Try.func4, Try.ntmps4
  go_wp2_with (go_at_call 6; refine (awake6r _).mono ?_; rintro e w1 ⟨rfl, hb1⟩; have HG := Lib.hid (Grw.start hb1); have c0 := HG.out.c0; have c1 := HG.out.c1; have c2 := HG.out.c2; have c3 := HG.out.c3; clear hb1)
  go_quiet (fail)
  have HG2 := Lib.hid (HG.out.drewN nq)
  clear c0 c1 c2 c3 HG
  generalize w1.drewN nq = w2 at *
  have c0 := HG2.out.c0
  have c1 := HG2.out.c1
  have c2 := HG2.out.c2
  have c3 := HG2.out.c3
  go_wp2_with fail
  go_quiet (first | (go_at_call 7; with_reducible exact Calls.quiet_of_same (HA.out _)) | (go_at_call 7; with_reducible exact Calls.quiet_of_same (HB.out _)))
  have HG3 := Lib.hid (HG2.out.drewN nq)
  clear c0 c1 c2 c3 HG2
  generalize w2.drewN nq = w3 at *
  have c0 := HG3.out.c0
  have c1 := HG3.out.c1
  have c2 := HG3.out.c2
  have c3 := HG3.out.c3
  go_wp2_with fail
  refine (HC.out _).mono ?_
  rintro e w' ⟨rfl, hw⟩
  subst w'
  go_wp2_with fail
  go_ret
  exact ⟨rfl, HG3.out.bel⟩
set_option maxHeartbeats 2000000 in
theorem lawRampNext (wt since now slow : Int) (w : World) :
    Calls Try.prog 5 #[.agg #[.int .i64 wt, .int .i64 since, .int .i64 now, .int .i64 slow]] w fun e w' => e = .returned (.bool true) ∧ Below w.heap.size w w' := by
  obtain ⟨sl, hsl, es⟩ := and8 slow
  obtain ⟨u1, f1⟩ : ∃ u1 : Int, u1 = min now 1099511627776 := ⟨_, rfl⟩
  obtain ⟨u2, f2⟩ : ∃ u2 : Int, u2 = min since 1099511627776 := ⟨_, rfl⟩
  have f3 := tickB now
  have f4 := tickB since
  rw [← f1] at f3
  rw [← f2] at f4
  have p1 : (if (1099511627776 : Int) < now then 1099511627776 else now) = u1 := by split <;> omega
  have p2 : (if (1099511627776 : Int) < since then 1099511627776 else since) = u2 := by split <;> omega
  have p3 : (if (0 : Int) < u1 then u1 else 0) = (tickN now : Int) := by split <;> omega
  have p4 : (if (0 : Int) < u2 then u2 else 0) = (tickN since : Int) := by split <;> omega
  clear f1 f2 f3 f4
  have hN := tickN_b now
  have hT := tickN_b since
  obtain ⟨y, hy⟩ : ∃ y : Int, y = min ((tickN since : Int) + (sl : Int)) 1099511627776 := ⟨_, rfl⟩
  obtain ⟨l, hl⟩ : ∃ l : Int, l = max (tickN now : Int) y := ⟨_, rfl⟩
  have p5 : (if (1099511627776 : Int) < (tickN since : Int) + (sl : Int) then 1099511627776 else (tickN since : Int) + (sl : Int)) = y := by split <;> omega
  have p6 : (if (tickN now : Int) < y then y else (tickN now : Int)) = l := by split <;> omega
  have q1 : (tickN now : Int) ≤ l := by omega
  have q2 : l ≤ 1099511627776 := by omega
  clear hy hl
  have hsp := next_spec wt since now (sl : Int)
  have hNX := nextC wt since now (sl : Int)
  have hW0 := weightR wt since (tickN now : Int) (sl : Int)
  rw [wtN_tick] at hW0
  have hWl := weightR wt since l (sl : Int)
  have hWn := weightR wt since (nextP wt since now (sl : Int)).1 (sl : Int)
  have hWm := weightR wt since ((nextP wt since now (sl : Int)).1 - 1) (sl : Int)
  generalize hmm : wtN wt since now (sl : Int) = m at *
  clear hmm
  generalize nextP wt since now (sl : Int) = p at *
  obtain ⟨x, b⟩ := p
  simp only at hsp hNX hWn hWm
  have em : ((m : Int) == (m : Int)) = true := by simp
  cases b with
  | false =>
    obtain ⟨rfl, hall⟩ := hsp.1 rfl
    rw [hall l q1 q2] at hWl
    clear hsp hall hWn hWm
    generalize tickN now = N at *
    generalize tickN since = T at *
    have HNX := Lib.hid hNX
    have HW0 := Lib.hid hW0
    have HWL := Lib.hid hWl
    clear hNX hW0 hWl
    go_enter Try.func5, Try.ntmps5
    go_wp2_with (go_at_call 6; refine (awake6r _).mono ?_; rintro e w1 ⟨rfl, hb1⟩; have HG := Lib.hid (Grw.start hb1); have c0 := HG.out.c0; have c1 := HG.out.c1; have c2 := HG.out.c2; have c3 := HG.out.c3; clear hb1)
    refine (HNX.out _).mono ?_
    rintro e w' ⟨rfl, hw⟩
    subst w'
    go_wp2_with fail
    refine (HW0.out _).mono ?_
    rintro e w' ⟨rfl, hw⟩
    subst w'
    go_wp2_with fail
    refine (HWL.out _).mono ?_
    rintro e w' ⟨rfl, hw⟩
    subst w'
    go_wp2_with fail
    go_ret
    exact ⟨rfl, HG.out.bel⟩
  | true =>
    obtain ⟨s1, s2, s3, s4⟩ := hsp.2 rfl
    rw [s4] at hWm
    generalize wtN wt since x (sl : Int) = m2 at *
    have e2 : ((m2 : Int) == (m : Int)) = false := beq_eq_false_iff_ne.2 (by omega)
    have g1 : ¬ x ≤ (tickN now : Int) := by omega
    have g2 : ¬ (1099511627776 : Int) < x := by omega
    clear hsp hWl s3 s4
    generalize tickN now = N at *
    generalize tickN since = T at *
    have G1 := Lib.hid g1
    have G2 := Lib.hid g2
    have S1 := Lib.hid s1
    clear g1 g2 s1 s2
    have HNX := Lib.hid hNX
    have HW0 := Lib.hid hW0
    have HWN := Lib.hid hWn
    have HWM := Lib.hid hWm
    clear hNX hW0 hWn hWm
    go_enter Try.func5, Try.ntmps5
    go_wp2_with (go_at_call 6; refine (awake6r _).mono ?_; rintro e w1 ⟨rfl, hb1⟩; have HG := Lib.hid (Grw.start hb1); have c0 := HG.out.c0; have c1 := HG.out.c1; have c2 := HG.out.c2; have c3 := HG.out.c3; clear hb1)
    refine (HNX.out _).mono ?_
    rintro e w' ⟨rfl, hw⟩
    subst w'
    go_wp2_with fail
    refine (HW0.out _).mono ?_
    rintro e w' ⟨rfl, hw⟩
    subst w'
    have g1 := G1.out
    have g2 := G2.out
    have s1 := S1.out
    go_wp2_with fail
    refine (HWN.out _).mono ?_
    rintro e w' ⟨rfl, hw⟩
    subst w'
    go_wp2_with fail
    refine (HWM.out _).mono ?_
    rintro e w' ⟨rfl, hw⟩
    subst w'
    go_wp2_with fail
    go_ret
    exact ⟨rfl, HG.out.bel⟩
end Go.Proofs.Ytklfpnnnoaaiaab
