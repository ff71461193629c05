/- the reference's Clip and Result of a probe. -/
import Derived.Test.YtklfpnnnoaaiaaaPoB
import Derived.Deep.Cut
namespace Go.Proofs.Ytklfpnnnoaaiaaa
open Go.RowKit

theorem lim_if {x m : Int} (hm : 1 ≤ m) : ∃ u : Int, (if m < x then m else x) = u ∧ (if (1 : Int) < u then u else 1) = limN x m := by
  refine ⟨min x m, by split <;> omega, ?_⟩
  unfold limN
  split <;> omega
set_option maxRecDepth 100000 in
set_option maxHeartbeats 1000000 in
theorem clipR (c : Cfg) (w : World) : Calls Try.prog 21 #[cfgV c] w fun e w' => e = .returned (cfgV (clipC c)) ∧ Below w.heap.size w w' := by
  obtain ⟨e, wt, r, f⟩ := c
  unfold cfgV clipC
  obtain ⟨u1, a1, b1⟩ := lim_if (x := e) (m := 1048576) (by decide)
  obtain ⟨u2, a2, b2⟩ := lim_if (x := wt) (m := 1048576) (by decide)
  obtain ⟨u3, a3, b3⟩ := lim_if (x := r) (m := 1000) (by decide)
  obtain ⟨u4, a4, b4⟩ := lim_if (x := f) (m := 1000) (by decide)
  simp only
  generalize limN e 1048576 = e' at *
  generalize limN wt 1048576 = w' at *
  generalize limN r 1000 = r' at *
  generalize limN f 1000 = f' at *
  go_enter Try.func21, Try.ntmps21
  go_wp2_with fail
  refine bodyPost_ret (v := .agg #[.int .i64 e', .int .i64 w', .int .i64 r', .int .i64 f']) (by simp [results, Try.results21, go_sem]) rfl ⟨rfl, below_a2 _ _ _⟩
/-- Rows that a call of the reference's Result has made. -/
structure Rs4 (w0 w : World) (kb : Nat) (p c k : Array Value) : Prop where
  bel : Below w0.heap.size w0 w
  a : Row w w0.heap.size 41 p
  c : Row w (w0.heap.size + 1 + 1) 41 zP
  k : Row w kb 43 k
  lt : w0.heap.size + 1 + 1 < kb
section
variable {w0 w : World} {kb : Nat} {p c k : Array Value}
theorem Rs4.free (h : Rs4 w0 w kb p c k) : (∀ i, w.frozen? ⟨w0.heap.size, i, none⟩ = false) ∧ ∀ i, w.frozen? ⟨w0.heap.size + 1 + 1, i, none⟩ = false := ⟨h.a.free, h.c.free⟩
end
theorem pcell {w : World} {g : Nat} {T : TypeId} {a b c d : Value} (h : Row w g T #[a, b, c, d]) : w.cell? ⟨g, 0, none⟩ = some a ∧ w.cell? ⟨g, 1, none⟩ = some b ∧ w.cell? ⟨g, 2, none⟩ = some c ∧ w.cell? ⟨g, 3, none⟩ = some d :=
  ⟨by rw [h.cell]; rfl, by rw [h.cell]; rfl, by rw [h.cell]; rfl, by rw [h.cell]; rfl⟩
set_option maxRecDepth 100000 in
set_option maxHeartbeats 8000000 in
theorem resultR (p : Prb) (c : Cfg) (good : Bool) (now : Int) (w : World) :
    Calls Try.prog 18 #[prbV p, cfgV c, .bool good, .int .i64 now] w fun e w' => e = .returned (resV (resP p (limN c.r 1000) (limN c.f 1000) good now)) ∧ Below w.heap.size w w' := by
  obtain ⟨up, g, b, s⟩ := p
  obtain ⟨ce, cw, cr, cff⟩ := c
  have hC := fun w => clipR ⟨ce, cw, cr, cff⟩ w
  have hr := limN_le (x := cr) (m := 1000) (by decide)
  have hf := limN_le (x := cff) (m := 1000) (by decide)
  unfold cfgV clipC at hC
  unfold prbV cfgV
  simp only at hC ⊢
  generalize limN ce 1048576 = e' at *
  generalize limN cw 1048576 = w' at *
  generalize limN cr 1000 = r' at *
  generalize limN cff 1000 = f' at *
  have HS0 := Lib.hid (Rs3.start w 41 43 #[.bool up, .int .i64 g, .int .i64 b, .int .i64 s] #[.int .i64 ce, .int .i64 cw, .int .i64 cr, .int .i64 cff] zP)
  unfold zP at HS0
  go_enter Try.func18, Try.ntmps18
  go_wp2_with fail
  refine (hC _).mono ?_
  rintro e w1 ⟨rfl, hB1⟩
  have HS1 := Lib.hid (HS0.out.below hB1)
  clear hB1 hC HS0
  go_upto_region 2 with fail
  have hs2 : Rs4 w (w1.alloc (.cells #[.int .i64 e', .int .i64 w', .int .i64 r', .int .i64 f'] 43)) w1.heap.size #[.bool up, .int .i64 g, .int .i64 b, .int .i64 s] #[.int .i64 ce, .int .i64 cw, .int .i64 cr, .int .i64 cff] #[.int .i64 e', .int .i64 w', .int .i64 r', .int .i64 f'] :=
    ⟨HS1.out.bel.alloc HS1.out.bel.size _, HS1.out.a.alloc _, HS1.out.c.alloc _, Row.new w1 _ _, HS1.out.c.lt⟩
  have HS2 := Lib.hid hs2
  clear hs2 HS1
  generalize w1.alloc (.cells #[.int .i64 e', .int .i64 w', .int .i64 r', .int .i64 f'] 43) = w2 at *
  generalize w1.heap.size = kb at *
  obtain ⟨p0, p1, p2, p3⟩ := pcell HS2.out.a
  obtain ⟨k0, k1, k2, k3⟩ := pcell HS2.out.k
  obtain ⟨z0, z1, z2, z3⟩ := pcell HS2.out.c
  obtain ⟨fa, fc⟩ := HS2.out.free
  have HB := Lib.hid HS2.out.bel
  have hlt := HS2.out.lt
  have n1 : ¬ kb = w.heap.size := by omega
  have n2 : ¬ kb = w.heap.size + 1 + 1 := by omega
  clear hlt
  cases good with
  | true =>
    obtain ⟨m, hm⟩ : ∃ m : Int, m = max g 0 := ⟨_, rfl⟩
    have hif : (if (0 : Int) < g then g else 0) = m := by split <;> omega
    have h1 : one1 g = m + 1 := by unfold one1; rw [hm]
    cases up with
    | true =>
      have HV : Hid (Value.tuple #[.agg #[.bool true, .int .i64 g, .int .i64 0, .int .i64 s], .bool false] = resV (resP ⟨true, g, b, s⟩ r' f' true now)) := by
        show _ = _
        unfold resP resG resV; simp
      clear hm hif h1
      go_wp2_with fail
      refine bodyPost_ret (v := .tuple #[.agg #[.bool true, .int .i64 g, .int .i64 0, .int .i64 s], .bool false]) (by simp [results, Try.results18, go_sem, z0, z1, z2, z3]) rfl ⟨by rw [← HV.out], ?_⟩
      repeat (first | exact HB.out | refine Below.setCell ?_ (by first | (simp; done) | (simp; omega)) _)
    | false =>
      by_cases hA : r' - 1 ≤ g
      · have hn : ¬ m + 1 < r' := by omega
        have HV : Hid (Value.tuple #[.agg #[.bool true, .int .i64 0, .int .i64 0, .int .i64 now], .bool true] = resV (resP ⟨false, g, b, s⟩ r' f' true now)) := by
          show _ = _
          unfold resP resG resV; simp [h1, hn]
        clear hm hif h1 hn
        go_wp2_with fail
        refine bodyPost_ret (v := .tuple #[.agg #[.bool true, .int .i64 0, .int .i64 0, .int .i64 now], .bool true]) (by simp [results, Try.results18, go_sem, z0, z1, z2, z3]) rfl ⟨by rw [← HV.out], ?_⟩
        repeat (first | exact HB.out | refine Below.setCell ?_ (by first | (simp; done) | (simp; omega)) _)
      have hA2 : ¬ g ≥ r' - 1 := hA
      have m0 : 0 ≤ m := by omega
      have m1 : m ≤ 1000 := by omega
      by_cases hB2 : m + 1 < r'
      · have hB3 : ¬ r' ≤ m + 1 := by omega
        have HV : Hid (Value.tuple #[.agg #[.bool false, .int .i64 (m + 1), .int .i64 0, .int .i64 s], .bool false] = resV (resP ⟨false, g, b, s⟩ r' f' true now)) := by
          show _ = _
          unfold resP resG resV; simp [h1, hB2]
        clear hm h1
        go_wp2_with fail
        refine bodyPost_ret (v := .tuple #[.agg #[.bool false, .int .i64 (m + 1), .int .i64 0, .int .i64 s], .bool false]) (by simp [results, Try.results18, go_sem, z0, z1, z2, z3]) rfl ⟨by rw [← HV.out], ?_⟩
        repeat (first | exact HB.out | refine Below.setCell ?_ (by first | (simp; done) | (simp; omega)) _)
      · have hB3 : r' ≤ m + 1 := by omega
        have HV : Hid (Value.tuple #[.agg #[.bool true, .int .i64 0, .int .i64 0, .int .i64 now], .bool true] = resV (resP ⟨false, g, b, s⟩ r' f' true now)) := by
          show _ = _
          unfold resP resG resV; simp [h1, hB2]
        clear hm h1
        go_wp2_with fail
        refine bodyPost_ret (v := .tuple #[.agg #[.bool true, .int .i64 0, .int .i64 0, .int .i64 now], .bool true]) (by simp [results, Try.results18, go_sem, z0, z1, z2, z3]) rfl ⟨by rw [← HV.out], ?_⟩
        repeat (first | exact HB.out | refine Below.setCell ?_ (by first | (simp; done) | (simp; omega)) _)
  | false =>
    obtain ⟨m, hm⟩ : ∃ m : Int, m = max b 0 := ⟨_, rfl⟩
    have hif : (if (0 : Int) < b then b else 0) = m := by split <;> omega
    have h1 : one1 b = m + 1 := by unfold one1; rw [hm]
    cases up with
    | false =>
      have HV : Hid (Value.tuple #[.agg #[.bool false, .int .i64 0, .int .i64 b, .int .i64 s], .bool false] = resV (resP ⟨false, g, b, s⟩ r' f' false now)) := by
        show _ = _
        unfold resP resB resV; simp
      clear hm hif h1
      go_wp2_with fail
      refine bodyPost_ret (v := .tuple #[.agg #[.bool false, .int .i64 0, .int .i64 b, .int .i64 s], .bool false]) (by simp [results, Try.results18, go_sem, z0, z1, z2, z3]) rfl ⟨by rw [← HV.out], ?_⟩
      repeat (first | exact HB.out | refine Below.setCell ?_ (by first | (simp; done) | (simp; omega)) _)
    | true =>
      by_cases hA : f' - 1 ≤ b
      · have hn : ¬ m + 1 < f' := by omega
        have HV : Hid (Value.tuple #[.agg #[.bool false, .int .i64 0, .int .i64 0, .int .i64 now], .bool true] = resV (resP ⟨true, g, b, s⟩ r' f' false now)) := by
          show _ = _
          unfold resP resB resV; simp [h1, hn]
        clear hm hif h1 hn
        go_wp2_with fail
        refine bodyPost_ret (v := .tuple #[.agg #[.bool false, .int .i64 0, .int .i64 0, .int .i64 now], .bool true]) (by simp [results, Try.results18, go_sem, z0, z1, z2, z3]) rfl ⟨by rw [← HV.out], ?_⟩
        repeat (first | exact HB.out | refine Below.setCell ?_ (by first | (simp; done) | (simp; omega)) _)
      have hA2 : ¬ b ≥ f' - 1 := hA
      have m0 : 0 ≤ m := by omega
      have m1 : m ≤ 1000 := by omega
      by_cases hB2 : m + 1 < f'
      · have hB3 : ¬ f' ≤ m + 1 := by omega
        have HV : Hid (Value.tuple #[.agg #[.bool true, .int .i64 0, .int .i64 (m + 1), .int .i64 s], .bool false] = resV (resP ⟨true, g, b, s⟩ r' f' false now)) := by
          show _ = _
          unfold resP resB resV; simp [h1, hB2]
        clear hm h1
        go_wp2_with fail
        refine bodyPost_ret (v := .tuple #[.agg #[.bool true, .int .i64 0, .int .i64 (m + 1), .int .i64 s], .bool false]) (by simp [results, Try.results18, go_sem, z0, z1, z2, z3]) rfl ⟨by rw [← HV.out], ?_⟩
        repeat (first | exact HB.out | refine Below.setCell ?_ (by first | (simp; done) | (simp; omega)) _)
      · have hB3 : f' ≤ m + 1 := by omega
        have HV : Hid (Value.tuple #[.agg #[.bool false, .int .i64 0, .int .i64 0, .int .i64 now], .bool true] = resV (resP ⟨true, g, b, s⟩ r' f' false now)) := by
          show _ = _
          unfold resP resB resV; simp [h1, hB2]
        clear hm h1
        go_wp2_with fail
        refine bodyPost_ret (v := .tuple #[.agg #[.bool false, .int .i64 0, .int .i64 0, .int .i64 now], .bool true]) (by simp [results, Try.results18, go_sem, z0, z1, z2, z3]) rfl ⟨by rw [← HV.out], ?_⟩
        repeat (first | exact HB.out | refine Below.setCell ?_ (by first | (simp; done) | (simp; omega)) _)
end Go.Proofs.Ytklfpnnnoaaiaaa
