/- SipHash, the program's own: absorb, finish. -/
import Derived.Test.YtlcpkplipfcdaaaDoorSipB
namespace Go.Proofs.YtlcpkplipfcdaaaDoor
open Go.RowKit

/-- One word absorbed. -/
def absorb (v : V4) (m : Int) : V4 :=
  let u := rnds 2 ⟨v.a, v.b, v.c, xo v.d m⟩
  ⟨xo u.a m, u.b, u.c, u.d⟩
/-- The end. -/
def finish (v : V4) : Int :=
  let u := rnds 4 ⟨v.a, v.b, xo v.c 255, v.d⟩
  xo (xo (xo u.a u.b) u.c) u.d

set_option maxHeartbeats 400000 in
set_option maxRecDepth 100000 in
theorem absorb27 (a b c d m : Int) (w : World) :
    Calls Tryd.prog 84 #[.agg #[.int .u64 a, .int .u64 b, .int .u64 c, .int .u64 d], .int .u64 m] w fun e w' => e = .returned (.agg #[.int .u64 (absorb ⟨a, b, c, d⟩ m).a, .int .u64 (absorb ⟨a, b, c, d⟩ m).b, .int .u64 (absorb ⟨a, b, c, d⟩ m).c, .int .u64 (absorb ⟨a, b, c, d⟩ m).d]) ∧ Below w.heap.size w w' := by
  go_enter Tryd.func84, Tryd.ntmps84
  go_wp2_with fail
  refine (rounds_2 _ _ _ _ _).mono ?_
  rintro e w1 ⟨rfl, hb1⟩
  have hF := Four.below (v := ⟨a, b, c, bits .xor .u64 d m⟩) (b := w.heap.size) (by simp [Four]) hb1 (by simp <;> omega)
  have hG := Four.below (v := ⟨0, 0, 0, 0⟩) (b := w.heap.size + 1) (by simp [Four]) hb1 (by simp <;> omega)
  have hz1 := hb1.size
  simp at hz1
  have hbel : Below w.heap.size w w1 := (((Below.refl _ _).alloc (Nat.le_refl _) _).alloc (by simp) _).trans (hb1.mono (by simp; omega))
  clear hb1
  have hh : absorb ⟨a, b, c, d⟩ m = ⟨bits .xor .u64 (rnds 2 ⟨a, b, c, bits .xor .u64 d m⟩).a m, (rnds 2 ⟨a, b, c, bits .xor .u64 d m⟩).b, (rnds 2 ⟨a, b, c, bits .xor .u64 d m⟩).c, (rnds 2 ⟨a, b, c, bits .xor .u64 d m⟩).d⟩ := rfl
  generalize hv : rnds 2 ⟨a, b, c, bits .xor .u64 d m⟩ = v at *
  obtain ⟨va, vb, vc, vd⟩ := v
  have HH := Lib.hid hh
  clear hh hv
  have hF' := Lib.hid hF
  have hG' := Lib.hid hG
  obtain ⟨⟨c0, c1, c2, c3⟩, f0, f1, f2, f3⟩ := hF
  obtain ⟨⟨r0, r1, r2, r3⟩, g0, g1, g2, g3⟩ := hG
  go_wp2_with fail
  refine bodyPost_ret (v := .agg #[.int .u64 (bits .xor .u64 va m), .int .u64 vb, .int .u64 vc, .int .u64 vd]) ?_ rfl ⟨by rw [HH.out], ?_⟩
  · obtain ⟨⟨d0, d1, d2, d3⟩, _⟩ := (((hG'.out.other (b' := w.heap.size) (by omega) va vb vc vd).setOther (b' := w.heap.size) (o := 0) (x := .int .u64 (bits .xor .u64 va m)) (by omega))).put (bits .xor .u64 va m) vb vc vd
    unfold put4 at d0 d1 d2 d3
    simp [results, Tryd.results84, go_sem, d0, d1, d2, d3]
  · exact below_put4 ((below_put4 hbel (Nat.le_refl _) va vb vc vd).setCell (by simp) _) (by omega) _ _ _ _

set_option maxHeartbeats 400000 in
set_option maxRecDepth 100000 in
theorem finish30 (a b c d : Int) (w : World) :
    Calls Tryd.prog 87 #[.agg #[.int .u64 a, .int .u64 b, .int .u64 c, .int .u64 d]] w fun e w' => e = .returned (.int .u64 (finish ⟨a, b, c, d⟩)) ∧ Below w.heap.size w w' := by
  go_enter Tryd.func87, Tryd.ntmps87
  go_wp2_with fail
  refine (rounds_4 _ _ _ _ _).mono ?_
  rintro e w1 ⟨rfl, hb1⟩
  have hF := Four.below (v := ⟨a, b, bits .xor .u64 c 255, d⟩) (b := w.heap.size) (by simp [Four]) hb1 (by simp <;> omega)
  have hz1 := hb1.size
  simp at hz1
  have hbel : Below w.heap.size w w1 := (((Below.refl _ _).alloc (Nat.le_refl _) _)).trans (hb1.mono (by simp))
  clear hb1
  have hh : finish ⟨a, b, c, d⟩ = xo (xo (xo (rnds 4 ⟨a, b, bits .xor .u64 c 255, d⟩).a (rnds 4 ⟨a, b, bits .xor .u64 c 255, d⟩).b) (rnds 4 ⟨a, b, bits .xor .u64 c 255, d⟩).c) (rnds 4 ⟨a, b, bits .xor .u64 c 255, d⟩).d := rfl
  generalize hv : rnds 4 ⟨a, b, bits .xor .u64 c 255, d⟩ = v at *
  obtain ⟨va, vb, vc, vd⟩ := v
  have HH := Lib.hid hh
  clear hh hv
  obtain ⟨⟨c0, c1, c2, c3⟩, f0, f1, f2, f3⟩ := hF
  go_wp2_with fail
  go_ret
  exact ⟨by rw [HH.out]; rfl, below_put4 hbel (Nat.le_refl _) va vb vc vd⟩
end Go.Proofs.YtlcpkplipfcdaaaDoor
