/- SipHash, the reference: round and take. -/
import Derived.Test.YtlcpkplipfcdaaaDoorSipC
namespace Go.Proofs.YtlcpkplipfcdaaaDoor
open Go.RowKit

set_option maxRecDepth 100000 in
theorem below_drewN' {B : Nat} {a w : World} (h : Below B a w) (n : Nat) : Below B a (w.drewN n) := ⟨h.os, h.tape, h.output, h.size, h.block⟩

set_option maxRecDepth 100000 in
theorem res33 (tmps : Array Value) (W : World) (b : Nat) (v : V4) (ht : tmps[2]? = some (.pointer (some ⟨b, 0, none⟩))) (hF : Four W b v) :
    (results Tryd.f66 tmps).run Tryd.prog W = .ok (.agg #[.int .u64 v.a, .int .u64 v.b, .int .u64 v.c, .int .u64 v.d]) W := by
  obtain ⟨⟨c0, c1, c2, c3⟩, _⟩ := hF
  simp [results, Tryd.results66, go_sem, ht, c0, c1, c2, c3]

set_option maxHeartbeats 400000 in
set_option maxRecDepth 100000 in
theorem round33 (a b c d : Int) (w : World) :
    Calls Tryd.prog 66 #[.agg #[.int .u64 a, .int .u64 b, .int .u64 c, .int .u64 d]] w fun e w' => e = .returned (.agg #[.int .u64 (rnd ⟨a, b, c, d⟩).a, .int .u64 (rnd ⟨a, b, c, d⟩).b, .int .u64 (rnd ⟨a, b, c, d⟩).c, .int .u64 (rnd ⟨a, b, c, d⟩).d]) ∧ Below w.heap.size w w' := by
  go_enter Tryd.func66, Tryd.ntmps66
  go_wp2_with fail
  go_quiet (fail)
  generalize hW : World.drewN _ _ = W
  have hb : Below w.heap.size w W := by subst hW; exact below_drewN' (((Below.refl _ _).alloc (Nat.le_refl _) _).alloc (by simp) _) _
  have hG : Four W (w.heap.size + 1) ⟨0, 0, 0, 0⟩ := by subst hW; simp [Four]
  clear hW
  have HG := Lib.hid hG
  obtain ⟨⟨r0, r1, r2, r3⟩, g0, g1, g2, g3⟩ := hG
  go_wp2_with (go_at_call 89; refine (turn64 _ _ (by decide) (by decide) _).mono ?_; rintro e w' ⟨rfl, n, rfl⟩)
  refine bodyPost_ret (v := .agg #[.int .u64 (rnd ⟨a, b, c, d⟩).a, .int .u64 (rnd ⟨a, b, c, d⟩).b, .int .u64 (rnd ⟨a, b, c, d⟩).c, .int .u64 (rnd ⟨a, b, c, d⟩).d])
    (res33 _ _ (w.heap.size + 1) (rnd ⟨a, b, c, d⟩) rfl (Four.put (v := ⟨0, 0, 0, 0⟩) ?_ _ _ _ _)) rfl ⟨rfl, below_put4 (below_drewN' hb _) (by omega) _ _ _ _⟩
  exact HG.out

set_option maxRecDepth 100000 in
theorem res32 (tmps : Array Value) (W : World) (b : Nat) (v : V4) (ht : tmps[4]? = some (.pointer (some ⟨b, 0, none⟩))) (hF : Four W b v) :
    (results Tryd.f65 tmps).run Tryd.prog W = .ok (.agg #[.int .u64 v.a, .int .u64 v.b, .int .u64 v.c, .int .u64 v.d]) W := by
  obtain ⟨⟨c0, c1, c2, c3⟩, _⟩ := hF
  simp [results, Tryd.results65, go_sem, ht, c0, c1, c2, c3]

set_option maxHeartbeats 400000 in
set_option maxRecDepth 100000 in
theorem take32 (a b c d m : Int) (w : World) :
    Calls Tryd.prog 65 #[.agg #[.int .u64 a, .int .u64 b, .int .u64 c, .int .u64 d], .int .u64 m] w fun e w' => e = .returned (.agg #[.int .u64 (absorb ⟨a, b, c, d⟩ m).a, .int .u64 (absorb ⟨a, b, c, d⟩ m).b, .int .u64 (absorb ⟨a, b, c, d⟩ m).c, .int .u64 (absorb ⟨a, b, c, d⟩ m).d]) ∧ Below w.heap.size w w' := by
  go_enter Tryd.func65, Tryd.ntmps65
  go_wp2_with fail
  refine (round33 _ _ _ _ _).mono ?_
  rintro e w0 ⟨rfl, hb0⟩
  have hF0 := Four.below (v := ⟨a, b, c, bits .xor .u64 d m⟩) (b := w.heap.size) (by simp [Four]) hb0 (by simp <;> omega)
  have hG0 := Four.below (v := ⟨0, 0, 0, 0⟩) (b := w.heap.size + 1) (by simp [Four]) hb0 (by simp <;> omega)
  have hz0 := hb0.size
  simp at hz0
  have hbel0 : Below w.heap.size w w0 := (((Below.refl _ _).alloc (Nat.le_refl _) _).alloc (by simp) _).trans (hb0.mono (by simp; omega))
  clear hb0
  go_wp2_with fail
  refine (round33 _ _ _ _ _).mono ?_
  rintro e w1 ⟨rfl, hb1⟩
  have hF := hF0.below hb1 (by omega)
  have hG := hG0.below hb1 (by omega)
  have hz1 := hb1.size
  have hbel : Below w.heap.size w w1 := hbel0.trans (hb1.mono (by omega))
  clear hb1 hF0 hG0 hbel0
  have hh : absorb ⟨a, b, c, d⟩ m = ⟨bits .xor .u64 (rnd (rnd ⟨a, b, c, bits .xor .u64 d m⟩)).a m, (rnd (rnd ⟨a, b, c, bits .xor .u64 d m⟩)).b, (rnd (rnd ⟨a, b, c, bits .xor .u64 d m⟩)).c, (rnd (rnd ⟨a, b, c, bits .xor .u64 d m⟩)).d⟩ := rfl
  have e0 : (⟨(rnd ⟨a, b, c, bits .xor .u64 d m⟩).a, (rnd ⟨a, b, c, bits .xor .u64 d m⟩).b, (rnd ⟨a, b, c, bits .xor .u64 d m⟩).c, (rnd ⟨a, b, c, bits .xor .u64 d m⟩).d⟩ : V4) = rnd ⟨a, b, c, bits .xor .u64 d m⟩ := rfl
  rw [e0]
  generalize hv : rnd (rnd ⟨a, b, c, bits .xor .u64 d m⟩) = v at *
  obtain ⟨va, vb, vc, vd⟩ := v
  have HH := Lib.hid hh
  clear hh hv e0
  have hF' := Lib.hid hF
  have hG' := Lib.hid hG
  obtain ⟨⟨c0, c1, c2, c3⟩, f0, f1, f2, f3⟩ := hF
  obtain ⟨⟨r0, r1, r2, r3⟩, g0, g1, g2, g3⟩ := hG
  go_wp2_with fail
  refine bodyPost_ret (v := .agg #[.int .u64 (bits .xor .u64 va m), .int .u64 vb, .int .u64 vc, .int .u64 vd])
    (res32 _ _ (w.heap.size + 1) ⟨bits .xor .u64 va m, vb, vc, vd⟩ rfl (Four.put (v := ⟨0, 0, 0, 0⟩) ?_ _ _ _ _)) rfl ⟨by rw [HH.out], ?_⟩
  · exact (hG'.out.other (b' := w.heap.size) (by omega) va vb vc vd).setOther (b' := w.heap.size) (o := 0) (x := .int .u64 (bits .xor .u64 va m)) (by omega)
  · exact below_put4 ((below_put4 hbel (Nat.le_refl _) va vb vc vd).setCell (by simp) _) (by omega) _ _ _ _
end Go.Proofs.YtlcpkplipfcdaaaDoor
