/- SipHash, the program's own: rounds. -/
import Derived.Test.YtlcpkplipfcdaaaDoorSipA
namespace Go.Proofs.YtlcpkplipfcdaaaDoor
open Go.RowKit

/-- So many rounds. -/
def rnds : Nat → V4 → V4
  | 0, v => v
  | k + 1, v => rnd (rnds k v)

/-- A block whose first four cells are these words. -/
def Four (w : World) (b : Nat) (v : V4) : Prop :=
  (w.cell? ⟨b, 0, none⟩ = some (.int .u64 v.a) ∧ w.cell? ⟨b, 1, none⟩ = some (.int .u64 v.b) ∧ w.cell? ⟨b, 2, none⟩ = some (.int .u64 v.c) ∧ w.cell? ⟨b, 3, none⟩ = some (.int .u64 v.d)) ∧
  (w.frozen? ⟨b, 0, none⟩ = false ∧ w.frozen? ⟨b, 1, none⟩ = false ∧ w.frozen? ⟨b, 2, none⟩ = false ∧ w.frozen? ⟨b, 3, none⟩ = false)
set_option maxRecDepth 100000 in
theorem Four.below {w w' : World} {b : Nat} {v : V4} (h : Four w b v) (hb : Below w.heap.size w w') (hlt : b < w.heap.size) : Four w' b v := by
  obtain ⟨hc, hf⟩ := bcell hb
  simpa [Four, hc _ _ hlt, hf _ _ hlt] using h

/-- The four words stored anew. -/
def put4 (w : World) (b : Nat) (x y z t : Int) : World :=
  (((w.setCell ⟨b, 0, none⟩ (.int .u64 x)).setCell ⟨b, 1, none⟩ (.int .u64 y)).setCell ⟨b, 2, none⟩ (.int .u64 z)).setCell ⟨b, 3, none⟩ (.int .u64 t)
set_option maxRecDepth 100000 in
theorem Four.put {w : World} {b : Nat} {v : V4} (h : Four w b v) (x y z t : Int) : Four (put4 w b x y z t) b ⟨x, y, z, t⟩ := by
  obtain ⟨⟨c0, c1, c2, c3⟩, f0, f1, f2, f3⟩ := h
  simp [Four, put4, go_sem, c0, c1, c2, c3, f0, f1, f2, f3]
set_option maxRecDepth 100000 in
theorem Four.other {w : World} {b b' : Nat} {v : V4} (h : Four w b v) (hne : b' ≠ b) (x y z t : Int) : Four (put4 w b' x y z t) b v := by
  obtain ⟨⟨c0, c1, c2, c3⟩, f0, f1, f2, f3⟩ := h
  have hne' := hne
  simp [Four, put4, go_sem, c0, c1, c2, c3, f0, f1, f2, f3]
set_option maxRecDepth 100000 in
theorem Four.setOther {w : World} {b b' o : Nat} {v : V4} {x : Value} (h : Four w b v) (hne : b' ≠ b) : Four (w.setCell ⟨b', o, none⟩ x) b v := by
  obtain ⟨⟨c0, c1, c2, c3⟩, f0, f1, f2, f3⟩ := h
  have hne' := hne
  simp [Four, go_sem, c0, c1, c2, c3, f0, f1, f2, f3]
set_option maxRecDepth 100000 in
theorem put4_size (w : World) (b : Nat) (x y z t : Int) : (put4 w b x y z t).heap.size = w.heap.size := by simp [put4]
theorem below_put4 {B : Nat} {a w : World} (h : Below B a w) {b : Nat} (hb : B ≤ b) (x y z t : Int) : Below B a (put4 w b x y z t) :=
  (((h.setCell (p := ⟨b, 0, none⟩) hb _).setCell (p := ⟨b, 1, none⟩) hb _).setCell (p := ⟨b, 2, none⟩) hb _).setCell (p := ⟨b, 3, none⟩) hb _

set_option maxHeartbeats 400000 in
set_option maxRecDepth 100000 in
theorem rounds45 (a b c d : Int) (n : Int) (h0 : 0 ≤ n) (h1 : n ≤ 100) (w : World) :
    Calls Tryd.prog 108 #[.agg #[.int .u64 a, .int .u64 b, .int .u64 c, .int .u64 d], .int .i64 n] w fun e w' => e = .returned (.agg #[.int .u64 (rnds n.toNat ⟨a, b, c, d⟩).a, .int .u64 (rnds n.toNat ⟨a, b, c, d⟩).b, .int .u64 (rnds n.toNat ⟨a, b, c, d⟩).c, .int .u64 (rnds n.toNat ⟨a, b, c, d⟩).d]) ∧ Below w.heap.size w w' := by
  go_enter Tryd.func108, Tryd.ntmps108
  go_wp2
  go_loopw [6] (fun i wr => ∃ k : Nat, (k : Int) ≤ n ∧ i = .int .i64 k ∧ w.heap.size + 1 < wr.heap.size ∧ Four wr w.heap.size (rnds k ⟨a, b, c, d⟩) ∧ Four wr (w.heap.size + 1) ⟨0, 0, 0, 0⟩ ∧ Below w.heap.size w wr)
    (fun i _ => n.toNat - (intOf i).toNat)
  case atStart => exact ⟨0, by simpa using h0, rfl, by simp, by simp [Four, rnds], by simp [Four], ((Below.refl _ _).alloc (Nat.le_refl _) _).alloc (by simp) _⟩
  case round =>
    obtain ⟨k, hk, rfl, hz, hF, hG, hbel⟩ := hrel
    have hs : rnds (k + 1) ⟨a, b, c, d⟩ = rnd (rnds k ⟨a, b, c, d⟩) := rfl
    generalize hv : rnds k ⟨a, b, c, d⟩ = v at *
    obtain ⟨va, vb, vc, vd⟩ := v
    have HV := Lib.hid hv
    have HS := Lib.hid hs
    clear hv hs
    obtain ⟨⟨c0, c1, c2, c3⟩, f0, f1, f2, f3⟩ := hF
    obtain ⟨⟨r0, r1, r2, r3⟩, g0, g1, g2, g3⟩ := hG
    by_cases hlt : (k : Int) < n
    · have hF : Four wr w.heap.size ⟨va, vb, vc, vd⟩ := ⟨⟨c0, c1, c2, c3⟩, f0, f1, f2, f3⟩
      have hG : Four wr (w.heap.size + 1) ⟨0, 0, 0, 0⟩ := ⟨⟨r0, r1, r2, r3⟩, g0, g1, g2, g3⟩
      go_wp2_with (go_at_call 127; refine (round53 _ _ _ _ _).mono ?_; rintro e w1 ⟨rfl, hb1⟩; have hF1 := hF.below hb1 (by omega); obtain ⟨⟨d0, d1, d2, d3⟩, e0, e1, e2, e3⟩ := (id hF1 : Four _ _ _); have hG1 := hG.below hb1 (by omega); have hz1 := hb1.size)
      go_roundw
      case rel =>
        refine ⟨k + 1, by omega, by go_num, ?_, ?_, ?_, ?_⟩
        · simp; omega
        · rw [HS.out]; exact hF1.put _ _ _ _
        · exact hG1.other (by omega) _ _ _ _
        · exact below_put4 (hbel.trans (hb1.mono (by omega))) (Nat.le_refl _) _ _ _ _
      case measure => simp [intOf]; omega
    · go_wp2
      have hk' : k = n.toNat := by omega
      refine bodyPost_ret (v := .agg #[.int .u64 va, .int .u64 vb, .int .u64 vc, .int .u64 vd]) ?_ rfl ⟨by rw [← hk', HV.out], ?_⟩
      · have hG : Four wr (w.heap.size + 1) ⟨0, 0, 0, 0⟩ := ⟨⟨r0, r1, r2, r3⟩, g0, g1, g2, g3⟩
        obtain ⟨⟨d0, d1, d2, d3⟩, _⟩ := hG.put va vb vc vd
        unfold put4 at d0 d1 d2 d3
        simp [results, Tryd.results108, go_sem, d0, d1, d2, d3]
      · exact below_put4 hbel (by omega) _ _ _ _
set_option maxRecDepth 100000 in
theorem rounds_2 (a b c d : Int) (w : World) :
    Calls Tryd.prog 108 #[.agg #[.int .u64 a, .int .u64 b, .int .u64 c, .int .u64 d], .int .i64 2] w fun e w' => e = .returned (.agg #[.int .u64 (rnds 2 ⟨a, b, c, d⟩).a, .int .u64 (rnds 2 ⟨a, b, c, d⟩).b, .int .u64 (rnds 2 ⟨a, b, c, d⟩).c, .int .u64 (rnds 2 ⟨a, b, c, d⟩).d]) ∧ Below w.heap.size w w' :=
  rounds45 a b c d 2 (by decide) (by decide) w
set_option maxRecDepth 100000 in
theorem rounds_4 (a b c d : Int) (w : World) :
    Calls Tryd.prog 108 #[.agg #[.int .u64 a, .int .u64 b, .int .u64 c, .int .u64 d], .int .i64 4] w fun e w' => e = .returned (.agg #[.int .u64 (rnds 4 ⟨a, b, c, d⟩).a, .int .u64 (rnds 4 ⟨a, b, c, d⟩).b, .int .u64 (rnds 4 ⟨a, b, c, d⟩).c, .int .u64 (rnds 4 ⟨a, b, c, d⟩).d]) ∧ Below w.heap.size w w' :=
  rounds45 a b c d 4 (by decide) (by decide) w
end Go.Proofs.YtlcpkplipfcdaaaDoor
