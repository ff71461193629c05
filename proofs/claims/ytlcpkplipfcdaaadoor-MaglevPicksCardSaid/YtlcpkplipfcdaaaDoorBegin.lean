import Derived.Test.YtlcpkplipfcdaaaDoorWord
import Derived.Test.YtlcpkplipfcdaaaDoorSipC
import Derived.Laws.BytesArg
namespace Go.Proofs.YtlcpkplipfcdaaaDoor
open Go.RowKit

/-- A key's value. -/
def keyVal (k : Nat → UInt8) : Value :=
  .agg #[.int .u8 (k 0).toNat, .int .u8 (k 1).toNat, .int .u8 (k 2).toNat, .int .u8 (k 3).toNat, .int .u8 (k 4).toNat, .int .u8 (k 5).toNat, .int .u8 (k 6).toNat, .int .u8 (k 7).toNat, .int .u8 (k 8).toNat, .int .u8 (k 9).toNat, .int .u8 (k 10).toNat, .int .u8 (k 11).toNat, .int .u8 (k 12).toNat, .int .u8 (k 13).toNat, .int .u8 (k 14).toNat, .int .u8 (k 15).toNat]

/-- The bytes of a key from one place on. -/
def keyPart (k : Nat → UInt8) (o : Nat) : List UInt8 := [k o, k (o + 1), k (o + 2), k (o + 3), k (o + 4), k (o + 5), k (o + 6), k (o + 7)]
def IsKey (w : World) (b : Nat) (k : Nat → UInt8) : Prop := ∀ i, i < 16 → w.cell? ⟨b, i, none⟩ = some (.int .u8 (k i).toNat)
set_option maxRecDepth 100000 in
theorem key_string {k : Nat → UInt8} {W : World} {b : Nat} (h : IsKey W b k) (o : Nat) (ho : o + 8 ≤ 16) (cap : Nat) (nq : Nat) :
    (convert 38 9 (.slice (some ⟨b, o, none⟩) 8 cap)).run Tryd.prog (W.drewN nq) = .ok (.string ⟨(keyPart k o).toArray⟩) (W.drewN nq) := by
  have := run_convert_bytes_arg (P := Tryd.prog) (W.drewN nq) 38 5 Tryd.underlying38 Tryd.underlying5 b o 8 cap ((keyPart k o).map fun x => (x.toNat : Int)) (by simp [keyPart]) ?_ 9 Tryd.underlying9
  · rw [this]
    simp [strOfNums, keyPart]
  · intro i hi
    have h1 := h (o + i) (by omega)
    show W.cell? _ = _
    rw [h1]
    match i, hi with
    | 0, _ | 1, _ | 2, _ | 3, _ | 4, _ | 5, _ | 6, _ | 7, _ => rfl

set_option maxRecDepth 100000 in
theorem Four.drewN {w : World} {b n : Nat} {v : V4} (h : Four w b v) : Four (w.drewN n) b v := h
theorem below_drewN {B : Nat} {a w : World} (h : Below B a w) (n : Nat) : Below B a (w.drewN n) := ⟨h.os, h.tape, h.output, h.size, h.block⟩
/-- What the program's table holds. -/
structure Ini (w : World) : Prop where
  lt : 0 < w.heap.size
  c0 : w.cell? ⟨0, 0, none⟩ = some (.int .u64 8317987319222330741)
  c1 : w.cell? ⟨0, 1, none⟩ = some (.int .u64 7237128888997146477)
  c2 : w.cell? ⟨0, 2, none⟩ = some (.int .u64 7816392313619706465)
  c3 : w.cell? ⟨0, 3, none⟩ = some (.int .u64 8387220255154660723)
set_option maxRecDepth 100000 in
theorem Ini.below {w w' : World} (h : Ini w) (hb : Below w.heap.size w w') : Ini w' := by
  obtain ⟨hc, _⟩ := bcell hb
  have hz := hb.size
  exact ⟨by have := h.lt; omega, by rw [hc _ _ h.lt]; exact h.c0, by rw [hc _ _ h.lt]; exact h.c1, by rw [hc _ _ h.lt]; exact h.c2, by rw [hc _ _ h.lt]; exact h.c3⟩

/-- The state at the start. -/
def start (k : Nat → UInt8) : V4 :=
  ⟨xo (leW (keyPart k 0)) 8317987319222330741, xo (leW (keyPart k 8)) 7237128888997146477, xo (leW (keyPart k 0)) 7816392313619706465, xo (leW (keyPart k 8)) 8387220255154660723⟩

set_option maxHeartbeats 400000 in
set_option maxRecDepth 100000 in
theorem begin26 (k : Nat → UInt8) (w : World) (hi : Ini w) :
    Calls Tryd.prog 83 #[keyVal k] w fun e w' => e = .returned (.agg #[.int .u64 (start k).a, .int .u64 (start k).b, .int .u64 (start k).c, .int .u64 (start k).d]) ∧ Below w.heap.size w w' := by
  unfold keyVal
  go_enter Tryd.func83, Tryd.ntmps83
  go_wp2_with fail
  generalize hW : World.alloc (World.alloc w _) _ = W
  have hk : IsKey W w.heap.size k := by
    subst hW
    intro i hi
    have h16 : i = 0 ∨ i = 1 ∨ i = 2 ∨ i = 3 ∨ i = 4 ∨ i = 5 ∨ i = 6 ∨ i = 7 ∨ i = 8 ∨ i = 9 ∨ i = 10 ∨ i = 11 ∨ i = 12 ∨ i = 13 ∨ i = 14 ∨ i = 15 := by omega
    rcases h16 with rfl | rfl | rfl | rfl | rfl | rfl | rfl | rfl | rfl | rfl | rfl | rfl | rfl | rfl | rfl | rfl <;> simp
  have hb : Below w.heap.size w W := by subst hW; exact ((Below.refl _ _).alloc (Nat.le_refl _) _).alloc (by simp) _
  have hG : Four W (w.heap.size + 1) ⟨0, 0, 0, 0⟩ := by subst hW; simp [Four]
  have hi' := hi.below hb
  clear hW hi
  have hc1 := fun nq => key_string hk 0 (by decide) 16 nq
  have hc2 := fun nq => key_string hk 8 (by decide) 8 nq
  go_quiet ((go_at_call 85; exact Calls.quiet_of_same (word_list _ rfl _)))
  obtain ⟨hlt, i0, i1, i2, i3⟩ := hi'
  have HG := Lib.hid hG
  obtain ⟨⟨r0, r1, r2, r3⟩, g0, g1, g2, g3⟩ := hG
  clear hc1 hc2
  go_wp2_with fail
  refine bodyPost_ret (v := .agg #[.int .u64 (start k).a, .int .u64 (start k).b, .int .u64 (start k).c, .int .u64 (start k).d]) ?_ rfl ⟨rfl, ?_⟩
  · obtain ⟨⟨d0, d1, d2, d3⟩, _⟩ := (Four.drewN (n := nq) HG.out).put (bits .xor .u64 (leW (keyPart k 0)) 8317987319222330741) (bits .xor .u64 (leW (keyPart k 8)) 7237128888997146477) (bits .xor .u64 (leW (keyPart k 0)) 7816392313619706465) (bits .xor .u64 (leW (keyPart k 8)) 8387220255154660723)
    unfold put4 at d0 d1 d2 d3
    simp [results, Tryd.results83, go_sem, d0, d1, d2, d3]
    exact ⟨rfl, rfl, rfl, rfl⟩
  · exact below_put4 (below_drewN hb nq) (by omega) _ _ _ _
end Go.Proofs.YtlcpkplipfcdaaaDoor
