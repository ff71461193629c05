/- BLAKE2s: the turns, and words in a block. -/
import Derived.Test.YtllmlngfmcbaaaaGreatDoorBase
namespace Go.Proofs.YtllmlngfmcbaaaaGreatDoor
open Go.RowKit

/-- A word of 32 bits turned right by so many bits, as Go computes it. -/
def ror (a : Int) (k : Int) : Int := bits .or .u32 (a * 2 ^ (32 - k).toNat % 4294967296) (a / 2 ^ k.toNat)

set_option maxHeartbeats 400000 in
theorem rot32 (a : Int) (k : Int) (h0 : 0 < k) (h1 : k < 32) (w : World) :
    Calls Tryz.prog 124 #[.int .u32 a, .int .i64 (-k)] w fun e w' => e = .returned (.int .u32 (ror a k)) ∧ w = w' := by
  have hw : IntKind.u64.wrap (-k) = 18446744073709551616 - k := by rw [IntKind.wrap_u64]; omega
  have hb : bits .and .u64 (18446744073709551616 - k) 31 = 32 - k := by
    rw [u64_and _ _ (by omega) (by omega) (by omega) (by omega), show (31 : Int).toNat = 31 from rfl, nat_mask5]; omega
  have e1 : (32 : Int) - (32 - k) = k := by omega
  go_enter Tryz.func124, Tryz.ntmps124
  go_wp2_with fail
  go_ret
  exact ⟨rfl, rfl⟩

theorem or_comm32 (a b : Int) : bits .or .u32 a b = bits .or .u32 b a := by
  unfold bits
  simp only [BitVec.or_comm]

set_option maxHeartbeats 400000 in
theorem right55 (a : Int) (k : Int) (h0 : 0 < k) (h1 : k < 32) (w : World) :
    Calls Tryz.prog 115 #[.int .u32 a, .int .i64 k] w fun e w' => e = .returned (.int .u32 (ror a k)) ∧ ∃ n, w' = w.drewN n := by
  go_enter Tryz.func115, Tryz.ntmps115
  go_wp2
  go_quiet (fail)
  go_wp2
  go_ret
  exact ⟨congrArg (fun z => Ending.returned (.int .u32 z)) (or_comm32 _ _), _, rfl⟩

/-- The first n cells of a block are these words, and may be written. -/
def Words (n : Nat) (w : World) (b : Nat) (f : Nat → Int) : Prop := ∀ i, i < n → w.cell? ⟨b, i, none⟩ = some (.int .u32 (f i)) ∧ w.frozen? ⟨b, i, none⟩ = false
/-- One word anew. -/
def upd (f : Nat → Int) (i : Nat) (x : Int) : Nat → Int := fun j => if j = i then x else f j
theorem Words.put {n : Nat} {w : World} {b : Nat} {f : Nat → Int} (h : Words n w b f) (i : Nat) (x : Int) : Words n (w.setCell ⟨b, i, none⟩ (.int .u32 x)) b (upd f i x) := by
  intro j hj
  obtain ⟨hc, hf⟩ := h j hj
  refine ⟨?_, by rw [World.frozen?_setCell]; exact hf⟩
  unfold upd
  by_cases e : j = i
  · subst e
    rw [World.cell?_setCell_same _ _ _ hc, if_pos rfl]
  · rw [World.cell?_setCell_other _ _ _ _ (by simp <;> omega), hc, if_neg e]
theorem Words.drew {n : Nat} {w : World} {b : Nat} {f : Nat → Int} (h : Words n w b f) : Words n w.drew b f := h
theorem Words.drewN {n : Nat} {w : World} {b : Nat} {f : Nat → Int} (h : Words n w b f) (m : Nat) : Words n (w.drewN m) b f := h

def x32 (a b : Int) : Int := bits .xor .u32 a b
def a32 (a b : Int) : Int := (a + b) % 4294967296
/-- The mixing of four words with two. -/
def mixF (f : Nat → Int) (a b c d : Nat) (x y : Int) : Nat → Int :=
  let f := upd f a (a32 (f a) (a32 (f b) x))
  let f := upd f d (ror (x32 (f d) (f a)) 16)
  let f := upd f c (a32 (f c) (f d))
  let f := upd f b (ror (x32 (f b) (f c)) 12)
  let f := upd f a (a32 (f a) (a32 (f b) y))
  let f := upd f d (ror (x32 (f d) (f a)) 8)
  let f := upd f c (a32 (f c) (f d))
  upd f b (ror (x32 (f b) (f c)) 7)
end Go.Proofs.YtllmlngfmcbaaaaGreatDoor
