/- SipHash, the program's own: round. -/
import Derived.Test.YtlcpkplipfcdaaaDoorRot
namespace Go.Proofs.YtlcpkplipfcdaaaDoor
open Go.RowKit

/-- Four words. -/
structure V4 where
  a : Int
  b : Int
  c : Int
  d : Int
def V4.val (v : V4) : Value := .agg #[.int .u64 v.a, .int .u64 v.b, .int .u64 v.c, .int .u64 v.d]

def xo (a b : Int) : Int := bits .xor .u64 a b
def ad (a b : Int) : Int := IntKind.u64.wrap (a + b)

/-- One round. -/
def rnd (v : V4) : V4 :=
  let a := ad v.a v.b
  let b := xo (rotl v.b 13) a
  let a := rotl a 32
  let c := ad v.c v.d
  let d := xo (rotl v.d 16) c
  let a := ad a d
  let d := xo (rotl d 21) a
  let c := ad c b
  let b := xo (rotl b 17) c
  let c := rotl c 32
  ⟨a, b, c, d⟩

set_option maxHeartbeats 400000 in
set_option maxRecDepth 100000 in
theorem round53 (a b c d : Int) (w : World) :
    Calls Tryd.prog 127 #[.agg #[.int .u64 a, .int .u64 b, .int .u64 c, .int .u64 d]] w fun e w' => e = .returned (.agg #[.int .u64 (rnd ⟨a, b, c, d⟩).a, .int .u64 (rnd ⟨a, b, c, d⟩).b, .int .u64 (rnd ⟨a, b, c, d⟩).c, .int .u64 (rnd ⟨a, b, c, d⟩).d]) ∧ Below w.heap.size w w' := by
  go_enter Tryd.func127, Tryd.ntmps127
  go_wp2_with (go_at_call 135; refine (rotl64 _ _ (by decide) (by decide) _).mono ?_; rintro e w' ⟨rfl, rfl⟩)
  refine region_tail 7 (by kernel_rfl) (by kernel_rfl) ?_
  simp only [List.take_succ_cons, List.take_zero, List.drop_succ_cons, List.drop_zero]
  still_step
  still_step
  still_call (calls_flip (rotl64 _ _ (by decide) (by decide) _))
  still_step
  still_step
  still_step
  still_step
  refine still_tail_nil ?_
  go_wp2_with (go_at_call 135; refine (rotl64 _ _ (by decide) (by decide) _).mono ?_; rintro e w' ⟨rfl, rfl⟩)
  refine region_tail 7 (by kernel_rfl) (by kernel_rfl) ?_
  simp only [List.take_succ_cons, List.take_zero, List.drop_succ_cons, List.drop_zero]
  still_step
  still_step
  still_call (calls_flip (rotl64 _ _ (by decide) (by decide) _))
  still_step
  still_step
  still_step
  still_step
  refine still_tail_nil ?_
  go_wp2_with (go_at_call 135; refine (rotl64 _ _ (by decide) (by decide) _).mono ?_; rintro e w' ⟨rfl, rfl⟩)
  refine region_tail 7 (by kernel_rfl) (by kernel_rfl) ?_
  simp only [List.take_succ_cons, List.take_zero, List.drop_succ_cons, List.drop_zero]
  still_step
  still_step
  still_call (calls_flip (rotl64 _ _ (by decide) (by decide) _))
  still_step
  still_step
  still_step
  still_step
  refine still_tail_nil ?_
  go_wp2_with (go_at_call 135; refine (rotl64 _ _ (by decide) (by decide) _).mono ?_; rintro e w' ⟨rfl, rfl⟩)
  refine region_tail 7 (by kernel_rfl) (by kernel_rfl) ?_
  simp only [List.take_succ_cons, List.take_zero, List.drop_succ_cons, List.drop_zero]
  still_step
  still_step
  still_call (calls_flip (rotl64 _ _ (by decide) (by decide) _))
  still_step
  still_step
  still_step
  still_step
  refine still_tail_nil ?_
  go_wp2_with (go_at_call 135; refine (rotl64 _ _ (by decide) (by decide) _).mono ?_; rintro e w' ⟨rfl, rfl⟩)
  refine bodyPost_ret (v := (rnd ⟨a, b, c, d⟩).val) ?_ rfl ⟨rfl, (((((((Below.refl _ _).alloc (Nat.le_refl _) _).alloc (by simp) _).drew).drew).drew).drew)⟩
  simp [results, Tryd.results127, go_sem]
  rfl
end Go.Proofs.YtlcpkplipfcdaaaDoor
