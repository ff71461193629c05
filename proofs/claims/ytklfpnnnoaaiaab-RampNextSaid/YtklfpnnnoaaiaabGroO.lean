/- A parameter: stewardlaw22.Grown (written by genrec.py). -/
import Derived.Test.YtklfpnnnoaaiaabRec
import Derived.KernelRfl
namespace Go.Proofs.Ytklfpnnnoaaiaab
open Go.ChangeShapes Go.WideShapes Go.ChangeAt Go.RowKit

theorem groU : (Try.prog.underlying 23).map fieldsOf = some [(3, 0), (3, 1), (3, 2), (3, 3)] := by kernel_rfl
theorem groC : Try.prog.cellsOf 23 = 4 := by kernel_rfl
theorem groI1 : Try.prog.cellsOf 3 = 1 := by kernel_rfl
section
variable {H : Type} {enc : TypeId × Value → H} {W : World} {base : Nat} {sp : Nat → Bool} {held : Bool}
set_option maxRecDepth 100000 in
theorem gro_open {r : Reach} {b0 : Nat} {v : Value} {d : DataW H} {ps : List MemPlace} (hval : Value.okWide Try.prog W r b0 23 v) (hd : DataW.Trod enc Try.prog W base sp held 23 v d ps) :
    ∃ (wt : Int) (since : Int) (now : Int) (slow : Int), v = .agg #[.int .i64 wt, .int .i64 since, .int .i64 now, .int .i64 slow] ∧ d = .agg [.lit (.int .i64 wt), .lit (.int .i64 since), .lit (.int .i64 now), .lit (.int .i64 slow)] ∧ ps = [] ∧ ((Lit.int .i64 wt).wf = true ∧ (Lit.int .i64 since).wf = true ∧ (Lit.int .i64 now).wf = true ∧ (Lit.int .i64 slow).wf = true) := by
  obtain ⟨cs, xs, q, rfl, hc, rfl, rfl, hx, hf⟩ := rec_open groU (List.cons_ne_nil _ _) hval hd
  rw [groC] at hc
  have f0 := hf 0 _ _ rfl
  have f1 := hf 1 _ _ rfl
  have f2 := hf 2 _ _ rfl
  have f3 := hf 3 _ _ rfl
  match xs, hx with
  | [y0, y1, y2, y3], _ =>
    rw [groI1] at f0 f1 f2 f3
    obtain ⟨wt, e0, rfl, s0⟩ := DataW.trod_int Try.underlying3 f0
    obtain ⟨since, e1, rfl, s1⟩ := DataW.trod_int Try.underlying3 f1
    obtain ⟨now, e2, rfl, s2⟩ := DataW.trod_int Try.underlying3 f2
    obtain ⟨slow, e3, rfl, s3⟩ := DataW.trod_int Try.underlying3 f3
    have g0 := one_cellR e0
    have g1 := one_cellR e1
    have g2 := one_cellR e2
    have g3 := one_cellR e3
    obtain ⟨l, hl⟩ : ∃ l, l = cs.toList := ⟨_, rfl⟩
    rw [← hl] at hc g0 g1 g2 g3
    match l, hc with
    | [z0, z1, z2, z3], _ =>
      obtain rfl : z0 = _ := Option.some.inj g0
      obtain rfl : z1 = _ := Option.some.inj g1
      obtain rfl : z2 = _ := Option.some.inj g2
      obtain rfl : z3 = _ := Option.some.inj g3
      refine ⟨wt, since, now, slow, ?_, rfl, rfl, s0, s1, s2, s3⟩
      rw [← Array.toArray_toList (xs := cs), ← hl]
set_option maxRecDepth 100000 in
theorem gro_shut (wt : Int) (since : Int) (now : Int) (slow : Int) (h : (Lit.int .i64 wt).wf = true ∧ (Lit.int .i64 since).wf = true ∧ (Lit.int .i64 now).wf = true ∧ (Lit.int .i64 slow).wf = true) :
    DataW.Trod enc Try.prog W base sp held 23 (.agg #[.int .i64 wt, .int .i64 since, .int .i64 now, .int .i64 slow]) (.agg [.lit (.int .i64 wt), .lit (.int .i64 since), .lit (.int .i64 now), .lit (.int .i64 slow)]) [] := by
  obtain ⟨s0, s1, s2, s3⟩ := h
  have h0 : DataW.trod enc Try.prog W base sp held 1 3 [.int .i64 wt] = some (.lit (.int .i64 wt), []) := trod_int_mk 0 Try.underlying3 s0
  have h1 : DataW.trod enc Try.prog W base sp held 1 3 [.int .i64 since] = some (.lit (.int .i64 since), []) := trod_int_mk 0 Try.underlying3 s1
  have h2 : DataW.trod enc Try.prog W base sp held 1 3 [.int .i64 now] = some (.lit (.int .i64 now), []) := trod_int_mk 0 Try.underlying3 s2
  have h3 : DataW.trod enc Try.prog W base sp held 1 3 [.int .i64 slow] = some (.lit (.int .i64 slow), []) := trod_int_mk 0 Try.underlying3 s3
  exact rec_shut (enc := enc) (W := W) (base := base) (sp := sp) (held := held) groU (List.cons_ne_nil _ _) [.int .i64 wt, .int .i64 since, .int .i64 now, .int .i64 slow] [(.lit (.int .i64 wt), []), (.lit (.int .i64 since), []), (.lit (.int .i64 now), []), (.lit (.int .i64 slow), [])] 1 (by rw [groC]; rfl)
    (by simp [groI1, h0, h1, h2, h3])
end
end Go.Proofs.Ytklfpnnnoaaiaab
