/- A parameter: stewardref21.Config (written by genrec.py). -/
import Derived.Test.YtklfpnnnoaaiaaaRec
import Derived.KernelRfl
namespace Go.Proofs.Ytklfpnnnoaaiaaa
open Go.ChangeShapes Go.WideShapes Go.ChangeAt Go.RowKit

theorem pcfU : (Try.prog.underlying 43).map fieldsOf = some [(3, 0), (3, 1), (3, 2), (3, 3)] := by kernel_rfl
theorem pcfC : Try.prog.cellsOf 43 = 4 := by kernel_rfl
theorem pcfI1 : Try.prog.cellsOf 3 = 1 := by kernel_rfl
section
variable {H : Type} {enc : TypeId × Value → H} {W : World} {base : Nat} {sp : Nat → Bool} {held : Bool}
set_option maxRecDepth 100000 in
theorem pcf_open {r : Reach} {b0 : Nat} {v : Value} {d : DataW H} {ps : List MemPlace} (hval : Value.okWide Try.prog W r b0 43 v) (hd : DataW.Trod enc Try.prog W base sp held 43 v d ps) :
    ∃ (every : Int) (wait : Int) (rise : Int) (fall : Int), v = .agg #[.int .i64 every, .int .i64 wait, .int .i64 rise, .int .i64 fall] ∧ d = .agg [.lit (.int .i64 every), .lit (.int .i64 wait), .lit (.int .i64 rise), .lit (.int .i64 fall)] ∧ ps = [] ∧ ((Lit.int .i64 every).wf = true ∧ (Lit.int .i64 wait).wf = true ∧ (Lit.int .i64 rise).wf = true ∧ (Lit.int .i64 fall).wf = true) := by
  obtain ⟨cs, xs, q, rfl, hc, rfl, rfl, hx, hf⟩ := rec_open pcfU (List.cons_ne_nil _ _) hval hd
  rw [pcfC] at hc
  have f0 := hf 0 _ _ rfl
  have f1 := hf 1 _ _ rfl
  have f2 := hf 2 _ _ rfl
  have f3 := hf 3 _ _ rfl
  match xs, hx with
  | [y0, y1, y2, y3], _ =>
    rw [pcfI1] at f0 f1 f2 f3
    obtain ⟨every, e0, rfl, s0⟩ := DataW.trod_int Try.underlying3 f0
    obtain ⟨wait, e1, rfl, s1⟩ := DataW.trod_int Try.underlying3 f1
    obtain ⟨rise, e2, rfl, s2⟩ := DataW.trod_int Try.underlying3 f2
    obtain ⟨fall, e3, rfl, s3⟩ := DataW.trod_int Try.underlying3 f3
    have g0 := one_cellR e0
    have g1 := one_cellR e1
    have g2 := one_cellR e2
    have g3 := one_cellR e3
    obtain ⟨l, hl⟩ : ∃ l, l = cs.toList := ⟨_, rfl⟩
    rw [← hl] at hc g0 g1 g2 g3
    match l, hc with
    | [z0, z1, z2, z3], _ =>
      obtain rfl : z0 = _ := Option.some.inj g0
      obtain rfl : z1 = _ := Option.some.inj g1
      obtain rfl : z2 = _ := Option.some.inj g2
      obtain rfl : z3 = _ := Option.some.inj g3
      refine ⟨every, wait, rise, fall, ?_, rfl, rfl, s0, s1, s2, s3⟩
      rw [← Array.toArray_toList (xs := cs), ← hl]
set_option maxRecDepth 100000 in
theorem pcf_shut (every : Int) (wait : Int) (rise : Int) (fall : Int) (h : (Lit.int .i64 every).wf = true ∧ (Lit.int .i64 wait).wf = true ∧ (Lit.int .i64 rise).wf = true ∧ (Lit.int .i64 fall).wf = true) :
    DataW.Trod enc Try.prog W base sp held 43 (.agg #[.int .i64 every, .int .i64 wait, .int .i64 rise, .int .i64 fall]) (.agg [.lit (.int .i64 every), .lit (.int .i64 wait), .lit (.int .i64 rise), .lit (.int .i64 fall)]) [] := by
  obtain ⟨s0, s1, s2, s3⟩ := h
  have h0 : DataW.trod enc Try.prog W base sp held 1 3 [.int .i64 every] = some (.lit (.int .i64 every), []) := trod_int_mk 0 Try.underlying3 s0
  have h1 : DataW.trod enc Try.prog W base sp held 1 3 [.int .i64 wait] = some (.lit (.int .i64 wait), []) := trod_int_mk 0 Try.underlying3 s1
  have h2 : DataW.trod enc Try.prog W base sp held 1 3 [.int .i64 rise] = some (.lit (.int .i64 rise), []) := trod_int_mk 0 Try.underlying3 s2
  have h3 : DataW.trod enc Try.prog W base sp held 1 3 [.int .i64 fall] = some (.lit (.int .i64 fall), []) := trod_int_mk 0 Try.underlying3 s3
  exact rec_shut (enc := enc) (W := W) (base := base) (sp := sp) (held := held) pcfU (List.cons_ne_nil _ _) [.int .i64 every, .int .i64 wait, .int .i64 rise, .int .i64 fall] [(.lit (.int .i64 every), []), (.lit (.int .i64 wait), []), (.lit (.int .i64 rise), []), (.lit (.int .i64 fall), [])] 1 (by rw [pcfC]; rfl)
    (by simp [pcfI1, h0, h1, h2, h3])
end
end Go.Proofs.Ytklfpnnnoaaiaaa
