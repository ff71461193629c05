/- A parameter: stewardref21.Probe (written by genrec.py). -/
import Derived.Test.YtklfpnnnoaaiaaaRec
import Derived.KernelRfl
namespace Go.Proofs.Ytklfpnnnoaaiaaa
open Go.ChangeShapes Go.WideShapes Go.ChangeAt Go.RowKit

theorem prbU : (Try.prog.underlying 41).map fieldsOf = some [(4, 0), (3, 1), (3, 2), (3, 3)] := by kernel_rfl
theorem prbC : Try.prog.cellsOf 41 = 4 := by kernel_rfl
theorem prbI1 : Try.prog.cellsOf 3 = 1 := by kernel_rfl
theorem prbB1 : Try.prog.cellsOf 4 = 1 := by kernel_rfl
section
variable {H : Type} {enc : TypeId × Value → H} {W : World} {base : Nat} {sp : Nat → Bool} {held : Bool}
set_option maxRecDepth 100000 in
theorem prb_open {r : Reach} {b0 : Nat} {v : Value} {d : DataW H} {ps : List MemPlace} (hval : Value.okWide Try.prog W r b0 41 v) (hd : DataW.Trod enc Try.prog W base sp held 41 v d ps) :
    ∃ (up : Bool) (good : Int) (bad : Int) (since : Int), v = .agg #[.bool up, .int .i64 good, .int .i64 bad, .int .i64 since] ∧ d = .agg [.lit (.bool up), .lit (.int .i64 good), .lit (.int .i64 bad), .lit (.int .i64 since)] ∧ ps = [] ∧ ((Lit.int .i64 good).wf = true ∧ (Lit.int .i64 bad).wf = true ∧ (Lit.int .i64 since).wf = true) := by
  obtain ⟨cs, xs, q, rfl, hc, rfl, rfl, hx, hf⟩ := rec_open prbU (List.cons_ne_nil _ _) hval hd
  rw [prbC] at hc
  have f0 := hf 0 _ _ rfl
  have f1 := hf 1 _ _ rfl
  have f2 := hf 2 _ _ rfl
  have f3 := hf 3 _ _ rfl
  match xs, hx with
  | [y0, y1, y2, y3], _ =>
    rw [prbI1] at f1 f2 f3
    rw [prbB1] at f0
    obtain ⟨up, e0, rfl⟩ := DataW.trod_bool Try.underlying4 f0
    obtain ⟨good, e1, rfl, s1⟩ := DataW.trod_int Try.underlying3 f1
    obtain ⟨bad, e2, rfl, s2⟩ := DataW.trod_int Try.underlying3 f2
    obtain ⟨since, e3, rfl, s3⟩ := DataW.trod_int Try.underlying3 f3
    have g0 := one_cellR e0
    have g1 := one_cellR e1
    have g2 := one_cellR e2
    have g3 := one_cellR e3
    obtain ⟨l, hl⟩ : ∃ l, l = cs.toList := ⟨_, rfl⟩
    rw [← hl] at hc g0 g1 g2 g3
    match l, hc with
    | [z0, z1, z2, z3], _ =>
      obtain rfl : z0 = _ := Option.some.inj g0
      obtain rfl : z1 = _ := Option.some.inj g1
      obtain rfl : z2 = _ := Option.some.inj g2
      obtain rfl : z3 = _ := Option.some.inj g3
      refine ⟨up, good, bad, since, ?_, rfl, rfl, s1, s2, s3⟩
      rw [← Array.toArray_toList (xs := cs), ← hl]
set_option maxRecDepth 100000 in
theorem prb_shut (up : Bool) (good : Int) (bad : Int) (since : Int) (h : (Lit.int .i64 good).wf = true ∧ (Lit.int .i64 bad).wf = true ∧ (Lit.int .i64 since).wf = true) :
    DataW.Trod enc Try.prog W base sp held 41 (.agg #[.bool up, .int .i64 good, .int .i64 bad, .int .i64 since]) (.agg [.lit (.bool up), .lit (.int .i64 good), .lit (.int .i64 bad), .lit (.int .i64 since)]) [] := by
  obtain ⟨s1, s2, s3⟩ := h
  have h0 : DataW.trod enc Try.prog W base sp held 1 4 [.bool up] = some (.lit (.bool up), []) := by simp [DataW.trod, Try.underlying4]
  have h1 : DataW.trod enc Try.prog W base sp held 1 3 [.int .i64 good] = some (.lit (.int .i64 good), []) := trod_int_mk 0 Try.underlying3 s1
  have h2 : DataW.trod enc Try.prog W base sp held 1 3 [.int .i64 bad] = some (.lit (.int .i64 bad), []) := trod_int_mk 0 Try.underlying3 s2
  have h3 : DataW.trod enc Try.prog W base sp held 1 3 [.int .i64 since] = some (.lit (.int .i64 since), []) := trod_int_mk 0 Try.underlying3 s3
  exact rec_shut (enc := enc) (W := W) (base := base) (sp := sp) (held := held) prbU (List.cons_ne_nil _ _) [.bool up, .int .i64 good, .int .i64 bad, .int .i64 since] [(.lit (.bool up), []), (.lit (.int .i64 good), []), (.lit (.int .i64 bad), []), (.lit (.int .i64 since), [])] 1 (by rw [prbC]; rfl)
    (by simp [prbI1, prbB1, h0, h1, h2, h3])
end
end Go.Proofs.Ytklfpnnnoaaiaaa
