/- The parameter of StewardPins. -/
import Derived.Test.YtllmlngfmcbaaaaGreatDoorTTab
import Derived.KernelRfl
namespace Go.Proofs.YtllmlngfmcbaaaaGreatDoor
open Go.ChangeShapes Go.WideShapes Go.ChangeAt Go.RowKit

theorem pinU : (Tryz.prog.underlying 41).map fieldsOf = some [(9, 0), (9, 1), (9, 2), (3, 3), (3, 4)] := by kernel_rfl
theorem pinC : Tryz.prog.cellsOf 41 = 5 := by kernel_rfl
section
variable {H : Type} {enc : TypeId × Value → H} {W : World} {base : Nat} {sp : Nat → Bool} {held : Bool}
set_option maxRecDepth 100000 in
theorem pin_open {r : Reach} {b0 : Nat} {v : Value} {d : DataW H} {ps : List MemPlace} (hval : Value.okWide Tryz.prog W r b0 41 v) (hd : DataW.Trod enc Tryz.prog W base sp held 41 v d ps) :
    ∃ (k n z : ByteArray) (u m : Int), v = .agg #[.string k, .string n, .string z, .int .i64 u, .int .i64 m] ∧ d = .agg [.lit (.string k.data.toList), .lit (.string n.data.toList), .lit (.string z.data.toList), .lit (.int .i64 u), .lit (.int .i64 m)] ∧ ps = [] ∧
      (k.size ≤ maxLen ∧ n.size ≤ maxLen ∧ z.size ≤ maxLen ∧ (Lit.int .i64 u).wf = true ∧ (Lit.int .i64 m).wf = true) := by
  obtain ⟨cs, xs, q, rfl, hc, rfl, rfl, hx, hf⟩ := rec_open pinU (List.cons_ne_nil _ _) hval hd
  rw [pinC] at hc
  have f0 := hf 0 _ _ rfl
  have f1 := hf 1 _ _ rfl
  have f4 := hf 2 _ _ rfl
  have f2 := hf 3 _ _ rfl
  have f3 := hf 4 _ _ rfl
  match xs, hx with
  | [y0, y1, y4, y2, y3], _ =>
    rw [cellsStr1] at f0 f1 f4
    rw [cellsInt1] at f2 f3
    obtain ⟨k, e0, rfl, s0⟩ := DataW.trod_string Tryz.underlying9 f0
    obtain ⟨n, e1, rfl, s1⟩ := DataW.trod_string Tryz.underlying9 f1
    obtain ⟨z, e4, rfl, s4⟩ := DataW.trod_string Tryz.underlying9 f4
    obtain ⟨u, e2, rfl, s2⟩ := DataW.trod_int Tryz.underlying3 f2
    obtain ⟨m, e3, rfl, s3⟩ := DataW.trod_int Tryz.underlying3 f3
    have g0 := one_cell e0
    have g1 := one_cell e1
    have g4 := one_cell e4
    have g2 := one_cell e2
    have g3 := one_cell e3
    obtain ⟨l, hl⟩ : ∃ l, l = cs.toList := ⟨_, rfl⟩
    rw [← hl] at hc g0 g1 g2 g3 g4
    match l, hc with
    | [a, b, x, c, y], _ =>
      obtain rfl : a = _ := Option.some.inj g0
      obtain rfl : b = _ := Option.some.inj g1
      obtain rfl : x = _ := Option.some.inj g4
      obtain rfl : c = _ := Option.some.inj g2
      obtain rfl : y = _ := Option.some.inj g3
      refine ⟨k, n, z, u, m, ?_, rfl, rfl, s0, s1, s4, s2, s3⟩
      rw [← Array.toArray_toList (xs := cs), ← hl]
set_option maxRecDepth 100000 in
theorem pin_shut (k n z : ByteArray) (u m : Int) (h : k.size ≤ maxLen ∧ n.size ≤ maxLen ∧ z.size ≤ maxLen ∧ (Lit.int .i64 u).wf = true ∧ (Lit.int .i64 m).wf = true) :
    DataW.Trod enc Tryz.prog W base sp held 41 (.agg #[.string k, .string n, .string z, .int .i64 u, .int .i64 m]) (.agg [.lit (.string k.data.toList), .lit (.string n.data.toList), .lit (.string z.data.toList), .lit (.int .i64 u), .lit (.int .i64 m)]) [] := by
  obtain ⟨s0, s1, s4, s2, s3⟩ := h
  have h0 : DataW.trod enc Tryz.prog W base sp held 1 9 [.string k] = some (.lit (.string k.data.toList), []) := by simp [DataW.trod, Tryz.underlying9, s0]
  have h1 : DataW.trod enc Tryz.prog W base sp held 1 9 [.string n] = some (.lit (.string n.data.toList), []) := by simp [DataW.trod, Tryz.underlying9, s1]
  have h4 : DataW.trod enc Tryz.prog W base sp held 1 9 [.string z] = some (.lit (.string z.data.toList), []) := by simp [DataW.trod, Tryz.underlying9, s4]
  have h2 : DataW.trod enc Tryz.prog W base sp held 1 3 [.int .i64 u] = some (.lit (.int .i64 u), []) := trod_int_mk 0 Tryz.underlying3 s2
  have h3 : DataW.trod enc Tryz.prog W base sp held 1 3 [.int .i64 m] = some (.lit (.int .i64 m), []) := trod_int_mk 0 Tryz.underlying3 s3
  exact rec_shut (enc := enc) (W := W) (base := base) (sp := sp) (held := held) pinU (List.cons_ne_nil _ _) [.string k, .string n, .string z, .int .i64 u, .int .i64 m] [(.lit (.string k.data.toList), []), (.lit (.string n.data.toList), []), (.lit (.string z.data.toList), []), (.lit (.int .i64 u), []), (.lit (.int .i64 m), [])] 1 (by rw [pinC]; rfl)
    (by simp [cellsStr1, cellsInt1, h0, h1, h2, h3, h4])
end
end Go.Proofs.YtllmlngfmcbaaaaGreatDoor
