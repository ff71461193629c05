/- Packed: Rec, LimO. -/
import Derived.WideKeyArr2
import Derived.KernelRfl
import Derived.Test.YtmcbaheaocfdnaaGreatDoorQ00
/- Records of strings and numbers that are handed in by value. -/
namespace Go.Proofs.YtmcbaheaocfdnaaGreatDoor
open Go.ChangeShapes Go.WideShapes Go.ChangeAt Go.RowKit

/-- The fields of a record: their types and offsets. -/
def fieldsOf (d : TypeDesc) : List (TypeId × Nat) := match d with
  | .struct fs => fs.toList.map fun f => (f.type, f.offset)
  | _ => []
theorem fieldsOf_struct {o : Option TypeDesc} {l : List (TypeId × Nat)} (h : o.map fieldsOf = some l) (hl : l ≠ []) : ∃ fs : Array Field, o = some (.struct fs) ∧ fs.toList.map (fun f => (f.type, f.offset)) = l := by
  cases o with
  | none => cases h
  | some d =>
    cases d with
    | struct fs => exact ⟨fs, rfl, Option.some.inj h⟩
    | _ => exact absurd (Option.some.inj h).symm hl
section
variable {H : Type} {enc : TypeId × Value → H} {P : Program} {t : TypeId} {W : World} {base : Nat} {sp : Nat → Bool} {held : Bool}
theorem rec_open {l : List (TypeId × Nat)} (hu : (P.underlying t).map fieldsOf = some l) (hl : l ≠ []) {r : Reach} {b0 : Nat} {v : Value} {d : DataW H} {ps : List MemPlace}
    (hval : Value.okWide P W r b0 t v) (hd : DataW.Trod enc P W base sp held t v d ps) :
    ∃ (cs : Array Value) (xs : List (DataW H × List MemPlace)) (n : Nat), v = .agg cs ∧ cs.toList.length = P.cellsOf t ∧ d = .agg (xs.map (·.1)) ∧ ps = xs.flatMap (·.2) ∧ xs.length = l.length ∧
      ∀ (i : Nat) (u : TypeId) (o : Nat), l[i]? = some (u, o) → DataW.trod enc P W base sp held n u ((cs.toList.drop o).take (P.cellsOf u)) = xs[i]? := by
  obtain ⟨fs, hs, rfl⟩ := fieldsOf_struct hu hl
  obtain ⟨cs, rfl, hc⟩ := okWide_struct hs hval
  obtain ⟨fuel, hf⟩ := hd
  obtain ⟨xs, n, _, hx, h1, h2, h3⟩ := DataW.trod_struct hs hf
  simp only [Prod.mk.injEq] at hx
  refine ⟨cs, xs, n, rfl, h1, hx.1, hx.2, by simpa using h2, fun i u o hi => ?_⟩
  rw [List.getElem?_map] at hi
  obtain ⟨f, hf', he⟩ := Option.map_eq_some_iff.1 hi
  simp only [Prod.mk.injEq] at he
  obtain ⟨rfl, rfl⟩ := he
  exact h3 i f (by simpa using hf')
theorem rec_shut {l : List (TypeId × Nat)} (hu : (P.underlying t).map fieldsOf = some l) (hl : l ≠ []) (cs : List Value) (xs : List (DataW H × List MemPlace)) (n : Nat) (hc : cs.length = P.cellsOf t)
    (hm : l.mapM (fun q => DataW.trod enc P W base sp held n q.1 ((cs.drop q.2).take (P.cellsOf q.1))) = some xs) : DataW.Trod enc P W base sp held t (.agg cs.toArray) (.agg (xs.map (·.1))) (xs.flatMap (·.2)) := by
  obtain ⟨fs, hs, rfl⟩ := fieldsOf_struct hu hl
  refine ⟨n + 1, ?_⟩
  have := trod_struct_mk (enc := enc) (w := W) (base := base) (spare := sp) (held := held) (n := n) (cs := cs) (xs := xs) hs hc (by rw [List.mapM_map] at hm; exact hm)
  exact this
end
theorem one_cellR {cs : List Value} {i : Nat} {v : Value} (h : (cs.drop i).take 1 = [v]) : cs[i]? = some v := by
  have h1 : ((cs.drop i).take 1)[0]? = some v := by rw [h]; rfl
  rw [List.getElem?_take, if_pos (by decide), List.getElem?_drop] at h1
  exact h1
end Go.Proofs.YtmcbaheaocfdnaaGreatDoor

/- A parameter: stewardref10.Limits. -/
namespace Go.Proofs.YtmcbaheaocfdnaaGreatDoor
open Go.ChangeShapes Go.WideShapes Go.ChangeAt Go.RowKit

theorem limU : (Tryz.prog.underlying 24).map fieldsOf = some [(3, 0), (3, 1), (3, 2), (3, 3)] := by kernel_rfl
theorem limC : Tryz.prog.cellsOf 24 = 4 := by kernel_rfl
theorem cellsInt1 : Tryz.prog.cellsOf 3 = 1 := by kernel_rfl
theorem i64_topL {n : Int} (h : (Lit.int .i64 n).wf = true) : n ≤ 9223372036854775807 := by
  simp only [Lit.wf, Bool.and_eq_true, decide_eq_true_eq, show IntKind.i64.max = 9223372036854775807 from rfl] at h
  omega
section
variable {H : Type} {enc : TypeId × Value → H} {W : World} {base : Nat} {sp : Nat → Bool} {held : Bool}
set_option maxRecDepth 100000 in
theorem lim_open {r : Reach} {b0 : Nat} {v : Value} {d : DataW H} {ps : List MemPlace} (hval : Value.okWide Tryz.prog W r b0 24 v) (hd : DataW.Trod enc Tryz.prog W base sp held 24 v d ps) :
    ∃ (k n u m : Int), v = .agg #[.int .i64 k, .int .i64 n, .int .i64 u, .int .i64 m] ∧ d = .agg [.lit (.int .i64 k), .lit (.int .i64 n), .lit (.int .i64 u), .lit (.int .i64 m)] ∧ ps = [] ∧
      ((Lit.int .i64 k).wf = true ∧ (Lit.int .i64 n).wf = true ∧ (Lit.int .i64 u).wf = true ∧ (Lit.int .i64 m).wf = true) := by
  obtain ⟨cs, xs, q, rfl, hc, rfl, rfl, hx, hf⟩ := rec_open limU (List.cons_ne_nil _ _) hval hd
  rw [limC] at hc
  have f0 := hf 0 _ _ rfl
  have f1 := hf 1 _ _ rfl
  have f2 := hf 2 _ _ rfl
  have f3 := hf 3 _ _ rfl
  match xs, hx with
  | [y0, y1, y2, y3], _ =>
    rw [cellsInt1] at f0 f1 f2 f3
    obtain ⟨k, e0, rfl, s0⟩ := DataW.trod_int Tryz.underlying3 f0
    obtain ⟨n, e1, rfl, s1⟩ := DataW.trod_int Tryz.underlying3 f1
    obtain ⟨u, e2, rfl, s2⟩ := DataW.trod_int Tryz.underlying3 f2
    obtain ⟨m, e3, rfl, s3⟩ := DataW.trod_int Tryz.underlying3 f3
    have g0 := one_cellR e0
    have g1 := one_cellR e1
    have g2 := one_cellR e2
    have g3 := one_cellR e3
    obtain ⟨l, hl⟩ : ∃ l, l = cs.toList := ⟨_, rfl⟩
    rw [← hl] at hc g0 g1 g2 g3
    match l, hc with
    | [a, b, c, z], _ =>
      obtain rfl : a = _ := Option.some.inj g0
      obtain rfl : b = _ := Option.some.inj g1
      obtain rfl : c = _ := Option.some.inj g2
      obtain rfl : z = _ := Option.some.inj g3
      refine ⟨k, n, u, m, ?_, rfl, rfl, s0, s1, s2, s3⟩
      rw [← Array.toArray_toList (xs := cs), ← hl]
set_option maxRecDepth 100000 in
theorem lim_shut (k n u m : Int) (h : (Lit.int .i64 k).wf = true ∧ (Lit.int .i64 n).wf = true ∧ (Lit.int .i64 u).wf = true ∧ (Lit.int .i64 m).wf = true) :
    DataW.Trod enc Tryz.prog W base sp held 24 (.agg #[.int .i64 k, .int .i64 n, .int .i64 u, .int .i64 m]) (.agg [.lit (.int .i64 k), .lit (.int .i64 n), .lit (.int .i64 u), .lit (.int .i64 m)]) [] := by
  obtain ⟨s0, s1, s2, s3⟩ := h
  have h0 : DataW.trod enc Tryz.prog W base sp held 1 3 [.int .i64 k] = some (.lit (.int .i64 k), []) := trod_int_mk 0 Tryz.underlying3 s0
  have h1 : DataW.trod enc Tryz.prog W base sp held 1 3 [.int .i64 n] = some (.lit (.int .i64 n), []) := trod_int_mk 0 Tryz.underlying3 s1
  have h2 : DataW.trod enc Tryz.prog W base sp held 1 3 [.int .i64 u] = some (.lit (.int .i64 u), []) := trod_int_mk 0 Tryz.underlying3 s2
  have h3 : DataW.trod enc Tryz.prog W base sp held 1 3 [.int .i64 m] = some (.lit (.int .i64 m), []) := trod_int_mk 0 Tryz.underlying3 s3
  exact rec_shut (enc := enc) (W := W) (base := base) (sp := sp) (held := held) limU (List.cons_ne_nil _ _) [.int .i64 k, .int .i64 n, .int .i64 u, .int .i64 m] [(.lit (.int .i64 k), []), (.lit (.int .i64 n), []), (.lit (.int .i64 u), []), (.lit (.int .i64 m), [])] 1 (by rw [limC]; rfl)
    (by simp [cellsInt1, h0, h1, h2, h3])
end
end Go.Proofs.YtmcbaheaocfdnaaGreatDoor

