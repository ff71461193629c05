/- Records of strings and numbers that are handed in by value. -/
import Derived.Test.YtcdgmhglpcokdaaPost
import Derived.Test.YtcdgmhglpcokdaaArr
import Derived.WideKeyArr2
namespace Go.Proofs.Ytcdgmhglpcokdaa
open Go.ChangeShapes Go.WideShapes Go.ChangeAt Go.RowKit

/-- The fields of a record: their types and offsets. -/
def fieldsOf (d : TypeDesc) : List (TypeId × Nat) := match d with
  | .struct fs => fs.toList.map fun f => (f.type, f.offset)
  | _ => []
theorem fieldsOf_struct {o : Option TypeDesc} {l : List (TypeId × Nat)} (h : o.map fieldsOf = some l) (hl : l ≠ []) : ∃ fs : Array Field, o = some (.struct fs) ∧ fs.toList.map (fun f => (f.type, f.offset)) = l := by
  cases o with
  | none => cases h
  | some d =>
    cases d with
    | struct fs => exact ⟨fs, rfl, Option.some.inj h⟩
    | _ => exact absurd (Option.some.inj h).symm hl
section
variable {H : Type} {enc : TypeId × Value → H} {P : Program} {t : TypeId} {W : World} {base : Nat} {sp : Nat → Bool} {held : Bool}
theorem rec_open {l : List (TypeId × Nat)} (hu : (P.underlying t).map fieldsOf = some l) (hl : l ≠ []) {r : Reach} {b0 : Nat} {v : Value} {d : DataW H} {ps : List MemPlace}
    (hval : Value.okWide P W r b0 t v) (hd : DataW.Trod enc P W base sp held t v d ps) :
    ∃ (cs : Array Value) (xs : List (DataW H × List MemPlace)) (n : Nat), v = .agg cs ∧ cs.toList.length = P.cellsOf t ∧ d = .agg (xs.map (·.1)) ∧ ps = xs.flatMap (·.2) ∧ xs.length = l.length ∧
      ∀ (i : Nat) (u : TypeId) (o : Nat), l[i]? = some (u, o) → DataW.trod enc P W base sp held n u ((cs.toList.drop o).take (P.cellsOf u)) = xs[i]? := by
  obtain ⟨fs, hs, rfl⟩ := fieldsOf_struct hu hl
  obtain ⟨cs, rfl, hc⟩ := okWide_struct hs hval
  obtain ⟨fuel, hf⟩ := hd
  obtain ⟨xs, n, _, hx, h1, h2, h3⟩ := DataW.trod_struct hs hf
  simp only [Prod.mk.injEq] at hx
  refine ⟨cs, xs, n, rfl, h1, hx.1, hx.2, by simpa using h2, fun i u o hi => ?_⟩
  rw [List.getElem?_map] at hi
  obtain ⟨f, hf', he⟩ := Option.map_eq_some_iff.1 hi
  simp only [Prod.mk.injEq] at he
  obtain ⟨rfl, rfl⟩ := he
  exact h3 i f (by simpa using hf')
theorem rec_shut {l : List (TypeId × Nat)} (hu : (P.underlying t).map fieldsOf = some l) (hl : l ≠ []) (cs : List Value) (xs : List (DataW H × List MemPlace)) (n : Nat) (hc : cs.length = P.cellsOf t)
    (hm : l.mapM (fun q => DataW.trod enc P W base sp held n q.1 ((cs.drop q.2).take (P.cellsOf q.1))) = some xs) : DataW.Trod enc P W base sp held t (.agg cs.toArray) (.agg (xs.map (·.1))) (xs.flatMap (·.2)) := by
  obtain ⟨fs, hs, rfl⟩ := fieldsOf_struct hu hl
  refine ⟨n + 1, ?_⟩
  have := trod_struct_mk (enc := enc) (w := W) (base := base) (spare := sp) (held := held) (n := n) (cs := cs) (xs := xs) hs hc (by rw [List.mapM_map] at hm; exact hm)
  exact this
end
theorem one_cellR {cs : List Value} {i : Nat} {v : Value} (h : (cs.drop i).take 1 = [v]) : cs[i]? = some v := by
  have h1 : ((cs.drop i).take 1)[0]? = some v := by rw [h]; rfl
  rw [List.getElem?_take, if_pos (by decide), List.getElem?_drop] at h1
  exact h1
end Go.Proofs.Ytcdgmhglpcokdaa
