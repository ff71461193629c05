/- An array of integers that is handed in by value. -/
import Derived.Test.YtcdgmhglpcokdaaPost
import Derived.WideKeyArr2
namespace Go.Proofs.Ytcdgmhglpcokdaa
open Go.ChangeShapes Go.WideShapes Go.ChangeAt Go.RowKit

theorem range_mapM {β : Type} (g : List Value → Option β) : ∀ cs : List Value, (List.range cs.length).mapM (fun i => g ((cs.drop (i * 1)).take 1)) = cs.mapM fun c => g [c]
  | [] => rfl
  | c :: r => by
    have ih := range_mapM g r
    simp only [Nat.mul_one] at ih
    simp only [Nat.mul_one, List.length_cons, List.range_succ_eq_map, List.mapM_cons, List.mapM_map, List.drop_zero, List.take_succ_cons, List.take_zero, Function.comp_def, List.drop_succ_cons, Nat.succ_eq_add_one, ih]

section
variable {H : Type} {enc : TypeId × Value → H} {P : Program} {t e : TypeId} {n : Nat} {q : IntKind} {W : World} {base : Nat} {sp : Nat → Bool} {held : Bool}

theorem ints_of (he : P.underlying e = some (.int q)) {m : Nat} : ∀ (cs : List Value) (ys : List (DataW H × List MemPlace)), cs.mapM (fun c => DataW.trod enc P W base sp held m e [c]) = some ys →
    ∃ zs : List Int, cs = zs.map (Value.int q) ∧ ys = zs.map (fun z => (.lit (.int q z), [])) ∧ ∀ z ∈ zs, (Lit.int q z).wf = true
  | [], ys, h => by
    simp at h
    exact ⟨[], rfl, by simp [h], by simp⟩
  | c :: r, ys, h => by
    rw [List.mapM_cons] at h
    simp only [bind, Option.bind_eq_some_iff, pure, Option.some.injEq] at h
    obtain ⟨y, hy, zs', hzs, rfl⟩ := h
    obtain ⟨zs, rfl, rfl, hw⟩ := ints_of he r zs' hzs
    obtain ⟨a, ea, rfl, wa⟩ := DataW.trod_int he hy
    simp only [List.cons.injEq, and_true] at ea
    subst ea
    exact ⟨a :: zs, rfl, rfl, fun z hz => by
      cases List.mem_cons.1 hz with
      | inl e => subst e; exact wa
      | inr e => exact hw z e⟩
theorem of_ints (he : P.underlying e = some (.int q)) : ∀ (zs : List Int), (∀ z ∈ zs, (Lit.int q z).wf = true) →
    (zs.map (Value.int q)).mapM (fun c => DataW.trod enc P W base sp held 1 e [c]) = some (zs.map (fun z => (.lit (.int q z), [])))
  | [], _ => rfl
  | z :: r, hw => by
    rw [List.map_cons, List.mapM_cons, of_ints he r (fun x hx => hw x (List.mem_cons_of_mem _ hx))]
    have hz := hw z (List.mem_cons_self ..)
    simp [DataW.trod, he, hz]

theorem arr_open (hu : P.underlying t = some (.array n e)) (he : P.underlying e = some (.int q)) (hc : P.cellsOf e = 1) (ht : P.cellsOf t = n) {r : Reach} {b0 : Nat} {v : Value} {d : DataW H} {ps : List MemPlace}
    (hval : Value.okWide P W r b0 t v) (hd : DataW.Trod enc P W base sp held t v d ps) :
    ∃ zs : List Int, zs.length = n ∧ v = .agg (zs.map (Value.int q)).toArray ∧ d = .agg (zs.map fun z => .lit (.int q z)) ∧ ps = [] ∧ ∀ z ∈ zs, (Lit.int q z).wf = true := by
  simp only [Value.okWide, hu] at hval
  obtain ⟨cs, rfl, h2, _⟩ := hval
  rw [ht] at h2
  obtain ⟨fuel, hf⟩ := hd
  cases fuel with
  | zero => simp [DataW.trod] at hf
  | succ m =>
    rw [DataW.trod_step] at hf
    unfold DataW.trodStep at hf
    simp only [hu, Value.cells] at hf
    rw [if_pos (by rw [ht]; simpa using h2), hc, show n = cs.toList.length by simpa using h2.symm, range_mapM (fun l => DataW.trod enc P W base sp held m e l)] at hf
    simp only [Option.map_eq_some_iff] at hf
    obtain ⟨ys, hy, e1⟩ := hf
    obtain ⟨zs, hz, rfl, hw⟩ := ints_of he _ ys hy
    simp only [Prod.mk.injEq] at e1
    refine ⟨zs, by have := congrArg List.length hz; simp at this; omega, by rw [← hz], by rw [← e1.1]; simp [Function.comp_def], by rw [← e1.2]; simp [List.flatMap_eq_nil_iff], hw⟩

theorem arr_shut (hu : P.underlying t = some (.array n e)) (he : P.underlying e = some (.int q)) (hc : P.cellsOf e = 1) (ht : P.cellsOf t = n) (zs : List Int) (hn : zs.length = n) (hw : ∀ z ∈ zs, (Lit.int q z).wf = true) :
    DataW.Trod enc P W base sp held t (.agg (zs.map (Value.int q)).toArray) (.agg (zs.map fun z => .lit (.int q z))) [] := by
  refine ⟨2, ?_⟩
  rw [DataW.trod_step]
  unfold DataW.trodStep
  simp only [hu, Value.cells]
  rw [if_pos (by rw [ht]; simpa using hn), hc, show n = (zs.map (Value.int q)).toArray.toList.length by simpa using hn.symm, range_mapM (fun l => DataW.trod enc P W base sp held 1 e l), of_ints he zs hw]
  simp [Function.comp_def, List.flatMap_eq_nil_iff]
end
end Go.Proofs.Ytcdgmhglpcokdaa
