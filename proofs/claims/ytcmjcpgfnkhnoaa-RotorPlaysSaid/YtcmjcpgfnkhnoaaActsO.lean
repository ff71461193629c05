/- A slice of acts that is handed in. -/
import Derived.Test.YtcmjcpgfnkhnoaaEntsO
import Derived.Test.YtcmjcpgfnkhnoaaRpJ
namespace Go.Proofs.Ytcmjcpgfnkhnoaa
open Go.ChangeShapes Go.WideShapes Go.ChangeAt Go.RowKit

theorem ents_cell {H : Type} {enc : TypeId × Value → H} {P : Program} {t e u i : TypeId} {W : World} {base : Nat} {held : Bool} (ht : P.underlying t = some (.slice e)) (hu : (P.underlying e).map fieldsOf = some [(u, 0), (i, 1)]) (hs : P.underlying u = some .string) (hi : P.underlying i = some (.int .i64)) (hc : P.cellsOf u = 1) (hci : P.cellsOf i = 1) (ce : P.cellsOf e = 2)
    {fuel : Nat} {cl : List Value} {x : DataW H × List MemPlace} (hf : DataW.trod enc P W base (fun _ => true) held fuel t cl = some x) :
    ∃ a c fs, cl = [.slice a fs.length c] ∧ IsEnts W a c fs ∧ fs.length ≤ maxLen := by
  obtain ⟨fa, hfa, hm⟩ := fieldsOf_struct hu (List.cons_ne_nil _ _)
  obtain ⟨fl, hfl⟩ : ∃ fl, fl = fa.toList := ⟨_, rfl⟩
  rw [← hfl] at hm
  have hl2 : fl.length = 2 := by have := congrArg List.length hm; simpa using this
  match fl, hl2 with
  | [f0, f1], _ =>
    simp only [List.map_cons, List.map_nil, List.cons.injEq, Prod.mk.injEq, and_true] at hm
    obtain ⟨⟨t0, o0⟩, t1, o1⟩ := hm
    have hfa2 : fa = #[f0, f1] := by rw [← Array.toArray_toList (xs := fa), ← hfl]
    rw [hfa2] at hfa
    rcases Go.Deep.open_slice_pairs ht hfa ce o0 o1 (by rw [t0]; exact hc) (by rw [t1]; exact hci) hf with ⟨rfl, _⟩ | ⟨a', l, m, m2, n, V0, V1, D0, D1, P0, P1, rfl, _, hl, hmx, hme, _, hcell⟩
    · exact ⟨none, 0, [], rfl, .inl rfl, by simp⟩
    · simp only [if_true] at hme
      subst hme
      obtain ⟨fs, hfs⟩ : ∃ fs : List Ent, fs = (List.range l).map fun i => (strV (V0 i), intV (V1 i)) := ⟨_, rfl⟩
      have hlen : fs.length = l := by rw [hfs]; simp
      refine ⟨some a', m2, fs, by rw [hlen], ?_, by rw [hlen]; omega⟩
      by_cases h0 : l = 0
      · left; rw [hfs, h0]; rfl
      · right
        have c0 := (hcell 0 (by omega)).1
        have hs0 := World.cell?_spot c0
        have ha0 : a'.add (0 * 2) = a' := by simp [Addr.add]
        rw [ha0] at hs0 c0
        obtain ⟨bk, o, sp⟩ := a'
        simp only at hs0
        subst hs0
        refine ⟨bk, o, rfl, World.block_lt_of_cell? W _ c0, by rw [hlen]; exact hl, fun j f hj => ?_⟩
        have hjl : j < l := by
          rcases Nat.lt_or_ge j l with h | h
          · exact h
          · rw [List.getElem?_eq_none (by omega)] at hj; cases hj
        obtain ⟨g0, g1, g2, g3⟩ := hcell j (by omega)
        rw [t0] at g2
        rw [t1] at g3
        obtain ⟨s0, e0, _, _⟩ := DataW.trod_string hs g2
        obtain ⟨s1, e1, _, _⟩ := DataW.trod_int hi g3
        simp only [List.cons.injEq, and_true] at e0 e1
        rw [hfs] at hj
        simp only [List.getElem?_map, List.getElem?_range hjl, Option.map_some, Option.some.injEq] at hj
        subst hj
        rw [Addr.add_mid] at g0 g1
        rw [e0] at g0
        rw [e1] at g1
        refine ⟨?_, ?_⟩
        · simp only [e0, strV]; exact g0
        · simp only [e1, intV]; rw [Nat.add_assoc]; exact g1
theorem list_of {α : Type} (Q : Nat → α → Prop) : ∀ l : Nat, (∀ i, i < l → ∃ e, Q i e) → ∃ xs : List α, xs.length = l ∧ ∀ i e, xs[i]? = some e → Q i e
  | 0, _ => ⟨[], rfl, fun i e h => by simp at h⟩
  | l + 1, h => by
    obtain ⟨xs, hl, hx⟩ := list_of Q l (fun i hi => h i (by omega))
    obtain ⟨e, he⟩ := h l (by omega)
    refine ⟨xs ++ [e], by simp [hl], fun i y hy => ?_⟩
    rw [List.getElem?_append] at hy
    split at hy
    · exact hx i y hy
    · rename_i hge
      have hi : i = l := by
        rcases Nat.lt_or_ge i (l + 1) with h1 | h1
        · omega
        · rw [List.getElem?_eq_none (by simp; omega)] at hy; cases hy
      subst hi
      rw [hl, Nat.sub_self] at hy
      simp at hy
      rw [← hy]; exact he
theorem acts_open {H : Type} {enc : TypeId × Value → H} {P : Program} {t e b s e2 u i : TypeId} {W : World} {base : Nat} {held : Bool} (ht : P.underlying t = some (.slice e)) (hu : (P.underlying e).map fieldsOf = some [(b, 0), (s, 1)]) (hb : P.underlying b = some .bool) (hcb : P.cellsOf b = 1) (hcs1 : P.cellsOf s = 1) (ce : P.cellsOf e = 2)
    (hts : P.underlying s = some (.slice e2)) (hu2 : (P.underlying e2).map fieldsOf = some [(u, 0), (i, 1)]) (hs : P.underlying u = some .string) (hi : P.underlying i = some (.int .i64)) (hc : P.cellsOf u = 1) (hci : P.cellsOf i = 1) (ce2 : P.cellsOf e2 = 2)
    {r : Reach} {b0 : Nat} {v : Value} {d : DataW H} {ps : List MemPlace} (hval : Value.okWide P W r b0 t v) (hd : DataW.Trod enc P W base (fun _ => true) held t v d ps) :
    ∃ a c ats, v = .slice a ats.length c ∧ IsActs W a c ats ∧ ats.length ≤ maxLen := by
  obtain ⟨a, l, c, rfl⟩ := okWide_slice ht hval
  obtain ⟨fuel, hf⟩ := hd
  obtain ⟨fa, hfa, hm⟩ := fieldsOf_struct hu (List.cons_ne_nil _ _)
  obtain ⟨fl, hfl⟩ : ∃ fl, fl = fa.toList := ⟨_, rfl⟩
  rw [← hfl] at hm
  have hl2 : fl.length = 2 := by have := congrArg List.length hm; simpa using this
  match fl, hl2 with
  | [f0, f1], _ =>
    simp only [List.map_cons, List.map_nil, List.cons.injEq, Prod.mk.injEq, and_true] at hm
    obtain ⟨⟨t0, o0⟩, t1, o1⟩ := hm
    have hfa2 : fa = #[f0, f1] := by rw [← Array.toArray_toList (xs := fa), ← hfl]
    rw [hfa2] at hfa
    rcases Go.Deep.open_slice_pairs ht hfa ce o0 o1 (by rw [t0]; exact hcb) (by rw [t1]; exact hcs1) hf with ⟨hcs, _⟩ | ⟨a', l', c', m, n, V0, V1, D0, D1, P0, P1, hcs, _, hl, hmx, hme, _, hcell⟩
    · simp [Value.cells] at hcs
      obtain ⟨rfl, rfl, rfl⟩ := hcs
      exact ⟨none, 0, [], rfl, .inl rfl, by simp⟩
    · simp [Value.cells] at hcs
      obtain ⟨rfl, h1, h2⟩ := hcs
      subst h1 h2
      simp only [if_true] at hme
      subst hme
      have hone : ∀ i, i < l → ∃ D : AD, V0 i = .bool D.k ∧ V1 i = .slice D.la D.l.length D.lc ∧ IsEnts W D.la D.lc D.l ∧ D.l.length ≤ maxLen := by
        intro i hil
        obtain ⟨_, _, g2, g3⟩ := hcell i (by omega)
        rw [t0] at g2
        rw [t1] at g3
        obtain ⟨k, e0, _⟩ := DataW.trod_bool hb g2
        obtain ⟨la, lc, fs, e1, h1, h2⟩ := ents_cell hts hu2 hs hi hc hci ce2 g3
        simp only [List.cons.injEq, and_true] at e0 e1
        exact ⟨⟨k, la, lc, fs⟩, e0, e1, h1, h2⟩
      obtain ⟨ats, hlen, hats⟩ := list_of _ l hone
      refine ⟨some a', m, ats, by rw [hlen], ?_, by rw [hlen]; omega⟩
      by_cases h0 : l = 0
      · left; exact List.eq_nil_of_length_eq_zero (by rw [hlen]; exact h0)
      · right
        have c0 := (hcell 0 (by omega)).1
        have hs0 := World.cell?_spot c0
        have ha0 : a'.add (0 * 2) = a' := by simp [Addr.add]
        rw [ha0] at hs0 c0
        obtain ⟨bk, o, sp⟩ := a'
        simp only at hs0
        subst hs0
        refine ⟨bk, o, rfl, World.block_lt_of_cell? W _ c0, by rw [hlen]; exact hl, fun j D hj => ?_⟩
        have hjl : j < l := by
          rcases Nat.lt_or_ge j l with h | h
          · exact h
          · rw [List.getElem?_eq_none (by omega)] at hj; cases hj
        obtain ⟨g0, g1, _, _⟩ := hcell j (by omega)
        obtain ⟨e0, e1, h1, h2⟩ := hats j D hj
        rw [Addr.add_mid] at g0 g1
        rw [e0] at g0
        rw [e1] at g1
        exact ⟨g0, by rw [Nat.add_assoc]; exact g1, h1, h2⟩
end Go.Proofs.Ytcmjcpgfnkhnoaa
