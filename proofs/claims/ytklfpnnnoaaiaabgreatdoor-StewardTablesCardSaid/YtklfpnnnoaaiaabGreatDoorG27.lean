/- A slice of entries that is handed in. -/
import Derived.WideKeyArr2
import Derived.Deep.SlicePairs
import Derived.Deep.MidRow
import Derived.WideKeyArgs
import Derived.DataReads
import Derived.Test.YtklfpnnnoaaiaabGreatDoorG00
import Derived.Test.YtklfpnnnoaaiaabGreatDoorG26
namespace Go.Proofs.YtklfpnnnoaaiaabGreatDoor
open Go.ChangeShapes Go.WideShapes Go.ChangeAt Go.RowKit

/-- A string's bytes, an integer. -/
def strV (v : Value) : ByteArray := match v with
  | .string s => s
  | _ => ⟨#[]⟩
def intV (v : Value) : Int := match v with
  | .int _ n => n
  | _ => 0
theorem ents_open {H : Type} {enc : TypeId × Value → H} {P : Program} {t e u i : TypeId} {W : World} {base : Nat} {held : Bool} (ht : P.underlying t = some (.slice e)) (hu : (P.underlying e).map fieldsOf = some [(u, 0), (i, 1)]) (hs : P.underlying u = some .string) (hi : P.underlying i = some (.int .i64)) (hc : P.cellsOf u = 1) (hci : P.cellsOf i = 1) (ce : P.cellsOf e = 2)
    {r : Reach} {b0 : Nat} {v : Value} {d : DataW H} {ps : List MemPlace} (hval : Value.okWide P W r b0 t v) (hd : DataW.Trod enc P W base (fun _ => true) held t v d ps) :
    ∃ a c fs, v = .slice a fs.length c ∧ IsEnts W a c fs ∧ fs.length ≤ maxLen := by
  obtain ⟨a, l, c, rfl⟩ := okWide_slice ht hval
  obtain ⟨fuel, hf⟩ := hd
  obtain ⟨fa, hfa, hm⟩ := fieldsOf_struct hu (List.cons_ne_nil _ _)
  obtain ⟨fl, hfl⟩ : ∃ fl, fl = fa.toList := ⟨_, rfl⟩
  rw [← hfl] at hm
  have hl2 : fl.length = 2 := by have := congrArg List.length hm; simpa using this
  match fl, hl2 with
  | [f0, f1], _ =>
    simp only [List.map_cons, List.map_nil, List.cons.injEq, Prod.mk.injEq, and_true] at hm
    obtain ⟨⟨t0, o0⟩, t1, o1⟩ := hm
    have hfa2 : fa = #[f0, f1] := by rw [← Array.toArray_toList (xs := fa), ← hfl]
    rw [hfa2] at hfa
    rcases Go.Deep.open_slice_pairs ht hfa ce o0 o1 (by rw [t0]; exact hc) (by rw [t1]; exact hci) hf with ⟨hcs, _⟩ | ⟨a', l', c', m, n, V0, V1, D0, D1, P0, P1, hcs, _, hl, hmx, hme, _, hcell⟩
    · simp [Value.cells] at hcs
      obtain ⟨rfl, rfl, rfl⟩ := hcs
      exact ⟨none, 0, [], rfl, .inl rfl, by simp⟩
    · simp [Value.cells] at hcs
      obtain ⟨rfl, h1, h2⟩ := hcs
      subst h1 h2
      simp only [if_true] at hme
      subst hme
      obtain ⟨fs, hfs⟩ : ∃ fs : List Ent, fs = (List.range l).map fun i => (strV (V0 i), intV (V1 i)) := ⟨_, rfl⟩
      have hlen : fs.length = l := by rw [hfs]; simp
      refine ⟨some a', m, fs, by rw [hlen], ?_, by rw [hlen]; omega⟩
      by_cases h0 : l = 0
      · left; rw [hfs, h0]; rfl
      · right
        have c0 := (hcell 0 (by omega)).1
        have hs0 := World.cell?_spot c0
        have ha0 : a'.add (0 * 2) = a' := by simp [Addr.add]
        rw [ha0] at hs0 c0
        obtain ⟨bk, o, sp⟩ := a'
        simp only at hs0
        subst hs0
        refine ⟨bk, o, rfl, World.block_lt_of_cell? W _ c0, by rw [hlen]; exact hl, fun j f hj => ?_⟩
        have hjl : j < l := by
          rcases Nat.lt_or_ge j l with h | h
          · exact h
          · rw [List.getElem?_eq_none (by omega)] at hj; cases hj
        obtain ⟨g0, g1, g2, g3⟩ := hcell j (by omega)
        rw [t0] at g2
        rw [t1] at g3
        obtain ⟨s0, e0, _, _⟩ := DataW.trod_string hs g2
        obtain ⟨s1, e1, _, _⟩ := DataW.trod_int hi g3
        simp only [List.cons.injEq, and_true] at e0 e1
        rw [hfs] at hj
        simp only [List.getElem?_map, List.getElem?_range hjl, Option.map_some, Option.some.injEq] at hj
        subst hj
        rw [Addr.add_mid] at g0 g1
        rw [e0] at g0
        rw [e1] at g1
        refine ⟨?_, ?_⟩
        · simp only [e0, strV]; exact g0
        · simp only [e1, intV]; rw [Nat.add_assoc]; exact g1
theorem u64_rng {z : Int} (h : (Lit.int .u64 z).wf = true) : 0 ≤ z ∧ z < 18446744073709551616 := by
  simp [Lit.wf, IntKind.min, IntKind.max, IntKind.signed, IntKind.bits] at h
  omega
end Go.Proofs.YtklfpnnnoaaiaabGreatDoor

