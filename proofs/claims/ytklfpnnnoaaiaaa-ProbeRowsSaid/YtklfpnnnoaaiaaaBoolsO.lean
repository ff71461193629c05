/- A slice of bools that is handed in; a record with one. -/
import Derived.Test.YtklfpnnnoaaiaaaRec
import Derived.Test.YtklfpnnnoaaiaaaBase
import Derived.ChangeSlices
import Derived.Deep.MidRow
import Derived.Deep.Grids
import Derived.WideKeyArgs
import Derived.DataReads
import Derived.KernelRfl
namespace Go.Proofs.Ytklfpnnnoaaiaaa
open Go.ChangeShapes Go.WideShapes Go.ChangeAt Go.RowKit

/-- A slice of bools. -/
def IsBools (w : World) (a : Option Addr) (c : Nat) (xs : List Bool) : Prop :=
  xs = [] ∨ ∃ bk o, a = some ⟨bk, o, none⟩ ∧ bk < w.heap.size ∧ xs.length ≤ c ∧ ∀ (j : Nat) x, xs[j]? = some x → w.cell? ⟨bk, o + j, none⟩ = some (.bool x)
theorem IsBools.below {w w' : World} {a : Option Addr} {c : Nat} {xs : List Bool} (h : IsBools w a c xs) (hb : Below w.heap.size w w') : IsBools w' a c xs := by
  rcases h with h | ⟨bk, o, ha, hbk, hl, hc⟩
  · exact .inl h
  · exact .inr ⟨bk, o, ha, Nat.lt_of_lt_of_le hbk hb.size, hl, fun j x hx => by rw [(bcell hb).1 _ _ hbk]; exact hc j x hx⟩
theorem bools_cell {H : Type} {enc : TypeId × Value → H} {P : Program} {t e : TypeId} {W : World} {base : Nat} {held : Bool} (ht : P.underlying t = some (.slice e)) (he : P.underlying e = some .bool) (hc : P.cellsOf e = 1)
    {fuel : Nat} {cl : List Value} {x : DataW H × List MemPlace} (hf : DataW.trod enc P W base (fun _ => true) held fuel t cl = some x) :
    ∃ a c xs, cl = [.slice a xs.length c] ∧ IsBools W a c xs ∧ xs.length ≤ maxLen := by
  rcases Go.Deep.open_bools ht he hc hf with ⟨hcs, _⟩ | ⟨a', l, c, B, hcs, _, hl, hm, _, hcell⟩
  · exact ⟨none, 0, [], hcs, .inl rfl, by simp⟩
  · obtain ⟨xs, hxs⟩ : ∃ xs : List Bool, xs = (List.range l).map B := ⟨_, rfl⟩
    have hlen : xs.length = l := by rw [hxs]; simp
    refine ⟨some a', c, xs, by rw [hlen]; exact hcs, ?_, by rw [hlen]; omega⟩
    by_cases h0 : l = 0
    · left; rw [hxs, h0]; rfl
    · right
      have c0 := hcell 0 (by omega)
      have hs0 := World.cell?_spot c0
      have ha0 : a'.add 0 = a' := by simp [Addr.add]
      rw [ha0] at hs0 c0
      obtain ⟨bk, o, sp⟩ := a'
      simp only at hs0
      subst hs0
      refine ⟨bk, o, rfl, World.block_lt_of_cell? W _ c0, by rw [hlen]; exact hl, fun j x hx => ?_⟩
      have hj : j < l := by
        rcases Nat.lt_or_ge j l with h | h
        · exact h
        · rw [List.getElem?_eq_none (by omega)] at hx; cases hx
      have hcj := hcell j (by omega)
      rw [Addr.add_mid] at hcj
      rw [hcj]
      rw [hxs, List.getElem?_map, List.getElem?_range hj] at hx
      exact congrArg (fun y => some (Value.bool y)) (Option.some.inj hx)
theorem bools_open {H : Type} {enc : TypeId × Value → H} {P : Program} {t e : TypeId} {W : World} {base : Nat} {held : Bool} (ht : P.underlying t = some (.slice e)) (he : P.underlying e = some .bool) (hc : P.cellsOf e = 1)
    {r : Reach} {b0 : Nat} {v : Value} {d : DataW H} {ps : List MemPlace} (hval : Value.okWide P W r b0 t v) (hd : DataW.Trod enc P W base (fun _ => true) held t v d ps) :
    ∃ a c xs, v = .slice a xs.length c ∧ IsBools W a c xs ∧ xs.length ≤ maxLen := by
  obtain ⟨a, l, c, rfl⟩ := okWide_slice ht hval
  obtain ⟨fuel, hf⟩ := hd
  obtain ⟨a2, c2, xs, h1, h2, h3⟩ := bools_cell ht he hc hf
  simp [Value.cells] at h1
  obtain ⟨rfl, rfl, rfl⟩ := h1
  exact ⟨a, c, xs, rfl, h2, h3⟩
theorem rowsU : (Try.prog.underlying 57).map fieldsOf = some [(4, 0), (3, 1), (3, 2), (44, 3)] := by kernel_rfl
theorem rowsC : Try.prog.cellsOf 57 = 4 := by kernel_rfl
theorem rowsI : Try.prog.cellsOf 3 = 1 := by kernel_rfl
theorem rowsB : Try.prog.cellsOf 4 = 1 := by kernel_rfl
theorem rowsS : Try.prog.cellsOf 44 = 1 := by kernel_rfl
set_option maxRecDepth 100000 in
theorem rows_open {H : Type} {enc : TypeId × Value → H} {W : World} {base : Nat} {held : Bool} {r : Reach} {b0 : Nat} {v : Value} {d : DataW H} {ps : List MemPlace} (hval : Value.okWide Try.prog W r b0 57 v) (hd : DataW.Trod enc Try.prog W base (fun _ => true) held 57 v d ps) :
    ∃ (up : Bool) (rise fall : Int) (a : Option Addr) (c : Nat) (xs : List Bool), v = .agg #[.bool up, .int .i64 rise, .int .i64 fall, .slice a xs.length c] ∧ IsBools W a c xs ∧ xs.length ≤ maxLen := by
  obtain ⟨cs, xs, q, rfl, hc, rfl, rfl, hx, hf⟩ := rec_open rowsU (List.cons_ne_nil _ _) hval hd
  rw [rowsC] at hc
  have f0 := hf 0 _ _ rfl
  have f1 := hf 1 _ _ rfl
  have f2 := hf 2 _ _ rfl
  have f3 := hf 3 _ _ rfl
  match xs, hx with
  | [y0, y1, y2, y3], _ =>
    rw [rowsB] at f0
    rw [rowsI] at f1 f2
    rw [rowsS] at f3
    obtain ⟨up, e0, _⟩ := DataW.trod_bool Try.underlying4 f0
    obtain ⟨rise, e1, _, _⟩ := DataW.trod_int Try.underlying3 f1
    obtain ⟨fall, e2, _, _⟩ := DataW.trod_int Try.underlying3 f2
    obtain ⟨a, c, bs, e3, hbs, hlen⟩ := bools_cell Try.underlying44 Try.underlying4 rowsB f3
    have g0 := one_cellR e0
    have g1 := one_cellR e1
    have g2 := one_cellR e2
    have g3 := one_cellR e3
    obtain ⟨l, hl⟩ : ∃ l, l = cs.toList := ⟨_, rfl⟩
    rw [← hl] at hc g0 g1 g2 g3
    match l, hc with
    | [z0, z1, z2, z3], _ =>
      obtain rfl : z0 = _ := Option.some.inj g0
      obtain rfl : z1 = _ := Option.some.inj g1
      obtain rfl : z2 = _ := Option.some.inj g2
      obtain rfl : z3 = _ := Option.some.inj g3
      refine ⟨up, rise, fall, a, c, bs, ?_, hbs, hlen⟩
      rw [← Array.toArray_toList (xs := cs), ← hl]
end Go.Proofs.Ytklfpnnnoaaiaaa
