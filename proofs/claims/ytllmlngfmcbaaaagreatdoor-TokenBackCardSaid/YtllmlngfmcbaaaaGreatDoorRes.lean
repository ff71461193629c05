/- A result that lies in memory, read as a whole. -/
import Derived.Test.YtllmlngfmcbaaaaGreatDoorBase
import Derived.Deep.MidRow
namespace Go.Proofs.YtllmlngfmcbaaaaGreatDoor
open Go.RowKit

theorem results_row {P : Program} (fn : Func) (k T : Nat) (hr : fn.results = #[.cell k T]) (tmps : Array Value) (W : World) (b : Nat) (v : Value) (ht : tmps[k]? = some (.pointer (some ⟨b, 0, none⟩)))
    (hl : (loadVar T ⟨b, 0, none⟩).run P W = .ok v W) : (results fn tmps).run P W = .ok v W := by
  have e : results fn tmps = loadVar T ⟨b, 0, none⟩ := by
    unfold results
    rw [hr]
    simp [ht, asAddr]
  rw [e, hl]
section
variable {P : Program} {w : World} {ops : Array Oper} {rest : List Oper} {o : Oper} {a : Act} {Q : Exit → Act → World → Prop}
/-- A load of a whole array. -/
theorem wpList_load_row (hgd : o.guard = none) (ty : TypeId) (x : Operand) (ho : o.op = .load ty x) (b : Nat) (hx : a.eval x = .pointer (some ⟨b, 0, none⟩)) (cs : List Value) (d : TypeDesc) (hc : w.rangeAt b 0 cs)
    (hu : P.underlying ty = some d) (hd : d.isRow = true) (hi : (P.info? ty).map (·.size) = some cs.length) (h : wpList P ops Q rest (a.put o.dst (.agg cs.toArray)) w) : wpList P ops Q (o :: rest) a w :=
  wpList_plain hgd fun _ hK => wp_load_mid ty x ho b 0 hx cs d hc hu hd hi (hK _ _ h)
/-- A store of a whole array. -/
theorem wpList_store_row (hgd : o.guard = none) (ty : TypeId) (x y : Operand) (ho : o.op = .store ty x y) (b : Nat) (cells : Array Value) (hx : a.eval x = .pointer (some ⟨b, 0, none⟩)) (hy : a.eval y = .agg cells)
    (ht : w.there b 0 cells.size) (hi : (P.info? ty).map (·.size) = some cells.size) (h1 : cells.all (·.oneCell') = true) (h : wpList P ops Q rest (a.put o.dst undef) (w.setCells b 0 cells.toList)) : wpList P ops Q (o :: rest) a w :=
  wpList_plain hgd fun _ hK => wp_store_mid ty x y ho b 0 cells hx hy ht hi h1 (hK _ _ h)
end
end Go.Proofs.YtllmlngfmcbaaaaGreatDoor
