/- BLAKE2s' tables, out of what a row says of them. -/
import Derived.Test.YtfelkdghjbecpaaDoorRows
import Derived.Test.YtfelkdghjbecpaaDoorBProc
import Derived.Lib.LaidTab
import Derived.Stop.LaidErr
namespace Go.Proofs.YtfelkdghjbecpaaDoor
open Go.RowKit

theorem cells_of_tab2 {H : Type} {enc : TypeId × Value → H} {P : Program} {w : World} {base : Nat} {sp : Nat → Bool} {held : Bool} {fuel : Nat} {t t1 e : TypeId} {n m : Nat} {k : IntKind} {cs : List Value} {rows : List (List Int)} {p : List MemPlace}
    (ht : P.underlying t = some (.array n t1)) (ht1 : P.underlying t1 = some (.array m e)) (he : P.underlying e = some (.int k)) (hce : P.cellsOf e = 1) (hc1 : P.cellsOf t1 = m)
    (h : DataW.trod enc P w base sp held fuel t cs = some (.agg (rows.map (Lib.tabData k)), p)) (r : Nat) (zs : List Int) (hr : rows[r]? = some zs) (j : Nat) (z : Int) (hz : zs[j]? = some z) : cs[r * m + j]? = some (.int k z) := by
  cases fuel with
  | zero => simp [DataW.trod] at h
  | succ fuel =>
    simp only [DataW.trod, ht, hc1] at h
    split at h
    · rename_i hl
      obtain ⟨xs, hm, hx⟩ := Option.map_eq_some_iff.1 h
      have hxs : xs.map (·.1) = rows.map (Lib.tabData k : List Int → DataW H) := by
        have := congrArg Prod.fst hx
        simpa using this
      have hxl : xs.length = n := by simpa using Lib.mapM_length hm
      have hrn : r < n := by
        have h1 := (List.getElem?_eq_some_iff.1 hr).1
        have := congrArg List.length hxs
        simp at this
        omega
      obtain ⟨b, hb, hf⟩ := Lib.mapM_at hm r r (by simp [hrn])
      have hb1 : b.1 = Lib.tabData k zs := by
        have h2 : (xs.map (·.1))[r]? = some b.1 := by simp [hb]
        rw [hxs, List.getElem?_map, hr] at h2
        exact (Option.some.inj h2).symm
      have hbb : b = (Lib.tabData k zs, b.2) := by rw [← hb1]
      rw [hbb] at hf
      have hc := Lib.cells_of_tab ht1 he hce hc1 hf
      have hj : ((cs.drop (r * m)).take m)[j]? = some (.int k z) := by rw [hc, List.getElem?_map, hz]; rfl
      have hjm : j < m := by
        have := (List.getElem?_eq_some_iff.1 hj).1
        rw [List.length_take] at this
        omega
      rw [List.getElem?_take, if_pos hjm, List.getElem?_drop] at hj
      exact hj
    · cases h

theorem gTab0 : Tryd.prog.globalNamed "steward/blake.initial" = some 0 := by kernel_rfl
theorem gTab1 : Tryd.prog.globalNamed "steward/blake.permutations" = some 1 := by kernel_rfl
theorem gType0 : (Tryd.prog.globals[0]?).map (·.type) = some 43 := by kernel_rfl
theorem gType1 : (Tryd.prog.globals[1]?).map (·.type) = some 71 := by kernel_rfl
theorem cells43 : Tryd.prog.cellsOf 43 = 8 := by kernel_rfl
theorem cells42 : Tryd.prog.cellsOf 42 = 1 := by kernel_rfl
theorem cells70 : Tryd.prog.cellsOf 70 = 16 := by kernel_rfl
theorem cells5 : Tryd.prog.cellsOf 5 = 1 := by kernel_rfl
def permRows : List (List Int) := orderRows.map fun r => r.map fun (n : Nat) => (n : Int)
theorem permRows_data : (Rows.laid_steward_blake_permutations : DataW Unit) = .agg (permRows.map (Lib.tabData .u8)) := rfl
theorem permRows_at (r j : Nat) (hr : r < 10) (hj : j < 16) : ∃ zs, permRows[r]? = some zs ∧ zs[j]? = some ((perm r j : Nat) : Int) := by
  have h : ∀ r : Fin 10, ∀ j : Fin 16, (permRows[r.val]?).bind (·[j.val]?) = some ((perm r j : Nat) : Int) := by decide +kernel
  have := h ⟨r, hr⟩ ⟨j, hj⟩
  obtain ⟨zs, h1, h2⟩ := Option.bind_eq_some_iff.1 this
  exact ⟨zs, h1, h2⟩

/-- A heap with the tables laid, for the witnesses. -/
def blakeObj0 : Obj → Obj
  | .cells _ t frozen => .cells (wordsCells 8 iv).toArray t frozen
  | o => o
def blakeObj1 : Obj → Obj
  | .cells _ t frozen => .cells (orderRows.flatMap fun r => r.map fun (n : Nat) => Value.int .u8 (n : Int)).toArray t frozen
  | o => o
def blakeHeap (h : Array Obj) : Array Obj :=
  let h0 := h.modify 0 blakeObj0
  h0.modify 1 blakeObj1
/-- What a row says of its tables. -/
theorem tabs_laid {W : World} {rest : List (String × DataW Unit)} (h : laidMet Tryd.prog (("steward/blake.initial", Rows.laid_steward_blake_initial) :: ("steward/blake.permutations", Rows.laid_steward_blake_permutations) :: rest) W) : Tabs W := by
  have h1 : Lib.TabIs Tryd.prog W "steward/blake.initial" .u32 ivList := Lib.tabIs_of_head gTab0 gType0 Tryd.underlying43 Tryd.underlying42 cells42 cells43 h
  have h2 := laidMet.tail h
  obtain ⟨ps, ⟨g', t', cs, fuel, p, q, hg', ht', hvar, hd, _, _⟩, _⟩ := h2
  obtain rfl := Option.some.inj (gTab1.symm.trans hg')
  obtain rfl := Option.some.inj (gType1.symm.trans ht')
  rw [permRows_data] at hd
  have hcell : ∀ r j, r < 10 → j < 16 → W.cell? ⟨1, r * 16 + j, none⟩ = some (.int .u8 (perm r j : Nat)) := by
    intro r j hr hj
    obtain ⟨zs, hz1, hz2⟩ := permRows_at r j hr hj
    have hc := cells_of_tab2 Tryd.underlying71 Tryd.underlying70 Tryd.underlying5 cells5 cells70 hd r zs hz1 j _ hz2
    have hv := World.var?_cell hg' hvar (r * 16 + j)
    rw [hv]
    simpa using hc
  have c0 : W.cell? ⟨0, 0, none⟩ = some (.int .u32 (iv 0)) := h1.cell gTab0 0 (by decide)
  refine ⟨World.block_lt_of_cell? W _ c0, World.block_lt_of_cell? W _ (hcell 0 0 (by decide) (by decide)), fun i hi => h1.cell gTab0 i hi, fun r hr j v hv => ?_⟩
  have hj : j < 16 := by
    have := (List.getElem?_eq_some_iff.1 hv).1
    rwa [permCells_length] at this
  have hv' : (permCells (perm r))[j]? = some (.int .u8 (perm r j : Nat)) := by simp [permCells, hj]
  obtain rfl := Option.some.inj (hv'.symm.trans hv)
  exact hcell r j hr hj
end Go.Proofs.YtfelkdghjbecpaaDoor
