/- The tables that the text of a number looks at. -/
import Derived.Test.YtbgppkjcmgljnaaDoorTabsZ
import Derived.Test.YtbgppkjcmgljnaaDoorLawSt
import Derived.Lib.LaidTab
import Derived.Lib.LaidU8
import Derived.MakeChecks
namespace Go.Proofs.YtbgppkjcmgljnaaDoor
open Go.RowKit Go.WideShapes Go.ChangeShapes

theorem cells_of_pairs {H : Type} {enc : TypeId × Value → H} {P : Program} {w : World} {base : Nat} {sp : Nat → Bool} {held : Bool} {fuel : Nat} {t t1 ti : TypeId} {n : Nat} {k : IntKind} {cs : List Value} {rows : List (Nat × Nat)} {p : List MemPlace}
    (ht : P.underlying t = some (.array n t1)) (hf : (P.underlying t1).map fieldsOf = some [(ti, 0), (ti, 1)]) (h1 : P.cellsOf t1 = 2) (hi1 : P.cellsOf ti = 1) (hi : P.underlying ti = some (.int k))
    (h : DataW.trod enc P w base sp held fuel t cs = some (.agg (rows.map fun q => .agg [.lit (.int k q.1), .lit (.int k q.2)]), p)) (r : Nat) (q : Nat × Nat) (hr : rows[r]? = some q) :
    cs[r * 2]? = some (.int k q.1) ∧ cs[r * 2 + 1]? = some (.int k q.2) := by
  obtain ⟨fs, hfs, hl⟩ := fieldsOf_struct hf (List.cons_ne_nil _ _)
  obtain ⟨xs, m, _, hx, _, hxn, hat⟩ := DataW.trod_array ht h
  simp only [Prod.mk.injEq, DataW.agg.injEq] at hx
  have hlen : rows.length = xs.length := by have := congrArg List.length hx.1; simpa using this
  have hrn : r < n := by have := (List.getElem?_eq_some_iff.1 hr).1; omega
  have hx1 := hat r hrn
  rw [h1] at hx1
  obtain ⟨y, hy⟩ : ∃ y, xs[r]? = some y := ⟨xs[r]'(by omega), by simp [show r < xs.length by omega]⟩
  have hy1 : y.1 = .agg [.lit (.int k q.1), .lit (.int k q.2)] := by
    have h2 : (xs.map (·.1))[r]? = some y.1 := by simp [hy]
    rw [← hx.1, List.getElem?_map, hr] at h2
    exact (Option.some.inj h2).symm
  rw [hy] at hx1
  obtain ⟨zs, m2, _, hz, _, hzn, hzat⟩ := DataW.trod_struct hfs hx1
  have hy2 : y.1 = .agg (zs.map (·.1)) := by rw [hz]
  rw [hy1] at hy2
  injection hy2 with hy2
  obtain ⟨f0, f1, hfl⟩ := two_ofZ (l := fs.toList) (by have := congrArg List.length hl; simpa using this)
  obtain ⟨a, b, rfl⟩ := two_ofZ (l := zs) (by have := congrArg List.length hy2; simpa using this.symm)
  rw [hfl] at hl
  simp only [List.map_cons, List.map_nil, List.cons.injEq, Prod.mk.injEq, and_true] at hl
  obtain ⟨⟨e0, o0⟩, e1, o1⟩ := hl
  have g0 := hzat 0 f0 (by rw [← Array.getElem?_toList, hfl]; rfl)
  have g1 := hzat 1 f1 (by rw [← Array.getElem?_toList, hfl]; rfl)
  rw [e0, o0, hi1] at g0
  rw [e1, o1, hi1] at g1
  simp only [List.map_cons, List.map_nil, List.cons.injEq, and_true] at hy2
  obtain ⟨c, hc, hca, _⟩ := DataW.trod_int hi g0
  obtain ⟨s, hsc, hsa, _⟩ := DataW.trod_int hi g1
  have ea : (q.1 : Int) = c := by
    have := hy2.1
    rw [hca] at this
    simpa using this
  have eb : (q.2 : Int) = s := by
    have := hy2.2
    rw [hsa] at this
    simpa using this
  have k0 := one_cellR hc
  have k1 := one_cellR hsc
  rw [List.getElem?_take, if_pos (by decide), List.getElem?_drop] at k0 k1
  exact ⟨by rw [ea]; exact k0, by rw [eb]; exact k1⟩
theorem gPm : Tryd.prog.globalNamed "internal/strconv.pow10Tab" = some 3 := by kernel_rfl
theorem gPmT : (Tryd.prog.globals[3]?).map (·.type) = some 93 := by kernel_rfl
theorem gP10T : (Tryd.prog.globals[2]?).map (·.type) = some 83 := by kernel_rfl
theorem cells20T : Tryd.prog.cellsOf 83 = 20 := by kernel_rfl
theorem pm_reads {W : World} (h : Lib.VarReads Tryd.prog W "internal/strconv.pow10Tab" Go.Pinned.pow10Tab) : PmAt W := by
  obtain ⟨g', t', cs, fuel, p, hg', ht', hvar, hd⟩ := h
  obtain rfl := Option.some.inj (gPm.symm.trans hg')
  obtain rfl := Option.some.inj (gPmT.symm.trans ht')
  have hlen := pmLen
  unfold Go.Pinned.pow10Tab at hd
  unfold PmAt
  generalize Go.Pinned.pow10Rows = rows at *
  have hall := cells_of_pairs Tryd.underlying93 pmF pmC2 pmC1 Tryd.underlying37 hd
  have hcell : ∀ (j : Nat) (x : Nat × Nat), rows[j]? = some x → W.cell? ⟨3, j * 2, none⟩ = some (.int .u64 (x.1 : Int)) ∧ W.cell? ⟨3, j * 2 + 1, none⟩ = some (.int .u64 (x.2 : Int)) := fun j x hx => by
    obtain ⟨k0, k1⟩ := hall j x hx
    rw [World.var?_cell gPm hvar (j * 2), World.var?_cell gPm hvar (j * 2 + 1)]
    exact ⟨by simpa using k0, by simpa using k1⟩
  have h0 : rows[0]? = some (rows[0]'(by omega)) := by simp [show 0 < rows.length by omega]
  exact ⟨World.block_lt_of_cell? W _ (hcell 0 _ h0).1, hcell⟩
theorem pow_reads {W : World} (h : Lib.VarReads Tryd.prog W "internal/strconv.uint64pow10" Rows.laid_internal_strconv_uint64pow10) : P10At W := by
  obtain ⟨g', t', cs, fuel, p, hg', ht', hvar, hd⟩ := h
  have hg : Tryd.prog.globalNamed "internal/strconv.uint64pow10" = some 2 := gP10
  obtain rfl := Option.some.inj (hg.symm.trans hg')
  obtain rfl := Option.some.inj (gP10T.symm.trans ht')
  have e : (Rows.laid_internal_strconv_uint64pow10 : DataW Unit) = Lib.tabData .u64 Lib.pow10Tab := by
    rw [show Lib.pow10Tab = [1, 10, 100, 1000, 10000, 100000, 1000000, 10000000, 100000000, 1000000000, 10000000000, 100000000000, 1000000000000, 10000000000000, 100000000000000, 1000000000000000, 10000000000000000, 100000000000000000, 1000000000000000000, 10000000000000000000] by decide +kernel]
    rfl
  rw [e] at hd
  unfold P10At Lib.TabIs
  rw [hvar, ← Lib.cells_of_tab Tryd.underlying83 Tryd.underlying37 pmC1 cells20T hd]
theorem tabs_st {W : World} {l : List (String × DataW Unit)} (h : laidMet Tryd.prog l W) (h1 : ("internal/strconv.pow10Tab", Go.Pinned.pow10Tab) ∈ l) (h2 : ("internal/strconv.uint64pow10", Rows.laid_internal_strconv_uint64pow10) ∈ l) : TabsSt W :=
  ⟨pm_reads (Lib.laidMet.reads h h1), pow_reads (Lib.laidMet.reads h h2)⟩
open Go.MakeChecks in
theorem tabs_stH {W : World} (h : laidMetH Tryd.prog Rows.scoreTextsRow.laid W) : TabsSt W := by
  rw [laidMetH_plain _ _ _ (by rfl)] at h
  exact tabs_st h (.tail _ (.tail _ (.tail _ (.tail _ (.tail _ (.head _)))))) (.tail _ (.tail _ (.tail _ (.head _))))
end Go.Proofs.YtbgppkjcmgljnaaDoor
