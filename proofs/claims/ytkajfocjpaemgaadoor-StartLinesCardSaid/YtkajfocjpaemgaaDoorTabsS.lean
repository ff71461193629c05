/- What a row of start says of its variables: the library's and the table of words; a world that lays them; the parameter of StartLines. -/
import Derived.Test.YtkajfocjpaemgaaDoorTabsP
import Derived.Test.YtkajfocjpaemgaaDoorStH
import Derived.Test.YtkajfocjpaemgaaDoorRec
namespace Go.Proofs.YtkajfocjpaemgaaDoor
open Go.ChangeShapes Go.WideShapes Go.ChangeAt Go.RowKit

theorem two_of {α : Type} {l : List α} (h : l.length = 2) : ∃ a b, l = [a, b] := by
  match l, h with
  | [a, b], _ => exact ⟨a, b, rfl⟩
theorem cells_of_recs {H : Type} {enc : TypeId × Value → H} {P : Program} {w : World} {base : Nat} {sp : Nat → Bool} {held : Bool} {fuel : Nat} {t t1 ti ts : TypeId} {n : Nat} {k : IntKind} {cs : List Value} {rows : List (Int × List UInt8)} {p : List MemPlace}
    (ht : P.underlying t = some (.array n t1)) (hf : (P.underlying t1).map fieldsOf = some [(ti, 0), (ts, 1)]) (h1 : P.cellsOf t1 = 2) (hi1 : P.cellsOf ti = 1) (hs1 : P.cellsOf ts = 1) (hi : P.underlying ti = some (.int k)) (hs : P.underlying ts = some .string)
    (h : DataW.trod enc P w base sp held fuel t cs = some (.agg (rows.map fun q => .agg [.lit (.int k q.1), .lit (.string q.2)]), p)) (r : Nat) (q : Int × List UInt8) (hr : rows[r]? = some q) :
    cs[r * 2]? = some (.int k q.1) ∧ cs[r * 2 + 1]? = some (.string ⟨q.2.toArray⟩) := by
  obtain ⟨fs, hfs, hl⟩ := fieldsOf_struct hf (List.cons_ne_nil _ _)
  obtain ⟨xs, m, _, hx, _, hxn, hat⟩ := DataW.trod_array ht h
  simp only [Prod.mk.injEq, DataW.agg.injEq] at hx
  have hlen : rows.length = xs.length := by have := congrArg List.length hx.1; simpa using this
  have hrn : r < n := by have := (List.getElem?_eq_some_iff.1 hr).1; omega
  have hx1 := hat r hrn
  rw [h1] at hx1
  obtain ⟨y, hy⟩ : ∃ y, xs[r]? = some y := ⟨xs[r]'(by omega), by simp [show r < xs.length by omega]⟩
  have hy1 : y.1 = .agg [.lit (.int k q.1), .lit (.string q.2)] := by
    have h2 : (xs.map (·.1))[r]? = some y.1 := by simp [hy]
    rw [← hx.1, List.getElem?_map, hr] at h2
    exact (Option.some.inj h2).symm
  rw [hy] at hx1
  obtain ⟨zs, m2, _, hz, _, hzn, hzat⟩ := DataW.trod_struct hfs hx1
  have hy2 : y.1 = .agg (zs.map (·.1)) := by rw [hz]
  rw [hy1] at hy2
  injection hy2 with hy2
  obtain ⟨f0, f1, hfl⟩ := two_of (l := fs.toList) (by have := congrArg List.length hl; simpa using this)
  obtain ⟨a, b, rfl⟩ := two_of (l := zs) (by have := congrArg List.length hy2; simpa using this.symm)
  rw [hfl] at hl
  simp only [List.map_cons, List.map_nil, List.cons.injEq, Prod.mk.injEq, and_true] at hl
  obtain ⟨⟨e0, o0⟩, e1, o1⟩ := hl
  have g0 := hzat 0 f0 (by rw [← Array.getElem?_toList, hfl]; rfl)
  have g1 := hzat 1 f1 (by rw [← Array.getElem?_toList, hfl]; rfl)
  rw [e0, o0, hi1] at g0
  rw [e1, o1, hs1] at g1
  simp only [List.map_cons, List.map_nil, List.cons.injEq, and_true] at hy2
  obtain ⟨c, hc, hca, _⟩ := DataW.trod_int hi g0
  obtain ⟨s, hsc, hsa, _⟩ := DataW.trod_string hs g1
  have ea : q.1 = c := by
    have := hy2.1
    rw [hca] at this
    simpa using this
  have eb : q.2 = s.data.toList := by
    have := hy2.2
    rw [hsa] at this
    simpa using this
  have k0 := one_cellR hc
  have k1 := one_cellR hsc
  rw [List.getElem?_take, if_pos (by decide), List.getElem?_drop] at k0 k1
  refine ⟨by rw [ea]; exact k0, ?_⟩
  rw [k1, eb]
theorem gRea : Tryd.prog.globalNamed "steward/start.reasons" = some 0 := by kernel_rfl
theorem gReaT : (Tryd.prog.globals[0]?).map (·.type) = some 59 := by kernel_rfl
theorem staU : (Tryd.prog.underlying 36).map fieldsOf = some [(3, 0), (9, 1)] := by kernel_rfl
theorem staC : Tryd.prog.cellsOf 36 = 2 := by kernel_rfl
theorem cellsInt1 : Tryd.prog.cellsOf 3 = 1 := by kernel_rfl
theorem cellsStr1 : Tryd.prog.cellsOf 9 = 1 := by kernel_rfl
def reasR : List (Int × List UInt8) := codes.map fun c => (c, reasonL c)
theorem reasR_data : (Rows.laid_steward_start_reasons : DataW Unit) = .agg (reasR.map fun q => .agg [.lit (.int .i64 q.1), .lit (.string q.2)]) := by rfl
theorem reasR_at (r : Nat) (h : r < 7) : ∃ q, reasR[r]? = some q ∧ reasC[r * 2]? = some (.int .i64 q.1) ∧ reasC[r * 2 + 1]? = some (.string ⟨q.2.toArray⟩) := by
  match r, h with
  | 0, _ => exact ⟨_, rfl, rfl, rfl⟩
  | 1, _ => exact ⟨_, rfl, rfl, rfl⟩
  | 2, _ => exact ⟨_, rfl, rfl, rfl⟩
  | 3, _ => exact ⟨_, rfl, rfl, rfl⟩
  | 4, _ => exact ⟨_, rfl, rfl, rfl⟩
  | 5, _ => exact ⟨_, rfl, rfl, rfl⟩
  | 6, _ => exact ⟨_, rfl, rfl, rfl⟩
theorem reas_laid {W : World} {rest : List (String × DataW Unit)} (h : laidMet Tryd.prog (("steward/start.reasons", Rows.laid_steward_start_reasons) :: rest) W) : Reas W := by
  rw [reasR_data] at h
  obtain ⟨ps, ⟨g', t', cs, fuel, p, q, hg', ht', hvar, hd, _, _⟩, _⟩ := h
  obtain rfl := Option.some.inj (gRea.symm.trans hg')
  obtain rfl := Option.some.inj (gReaT.symm.trans ht')
  have hall := cells_of_recs Tryd.underlying59 staU staC cellsInt1 cellsStr1 Tryd.underlying3 Tryd.underlying9 hd
  have hc : ∀ (j : Nat) (v : Value), reasC[j]? = some v → cs.toList[j]? = some v := by
    intro j v hv
    have hj : j < 14 := by
      obtain ⟨hlt, _⟩ := List.getElem?_eq_some_iff.1 hv
      exact hlt
    obtain ⟨q, hq, h0, h1⟩ := reasR_at (j / 2) (by omega)
    obtain ⟨k0, k1⟩ := hall (j / 2) q hq
    by_cases he : j % 2 = 0
    · have e : j / 2 * 2 = j := by omega
      rw [e] at h0 k0
      rw [k0, ← h0, hv]
    · have e : j / 2 * 2 + 1 = j := by omega
      rw [e] at h1 k1
      rw [k1, ← h1, hv]
  have hcell : ∀ (j : Nat) (v : Value), reasC[j]? = some v → W.cell? ⟨0, j, none⟩ = some v := fun j v hv => by
    have h2 := World.var?_cell gRea hvar j
    rw [h2]
    simpa using hc j v hv
  exact ⟨World.block_lt_of_cell? W _ (hcell 0 _ rfl), fun j v hv => by rw [Nat.zero_add]; exact hcell j v hv⟩
theorem laidS {W : World} {d0 d3 : String × DataW Unit} {rest : List (String × DataW Unit)} (hsh : W.ShapedOpen Tryd.prog)
    (h : laidMet Tryd.prog (d0 :: ("math/bits.deBruijn64tab", Rows.laid_math_bits_deBruijn64tab) :: ("internal/strconv.uint64pow10", Rows.laid_internal_strconv_uint64pow10) :: d3 :: ("strconv.ErrRange", Rows.laid_strconv_ErrRange) :: ("strconv.ErrSyntax", Rows.laid_strconv_ErrSyntax) :: ("steward/start.reasons", Rows.laid_steward_start_reasons) :: rest) W) : LaidS W :=
  ⟨maxL_shaped hsh, (laid5 hsh h).1, pow_laid h, reas_laid (laidMet.tail (laidMet.tail (laidMet.tail (laidMet.tail (laidMet.tail (laidMet.tail h))))))⟩
noncomputable def stHeap (h : Array Obj) : Array Obj := (octHeap h).modify 0 (layAs reasC.toArray)
noncomputable def stWorld (os : Os) : World := { octWorld os with heap := (octWorld os).heap.modify 0 (layAs reasC.toArray) }

theorem linU : (Tryd.prog.underlying 44).map fieldsOf = some [(9, 0), (9, 1), (9, 2), (3, 3)] := by kernel_rfl
theorem linC : Tryd.prog.cellsOf 44 = 4 := by kernel_rfl
section
variable {H : Type} {enc : TypeId × Value → H} {W : World} {base : Nat} {sp : Nat → Bool} {held : Bool}
set_option maxRecDepth 100000 in
theorem lin_open {r : Reach} {b0 : Nat} {v : Value} {d : DataW H} {ps : List MemPlace} (hval : Value.okWide Tryd.prog W r b0 44 v) (hd : DataW.Trod enc Tryd.prog W base sp held 44 v d ps) :
    ∃ (k n z : ByteArray) (u : Int), v = .agg #[.string k, .string n, .string z, .int .i64 u] ∧ d = .agg [.lit (.string k.data.toList), .lit (.string n.data.toList), .lit (.string z.data.toList), .lit (.int .i64 u)] ∧ ps = [] ∧
      (k.size ≤ maxLen ∧ n.size ≤ maxLen ∧ z.size ≤ maxLen ∧ (Lit.int .i64 u).wf = true) := by
  obtain ⟨cs, xs, q, rfl, hc, rfl, rfl, hx, hf⟩ := rec_open linU (List.cons_ne_nil _ _) hval hd
  rw [linC] at hc
  have f0 := hf 0 _ _ rfl
  have f1 := hf 1 _ _ rfl
  have f4 := hf 2 _ _ rfl
  have f2 := hf 3 _ _ rfl
  match xs, hx with
  | [y0, y1, y4, y2], _ =>
    rw [cellsStr1] at f0 f1 f4
    rw [cellsInt1] at f2
    obtain ⟨k, e0, rfl, s0⟩ := DataW.trod_string Tryd.underlying9 f0
    obtain ⟨n, e1, rfl, s1⟩ := DataW.trod_string Tryd.underlying9 f1
    obtain ⟨z, e4, rfl, s4⟩ := DataW.trod_string Tryd.underlying9 f4
    obtain ⟨u, e2, rfl, s2⟩ := DataW.trod_int Tryd.underlying3 f2
    have g0 := one_cellR e0
    have g1 := one_cellR e1
    have g4 := one_cellR e4
    have g2 := one_cellR e2
    obtain ⟨l, hl⟩ : ∃ l, l = cs.toList := ⟨_, rfl⟩
    rw [← hl] at hc g0 g1 g2 g4
    match l, hc with
    | [a, b, x, c], _ =>
      obtain rfl : a = _ := Option.some.inj g0
      obtain rfl : b = _ := Option.some.inj g1
      obtain rfl : x = _ := Option.some.inj g4
      obtain rfl : c = _ := Option.some.inj g2
      refine ⟨k, n, z, u, ?_, rfl, rfl, s0, s1, s4, s2⟩
      rw [← Array.toArray_toList (xs := cs), ← hl]
set_option maxRecDepth 100000 in
theorem lin_shut (k n z : ByteArray) (u : Int) (h : k.size ≤ maxLen ∧ n.size ≤ maxLen ∧ z.size ≤ maxLen ∧ (Lit.int .i64 u).wf = true) :
    DataW.Trod enc Tryd.prog W base sp held 44 (.agg #[.string k, .string n, .string z, .int .i64 u]) (.agg [.lit (.string k.data.toList), .lit (.string n.data.toList), .lit (.string z.data.toList), .lit (.int .i64 u)]) [] := by
  obtain ⟨s0, s1, s4, s2⟩ := h
  have h0 : DataW.trod enc Tryd.prog W base sp held 1 9 [.string k] = some (.lit (.string k.data.toList), []) := by simp [DataW.trod, Tryd.underlying9, s0]
  have h1 : DataW.trod enc Tryd.prog W base sp held 1 9 [.string n] = some (.lit (.string n.data.toList), []) := by simp [DataW.trod, Tryd.underlying9, s1]
  have h4 : DataW.trod enc Tryd.prog W base sp held 1 9 [.string z] = some (.lit (.string z.data.toList), []) := by simp [DataW.trod, Tryd.underlying9, s4]
  have h2 : DataW.trod enc Tryd.prog W base sp held 1 3 [.int .i64 u] = some (.lit (.int .i64 u), []) := trod_int_mk 0 Tryd.underlying3 s2
  exact rec_shut (enc := enc) (W := W) (base := base) (sp := sp) (held := held) linU (List.cons_ne_nil _ _) [.string k, .string n, .string z, .int .i64 u] [(.lit (.string k.data.toList), []), (.lit (.string n.data.toList), []), (.lit (.string z.data.toList), []), (.lit (.int .i64 u), [])] 1 (by rw [linC]; rfl)
    (by simp [cellsStr1, cellsInt1, h0, h1, h2, h4])
end
end Go.Proofs.YtkajfocjpaemgaaDoor
