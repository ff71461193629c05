/- What the rows list; parameters. -/
import Derived.Test.YtllmlngfmcbaaaaGreatDoorBase
import Derived.ProofKit
import Derived.OpenShut
import Derived.WideKeyArr2
import Derived.Test.YtllmlngfmcbaaaaGreatDoorRows
import Derived.Test.YtllmlngfmcbaaaaGreatDoorBProc
import Derived.Lib.LaidTab
import Derived.Stop.LaidErr
import Derived.Test.YtllmlngfmcbaaaaGreatDoorTJ
import Derived.LaidLaws
import Derived.Shelf.Vars
import Derived.KernelRfl
namespace Go.Proofs.YtllmlngfmcbaaaaGreatDoor
open Go.ChangeShapes Go.WideShapes Go.ChangeAt Go.RowKit

/-- What a call leaves that has only made new memory: results that lead nowhere, arguments and variables read as before. -/
theorem post_new {H : Type} {enc : TypeId × Value → H} {P : Program} {fn : Func} {sp : ChangeSpec} {ap fr ho ag : Bool} {W V : World} {args : Array Value} {r : Value} {ds gs : List (DataW H)} {places ofArgs ofVars : List MemPlace}
    (whole : DataW.Whole enc P fn.params.toList sp.vars ap W args.toList ds gs places) (bel : Below W.heap.size W V) (parts : places = ofArgs ++ ofVars)
    (hR : ∀ b spare held, DataW.TrodAll enc P V b spare held fn.resultTypes.toList (r.resultList fn.resultTypes.size) (sp.fn H (ds ++ gs)).results [])
    (hA : ∀ spare : Nat → Bool, (∀ p ∈ places, spare p.block = true) → DataW.TrodAll enc P V 0 spare true fn.params.toList args.toList (sp.fn H (ds ++ gs)).args ofArgs)
    (hV : ∀ spare : Nat → Bool, (∀ p ∈ places, spare p.block = true) → DataW.TrodVars enc P V spare sp.vars (sp.fn H (ds ++ gs)).vars ofVars)
    (okR : ∀ (j : Nat) t x, fn.resultTypes[j]? = some t → (r.resultList fn.resultTypes.size)[j]? = some x → Value.okWide P V .any 0 t x) :
    sp.post enc P fn ap fr ho ag W args r V := by
  have below : ∀ p, p ∈ places → p.block < W.heap.size := fun p hp => whole.lt p hp
  have old : ∀ p ∈ places, (fun b => decide (b < W.heap.size)) p.block = true := fun p hp => decide_eq_true (below p hp)
  have kept : W.keptBut V (fun p => p ∈ places ∧ (p ∈ ([] : List MemPlace) ∨ p ∈ ofArgs ++ ofVars)) :=
    World.keptBut_mono (fun p hp => ⟨hp, .inr (parts ▸ hp)⟩) (bel.frame (fun p => p ∈ places))
  refine ⟨ds, gs, places, [], ofArgs, ofVars, whole, hR _ _ _, hA _ old, hV _ old, ?_, fun _ => ?_⟩
  · exact World.keptBut_mono (fun p hp => ⟨hp.1, by simpa using hp.2⟩) kept
  · obtain ⟨_, _, _, _, _, marks, once⟩ := whole
    refine ⟨okR, _, _, ([] ++ ofArgs) ++ ofVars, ⟨[] ++ ofArgs, ofVars, trodAll_append (hA _ (fun _ _ => rfl)) (hR _ _ _), hV _ (fun _ _ => rfl), rfl, fun b o hp => ?_, fun h => ?_⟩, ?_⟩
    · have hm : MemPlace.cell b o ∈ places := by rw [parts]; simpa using hp
      exact (bel.frozen (below _ hm)).trans (marks b o hm)
    · simpa [← parts] using once h
    · exact fun p hp _ => by simpa [← parts] using hp
end Go.Proofs.YtllmlngfmcbaaaaGreatDoor

namespace Go.Proofs.YtllmlngfmcbaaaaGreatDoor
open Go.ChangeShapes Go.WideShapes Go.ChangeAt Go.RowKit

theorem range_mapM {β : Type} (g : List Value → Option β) : ∀ cs : List Value, (List.range cs.length).mapM (fun i => g ((cs.drop (i * 1)).take 1)) = cs.mapM fun c => g [c]
  | [] => rfl
  | c :: r => by
    have ih := range_mapM g r
    simp only [Nat.mul_one] at ih
    simp only [Nat.mul_one, List.length_cons, List.range_succ_eq_map, List.mapM_cons, List.mapM_map, List.drop_zero, List.take_succ_cons, List.take_zero, Function.comp_def, List.drop_succ_cons, Nat.succ_eq_add_one, ih]

section
variable {H : Type} {enc : TypeId × Value → H} {P : Program} {t e : TypeId} {n : Nat} {q : IntKind} {W : World} {base : Nat} {sp : Nat → Bool} {held : Bool}

theorem ints_of (he : P.underlying e = some (.int q)) {m : Nat} : ∀ (cs : List Value) (ys : List (DataW H × List MemPlace)), cs.mapM (fun c => DataW.trod enc P W base sp held m e [c]) = some ys →
    ∃ zs : List Int, cs = zs.map (Value.int q) ∧ ys = zs.map (fun z => (.lit (.int q z), [])) ∧ ∀ z ∈ zs, (Lit.int q z).wf = true
  | [], ys, h => by
    simp at h
    exact ⟨[], rfl, by simp [h], by simp⟩
  | c :: r, ys, h => by
    rw [List.mapM_cons] at h
    simp only [bind, Option.bind_eq_some_iff, pure, Option.some.injEq] at h
    obtain ⟨y, hy, zs', hzs, rfl⟩ := h
    obtain ⟨zs, rfl, rfl, hw⟩ := ints_of he r zs' hzs
    obtain ⟨a, ea, rfl, wa⟩ := DataW.trod_int he hy
    simp only [List.cons.injEq, and_true] at ea
    subst ea
    exact ⟨a :: zs, rfl, rfl, fun z hz => by
      cases List.mem_cons.1 hz with
      | inl e => subst e; exact wa
      | inr e => exact hw z e⟩
theorem of_ints (he : P.underlying e = some (.int q)) : ∀ (zs : List Int), (∀ z ∈ zs, (Lit.int q z).wf = true) →
    (zs.map (Value.int q)).mapM (fun c => DataW.trod enc P W base sp held 1 e [c]) = some (zs.map (fun z => (.lit (.int q z), [])))
  | [], _ => rfl
  | z :: r, hw => by
    rw [List.map_cons, List.mapM_cons, of_ints he r (fun x hx => hw x (List.mem_cons_of_mem _ hx))]
    have hz := hw z (List.mem_cons_self ..)
    simp [DataW.trod, he, hz]

theorem arr_open (hu : P.underlying t = some (.array n e)) (he : P.underlying e = some (.int q)) (hc : P.cellsOf e = 1) (ht : P.cellsOf t = n) {r : Reach} {b0 : Nat} {v : Value} {d : DataW H} {ps : List MemPlace}
    (hval : Value.okWide P W r b0 t v) (hd : DataW.Trod enc P W base sp held t v d ps) :
    ∃ zs : List Int, zs.length = n ∧ v = .agg (zs.map (Value.int q)).toArray ∧ d = .agg (zs.map fun z => .lit (.int q z)) ∧ ps = [] ∧ ∀ z ∈ zs, (Lit.int q z).wf = true := by
  simp only [Value.okWide, hu] at hval
  obtain ⟨cs, rfl, h2, _⟩ := hval
  rw [ht] at h2
  obtain ⟨fuel, hf⟩ := hd
  cases fuel with
  | zero => simp [DataW.trod] at hf
  | succ m =>
    rw [DataW.trod_step] at hf
    unfold DataW.trodStep at hf
    simp only [hu, Value.cells] at hf
    rw [if_pos (by rw [ht]; simpa using h2), hc, show n = cs.toList.length by simpa using h2.symm, range_mapM (fun l => DataW.trod enc P W base sp held m e l)] at hf
    simp only [Option.map_eq_some_iff] at hf
    obtain ⟨ys, hy, e1⟩ := hf
    obtain ⟨zs, hz, rfl, hw⟩ := ints_of he _ ys hy
    simp only [Prod.mk.injEq] at e1
    refine ⟨zs, by have := congrArg List.length hz; simp at this; omega, by rw [← hz], by rw [← e1.1]; simp [Function.comp_def], by rw [← e1.2]; simp [List.flatMap_eq_nil_iff], hw⟩

theorem arr_shut (hu : P.underlying t = some (.array n e)) (he : P.underlying e = some (.int q)) (hc : P.cellsOf e = 1) (ht : P.cellsOf t = n) (zs : List Int) (hn : zs.length = n) (hw : ∀ z ∈ zs, (Lit.int q z).wf = true) :
    DataW.Trod enc P W base sp held t (.agg (zs.map (Value.int q)).toArray) (.agg (zs.map fun z => .lit (.int q z))) [] := by
  refine ⟨2, ?_⟩
  rw [DataW.trod_step]
  unfold DataW.trodStep
  simp only [hu, Value.cells]
  rw [if_pos (by rw [ht]; simpa using hn), hc, show n = (zs.map (Value.int q)).toArray.toList.length by simpa using hn.symm, range_mapM (fun l => DataW.trod enc P W base sp held 1 e l), of_ints he zs hw]
  simp [Function.comp_def, List.flatMap_eq_nil_iff]
end
end Go.Proofs.YtllmlngfmcbaaaaGreatDoor

namespace Go.Proofs.YtllmlngfmcbaaaaGreatDoor
open Go.RowKit

theorem cells_of_tab2 {H : Type} {enc : TypeId × Value → H} {P : Program} {w : World} {base : Nat} {sp : Nat → Bool} {held : Bool} {fuel : Nat} {t t1 e : TypeId} {n m : Nat} {k : IntKind} {cs : List Value} {rows : List (List Int)} {p : List MemPlace}
    (ht : P.underlying t = some (.array n t1)) (ht1 : P.underlying t1 = some (.array m e)) (he : P.underlying e = some (.int k)) (hce : P.cellsOf e = 1) (hc1 : P.cellsOf t1 = m)
    (h : DataW.trod enc P w base sp held fuel t cs = some (.agg (rows.map (Lib.tabData k)), p)) (r : Nat) (zs : List Int) (hr : rows[r]? = some zs) (j : Nat) (z : Int) (hz : zs[j]? = some z) : cs[r * m + j]? = some (.int k z) := by
  cases fuel with
  | zero => simp [DataW.trod] at h
  | succ fuel =>
    simp only [DataW.trod, ht, hc1] at h
    split at h
    · rename_i hl
      obtain ⟨xs, hm, hx⟩ := Option.map_eq_some_iff.1 h
      have hxs : xs.map (·.1) = rows.map (Lib.tabData k : List Int → DataW H) := by
        have := congrArg Prod.fst hx
        simpa using this
      have hxl : xs.length = n := by simpa using Lib.mapM_length hm
      have hrn : r < n := by
        have h1 := (List.getElem?_eq_some_iff.1 hr).1
        have := congrArg List.length hxs
        simp at this
        omega
      obtain ⟨b, hb, hf⟩ := Lib.mapM_at hm r r (by simp [hrn])
      have hb1 : b.1 = Lib.tabData k zs := by
        have h2 : (xs.map (·.1))[r]? = some b.1 := by simp [hb]
        rw [hxs, List.getElem?_map, hr] at h2
        exact (Option.some.inj h2).symm
      have hbb : b = (Lib.tabData k zs, b.2) := by rw [← hb1]
      rw [hbb] at hf
      have hc := Lib.cells_of_tab ht1 he hce hc1 hf
      have hj : ((cs.drop (r * m)).take m)[j]? = some (.int k z) := by rw [hc, List.getElem?_map, hz]; rfl
      have hjm : j < m := by
        have := (List.getElem?_eq_some_iff.1 hj).1
        rw [List.length_take] at this
        omega
      rw [List.getElem?_take, if_pos hjm, List.getElem?_drop] at hj
      exact hj
    · cases h

theorem gTab0 : Tryz.prog.globalNamed "steward/blake.initial" = some 0 := by kernel_rfl
theorem gTab1 : Tryz.prog.globalNamed "steward/blake.permutations" = some 1 := by kernel_rfl
theorem gType0 : (Tryz.prog.globals[0]?).map (·.type) = some 89 := by kernel_rfl
theorem gType1 : (Tryz.prog.globals[1]?).map (·.type) = some 116 := by kernel_rfl
theorem cells43 : Tryz.prog.cellsOf 89 = 8 := by kernel_rfl
theorem cells42 : Tryz.prog.cellsOf 88 = 1 := by kernel_rfl
theorem cells70 : Tryz.prog.cellsOf 115 = 16 := by kernel_rfl
theorem cells5 : Tryz.prog.cellsOf 5 = 1 := by kernel_rfl
def permRows : List (List Int) := orderRows.map fun r => r.map fun (n : Nat) => (n : Int)
theorem permRows_data : (Rows.laid_steward_blake_permutations : DataW Unit) = .agg (permRows.map (Lib.tabData .u8)) := rfl
theorem permRows_at (r j : Nat) (hr : r < 10) (hj : j < 16) : ∃ zs, permRows[r]? = some zs ∧ zs[j]? = some ((perm r j : Nat) : Int) := by
  have h : ∀ r : Fin 10, ∀ j : Fin 16, (permRows[r.val]?).bind (·[j.val]?) = some ((perm r j : Nat) : Int) := by decide +kernel
  have := h ⟨r, hr⟩ ⟨j, hj⟩
  obtain ⟨zs, h1, h2⟩ := Option.bind_eq_some_iff.1 this
  exact ⟨zs, h1, h2⟩

/-- A heap with the tables laid, for the witnesses. -/
def blakeObj0 : Obj → Obj
  | .cells _ t frozen => .cells (wordsCells 8 iv).toArray t frozen
  | o => o
def blakeObj1 : Obj → Obj
  | .cells _ t frozen => .cells (orderRows.flatMap fun r => r.map fun (n : Nat) => Value.int .u8 (n : Int)).toArray t frozen
  | o => o
def blakeHeap (h : Array Obj) : Array Obj :=
  let h0 := h.modify 0 blakeObj0
  h0.modify 1 blakeObj1
/-- What a row says of its tables. -/
theorem tabs_laid {W : World} {rest : List (String × DataW Unit)} (h : laidMet Tryz.prog (("steward/blake.initial", Rows.laid_steward_blake_initial) :: ("steward/blake.permutations", Rows.laid_steward_blake_permutations) :: rest) W) : Tabs W := by
  have h1 : Lib.TabIs Tryz.prog W "steward/blake.initial" .u32 ivList := Lib.tabIs_of_head gTab0 gType0 Tryz.underlying89 Tryz.underlying88 cells42 cells43 h
  have h2 := laidMet.tail h
  obtain ⟨ps, ⟨g', t', cs, fuel, p, q, hg', ht', hvar, hd, _, _⟩, _⟩ := h2
  obtain rfl := Option.some.inj (gTab1.symm.trans hg')
  obtain rfl := Option.some.inj (gType1.symm.trans ht')
  rw [permRows_data] at hd
  have hcell : ∀ r j, r < 10 → j < 16 → W.cell? ⟨1, r * 16 + j, none⟩ = some (.int .u8 (perm r j : Nat)) := by
    intro r j hr hj
    obtain ⟨zs, hz1, hz2⟩ := permRows_at r j hr hj
    have hc := cells_of_tab2 Tryz.underlying116 Tryz.underlying115 Tryz.underlying5 cells5 cells70 hd r zs hz1 j _ hz2
    have hv := World.var?_cell hg' hvar (r * 16 + j)
    rw [hv]
    simpa using hc
  have c0 : W.cell? ⟨0, 0, none⟩ = some (.int .u32 (iv 0)) := h1.cell gTab0 0 (by decide)
  refine ⟨World.block_lt_of_cell? W _ c0, World.block_lt_of_cell? W _ (hcell 0 0 (by decide) (by decide)), fun i hi => h1.cell gTab0 i hi, fun r hr j v hv => ?_⟩
  have hj : j < 16 := by
    have := (List.getElem?_eq_some_iff.1 hv).1
    rwa [permCells_length] at this
  have hv' : (permCells (perm r))[j]? = some (.int .u8 (perm r j : Nat)) := by simp [permCells, hj]
  obtain rfl := Option.some.inj (hv'.symm.trans hv)
  exact hcell r j hr hj
end Go.Proofs.YtllmlngfmcbaaaaGreatDoor

namespace Go.Proofs.YtllmlngfmcbaaaaGreatDoor
open Go.RowKit

theorem gPowT : (Tryz.prog.globals[2]?).map (·.type) = some 119 := by kernel_rfl
theorem cellsP20 : Tryz.prog.cellsOf 119 = 20 := by kernel_rfl
theorem cellsU64 : Tryz.prog.cellsOf 93 = 1 := by kernel_rfl
theorem pow_list : Lib.pow10Tab = [1, 10, 100, 1000, 10000, 100000, 1000000, 10000000, 100000000, 1000000000, 10000000000, 100000000000, 1000000000000, 10000000000000, 100000000000000, 1000000000000000, 10000000000000000, 100000000000000000, 1000000000000000000, 10000000000000000000] := by decide +kernel
theorem gSyn : Tryz.prog.globalNamed "strconv.ErrSyntax" = some 4 := by kernel_rfl
theorem gSynT : (Tryz.prog.globals[4]?).map (·.type) = some 76 := by kernel_rfl
theorem gRng : Tryz.prog.globalNamed "strconv.ErrRange" = some 5 := by kernel_rfl
theorem gRngT : (Tryz.prog.globals[5]?).map (·.type) = some 76 := by kernel_rfl
theorem cellsErr : Tryz.prog.cellsOf 158 = 1 := by kernel_rfl
theorem cellsStr : Tryz.prog.cellsOf 9 = 1 := by kernel_rfl
theorem starErr : "*" ++ "errors.errorString" = "*errors.errorString" := by decide
theorem rowErr (u : TypeId) (h : Tryz.prog.typeName? 3 u = some "*errors.errorString") : u = 156 :=
  typeName_ptr_named (nm := "errors.errorString") (by rw [starErr]; kernel_rfl) (by kernel_rfl) (by decide) u (by rw [starErr]; exact h)
theorem maxL_shaped {W : World} (h : W.ShapedOpen Tryz.prog) : MaxL W := by
  obtain ⟨m, hm⟩ := cell_of_shapedOpen_int (zero := #[.int .i64 0]) (t := 3) (g := 3) h (of_decide_eq_true (by kernel_rfl)) (by kernel_rfl) rfl (by kernel_rfl) (by kernel_rfl) Tryz.underlying3
  exact ⟨World.block_lt_of_cell? W _ hm, m, hm⟩
theorem laidT {W : World} {d0 d1 d3 : String × DataW Unit} {rest : List (String × DataW Unit)} (hsh : W.ShapedOpen Tryz.prog)
    (h : laidMet Tryz.prog (d0 :: d1 :: ("internal/strconv.uint64pow10", Rows.laid_internal_strconv_uint64pow10) :: d3 :: ("strconv.ErrRange", Rows.laid_strconv_ErrRange) :: ("strconv.ErrSyntax", Rows.laid_strconv_ErrSyntax) :: ("steward/blake.initial", Rows.laid_steward_blake_initial) :: ("steward/blake.permutations", Rows.laid_steward_blake_permutations) :: rest) W) : LaidT W := by
  have h2 := laidMet.tail (laidMet.tail h)
  have h4 := laidMet.tail (laidMet.tail h2)
  obtain ⟨a0, s0, hv0, _, _, _⟩ := laid_sentinel h4 gRng gRngT Tryz.underlying76 rowErr Tryz.underlying156 Tryz.underlying158 rfl rfl Tryz.underlying9 cellsErr cellsStr
  have c0 : W.cell? ⟨5, 0, none⟩ = some (.iface 156 (.pointer (some a0))) := by simpa using World.var?_cell gRng hv0 0
  have h5 := laidMet.tail h4
  obtain ⟨a1, s1, hv1, _, _, _⟩ := laid_sentinel h5 gSyn gSynT Tryz.underlying76 rowErr Tryz.underlying156 Tryz.underlying158 rfl rfl Tryz.underlying9 cellsErr cellsStr
  have c1 : W.cell? ⟨4, 0, none⟩ = some (.iface 156 (.pointer (some a1))) := by simpa using World.var?_cell gSyn hv1 0
  refine ⟨tabs_laid (laidMet.tail h5), ?_, ⟨⟨World.block_lt_of_cell? W _ c1, _, _, c1⟩, World.block_lt_of_cell? W _ c0, _, _, c0⟩, maxL_shaped hsh⟩
  unfold Pow
  rw [pow_list]
  exact Lib.tabIs_of_head gPow gPowT Tryz.underlying119 Tryz.underlying93 cellsU64 cellsP20 h2

/-- The numbers of a datum. -/
def numsOf : DataW Unit → List Value
  | .agg ds => numsAll ds
  | .lit (.int k z) => [.int k z]
  | _ => []
where numsAll : List (DataW Unit) → List Value
  | [] => []
  | d :: r => numsOf d ++ numsAll r
def layAs (cs : Array Value) : Obj → Obj
  | .cells _ t frozen => .cells cs t frozen
  | o => o
noncomputable def low : Nat := (World.holding Tryz.prog default ⟨#[], #[], []⟩).heap.size
noncomputable def tokHeap (h : Array Obj) : Array Obj :=
  let h0 := h.modify 8 (layAs (numsOf Rows.laid_math_bits_deBruijn32tab).toArray)
  let h1 := h0.modify 9 (layAs (numsOf Rows.laid_math_bits_deBruijn64tab).toArray)
  let h2 := h1.modify 2 (layAs (numsOf Rows.laid_internal_strconv_uint64pow10).toArray)
  let h3 := h2.modify 7 (layAs (numsOf Rows.laid_unicode_utf8_acceptRanges).toArray)
  let h4 := h3.modify 5 (layAs #[.iface 156 (.pointer (some ⟨low, 0, none⟩))])
  let h5 := h4.modify 4 (layAs #[.iface 156 (.pointer (some ⟨low + 1, 0, none⟩))])
  let h6 := h5.modify 0 (layAs (numsOf Rows.laid_steward_blake_initial).toArray)
  let h7 := h6.modify 1 (layAs (numsOf Rows.laid_steward_blake_permutations).toArray)
  h7.modify 6 (layAs (numsOf Go.Pinned.utf8First).toArray)
noncomputable def tokWorld (os : Os) : World :=
  let w0 := World.holding Tryz.prog os ⟨#[.cells #[.string ⟨#[118, 97, 108, 117, 101, 32, 111, 117, 116, 32, 111, 102, 32, 114, 97, 110, 103, 101]⟩] 158, .cells #[.string ⟨#[105, 110, 118, 97, 108, 105, 100, 32, 115, 121, 110, 116, 97, 120]⟩] 158], #[], []⟩
  { w0 with heap := tokHeap w0.heap }
theorem tok_laid_met (os : Os) : laidMet Tryz.prog Rows.tokenSignsRow.laid ((tokWorld os).forCall (fun _ _ => 0) ⟨#[], #[.string ⟨#[]⟩], []⟩).memory :=
  laidMet_of_run' 8 (by kernel_rfl) (by kernel_rfl)
end Go.Proofs.YtllmlngfmcbaaaaGreatDoor

namespace Go.Proofs.YtllmlngfmcbaaaaGreatDoor
open Go.ChangeShapes Go.WideShapes Go.ChangeAt Go.RowKit

/-- The fields of a record: their types and offsets. -/
def fieldsOf (d : TypeDesc) : List (TypeId × Nat) := match d with
  | .struct fs => fs.toList.map fun f => (f.type, f.offset)
  | _ => []
theorem fieldsOf_struct {o : Option TypeDesc} {l : List (TypeId × Nat)} (h : o.map fieldsOf = some l) (hl : l ≠ []) : ∃ fs : Array Field, o = some (.struct fs) ∧ fs.toList.map (fun f => (f.type, f.offset)) = l := by
  cases o with
  | none => cases h
  | some d =>
    cases d with
    | struct fs => exact ⟨fs, rfl, Option.some.inj h⟩
    | _ => exact absurd (Option.some.inj h).symm hl
section
variable {H : Type} {enc : TypeId × Value → H} {P : Program} {t : TypeId} {W : World} {base : Nat} {sp : Nat → Bool} {held : Bool}
theorem rec_open {l : List (TypeId × Nat)} (hu : (P.underlying t).map fieldsOf = some l) (hl : l ≠ []) {r : Reach} {b0 : Nat} {v : Value} {d : DataW H} {ps : List MemPlace}
    (hval : Value.okWide P W r b0 t v) (hd : DataW.Trod enc P W base sp held t v d ps) :
    ∃ (cs : Array Value) (xs : List (DataW H × List MemPlace)) (n : Nat), v = .agg cs ∧ cs.toList.length = P.cellsOf t ∧ d = .agg (xs.map (·.1)) ∧ ps = xs.flatMap (·.2) ∧ xs.length = l.length ∧
      ∀ (i : Nat) (u : TypeId) (o : Nat), l[i]? = some (u, o) → DataW.trod enc P W base sp held n u ((cs.toList.drop o).take (P.cellsOf u)) = xs[i]? := by
  obtain ⟨fs, hs, rfl⟩ := fieldsOf_struct hu hl
  obtain ⟨cs, rfl, hc⟩ := okWide_struct hs hval
  obtain ⟨fuel, hf⟩ := hd
  obtain ⟨xs, n, _, hx, h1, h2, h3⟩ := DataW.trod_struct hs hf
  simp only [Prod.mk.injEq] at hx
  refine ⟨cs, xs, n, rfl, h1, hx.1, hx.2, by simpa using h2, fun i u o hi => ?_⟩
  rw [List.getElem?_map] at hi
  obtain ⟨f, hf', he⟩ := Option.map_eq_some_iff.1 hi
  simp only [Prod.mk.injEq] at he
  obtain ⟨rfl, rfl⟩ := he
  exact h3 i f (by simpa using hf')
theorem rec_shut {l : List (TypeId × Nat)} (hu : (P.underlying t).map fieldsOf = some l) (hl : l ≠ []) (cs : List Value) (xs : List (DataW H × List MemPlace)) (n : Nat) (hc : cs.length = P.cellsOf t)
    (hm : l.mapM (fun q => DataW.trod enc P W base sp held n q.1 ((cs.drop q.2).take (P.cellsOf q.1))) = some xs) : DataW.Trod enc P W base sp held t (.agg cs.toArray) (.agg (xs.map (·.1))) (xs.flatMap (·.2)) := by
  obtain ⟨fs, hs, rfl⟩ := fieldsOf_struct hu hl
  refine ⟨n + 1, ?_⟩
  have := trod_struct_mk (enc := enc) (w := W) (base := base) (spare := sp) (held := held) (n := n) (cs := cs) (xs := xs) hs hc (by rw [List.mapM_map] at hm; exact hm)
  exact this
end
theorem one_cell {cs : List Value} {i : Nat} {v : Value} (h : (cs.drop i).take 1 = [v]) : cs[i]? = some v := by
  have h1 : ((cs.drop i).take 1)[0]? = some v := by rw [h]; rfl
  rw [List.getElem?_take, if_pos (by decide), List.getElem?_drop] at h1
  exact h1
end Go.Proofs.YtllmlngfmcbaaaaGreatDoor

namespace Go.Proofs.YtllmlngfmcbaaaaGreatDoor
open Go.ChangeShapes Go.WideShapes Go.ChangeAt Go.RowKit

theorem backU : (Tryz.prog.underlying 33).map fieldsOf = some [(9, 0), (9, 1), (3, 2), (3, 3)] := by kernel_rfl
theorem backC : Tryz.prog.cellsOf 33 = 4 := by kernel_rfl
theorem cellsStr1 : Tryz.prog.cellsOf 9 = 1 := by kernel_rfl
theorem cellsInt1 : Tryz.prog.cellsOf 3 = 1 := by kernel_rfl
section
variable {H : Type} {enc : TypeId × Value → H} {W : World} {base : Nat} {sp : Nat → Bool} {held : Bool}
set_option maxRecDepth 100000 in
theorem back_open {r : Reach} {b0 : Nat} {v : Value} {d : DataW H} {ps : List MemPlace} (hval : Value.okWide Tryz.prog W r b0 33 v) (hd : DataW.Trod enc Tryz.prog W base sp held 33 v d ps) :
    ∃ (k n : ByteArray) (u m : Int), v = .agg #[.string k, .string n, .int .i64 u, .int .i64 m] ∧ d = .agg [.lit (.string k.data.toList), .lit (.string n.data.toList), .lit (.int .i64 u), .lit (.int .i64 m)] ∧ ps = [] ∧
      (k.size ≤ maxLen ∧ n.size ≤ maxLen ∧ (Lit.int .i64 u).wf = true ∧ (Lit.int .i64 m).wf = true) := by
  obtain ⟨cs, xs, q, rfl, hc, rfl, rfl, hx, hf⟩ := rec_open backU (List.cons_ne_nil _ _) hval hd
  rw [backC] at hc
  have f0 := hf 0 _ _ rfl
  have f1 := hf 1 _ _ rfl
  have f2 := hf 2 _ _ rfl
  have f3 := hf 3 _ _ rfl
  match xs, hx with
  | [y0, y1, y2, y3], _ =>
    rw [cellsStr1] at f0 f1
    rw [cellsInt1] at f2 f3
    obtain ⟨k, e0, rfl, s0⟩ := DataW.trod_string Tryz.underlying9 f0
    obtain ⟨n, e1, rfl, s1⟩ := DataW.trod_string Tryz.underlying9 f1
    obtain ⟨u, e2, rfl, s2⟩ := DataW.trod_int Tryz.underlying3 f2
    obtain ⟨m, e3, rfl, s3⟩ := DataW.trod_int Tryz.underlying3 f3
    have g0 := one_cell e0
    have g1 := one_cell e1
    have g2 := one_cell e2
    have g3 := one_cell e3
    obtain ⟨l, hl⟩ : ∃ l, l = cs.toList := ⟨_, rfl⟩
    rw [← hl] at hc g0 g1 g2 g3
    match l, hc with
    | [a, b, c, z], _ =>
      obtain rfl : a = _ := Option.some.inj g0
      obtain rfl : b = _ := Option.some.inj g1
      obtain rfl : c = _ := Option.some.inj g2
      obtain rfl : z = _ := Option.some.inj g3
      refine ⟨k, n, u, m, ?_, rfl, rfl, s0, s1, s2, s3⟩
      rw [← Array.toArray_toList (xs := cs), ← hl]
set_option maxRecDepth 100000 in
theorem back_shut (k n : ByteArray) (u m : Int) (h : k.size ≤ maxLen ∧ n.size ≤ maxLen ∧ (Lit.int .i64 u).wf = true ∧ (Lit.int .i64 m).wf = true) :
    DataW.Trod enc Tryz.prog W base sp held 33 (.agg #[.string k, .string n, .int .i64 u, .int .i64 m]) (.agg [.lit (.string k.data.toList), .lit (.string n.data.toList), .lit (.int .i64 u), .lit (.int .i64 m)]) [] := by
  obtain ⟨s0, s1, s2, s3⟩ := h
  have h0 : DataW.trod enc Tryz.prog W base sp held 1 9 [.string k] = some (.lit (.string k.data.toList), []) := by simp [DataW.trod, Tryz.underlying9, s0]
  have h1 : DataW.trod enc Tryz.prog W base sp held 1 9 [.string n] = some (.lit (.string n.data.toList), []) := by simp [DataW.trod, Tryz.underlying9, s1]
  have h2 : DataW.trod enc Tryz.prog W base sp held 1 3 [.int .i64 u] = some (.lit (.int .i64 u), []) := trod_int_mk 0 Tryz.underlying3 s2
  have h3 : DataW.trod enc Tryz.prog W base sp held 1 3 [.int .i64 m] = some (.lit (.int .i64 m), []) := trod_int_mk 0 Tryz.underlying3 s3
  exact rec_shut (enc := enc) (W := W) (base := base) (sp := sp) (held := held) backU (List.cons_ne_nil _ _) [.string k, .string n, .int .i64 u, .int .i64 m] [(.lit (.string k.data.toList), []), (.lit (.string n.data.toList), []), (.lit (.int .i64 u), []), (.lit (.int .i64 m), [])] 1 (by rw [backC]; rfl)
    (by simp [cellsStr1, cellsInt1, h0, h1, h2, h3])
end
end Go.Proofs.YtllmlngfmcbaaaaGreatDoor
