/- Packed: TabsS, Keep, FldC, FldD, Mch, HdM, HdN, HeA, HeB, FldE. -/
import Derived.Lib.SliceRun
import Derived.Laws.IdiomCopy
import Derived.Laws.OwnMore
import Derived.Outline
import Derived.Maps.AppendAt
import Derived.IntWalk
import Derived.WalkSpells
import Derived.Deep.QuietTactic
import Derived.BigQuiet
import Derived.Deep.MidRow
import Derived.Test.YtbbphklhnngjmaaGreatDoorS00
import Derived.Test.YtbbphklhnngjmaaGreatDoorS03
import Derived.Test.YtbbphklhnngjmaaGreatDoorS05
import Derived.Test.YtbbphklhnngjmaaGreatDoorS07
import Derived.Test.YtbbphklhnngjmaaGreatDoorS08
/- What a row of start says of its variables: the library's and the table of words; a world that lays them; the parameter of StartLines. -/
namespace Go.Proofs.YtbbphklhnngjmaaGreatDoor
open Go.ChangeShapes Go.WideShapes Go.ChangeAt Go.RowKit

theorem two_of {α : Type} {l : List α} (h : l.length = 2) : ∃ a b, l = [a, b] := by
  match l, h with
  | [a, b], _ => exact ⟨a, b, rfl⟩
theorem cells_of_recs {H : Type} {enc : TypeId × Value → H} {P : Program} {w : World} {base : Nat} {sp : Nat → Bool} {held : Bool} {fuel : Nat} {t t1 ti ts : TypeId} {n : Nat} {k : IntKind} {cs : List Value} {rows : List (Int × List UInt8)} {p : List MemPlace}
    (ht : P.underlying t = some (.array n t1)) (hf : (P.underlying t1).map fieldsOf = some [(ti, 0), (ts, 1)]) (h1 : P.cellsOf t1 = 2) (hi1 : P.cellsOf ti = 1) (hs1 : P.cellsOf ts = 1) (hi : P.underlying ti = some (.int k)) (hs : P.underlying ts = some .string)
    (h : DataW.trod enc P w base sp held fuel t cs = some (.agg (rows.map fun q => .agg [.lit (.int k q.1), .lit (.string q.2)]), p)) (r : Nat) (q : Int × List UInt8) (hr : rows[r]? = some q) :
    cs[r * 2]? = some (.int k q.1) ∧ cs[r * 2 + 1]? = some (.string ⟨q.2.toArray⟩) := by
  obtain ⟨fs, hfs, hl⟩ := fieldsOf_struct hf (List.cons_ne_nil _ _)
  obtain ⟨xs, m, _, hx, _, hxn, hat⟩ := DataW.trod_array ht h
  simp only [Prod.mk.injEq, DataW.agg.injEq] at hx
  have hlen : rows.length = xs.length := by have := congrArg List.length hx.1; simpa using this
  have hrn : r < n := by have := (List.getElem?_eq_some_iff.1 hr).1; omega
  have hx1 := hat r hrn
  rw [h1] at hx1
  obtain ⟨y, hy⟩ : ∃ y, xs[r]? = some y := ⟨xs[r]'(by omega), by simp [show r < xs.length by omega]⟩
  have hy1 : y.1 = .agg [.lit (.int k q.1), .lit (.string q.2)] := by
    have h2 : (xs.map (·.1))[r]? = some y.1 := by simp [hy]
    rw [← hx.1, List.getElem?_map, hr] at h2
    exact (Option.some.inj h2).symm
  rw [hy] at hx1
  obtain ⟨zs, m2, _, hz, _, hzn, hzat⟩ := DataW.trod_struct hfs hx1
  have hy2 : y.1 = .agg (zs.map (·.1)) := by rw [hz]
  rw [hy1] at hy2
  injection hy2 with hy2
  obtain ⟨f0, f1, hfl⟩ := two_of (l := fs.toList) (by have := congrArg List.length hl; simpa using this)
  obtain ⟨a, b, rfl⟩ := two_of (l := zs) (by have := congrArg List.length hy2; simpa using this.symm)
  rw [hfl] at hl
  simp only [List.map_cons, List.map_nil, List.cons.injEq, Prod.mk.injEq, and_true] at hl
  obtain ⟨⟨e0, o0⟩, e1, o1⟩ := hl
  have g0 := hzat 0 f0 (by rw [← Array.getElem?_toList, hfl]; rfl)
  have g1 := hzat 1 f1 (by rw [← Array.getElem?_toList, hfl]; rfl)
  rw [e0, o0, hi1] at g0
  rw [e1, o1, hs1] at g1
  simp only [List.map_cons, List.map_nil, List.cons.injEq, and_true] at hy2
  obtain ⟨c, hc, hca, _⟩ := DataW.trod_int hi g0
  obtain ⟨s, hsc, hsa, _⟩ := DataW.trod_string hs g1
  have ea : q.1 = c := by
    have := hy2.1
    rw [hca] at this
    simpa using this
  have eb : q.2 = s.data.toList := by
    have := hy2.2
    rw [hsa] at this
    simpa using this
  have k0 := one_cellR hc
  have k1 := one_cellR hsc
  rw [List.getElem?_take, if_pos (by decide), List.getElem?_drop] at k0 k1
  refine ⟨by rw [ea]; exact k0, ?_⟩
  rw [k1, eb]
theorem gRea : Tryz.prog.globalNamed "steward/start.reasons" = some 0 := by kernel_rfl
theorem gReaT : (Tryz.prog.globals[0]?).map (·.type) = some 141 := by kernel_rfl
theorem staU : (Tryz.prog.underlying 29).map fieldsOf = some [(3, 0), (9, 1)] := by kernel_rfl
theorem staC : Tryz.prog.cellsOf 29 = 2 := by kernel_rfl
theorem cellsInt1 : Tryz.prog.cellsOf 3 = 1 := by kernel_rfl
theorem cellsStr1 : Tryz.prog.cellsOf 9 = 1 := by kernel_rfl
def reasR : List (Int × List UInt8) := codes.map fun c => (c, reasonL c)
theorem reasR_data : (Rows.laid_steward_start_reasons : DataW Unit) = .agg (reasR.map fun q => .agg [.lit (.int .i64 q.1), .lit (.string q.2)]) := by rfl
theorem reasR_at (r : Nat) (h : r < 7) : ∃ q, reasR[r]? = some q ∧ reasC[r * 2]? = some (.int .i64 q.1) ∧ reasC[r * 2 + 1]? = some (.string ⟨q.2.toArray⟩) := by
  match r, h with
  | 0, _ => exact ⟨_, rfl, rfl, rfl⟩
  | 1, _ => exact ⟨_, rfl, rfl, rfl⟩
  | 2, _ => exact ⟨_, rfl, rfl, rfl⟩
  | 3, _ => exact ⟨_, rfl, rfl, rfl⟩
  | 4, _ => exact ⟨_, rfl, rfl, rfl⟩
  | 5, _ => exact ⟨_, rfl, rfl, rfl⟩
  | 6, _ => exact ⟨_, rfl, rfl, rfl⟩
theorem reas_laid {W : World} {rest : List (String × DataW Unit)} (h : laidMet Tryz.prog (("steward/start.reasons", Rows.laid_steward_start_reasons) :: rest) W) : Reas W := by
  rw [reasR_data] at h
  obtain ⟨ps, ⟨g', t', cs, fuel, p, q, hg', ht', hvar, hd, _, _⟩, _⟩ := h
  obtain rfl := Option.some.inj (gRea.symm.trans hg')
  obtain rfl := Option.some.inj (gReaT.symm.trans ht')
  have hall := cells_of_recs Tryz.underlying141 staU staC cellsInt1 cellsStr1 Tryz.underlying3 Tryz.underlying9 hd
  have hc : ∀ (j : Nat) (v : Value), reasC[j]? = some v → cs.toList[j]? = some v := by
    intro j v hv
    have hj : j < 14 := by
      obtain ⟨hlt, _⟩ := List.getElem?_eq_some_iff.1 hv
      exact hlt
    obtain ⟨q, hq, h0, h1⟩ := reasR_at (j / 2) (by omega)
    obtain ⟨k0, k1⟩ := hall (j / 2) q hq
    by_cases he : j % 2 = 0
    · have e : j / 2 * 2 = j := by omega
      rw [e] at h0 k0
      rw [k0, ← h0, hv]
    · have e : j / 2 * 2 + 1 = j := by omega
      rw [e] at h1 k1
      rw [k1, ← h1, hv]
  have hcell : ∀ (j : Nat) (v : Value), reasC[j]? = some v → W.cell? ⟨0, j, none⟩ = some v := fun j v hv => by
    have h2 := World.var?_cell gRea hvar j
    rw [h2]
    simpa using hc j v hv
  exact ⟨World.block_lt_of_cell? W _ (hcell 0 _ rfl), fun j v hv => by rw [Nat.zero_add]; exact hcell j v hv⟩
theorem laidS {W : World} {d0 d3 : String × DataW Unit} {rest : List (String × DataW Unit)} (hsh : W.ShapedOpen Tryz.prog)
    (h : laidMet Tryz.prog (d0 :: ("math/bits.deBruijn64tab", Rows.laid_math_bits_deBruijn64tab) :: ("internal/strconv.uint64pow10", Rows.laid_internal_strconv_uint64pow10) :: d3 :: ("strconv.ErrRange", Rows.laid_strconv_ErrRange) :: ("strconv.ErrSyntax", Rows.laid_strconv_ErrSyntax) :: ("steward/start.reasons", Rows.laid_steward_start_reasons) :: rest) W) : LaidS W :=
  ⟨maxL_shaped hsh, (laid5 hsh h).1, pow_laid h, reas_laid (laidMet.tail (laidMet.tail (laidMet.tail (laidMet.tail (laidMet.tail (laidMet.tail h))))))⟩
noncomputable def stHeap (h : Array Obj) : Array Obj := (octHeap h).modify 0 (layAs reasC.toArray)
noncomputable def stWorld (os : Os) : World := { octWorld os with heap := (octWorld os).heap.modify 0 (layAs reasC.toArray) }

end Go.Proofs.YtbbphklhnngjmaaGreatDoor

/- Memory of an object that lies in some blocks G, its own: what a call that writes there leaves as it was. -/
namespace Go.Proofs.YtbbphklhnngjmaaGreatDoor
open Go.RowKit

/-- Nothing has changed but blocks of G and new ones. -/
structure Keep (G : Nat → Prop) (w w' : World) : Prop where
  os : w'.os = w.os
  tape : w'.tape = w.tape
  output : w'.output = w.output
  size : w.heap.size ≤ w'.heap.size
  block : ∀ k, k < w.heap.size → ¬ G k → w'.heap[k]? = w.heap[k]?
/-- The blocks to come are G's. -/
def Up (G : Nat → Prop) (w : World) : Prop := ∀ k, w.heap.size ≤ k → G k
/-- The first size is small enough for B. -/
def Floor (G : Nat → Prop) (B : Nat) : Prop := ∀ k, G k → B ≤ k
section
variable {G : Nat → Prop} {a w w' : World} {B : Nat}
theorem Keep.refl (G : Nat → Prop) (w : World) : Keep G w w := ⟨rfl, rfl, rfl, Nat.le_refl _, fun _ _ _ => rfl⟩
theorem Keep.trans {b c : World} (h : Keep G a b) (k : Keep G b c) : Keep G a c :=
  ⟨k.os.trans h.os, k.tape.trans h.tape, k.output.trans h.output, Nat.le_trans h.size k.size, fun i hi hn => (k.block i (Nat.lt_of_lt_of_le hi h.size) hn).trans (h.block i hi hn)⟩
theorem Keep.of_below (h : Below w.heap.size w w') : Keep G w w' := ⟨h.os, h.tape, h.output, h.size, fun k hk _ => h.block k hk⟩
theorem Keep.more {G' : Nat → Prop} (h : Keep G w w') (hg : ∀ k, k < w.heap.size → G k → G' k) : Keep G' w w' := ⟨h.os, h.tape, h.output, h.size, fun k hk hn => h.block k hk (fun hk2 => hn (hg k hk hk2))⟩
theorem Keep.bel (h : Keep G w w') (hf : Floor G B) (hB : B ≤ w.heap.size) : Below B w w' :=
  ⟨h.os, h.tape, h.output, h.size, fun k hk => h.block k (by omega) (fun hg => by have := hf k hg; omega)⟩
theorem Keep.grown {row : Option Nat} (hg : w.grownBy w' row) (hr : ∀ k, row = some k → G k) : Keep G w w' :=
  ⟨hg.os, hg.tape, hg.output, hg.size, fun k hk hn => hg.block k hk (fun e => hn (hr k e.symm))⟩
theorem Keep.setCell (w : World) {p : Addr} (hp : G p.block) (u : Value) : Keep G w (w.setCell p u) :=
  ⟨rfl, rfl, rfl, by simp [World.setCell], fun k _ hn => Below.heap_setCell w p u k (fun e => hn (by rw [e]; exact hp))⟩
theorem Keep.alloc (w : World) (o : Obj) : Keep G w (w.alloc o) := .of_below (below_alloc w o)
theorem Keep.drew (w : World) : Keep G w w.drew := ⟨rfl, rfl, rfl, Nat.le_refl _, fun _ _ _ => rfl⟩
theorem Keep.drewN (w : World) (n : Nat) : Keep G w (w.drewN n) := ⟨rfl, rfl, rfl, Nat.le_refl _, fun _ _ _ => rfl⟩
theorem Up.keep (h : Up G w) (hk : Keep G w w') : Up G w' := fun k hk2 => h k (Nat.le_trans hk.size hk2)
theorem Up.below (h : Up G w) (hk : Below w.heap.size w w') : Up G w' := fun k hk2 => h k (Nat.le_trans hk.size hk2)
end

/-- Block g is just these cells; none is frozen. -/
def Row (w : World) (g : Nat) (t : TypeId) (cs : Array Value) : Prop := w.heap[g]? = some (.cells cs t (0, 0))
section
variable {w w' : World} {g : Nat} {t : TypeId} {cs : Array Value} {G : Nat → Prop}
theorem Row.lt (h : Row w g t cs) : g < w.heap.size := (Array.getElem?_eq_some_iff.1 h).1
theorem Row.cell (h : Row w g t cs) (i : Nat) : w.cell? ⟨g, i, none⟩ = cs[i]? := cell_of_row w g i cs t (0, 0) h
theorem Row.free (h : Row w g t cs) (i : Nat) : w.frozen? ⟨g, i, none⟩ = false := by
  unfold Row at h
  simp [World.frozen?, h]
theorem Row.new (w : World) (t : TypeId) (cs : Array Value) : Row (w.alloc (.cells cs t)) w.heap.size t cs := heap_alloc_new w _
theorem Row.keep (h : Row w g t cs) (hk : Keep G w w') (hg : ¬ G g) : Row w' g t cs := (hk.block g h.lt hg).trans h
theorem Row.below (h : Row w g t cs) (hb : Below w.heap.size w w') : Row w' g t cs := (hb.block g h.lt).trans h
theorem Row.grown {row : Option Nat} (h : Row w g t cs) (hb : w.grownBy w' row) (hg : row ≠ some g) : Row w' g t cs := (hb.block g h.lt (fun e => hg e.symm)).trans h
theorem Row.alloc (h : Row w g t cs) (o : Obj) : Row (w.alloc o) g t cs := h.below (below_alloc w o)
theorem Row.put (h : Row w g t cs) (i : Nat) (u : Value) : Row (w.setCell ⟨g, i, none⟩ u) g t (cs.setIfInBounds i u) := by
  unfold Row at h ⊢
  simp [World.setCell, Array.getElem?_modify, h]
theorem Row.far (h : Row w g t cs) {p : Addr} (hp : g ≠ p.block) (u : Value) : Row (w.setCell p u) g t cs := (Below.heap_setCell w p u g hp).trans h
theorem Row.drew (h : Row w g t cs) : Row w.drew g t cs := h
theorem Row.drewN (h : Row w g t cs) (n : Nat) : Row (w.drewN n) g t cs := h
end

/-- A row of elements that the object owns. -/
def Own (w : World) (e : TypeId) (n : Nat) (v : Value) (m : Nat) (xs : List Value) : Prop := w.ownsRow 0 e n v m xs
theorem own_lt {w : World} {e : TypeId} {n m : Nat} {v : Value} {xs : List Value} (h : w.ownsRow 0 e n v m xs) {k : Nat} (hk : v.ownBlock = some k) : k < w.heap.size := (h.lt k hk).2
theorem own_ne {w : World} {e t : TypeId} {n m g : Nat} {v : Value} {xs : List Value} {cs : Array Value} (h : w.ownsRow 0 e n v m xs) (hg : Row w g t cs) (hne : e ≠ t) : v.ownBlock ≠ some g := by
  obtain ⟨_, ⟨rfl, _⟩ | ⟨k, cap, cur, rfl, _, hk, _⟩⟩ := h
  · simp [Value.ownBlock]
  · intro he
    have : k = g := by simpa [Value.ownBlock] using he
    subst this
    unfold Row at hg
    rw [hk] at hg
    injection hg with h2
    injection h2 with _ h3
    exact hne h3
theorem own_keep {w w' : World} {G : Nat → Prop} {e : TypeId} {n m : Nat} {v : Value} {xs : List Value} (h : w.ownsRow 0 e n v m xs) (hk : Keep G w w') (hg : ∀ k, v.ownBlock = some k → ¬ G k) : w'.ownsRow 0 e n v m xs := by
  obtain ⟨hl, h0 | ⟨g, cap, cur, rfl, hb, hc, r⟩⟩ := h
  · exact ⟨hl, .inl h0⟩
  · exact ⟨hl, .inr ⟨g, cap, cur, rfl, hb, (hk.block g (Array.getElem?_eq_some_iff.1 hc).1 (hg g rfl)).trans hc, r⟩⟩
theorem own_bel {w w' : World} {e : TypeId} {n m : Nat} {v : Value} {xs : List Value} (h : w.ownsRow 0 e n v m xs) (hb : Below w.heap.size w w') : w'.ownsRow 0 e n v m xs :=
  own_keep (G := fun _ => False) h (.of_below hb) (fun _ _ h => h)
theorem own_grown {w w' : World} {row : Option Nat} {e : TypeId} {n m : Nat} {v : Value} {xs : List Value} (h : w.ownsRow 0 e n v m xs) (hg : w.grownBy w' row) (hr : ∀ k, v.ownBlock = some k → row ≠ some k) : w'.ownsRow 0 e n v m xs :=
  own_keep (G := fun k => row = some k) h (.grown hg (fun _ h => h)) hr
theorem own_set {w : World} {e t : TypeId} {n m g i : Nat} {v : Value} {xs : List Value} {cs : Array Value} (h : w.ownsRow 0 e n v m xs) (hg : Row w g t cs) (hne : e ≠ t) (u : Value) : (w.setCell ⟨g, i, none⟩ u).ownsRow 0 e n v m xs :=
  own_keep (G := fun k => k = g) h (Keep.setCell (G := fun k => k = g) w (p := ⟨g, i, none⟩) rfl u) (fun k hk e => own_ne h hg hne (by rw [hk, e]))
theorem own_slice {w : World} {base : Nat} {e : TypeId} {n m : Nat} {v : Value} {xs : List Value} (h : w.ownsRow base e n v m xs) : ∃ a c, v = .slice a m c := by
  obtain ⟨_, ⟨rfl, h0⟩ | ⟨g, cap, cur, rfl, _⟩⟩ := h
  · exact ⟨none, 0, by rw [h0]⟩
  · exact ⟨_, _, rfl⟩
theorem own_len {w : World} {base : Nat} {e : TypeId} {n m m' : Nat} {v : Value} {xs : List Value} (h : w.ownsRow base e n v m xs) (he : m = m') : w.ownsRow base e n v m' xs := he ▸ h
end Go.Proofs.YtbbphklhnngjmaaGreatDoor

/- Slices of fields; has, IndexFunc. -/
namespace Go.Proofs.YtbbphklhnngjmaaGreatDoor
open Go.RowKit

/-- A slice that reads as these fields. -/
def IsFlds (w : World) (a : Option Addr) (c : Nat) (fs : List Fld) : Prop :=
  fs = [] ∨ ∃ bk o, a = some ⟨bk, o, none⟩ ∧ bk < w.heap.size ∧ fs.length ≤ c ∧ ∀ (j : Nat) f, fs[j]? = some f → w.cell? ⟨bk, o + j * 2, none⟩ = some (.string (bs f.1)) ∧ w.cell? ⟨bk, o + j * 2 + 1, none⟩ = some (.string (bs f.2))
theorem IsFlds.below {w w' : World} {a : Option Addr} {c : Nat} {fs : List Fld} (h : IsFlds w a c fs) (hb : Below w.heap.size w w') : IsFlds w' a c fs := by
  obtain h | ⟨bk, o, ha, hlt, hc, hcell⟩ := h
  · exact .inl h
  · obtain ⟨hc', _⟩ := bcell hb
    exact .inr ⟨bk, o, ha, Nat.lt_of_lt_of_le hlt hb.size, hc, fun j f hf => by rw [hc' _ _ hlt, hc' _ _ hlt]; exact hcell j f hf⟩
/-- Is a field's name among these? -/
def hasB (xs : List ByteArray) (f : Fld) : Bool := xs.any fun x => decide (x.data.toList.map lowC = f.1.map lowC)
theorem hasB_no {xs : List ByteArray} {f : Fld} {j : Nat} (hj : j < xs.length) (h : hasB (xs.take j) f = false) (hq : decide (xs[j].data.toList.map lowC = f.1.map lowC) = false) : hasB (xs.take (j + 1)) f = false := by
  unfold hasB at h ⊢
  rw [List.take_add_one, List.getElem?_eq_getElem hj, Option.toList_some, List.any_append, h]
  simp only [List.any_cons, List.any_nil, Bool.or_false, Bool.false_or]
  exact hq
theorem hasB_yes {xs : List ByteArray} {f : Fld} {j : Nat} (hj : j < xs.length) (hq : decide (xs[j].data.toList.map lowC = f.1.map lowC) = true) : hasB xs f = true := by
  unfold hasB
  rw [List.any_eq_true]
  exact ⟨xs[j], List.getElem_mem hj, hq⟩
set_option maxRecDepth 100000 in
set_option maxHeartbeats 2000000 in
theorem has72 (a : Option Addr) (c : Nat) (xs : List ByteArray) (f : Fld) (hx1 : xs.length ≤ 1000000000) (h1 : f.1.length ≤ 4000000000) (R : Bool) (hR : R = hasB xs f) (w : World) (hx : IsStrs w a c xs) :
    Calls Tryz.prog 80 #[.slice a xs.length c, fldV f] w fun e w' => e = .returned (.bool R) ∧ Below w.heap.size w w' := by
  have HR := Lib.hid hR
  have HX := Lib.hid hx
  obtain ⟨n, v⟩ := f
  have L0 := below_alloc w (.cells #[.string (bs n), .string (bs v)] 62)
  have c0 : (w.alloc (.cells #[.string (bs n), .string (bs v)] 62)).cell? ⟨w.heap.size, 0, none⟩ = some (.string (bs n)) := by simp
  have hz0 : w.heap.size < (w.alloc (.cells #[.string (bs n), .string (bs v)] 62)).heap.size := by simp
  clear hR hx
  unfold fldV
  simp only
  simp only at h1
  go_enter Tryz.func80, Tryz.ntmps80
  go_wp2_with fail
  generalize World.alloc w _ = w0 at *
  go_loopw [9] (fun i wr => ∃ j : Nat, j ≤ xs.length ∧ i = .int .i64 (j : Int) ∧ Hid (hasB (xs.take j) (n, v) = false) ∧ Below w.heap.size w wr ∧ Below w0.heap.size w0 wr) (fun i _ => xs.length - (intOf i).toNat)
  case atStart => exact ⟨0, Nat.zero_le _, rfl, by simp [Hid, hasB], L0, Below.refl _ _⟩
  case round =>
    obtain ⟨j, hj, rfl, hno, hb, hb0⟩ := hrel
    by_cases hlt : j < xs.length
    · obtain h0 | ⟨bk, o, rfl, hbk, hc, hcell⟩ := HX.out.below hb
      · subst h0; simp at hlt
      have cj := hcell j xs[j] (by simp [hlt])
      have cn : wr.cell? ⟨w.heap.size, 0, none⟩ = some (.string (bs n)) := by rw [(bcell hb0).1 _ _ hz0]; exact c0
      obtain ⟨q, hq⟩ : ∃ q, q = decide (xs[j].data.toList.map lowC = n.map lowC) := ⟨_, rfl⟩
      have HF := Lib.hid (fun W => fold22 xs[j] (bs n) (by rw [bs_size]; omega) q hq W)
      have HN : Hid (q = false → hasB (xs.take (j + 1)) (n, v) = false) := fun e => hasB_no hlt hno.out (hq ▸ e)
      have HY : Hid (q = true → hasB xs (n, v) = true) := fun e => hasB_yes hlt (hq ▸ e)
      clear hcell hq
      generalize xs[j] = x at cj HF
      go_wp2_with fail
      refine (HF.out wr).mono ?_
      rintro e w2 ⟨rfl, hb2⟩
      have b2 := hb.trans (hb2.mono hb.size)
      have b20 := hb0.trans (hb2.mono hb0.size)
      cases q
      · have HN2 := Lib.hid (HN.out rfl)
        clear HN HY
        go_wp2_with fail
        go_roundw
        case rel => exact ⟨j + 1, hlt, by go_num, HN2, b2, b20⟩
        case measure => simp [intOf]; omega
      · have HY2 := Lib.hid (HY.out rfl)
        clear HN HY
        go_wp2_with fail
        go_ret
        exact ⟨by rw [HR.out, HY2.out]; rfl, b2⟩
    · have hn := hno.out
      rw [List.take_of_length_le (by omega)] at hn
      have HN := Lib.hid hn
      clear hn hno
      go_wp2_with fail
      go_ret
      exact ⟨by rw [HR.out, HN.out]; rfl, hb⟩
/-- The first place of a field with such a name; -1: there is none. -/
def findI (xs : List ByteArray) (fs : List Fld) : Int := match fs.findIdx? (hasB xs) with
  | some i => (i : Int)
  | none => -1
theorem findI_no {xs : List ByteArray} {fs : List Fld} (h : ∀ f ∈ fs, hasB xs f = false) : findI xs fs = -1 := by
  unfold findI
  rw [List.findIdx?_eq_none_iff.2 h]
theorem findI_at {xs : List ByteArray} {fs : List Fld} {j : Nat} (hj : j < fs.length) (h : ∀ f ∈ fs.take j, hasB xs f = false) (hq : hasB xs fs[j] = true) : findI xs fs = (j : Int) := by
  have : fs.findIdx? (hasB xs) = some j := by
    rw [List.findIdx?_eq_some_iff_getElem]
    refine ⟨hj, hq, fun i hi => ?_⟩
    have hm : fs[i] ∈ fs.take j := by
      rw [List.mem_take_iff_getElem]
      exact ⟨i, by omega, rfl⟩
    simp [h _ hm]
  unfold findI
  rw [this]
/-- Fields of a bounded length. -/
def FldOk (f : Fld) : Prop := f.1.length ≤ 4000000000 ∧ f.2.length ≤ 4000000000
/-- The function value: has of these names. -/
def hasV (a : Option Addr) (n c : Nat) : Value := .func (.func 80) #[.slice a n c] #[]
set_option maxRecDepth 100000 in
set_option maxHeartbeats 2000000 in
theorem index93 (a : Option Addr) (c : Nat) (fs : List Fld) (b : Option Addr) (d : Nat) (xs : List ByteArray) (hfl : fs.length ≤ 1000000000) (hx1 : xs.length ≤ 1000000000) (hok : ∀ f ∈ fs, FldOk f) (w : World) (hf : IsFlds w a c fs) (hx : IsStrs w b d xs) :
    Calls Tryz.prog 107 #[.slice a fs.length c, hasV b xs.length d] w fun e w' => e = .returned (.int .i64 (findI xs fs)) ∧ Below w.heap.size w w' := by
  obtain ⟨R, hR⟩ : ∃ R, R = findI xs fs := ⟨_, rfl⟩
  rw [← hR]
  have HR := Lib.hid hR
  have HX := Lib.hid hx
  have HFF := Lib.hid hf
  have HOK := Lib.hid hok
  clear hR hx hf hok
  unfold hasV
  go_enter Tryz.func107, Tryz.ntmps107
  go_wp2_with fail
  go_loopw [8] (fun i wr => ∃ j : Nat, j ≤ fs.length ∧ i = .int .i64 (j : Int) ∧ Hid (∀ f ∈ fs.take j, hasB xs f = false) ∧ Below w.heap.size w wr) (fun i _ => fs.length - (intOf i).toNat)
  case atStart => exact ⟨0, Nat.zero_le _, rfl, (fun f hf => by simp at hf), Below.refl _ _⟩
  case round =>
    obtain ⟨j, hj, rfl, hno, hb⟩ := hrel
    by_cases hlt : j < fs.length
    · obtain h0 | ⟨bk, o, rfl, hbk, hc, hcell⟩ := HFF.out.below hb
      · subst h0; simp at hlt
      obtain ⟨c1, c2⟩ := hcell j fs[j] (by simp [hlt])
      have hfo := HOK.out fs[j] (List.getElem_mem hlt)
      obtain ⟨q, hq⟩ : ∃ q, q = hasB xs fs[j] := ⟨_, rfl⟩
      have HF := Lib.hid (has72 b d xs fs[j] hx1 hfo.1 q hq wr (HX.out.below hb))
      have HN : Hid (q = false → ∀ f ∈ fs.take (j + 1), hasB xs f = false) := fun e f hf => by
        rw [List.take_add_one, List.getElem?_eq_getElem hlt, Option.toList_some, List.mem_append] at hf
        rcases hf with hf | hf
        · exact hno.out f hf
        · rw [List.mem_singleton] at hf; subst hf; rw [← hq, e]
      have HY : Hid (q = true → R = (j : Int)) := fun e => by rw [HR.out]; exact findI_at hlt hno.out (hq ▸ e)
      obtain ⟨f, hfe⟩ : ∃ f, f = fs[j] := ⟨_, rfl⟩
      rw [← hfe] at c1 c2 HF
      clear hcell hq hfo hfe
      obtain ⟨n, v⟩ := f
      have HF2 : Hid (Calls Tryz.prog 80 #[.slice b xs.length d, .agg #[.string (bs n), .string (bs v)]] wr fun e w' => e = .returned (.bool q) ∧ Below wr.heap.size wr w') := HF.out
      have c1' : wr.cell? ⟨bk, o + j * 2, none⟩ = some (.string (bs n)) := c1
      have c2' : wr.cell? ⟨bk, o + j * 2 + 1, none⟩ = some (.string (bs v)) := c2
      clear c1 c2 HF
      have j1 : (j : Int) < fs.length := by omega
      go_wp2_with fail
      refine HF2.out.mono ?_
      rintro e w2 ⟨rfl, hb2⟩
      have b2 := hb.trans (hb2.mono hb.size)
      cases q
      · have HN2 := Lib.hid (HN.out rfl)
        clear HN HY
        go_wp2_with fail
        go_roundw
        case rel => exact ⟨j + 1, hlt, by go_num, HN2, b2⟩
        case measure => simp [intOf]; omega
      · have HY2 := Lib.hid (HY.out rfl)
        clear HN HY
        go_wp2_with fail
        go_ret
        exact ⟨by rw [HY2.out]; rfl, b2⟩
    · have hn := hno.out
      rw [List.take_of_length_le (by omega)] at hn
      have HN : Hid (R = -1) := by
        have e := HR.out
        rw [findI_no hn] at e
        exact e
      clear hn hno
      go_wp2_with fail
      go_ret
      exact ⟨by rw [HN.out]; rfl, hb⟩
end Go.Proofs.YtbbphklhnngjmaaGreatDoor

/- fields: slices.Clone, slices.DeleteFunc, Drop. -/
namespace Go.Proofs.YtbbphklhnngjmaaGreatDoor
open Go.RowKit

/-- The cells of fields. -/
def cellsF (fs : List Fld) : List Value := fs.flatMap fun f => [.string (bs f.1), .string (bs f.2)]
theorem cellsF_length (fs : List Fld) : (cellsF fs).length = fs.length * 2 := by
  induction fs with
  | nil => rfl
  | cons f r ih => simp [cellsF] at ih ⊢; omega
theorem cellsF_at : ∀ (fs : List Fld) (j : Nat) (f : Fld), fs[j]? = some f → (cellsF fs)[j * 2]? = some (.string (bs f.1)) ∧ (cellsF fs)[j * 2 + 1]? = some (.string (bs f.2))
  | [], j, f, h => by simp at h
  | g :: r, 0, f, h => by
    obtain rfl : g = f := by simpa using h
    simp [cellsF]
  | g :: r, j + 1, f, h => by
    have ih := cellsF_at r j f (by simpa using h)
    have e : cellsF (g :: r) = .string (bs g.1) :: .string (bs g.2) :: cellsF r := rfl
    rw [e, show (j + 1) * 2 = j * 2 + 1 + 1 by omega, show j * 2 + 1 + 1 + 1 = (j * 2 + 1) + 1 + 1 by omega]
    simpa using ih
theorem cellsF_one (fs : List Fld) : ∀ u ∈ cellsF fs, u.oneCell' = true := by
  intro u hu
  unfold cellsF at hu
  obtain ⟨f, _, hf⟩ := List.mem_flatMap.1 hu
  simp at hf
  rcases hf with rfl | rfl <;> rfl
theorem isFlds_cells {w : World} {bk o : Nat} {fs : List Fld} (hcell : ∀ (j : Nat) f, fs[j]? = some f → w.cell? ⟨bk, o + j * 2, none⟩ = some (.string (bs f.1)) ∧ w.cell? ⟨bk, o + j * 2 + 1, none⟩ = some (.string (bs f.2))) :
    ∀ (k : Nat) u, (cellsF fs)[k]? = some u → w.cell? ((⟨bk, o, none⟩ : Addr).add k) = some u := by
  intro k u hu
  rw [Addr.add_mid]
  have hk := (List.getElem?_eq_some_iff.1 hu).1
  rw [cellsF_length] at hk
  have hj : k / 2 < fs.length := by omega
  have hf := List.getElem?_eq_getElem hj
  obtain ⟨h1, h2⟩ := hcell (k / 2) _ hf
  obtain ⟨g1, g2⟩ := cellsF_at fs (k / 2) _ hf
  rcases Nat.mod_two_eq_zero_or_one k with hm | hm
  · have e : k / 2 * 2 = k := by omega
    rw [e] at h1 g1
    rw [h1, ← hu, g1]
  · have e : k / 2 * 2 + 1 = k := by omega
    rw [show o + k / 2 * 2 + 1 = o + (k / 2 * 2 + 1) by omega, e] at h2
    rw [e] at g2
    rw [h2, ← hu, g2]
theorem infoFld : (Tryz.prog.info? 62).map (fun i => (i.zero, i.size, i.bytes)) = some (some (.agg #[.string ⟨#[]⟩, .string ⟨#[]⟩]), 2, 32) := by kernel_rfl
/-- A row that owns fields reads as them. -/
theorem own_isFlds {w : World} {base : Nat} {v : Value} {fs : List Fld} (h : w.ownsRow base 62 2 v fs.length (cellsF fs)) : ∃ a c, v = .slice a fs.length c ∧ IsFlds w a c fs := by
  obtain ⟨_, ⟨rfl, h0⟩ | ⟨g, cap, cur, rfl, _, hg, hcap, _, hcs, htk⟩⟩ := h
  · obtain rfl : fs = [] := List.eq_nil_of_length_eq_zero h0
    exact ⟨none, 0, rfl, .inl rfl⟩
  · refine ⟨some ⟨g, 0, none⟩, cap, rfl, .inr ⟨g, 0, rfl, (Array.getElem?_eq_some_iff.1 hg).1, hcap, fun j f hf => ?_⟩⟩
    obtain ⟨g1, g2⟩ := cellsF_at fs j f hf
    have hj := (List.getElem?_eq_some_iff.1 hf).1
    rw [← htk, List.getElem?_take, if_pos (by omega)] at g1 g2
    rw [Nat.zero_add]
    simp only [Array.getElem?_toList] at g1 g2
    exact ⟨by simp [World.cell?, hg, g1], by simp [World.cell?, hg, g2]⟩

set_option maxRecDepth 100000 in
set_option maxHeartbeats 2000000 in
theorem clone77 (a : Option Addr) (c : Nat) (fs : List Fld) (hfl : fs.length ≤ 1000000000) (ha : a = none → c = 0 ∧ fs = []) (w : World) (hf : IsFlds w a c fs) :
    Calls Tryz.prog 98 #[.slice a fs.length c] w fun e w' => ∃ v, e = .returned v ∧ w'.ownsRow w.heap.size 62 2 v fs.length (cellsF fs) ∧ Below w.heap.size w w' := by
  obtain ⟨i0, hi, hz0, hz1, hz2⟩ := info_parts infoFld
  have hnil := fun W (x : Option Addr) (n c' : Nat) => Lib.run_eql_slice_nil (P := Tryz.prog) W 31 62 x n c' 0 0 Tryz.underlying31
  cases a with
  | none =>
    obtain ⟨rfl, rfl⟩ := ha rfl
    have h1 := fun W => hnil W none 0 0
    clear hnil hf
    go_enter Tryz.func98, Tryz.ntmps98
    go_wp2_with fail
    go_ret
    exact ⟨_, rfl, World.ownsRow_nil _ _ _ _, Below.refl _ _⟩
  | some ad =>
    have h1 := fun W => hnil W (some ad) fs.length c
    have HF := Lib.hid hf
    have O0 : Hid ((w.alloc (.cells #[] 62)).ownsRow w.heap.size 62 2 (.slice (some ⟨w.heap.size, 0, none⟩) 0 0) 0 []) := World.ownsRow_lit w #[] 0 (Nat.le_refl _) (by decide) (by simp)
    have L0 := below_alloc w (.cells #[] 62)
    have hcells : Hid (∀ (k : Nat) u, (cellsF fs)[k]? = some u → (w.alloc (.cells #[] 62)).cell? (ad.add k) = some u) := by
      intro k u hu
      obtain h0 | ⟨bk, o, h2, hbk, hc, hcell⟩ := HF.out.below L0
      · subst h0; simp [cellsF] at hu
      · obtain rfl : ad = ⟨bk, o, none⟩ := by injection h2
        exact isFlds_cells hcell k u hu
    have hlen := cellsF_length fs
    have HL := Lib.hid hlen
    clear hnil hf ha hlen HF
    go_enter Tryz.func98, Tryz.ntmps98
    go_wp2_with (at_builtin; refine wpList_append_own _ rfl _ _ 31 rfl w.heap.size 62 i0 (.agg #[.string ⟨#[]⟩, .string ⟨#[]⟩]) 2 32 Tryz.underlying31 hi hz0 hz1 hz2 rfl (by decide) _ _ _ rfl O0.out ad fs.length c (cellsF fs) rfl HL.out hcells.out (cellsF_one fs) (by unfold maxLen; omega) (by omega) (by simp) ?_)
    intro v' w1 hown' hgrow _
    have hb1 : Below w.heap.size w w1 := L0.grown hgrow (by simp) (fun k hk => by simp [Value.ownBlock] at hk; omega)
    have HO := Lib.hid hown'
    clear hown' hgrow O0 hcells
    go_wp2_with fail
    go_ret
    exact ⟨_, rfl, HO.out, hb1⟩
end Go.Proofs.YtbbphklhnngjmaaGreatDoor

/- A machine over bytes that may come to an end: what it comes to, what it leaves, whatever the parts. -/
namespace Go.Proofs.YtbbphklhnngjmaaGreatDoor
open Go.RowKit

section
variable {σ : Type} (step : σ → UInt8 → σ) (fin : σ → Bool)
def mRun (s : σ) (l : List UInt8) : σ := l.foldl step s
/-- The bytes that are left once it is done. -/
def mLeft : σ → List UInt8 → List UInt8
  | _, [] => []
  | s, c :: l => if fin s = true then c :: l else mLeft (step s c) l
theorem mRun_nil (s : σ) : mRun step s [] = s := rfl
theorem mRun_cons (s : σ) (c : UInt8) (l : List UInt8) : mRun step s (c :: l) = mRun step (step s c) l := rfl
theorem mRun_app (s : σ) (a b : List UInt8) : mRun step s (a ++ b) = mRun step (mRun step s a) b := List.foldl_append ..
theorem mLeft_nil (s : σ) : mLeft step fin s [] = [] := rfl
theorem mLeft_fin (s : σ) (l : List UInt8) (h : fin s = true) : mLeft step fin s l = l := by
  cases l with
  | nil => rfl
  | cons c l => simp [mLeft, h]
theorem mLeft_cons (s : σ) (c : UInt8) (l : List UInt8) (h : fin s = false) : mLeft step fin s (c :: l) = mLeft step fin (step s c) l := by
  simp [mLeft, h]
theorem mLeft_suffix : ∀ (l : List UInt8) (s : σ), ∃ a, l = a ++ mLeft step fin s l
  | [], _ => ⟨[], rfl⟩
  | c :: l, s => by
    cases hd : fin s with
    | true => exact ⟨[], by rw [mLeft_fin step fin s _ hd]; rfl⟩
    | false =>
      rw [mLeft_cons step fin s c l hd]
      obtain ⟨a, ha⟩ := mLeft_suffix l (step s c)
      exact ⟨c :: a, by rw [List.cons_append, ← ha]⟩
theorem mLeft_drop (l : List UInt8) (s : σ) : l.drop (l.length - (mLeft step fin s l).length) = mLeft step fin s l := by
  obtain ⟨a, ha⟩ := mLeft_suffix step fin l s
  have hl := congrArg List.length ha
  rw [List.length_append] at hl
  have e : l.length - (mLeft step fin s l).length = a.length := by omega
  rw [e]
  conv => lhs; rw [ha]
  exact List.drop_left' rfl
variable (hst : ∀ s c, fin s = true → step s c = s)
include hst
theorem mRun_fin (s : σ) (h : fin s = true) : ∀ l, mRun step s l = s
  | [] => rfl
  | c :: l => by rw [mRun_cons, hst s c h]; exact mRun_fin s h l
theorem fin_before {s : σ} {l : List UInt8} (h : fin (mRun step s l) = false) : fin s = false := by
  cases hs : fin s with
  | false => rfl
  | true => rw [mRun_fin step fin hst s hs] at h; rw [hs] at h; cases h
/-- Bytes in two parts. -/
theorem mLeft_app : ∀ (a : List UInt8) (s : σ) (b : List UInt8), fin (mRun step s a) = false → mLeft step fin s (a ++ b) = mLeft step fin (mRun step s a) b
  | [], _, _, _ => rfl
  | c :: a, s, b, h => by
    rw [List.cons_append, mLeft_cons step fin s c (a ++ b) (fin_before step fin hst h)]
    exact mLeft_app a (step s c) b h
theorem mLeft_undone : ∀ (l : List UInt8) (s : σ), fin (mRun step s l) = false → mLeft step fin s l = []
  | [], _, _ => rfl
  | c :: l, s, h => by
    rw [mLeft_cons step fin s c l (fin_before step fin hst h)]
    exact mLeft_undone l _ h
end
end Go.Proofs.YtbbphklhnngjmaaGreatDoor

/- request: a head as a machine over bytes, beside the reference's reading by lines. -/
namespace Go.Proofs.YtbbphklhnngjmaaGreatDoor
open Go.RowKit

/-- A line at the head of bytes: a part of it (is its byte 13 there?), all of it, an error. -/
inductive LnR where
  | part (cur : List UInt8) (cr : Bool)
  | whole (s : List UInt8)
  | err (e : Int)
/-- The reference's reading of a line: cur came, of at most so many bytes. -/
def rlGo (most : Int) : List UInt8 → List UInt8 → LnR
  | cur, [] => .part cur false
  | cur, c :: r => if c = 10 then .err 2 else if c = 13 then (match r with
      | [] => .part cur true
      | d :: _ => if d = 10 then .whole cur else .err 2)
    else if most ≤ cur.length then .err 4 else rlGo most (cur ++ [c]) r
/-- Where a head stands: in a line (its first line, if it came; fields and their length; the line so far; its byte 13), whole, failed. -/
inductive HdS where
  | line (first : Option (List UInt8)) (fs : List Fld) (sz : Nat) (cur : List UInt8) (cr : Bool)
  | done (first : List UInt8) (fs : List Fld)
  | err (e : Int)
structure HdL where
  line : Int
  head : Int
  count : Int
/-- The bytes that the line may have. -/
def HdL.room (L : HdL) (fo : Option (List UInt8)) (sz : Nat) : Int := match fo with
  | none => max 0 L.line
  | some _ => max 0 L.head - sz
/-- A line's end. 'may': may the first line be? -/
def HdL.close (L : HdL) (may : List UInt8 → Bool) (fo : Option (List UInt8)) (fs : List Fld) (sz : Nat) (s : List UInt8) : HdS := match fo with
  | none => if may s = true then .line (some s) [] 0 [] false else .err 2
  | some f => if s = [] then .done f fs else if max 0 L.head < (sz + s.length + 2 : Nat) ∨ max 0 L.count ≤ fs.length then .err 4 else match parseL s with
    | none => .err 2
    | some g => .line (some f) (fs ++ [g]) (sz + s.length + 2) [] false
def HdL.step (L : HdL) (may : List UInt8 → Bool) : HdS → UInt8 → HdS
  | .line fo fs sz cur cr, c =>
    if cr = true then (if c = 10 then L.close may fo fs sz cur else .err 2)
    else if c = 10 then .err 2
    else if c = 13 then .line fo fs sz cur true
    else if L.room fo sz ≤ cur.length then .err 4 else .line fo fs sz (cur ++ [c]) false
  | .done f fs, _ => .done f fs
  | .err e, _ => .err e
def HdS.fin : HdS → Bool
  | .done _ _ => true
  | _ => false
def HdS.halt : HdS → Bool
  | .done _ _ => true
  | .err _ => true
  | _ => false
theorem hd_fin (L : HdL) (may : List UInt8 → Bool) (s : HdS) (c : UInt8) (h : s.fin = true) : L.step may s c = s := by
  cases s with
  | done f fs => rfl
  | _ => cases h
abbrev hdRun (L : HdL) (may : List UInt8 → Bool) (s : HdS) (l : List UInt8) : HdS := mRun (L.step may) s l
abbrev hdLeft (L : HdL) (may : List UInt8 → Bool) (s : HdS) (l : List UInt8) : List UInt8 := mLeft (L.step may) HdS.fin s l
def hd0 : HdS := .line none [] 0 [] false
theorem hdRun_err (L : HdL) (may : List UInt8 → Bool) (e : Int) : ∀ l, hdRun L may (.err e) l = .err e
  | [] => rfl
  | _ :: l => hdRun_err L may e l
/-- The machine over a line's bytes. -/
theorem run_line (L : HdL) (may : List UInt8 → Bool) (fo : Option (List UInt8)) (fs : List Fld) (sz : Nat) : ∀ (r cur : List UInt8),
    (∀ c2 cr, rlGo (L.room fo sz) cur r = .part c2 cr → hdRun L may (.line fo fs sz cur false) r = .line fo fs sz c2 cr)
    ∧ (∀ e, rlGo (L.room fo sz) cur r = .err e → hdRun L may (.line fo fs sz cur false) r = .err e)
    ∧ (∀ s, rlGo (L.room fo sz) cur r = .whole s → ∃ a t, r = a ++ 13 :: 10 :: t ∧ s = cur ++ a ∧ hdRun L may (.line fo fs sz cur false) (a ++ [13]) = .line fo fs sz s true)
  | [], cur => by
    refine ⟨fun c2 cr h => ?_, fun e h => ?_, fun s h => ?_⟩
    · simp only [rlGo] at h; injection h with e1 e2; subst e1 e2; rfl
    · simp only [rlGo] at h; cases h
    · simp only [rlGo] at h; cases h
  | c :: r, cur => by
    by_cases h10 : c = 10
    · have hs : L.step may (.line fo fs sz cur false) c = .err 2 := by simp [HdL.step, h10]
      refine ⟨fun c2 cr h => ?_, fun e h => ?_, fun s h => ?_⟩
      · simp [rlGo, h10] at h
      · simp only [rlGo, h10, if_true] at h
        injection h with e1
        subst e1
        show mRun _ _ _ = _
        rw [mRun_cons, hs]
        exact hdRun_err L may 2 r
      · simp [rlGo, h10] at h
    · by_cases h13 : c = 13
      · subst h13
        have hs : L.step may (.line fo fs sz cur false) 13 = .line fo fs sz cur true := by simp [HdL.step]
        match r with
        | [] =>
          refine ⟨fun c2 cr h => ?_, fun e h => ?_, fun s h => ?_⟩
          · simp only [rlGo, if_neg h10, if_true] at h
            injection h with e1 e2
            subst e1 e2
            show mRun _ _ _ = _
            rw [mRun_cons, hs]; rfl
          · simp only [rlGo, if_neg h10, if_true] at h; cases h
          · simp only [rlGo, if_neg h10, if_true] at h; cases h
        | d :: t =>
          by_cases hd : d = 10
          · subst hd
            refine ⟨fun c2 cr h => ?_, fun e h => ?_, fun s h => ?_⟩
            · simp only [rlGo, if_neg h10, if_true] at h; cases h
            · simp only [rlGo, if_neg h10, if_true] at h; cases h
            · simp only [rlGo, if_neg h10, if_true] at h
              injection h with e1
              subst e1
              exact ⟨[], t, rfl, by simp, hs⟩
          · have hs2 : L.step may (.line fo fs sz cur true) d = .err 2 := by simp [HdL.step, hd]
            refine ⟨fun c2 cr h => ?_, fun e h => ?_, fun s h => ?_⟩
            · simp only [rlGo, if_neg h10, if_true, if_neg hd] at h; cases h
            · simp only [rlGo, if_neg h10, if_true, if_neg hd] at h
              injection h with e1
              subst e1
              show mRun _ _ _ = _
              rw [mRun_cons, hs, mRun_cons, hs2]
              exact hdRun_err L may 2 t
            · simp only [rlGo, if_neg h10, if_true, if_neg hd] at h; cases h
      · by_cases hm : L.room fo sz ≤ cur.length
        · have hs : L.step may (.line fo fs sz cur false) c = .err 4 := by simp [HdL.step, h10, h13, hm]
          refine ⟨fun c2 cr h => ?_, fun e h => ?_, fun s h => ?_⟩
          · simp only [rlGo, if_neg h10, if_neg h13, if_pos hm] at h; cases h
          · simp only [rlGo, if_neg h10, if_neg h13, if_pos hm] at h
            injection h with e1
            subst e1
            show mRun _ _ _ = _
            rw [mRun_cons, hs]
            exact hdRun_err L may 4 r
          · simp only [rlGo, if_neg h10, if_neg h13, if_pos hm] at h; cases h
        · have hs : L.step may (.line fo fs sz cur false) c = .line fo fs sz (cur ++ [c]) false := by simp [HdL.step, h10, h13, hm]
          have hg : rlGo (L.room fo sz) cur (c :: r) = rlGo (L.room fo sz) (cur ++ [c]) r := by
            simp only [rlGo, if_neg h10, if_neg h13, if_neg hm]
          obtain ⟨i1, i2, i3⟩ := run_line L may fo fs sz r (cur ++ [c])
          rw [hg]
          refine ⟨fun c2 cr h => ?_, fun e h => ?_, fun s h => ?_⟩
          · show mRun _ _ _ = _
            rw [mRun_cons, hs]; exact i1 c2 cr h
          · show mRun _ _ _ = _
            rw [mRun_cons, hs]; exact i2 e h
          · obtain ⟨a, t, e1, e2, e3⟩ := i3 s h
            refine ⟨c :: a, t, by rw [e1]; rfl, by rw [e2]; simp, ?_⟩
            show mRun _ _ _ = _
            rw [List.cons_append, mRun_cons, hs]; exact e3
/-- Behind a whole line. -/
theorem run_whole {L : HdL} {may : List UInt8 → Bool} {fo : Option (List UInt8)} {fs : List Fld} {sz : Nat} {r s : List UInt8} (h : rlGo (L.room fo sz) [] r = .whole s) :
    ∃ t, r = s ++ 13 :: 10 :: t ∧ hdRun L may (.line fo fs sz [] false) r = hdRun L may (L.close may fo fs sz s) t ∧ hdLeft L may (.line fo fs sz [] false) r = hdLeft L may (L.close may fo fs sz s) t := by
  obtain ⟨a, t, e1, e2, e3⟩ := (run_line L may fo fs sz r []).2.2 s h
  rw [List.nil_append] at e2
  subst e2
  have e : r = (s ++ [13]) ++ 10 :: t := by rw [e1]; simp
  have hs : L.step may (.line fo fs sz s true) 10 = L.close may fo fs sz s := by simp [HdL.step]
  have e4 : mRun (L.step may) (.line fo fs sz [] false) (s ++ [13]) = .line fo fs sz s true := e3
  refine ⟨t, e1, ?_, ?_⟩
  · rw [e]
    show mRun _ _ _ = _
    rw [mRun_app, e4, mRun_cons, hs]
  · rw [e]
    show mLeft _ _ _ _ = _
    rw [mLeft_app _ _ (hd_fin L may) _ _ _ (by rw [e4]; rfl), e4, mLeft_cons _ _ _ _ _ rfl, hs]
end Go.Proofs.YtbbphklhnngjmaaGreatDoor

/- request: what the reference returns of a head is what the machine comes to. -/
namespace Go.Proofs.YtbbphklhnngjmaaGreatDoor
open Go.RowKit

/-- What comes of bytes: first line, did it come, fields, how many bytes were taken, whole, the error's number. -/
structure HdT where
  first : List UInt8
  begun : Bool
  fs : List Fld
  n : Nat
  whole : Bool
  e : Int
def HdS.took (l left : List UInt8) : HdS → HdT
  | .err e => ⟨[], false, [], 0, false, e⟩
  | .done f fs => ⟨f, true, fs, l.length - left.length, true, 0⟩
  | .line none _ _ _ _ => ⟨[], false, [], l.length, false, 0⟩
  | .line (some f) fs _ _ _ => ⟨f, true, fs, l.length, false, 0⟩
def hdTook (L : HdL) (may : List UInt8 → Bool) (l : List UInt8) : HdT := (hdRun L may hd0 l).took l (hdLeft L may hd0 l)
/-- At a line's begin: so many bytes were taken. -/
def AtLine (L : HdL) (may : List UInt8 → Bool) (l : List UInt8) (k : Nat) (fo : Option (List UInt8)) (fs : List Fld) (sz : Nat) : Prop :=
  k ≤ l.length ∧ hdRun L may hd0 (l.take k) = .line fo fs sz [] false
theorem atLine_start (L : HdL) (may : List UInt8 → Bool) (l : List UInt8) : AtLine L may l 0 none [] 0 := ⟨Nat.zero_le _, rfl⟩
theorem atLine_run {L : HdL} {may : List UInt8 → Bool} {l : List UInt8} {k : Nat} {fo : Option (List UInt8)} {fs : List Fld} {sz : Nat} (h : AtLine L may l k fo fs sz) :
    hdRun L may hd0 l = hdRun L may (.line fo fs sz [] false) (l.drop k) ∧ hdLeft L may hd0 l = hdLeft L may (.line fo fs sz [] false) (l.drop k) := by
  have e : l = l.take k ++ l.drop k := (List.take_append_drop k l).symm
  have h2 : mRun (L.step may) hd0 (l.take k) = .line fo fs sz [] false := h.2
  constructor
  · conv => lhs; rw [e]
    show mRun _ _ _ = _
    rw [mRun_app, h2]
  · conv => lhs; rw [e]
    show mLeft _ _ _ _ = _
    rw [mLeft_app _ _ (hd_fin L may) _ _ _ (by rw [h2]; rfl), h2]
theorem took_lnErr {L : HdL} {may : List UInt8 → Bool} {l : List UInt8} {k : Nat} {fo : Option (List UInt8)} {fs : List Fld} {sz : Nat} (h : AtLine L may l k fo fs sz) {e : Int} (hr : rlGo (L.room fo sz) [] (l.drop k) = .err e) :
    hdTook L may l = ⟨[], false, [], 0, false, e⟩ := by
  unfold hdTook
  rw [(atLine_run h).1, (run_line L may fo fs sz (l.drop k) []).2.1 e hr]
  rfl
theorem took_lnPart0 {L : HdL} {may : List UInt8 → Bool} {l : List UInt8} {c : List UInt8} {cr : Bool} (hr : rlGo (max 0 L.line) [] l = .part c cr) :
    hdTook L may l = ⟨[], false, [], l.length, false, 0⟩ := by
  have h : hdRun L may hd0 l = .line none [] 0 c cr := (run_line L may none [] 0 l []).1 c cr hr
  unfold hdTook
  rw [h]
  rfl
theorem took_lnPart {L : HdL} {may : List UInt8 → Bool} {l : List UInt8} {k : Nat} {f : List UInt8} {fs : List Fld} {sz : Nat} (h : AtLine L may l k (some f) fs sz) {c : List UInt8} {cr : Bool} (hr : rlGo (max 0 L.head - sz) [] (l.drop k) = .part c cr) :
    hdTook L may l = ⟨f, true, fs, l.length, false, 0⟩ := by
  unfold hdTook
  rw [(atLine_run h).1, (run_line L may (some f) fs sz (l.drop k) []).1 c cr hr]
  rfl
theorem took_stop {L : HdL} {may : List UInt8 → Bool} {l : List UInt8} {k : Nat} {fo : Option (List UInt8)} {fs : List Fld} {sz : Nat} {s : List UInt8} {e : Int} (h : AtLine L may l k fo fs sz) (hr : rlGo (L.room fo sz) [] (l.drop k) = .whole s)
    (hc : L.close may fo fs sz s = .err e) : hdTook L may l = ⟨[], false, [], 0, false, e⟩ := by
  obtain ⟨t, _, h1, _⟩ := run_whole (may := may) (fs := fs) hr
  unfold hdTook
  rw [(atLine_run h).1, h1, hc, hdRun_err]
  rfl
theorem took_whole {L : HdL} {may : List UInt8 → Bool} {l : List UInt8} {k : Nat} {f : List UInt8} {fs : List Fld} {sz : Nat} (h : AtLine L may l k (some f) fs sz) (hr : rlGo (max 0 L.head - sz) [] (l.drop k) = .whole []) :
    hdTook L may l = ⟨f, true, fs, k + 2, true, 0⟩ := by
  obtain ⟨t, h0, h1, h2⟩ := run_whole (L := L) (may := may) (fo := some f) (fs := fs) hr
  have hc : L.close may (some f) fs sz [] = .done f fs := by simp [HdL.close]
  rw [hc] at h1 h2
  have h3 : hdRun L may (.done f fs) t = .done f fs := mRun_fin _ _ (hd_fin L may) _ rfl t
  have h4 : hdLeft L may (.done f fs) t = t := mLeft_fin _ _ _ t rfl
  have hl := congrArg List.length h0
  rw [List.length_drop] at hl
  have hk := h.1
  simp only [List.nil_append, List.length_cons] at hl
  unfold hdTook
  rw [(atLine_run h).1, (atLine_run h).2, h1, h2, h3, h4]
  show HdT.mk f true fs (l.length - t.length) true 0 = _
  congr 1
  omega
theorem atLine_next {L : HdL} {may : List UInt8 → Bool} {l : List UInt8} {k : Nat} {fo fo2 : Option (List UInt8)} {fs fs2 : List Fld} {sz sz2 : Nat} {s : List UInt8} (h : AtLine L may l k fo fs sz) (hr : rlGo (L.room fo sz) [] (l.drop k) = .whole s)
    (hc : L.close may fo fs sz s = .line fo2 fs2 sz2 [] false) : AtLine L may l (k + s.length + 2) fo2 fs2 sz2 := by
  obtain ⟨a, t, e1, e2, e3⟩ := (run_line L may fo fs sz (l.drop k) []).2.2 s hr
  rw [List.nil_append] at e2
  subst e2
  have hl := congrArg List.length e1
  rw [List.length_drop, List.length_append] at hl
  simp only [List.length_cons] at hl
  refine ⟨by have := h.1; omega, ?_⟩
  have htk : l.take (k + s.length + 2) = l.take k ++ ((s ++ [13]) ++ [10]) := by
    rw [Nat.add_assoc, List.take_add, e1]
    congr 1
    have e4 : s ++ 13 :: 10 :: t = ((s ++ [13]) ++ [10]) ++ t := by simp
    have e5 : s.length + 2 = ((s ++ [13]) ++ [10]).length := by simp
    rw [e4, e5, List.take_left' rfl]
  have hs : L.step may (.line fo fs sz s true) 10 = L.close may fo fs sz s := by simp [HdL.step]
  have e6 : mRun (L.step may) (.line fo fs sz [] false) (s ++ [13]) = .line fo fs sz s true := e3
  have h2 : mRun (L.step may) hd0 (l.take k) = .line fo fs sz [] false := h.2
  show mRun _ _ _ = _
  rw [htk, mRun_app, h2, mRun_app, e6, mRun_cons, mRun_nil, hs, hc]
theorem rlGo_len (most : Int) : ∀ (r cur s : List UInt8), rlGo most cur r = .whole s → s.length + 2 ≤ cur.length + r.length
  | [], cur, s, h => by simp only [rlGo] at h; cases h
  | c :: r, cur, s, h => by
    simp only [rlGo] at h
    split at h
    · cases h
    · split at h
      · split at h
        · cases h
        · split at h
          · injection h with e; subst e; simp
          · cases h
      · split at h
        · cases h
        · have := rlGo_len most r (cur ++ [c]) s h
          rw [List.length_append, List.length_singleton] at this
          rw [List.length_cons]; omega
/-- More bytes. -/
theorem hd_more (L : HdL) (may : List UInt8 → Bool) (l p : List UInt8) (h : (hdRun L may hd0 l).fin = false) :
    hdTook L may (l ++ p) = (hdRun L may (hdRun L may hd0 l) p).took (l ++ p) (hdLeft L may (hdRun L may hd0 l) p) := by
  have h2 : (mRun (L.step may) hd0 l).fin = false := h
  unfold hdTook
  show HdS.took (l ++ p) (mLeft _ _ _ _) (mRun _ _ _) = _
  rw [mRun_app, mLeft_app _ _ (hd_fin L may) _ _ _ h2]
theorem hd_left (L : HdL) (may : List UInt8 → Bool) (l : List UInt8) (h : (hdTook L may l).whole = true) : l.drop (hdTook L may l).n = hdLeft L may hd0 l := by
  unfold hdTook at h ⊢
  cases hq : hdRun L may hd0 l with
  | err e => rw [hq] at h; cases h
  | done f fs => exact mLeft_drop _ _ l hd0
  | line fo fs sz cur cr => rw [hq] at h; cases fo <;> cases h
end Go.Proofs.YtbbphklhnngjmaaGreatDoor

/- request: a head in memory; NewHead, Done, Begun, First, fail. -/
namespace Go.Proofs.YtbbphklhnngjmaaGreatDoor
open Go.RowKit

/-- The cells of a head: four limits, state, first line, fields, their size, the line, its byte 13, the error; others behind them. -/
def heL (L H C B st : Int) (f : ByteArray) (rv : Value) (sz : Nat) (ln : Value) (cr : Bool) (e : Int) (rest : List Value) : List Value :=
  .int .i64 L :: .int .i64 H :: .int .i64 C :: .int .i64 B :: .int .i64 st :: .string f :: rv :: .int .i64 (sz : Int) :: ln :: .bool cr :: .int .i64 e :: rest
def heCells (L H C B st : Int) (f : ByteArray) (rv : Value) (sz : Nat) (ln : Value) (cr : Bool) (e : Int) (rest : List Value) : Array Value := (heL L H C B st f rv sz ln cr e rest).toArray
/-- Two rows of different kinds lie in different blocks. -/
theorem own_apart {w : World} {e e' : TypeId} {n n' m m' : Nat} {v v' : Value} {xs xs' : List Value} (h : w.ownsRow 0 e n v m xs) (h' : w.ownsRow 0 e' n' v' m' xs') (hne : e ≠ e') {j : Nat} (hj : v.ownBlock = some j) : v'.ownBlock ≠ some j := by
  intro hj'
  obtain ⟨_, ⟨rfl, _⟩ | ⟨k, cap, cur, rfl, _, hk, _⟩⟩ := h
  · cases hj
  · obtain ⟨_, ⟨rfl, _⟩ | ⟨k', cap', cur', rfl, _, hk', _⟩⟩ := h'
    · cases hj'
    · have e1 : k = j := by simpa [Value.ownBlock] using hj
      have e2 : k' = j := by simpa [Value.ownBlock] using hj'
      subst e1 e2
      rw [hk] at hk'
      injection hk' with h2
      injection h2 with _ h3
      exact hne h3
structure HeAt (G : Nat → Prop) (T : TypeId) (rest : List Value) (w : World) (g : Nat) (L H C B st : Int) (f : ByteArray) (fs : List Fld) (sz : Nat) (cur : List UInt8) (cr : Bool) (e : Int) (rv ln : Value) : Prop where
  row : Row w g T (heCells L H C B st f rv sz ln cr e rest)
  t1 : 5 ≠ T
  t2 : 62 ≠ T
  gG : G g
  ro : w.ownsRow 0 62 2 rv fs.length (cellsF fs)
  lo : w.ownsRow 0 5 1 ln cur.length (byteVals cur)
  rG : ∀ j, rv.ownBlock = some j → G j
  lG : ∀ j, ln.ownBlock = some j → G j
def He (G : Nat → Prop) (T : TypeId) (rest : List Value) (w : World) (g : Nat) (L H C B st : Int) (f : ByteArray) (fs : List Fld) (sz : Nat) (cur : List UInt8) (cr : Bool) (e : Int) : Prop := ∃ rv ln, HeAt G T rest w g L H C B st f fs sz cur cr e rv ln
theorem nil_flds (w : World) : w.ownsRow 0 62 2 (.slice none 0 0) ([] : List Fld).length (cellsF []) := World.ownsRow_nil w 0 _ 2
theorem nil_byt (w : World) : w.ownsRow 0 5 1 (.slice none 0 0) ([] : List UInt8).length (byteVals []) := World.ownsRow_nil w 0 _ 1
section
variable {G : Nat → Prop} {T : TypeId} {rest : List Value} {w w' : World} {g : Nat} {L H C B st : Int} {f : ByteArray} {fs : List Fld} {sz : Nat} {cur : List UInt8} {cr : Bool} {e : Int} {rv ln : Value}
theorem HeAt.cell (h : HeAt G T rest w g L H C B st f fs sz cur cr e rv ln) (i : Nat) : w.cell? ⟨g, i, none⟩ = (heL L H C B st f rv sz ln cr e rest)[i]? := by
  rw [h.row.cell i]
  unfold heCells
  rw [List.getElem?_toArray]
theorem HeAt.c (h : HeAt G T rest w g L H C B st f fs sz cur cr e rv ln) :
    w.cell? ⟨g, 0, none⟩ = some (.int .i64 L) ∧ w.cell? ⟨g, 1, none⟩ = some (.int .i64 H) ∧ w.cell? ⟨g, 2, none⟩ = some (.int .i64 C) ∧ w.cell? ⟨g, 3, none⟩ = some (.int .i64 B) ∧ w.cell? ⟨g, 4, none⟩ = some (.int .i64 st) ∧ w.cell? ⟨g, 5, none⟩ = some (.string f) ∧ w.cell? ⟨g, 6, none⟩ = some rv ∧ w.cell? ⟨g, 7, none⟩ = some (.int .i64 (sz : Int)) ∧ w.cell? ⟨g, 8, none⟩ = some ln ∧ w.cell? ⟨g, 9, none⟩ = some (.bool cr) ∧ w.cell? ⟨g, 10, none⟩ = some (.int .i64 e) :=
  ⟨h.cell 0, h.cell 1, h.cell 2, h.cell 3, h.cell 4, h.cell 5, h.cell 6, h.cell 7, h.cell 8, h.cell 9, h.cell 10⟩
theorem HeAt.below (h : HeAt G T rest w g L H C B st f fs sz cur cr e rv ln) (hb : Below w.heap.size w w') : HeAt G T rest w' g L H C B st f fs sz cur cr e rv ln :=
  ⟨h.row.below hb, h.t1, h.t2, h.gG, own_bel h.ro hb, own_bel h.lo hb, h.rG, h.lG⟩
theorem He.below (h : He G T rest w g L H C B st f fs sz cur cr e) (hb : Below w.heap.size w w') : He G T rest w' g L H C B st f fs sz cur cr e := by
  obtain ⟨rv, ln, h⟩ := h
  exact ⟨rv, ln, h.below hb⟩
theorem He.less (h : He G T rest w g L H C B st f fs sz cur cr e) : He (fun j => G j ∧ j < w.heap.size) T rest w g L H C B st f fs sz cur cr e := by
  obtain ⟨rv, ln, h⟩ := h
  exact ⟨rv, ln, h.row, h.t1, h.t2, ⟨h.gG, h.row.lt⟩, h.ro, h.lo, fun j hj => ⟨h.rG j hj, own_lt h.ro hj⟩, fun j hj => ⟨h.lG j hj, own_lt h.lo hj⟩⟩
theorem He.more {G' : Nat → Prop} (h : He G T rest w g L H C B st f fs sz cur cr e) (hg : ∀ j, j < w.heap.size → G j → G' j) : He G' T rest w g L H C B st f fs sz cur cr e := by
  obtain ⟨rv, ln, h⟩ := h
  exact ⟨rv, ln, h.row, h.t1, h.t2, hg _ h.row.lt h.gG, h.ro, h.lo, fun j hj => hg _ (own_lt h.ro hj) (h.rG j hj), fun j hj => hg _ (own_lt h.lo hj) (h.lG j hj)⟩
theorem he_put (i : Nat) (u : Value) : (heCells L H C B st f rv sz ln cr e rest).setIfInBounds i u = ((heL L H C B st f rv sz ln cr e rest).set i u).toArray := by
  unfold heCells
  rw [List.setIfInBounds_toArray]
theorem HeAt.put (h : HeAt G T rest w g L H C B st f fs sz cur cr e rv ln) (i : Nat) (u : Value) : Row (w.setCell ⟨g, i, none⟩ u) g T ((heL L H C B st f rv sz ln cr e rest).set i u).toArray := by
  rw [← he_put]
  exact h.row.put i u
theorem HeAt.set4 (h : HeAt G T rest w g L H C B st f fs sz cur cr e rv ln) (x : Int) : HeAt G T rest (w.setCell ⟨g, 4, none⟩ (.int .i64 x)) g L H C B x f fs sz cur cr e rv ln :=
  ⟨h.put 4 _, h.t1, h.t2, h.gG, own_set h.ro h.row h.t2 _, own_set h.lo h.row h.t1 _, h.rG, h.lG⟩
theorem HeAt.set5 (h : HeAt G T rest w g L H C B st f fs sz cur cr e rv ln) (x : ByteArray) : HeAt G T rest (w.setCell ⟨g, 5, none⟩ (.string x)) g L H C B st x fs sz cur cr e rv ln :=
  ⟨h.put 5 _, h.t1, h.t2, h.gG, own_set h.ro h.row h.t2 _, own_set h.lo h.row h.t1 _, h.rG, h.lG⟩
theorem HeAt.set7 (h : HeAt G T rest w g L H C B st f fs sz cur cr e rv ln) (x : Nat) : HeAt G T rest (w.setCell ⟨g, 7, none⟩ (.int .i64 (x : Int))) g L H C B st f fs x cur cr e rv ln :=
  ⟨h.put 7 _, h.t1, h.t2, h.gG, own_set h.ro h.row h.t2 _, own_set h.lo h.row h.t1 _, h.rG, h.lG⟩
theorem HeAt.set9 (h : HeAt G T rest w g L H C B st f fs sz cur cr e rv ln) (x : Bool) : HeAt G T rest (w.setCell ⟨g, 9, none⟩ (.bool x)) g L H C B st f fs sz cur x e rv ln :=
  ⟨h.put 9 _, h.t1, h.t2, h.gG, own_set h.ro h.row h.t2 _, own_set h.lo h.row h.t1 _, h.rG, h.lG⟩
theorem HeAt.set6 {fs' : List Fld} {rv' : Value} (h : HeAt G T rest w g L H C B st f fs sz cur cr e rv ln) (ho : w.ownsRow 0 62 2 rv' fs'.length (cellsF fs')) (hG : ∀ j, rv'.ownBlock = some j → G j) :
    HeAt G T rest (w.setCell ⟨g, 6, none⟩ rv') g L H C B st f fs' sz cur cr e rv' ln :=
  ⟨h.put 6 _, h.t1, h.t2, h.gG, own_set ho h.row h.t2 _, own_set h.lo h.row h.t1 _, hG, h.lG⟩
theorem HeAt.set8 {cur' : List UInt8} {ln' : Value} (h : HeAt G T rest w g L H C B st f fs sz cur cr e rv ln) (ho : w.ownsRow 0 5 1 ln' cur'.length (byteVals cur')) (hG : ∀ j, ln'.ownBlock = some j → G j) :
    HeAt G T rest (w.setCell ⟨g, 8, none⟩ ln') g L H C B st f fs sz cur' cr e rv ln' :=
  ⟨h.put 8 _, h.t1, h.t2, h.gG, own_set h.ro h.row h.t2 _, own_set ho h.row h.t1 _, h.rG, hG⟩
end
theorem HeAt.reset {G : Nat → Prop} {T : TypeId} {rest : List Value} {w : World} {g : Nat} {L H C B st : Int} {f : ByteArray} {fs : List Fld} {sz : Nat} {cur : List UInt8} {cr : Bool} {e : Int} {rv ln : Value} (h : HeAt G T rest w g L H C B st f fs sz cur cr e rv ln) (x : Int) :
    He G T rest (((((((((((w.setCell ⟨g, 0, none⟩ (.int .i64 0)).setCell ⟨g, 1, none⟩ (.int .i64 0)).setCell ⟨g, 2, none⟩ (.int .i64 0)).setCell ⟨g, 3, none⟩ (.int .i64 0)).setCell ⟨g, 4, none⟩ (.int .i64 3)).setCell ⟨g, 5, none⟩ (.string ⟨#[]⟩)).setCell ⟨g, 6, none⟩ (.slice none 0 0)).setCell ⟨g, 7, none⟩ (.int .i64 0)).setCell ⟨g, 8, none⟩ (.slice none 0 0)).setCell ⟨g, 9, none⟩ (.bool false)).setCell ⟨g, 10, none⟩ (.int .i64 x)) g 0 0 0 0 3 ⟨#[]⟩ [] 0 [] false x ∧
    Keep G w (((((((((((w.setCell ⟨g, 0, none⟩ (.int .i64 0)).setCell ⟨g, 1, none⟩ (.int .i64 0)).setCell ⟨g, 2, none⟩ (.int .i64 0)).setCell ⟨g, 3, none⟩ (.int .i64 0)).setCell ⟨g, 4, none⟩ (.int .i64 3)).setCell ⟨g, 5, none⟩ (.string ⟨#[]⟩)).setCell ⟨g, 6, none⟩ (.slice none 0 0)).setCell ⟨g, 7, none⟩ (.int .i64 0)).setCell ⟨g, 8, none⟩ (.slice none 0 0)).setCell ⟨g, 9, none⟩ (.bool false)).setCell ⟨g, 10, none⟩ (.int .i64 x)) := by
  have K : ∀ (v : World) (i : Nat) (u : Value), Keep G v (v.setCell ⟨g, i, none⟩ u) := fun v i u => Keep.setCell v (p := ⟨g, i, none⟩) h.gG u
  have r := ((((((((((h.row.put 0 (.int .i64 0)).put 1 (.int .i64 0)).put 2 (.int .i64 0)).put 3 (.int .i64 0)).put 4 (.int .i64 3)).put 5 (.string ⟨#[]⟩)).put 6 (.slice none 0 0)).put 7 (.int .i64 0)).put 8 (.slice none 0 0)).put 9 (.bool false)).put 10 (.int .i64 x)
  unfold heCells at r
  simp only [List.setIfInBounds_toArray] at r
  exact ⟨⟨.slice none 0 0, .slice none 0 0, r, h.t1, h.t2, h.gG, nil_flds _, nil_byt _, (fun j h => by cases h), (fun j h => by cases h)⟩,
    ((((((((((K _ _ _).trans (K _ _ _)).trans (K _ _ _)).trans (K _ _ _)).trans (K _ _ _)).trans (K _ _ _)).trans (K _ _ _)).trans (K _ _ _)).trans (K _ _ _)).trans (K _ _ _)).trans (K _ _ _)⟩
section
variable (G : Nat → Prop) (T : TypeId) (rest : List Value) (g : Nat) (L H C B st : Int) (f : ByteArray) (fs : List Fld) (sz : Nat) (cur : List UInt8) (cr : Bool) (e : Int)
theorem hdone9 (q : Bool) (hq : (st == 2) = q) (w : World) (h : He G T rest w g L H C B st f fs sz cur cr e) :
    Calls Tryz.prog 92 #[.pointer (some ⟨g, 0, none⟩)] w fun x w' => x = .returned (.bool q) ∧ w = w' := by
  obtain ⟨rv, ln, h⟩ := h
  have c := h.c.2.2.2.2.1
  go_enter Tryz.func92, Tryz.ntmps92
  go_wp2_with fail
  go_ret
  exact ⟨rfl, rfl⟩
theorem hbegun12 (q1 q2 : Bool) (hq1 : (st == 1) = q1) (hq2 : (st == 2) = q2) (w : World) (h : He G T rest w g L H C B st f fs sz cur cr e) :
    Calls Tryz.prog 90 #[.pointer (some ⟨g, 0, none⟩)] w fun x w' => x = .returned (.bool (q1 || q2)) ∧ w = w' := by
  obtain ⟨rv, ln, h⟩ := h
  have c := h.c.2.2.2.2.1
  cases q1
  · go_enter Tryz.func90, Tryz.ntmps90
    go_wp2_with fail
    go_ret
    exact ⟨rfl, rfl⟩
  · go_enter Tryz.func90, Tryz.ntmps90
    go_wp2_with fail
    go_ret
    exact ⟨rfl, rfl⟩
theorem hfirst13 (w : World) (h : He G T rest w g L H C B st f fs sz cur cr e) :
    Calls Tryz.prog 114 #[.pointer (some ⟨g, 0, none⟩)] w fun x w' => x = .returned (.string f) ∧ w = w' := by
  obtain ⟨rv, ln, h⟩ := h
  have c := h.c.2.2.2.2.2.1
  go_enter Tryz.func114, Tryz.ntmps114
  go_wp2_with fail
  go_ret
  exact ⟨rfl, rfl⟩
theorem hfail40 (x : Int) (w : World) (h : He G T rest w g L H C B st f fs sz cur cr e) :
    Calls Tryz.prog 146 #[.pointer (some ⟨g, 0, none⟩), .int .i64 x] w fun r w' => r = .returned (.tuple #[]) ∧ He G T rest w' g 0 0 0 0 3 ⟨#[]⟩ [] 0 [] false x ∧ Keep G w w' := by
  obtain ⟨rv, ln, h⟩ := h
  obtain ⟨c0, c1, c2, c3, c4, c5, c6, c7, c8, c9, c10⟩ := h.c
  have f0 := h.row.free 0
  have f1 := h.row.free 1
  have f2 := h.row.free 2
  have f3 := h.row.free 3
  have f4 := h.row.free 4
  have f5 := h.row.free 5
  have f6 := h.row.free 6
  have f7 := h.row.free 7
  have f8 := h.row.free 8
  have f9 := h.row.free 9
  have f10 := h.row.free 10
  have HD := Lib.hid h
  clear h
  go_enter Tryz.func146, Tryz.ntmps146
  go_wp2_with fail
  go_end0
  exact ⟨rfl, HD.out.reset x⟩
end
end Go.Proofs.YtbbphklhnngjmaaGreatDoor

/- request: a head in memory; NewHead, a byte that lengthens the line. -/
namespace Go.Proofs.YtbbphklhnngjmaaGreatDoor
open Go.RowKit

/-- append, at an operation, with where the result lies. -/
theorem wp_append_at {P : Program} (w : World) {o : Oper} {a : Act} {K : Act → World → Prop} {Q : Exit → Act → World → Prop} (s x : Operand) (t : TypeId)
    (ho : o.op = .call { callee := .builtin .append, args := #[s, x], argTypes := #[t, t] })
    (base : Nat) (e : TypeId) (i : TypeInfo) (z : Value) (size bytes : Nat) (ht : P.underlying t = some (.slice e)) (hi : P.info? e = some i) (hz : i.zero = some z)
    (hsize : i.size = size) (hby : i.bytes = bytes) (hzs : z.cells.size = size) (hsz : 0 < size)
    (v : Value) (n : Nat) (xs : List Value) (hs : a.eval s = v) (hown : w.ownsRow base e size v n xs)
    (ad : Addr) (m c : Nat) (news : List Value) (hx : a.eval x = .slice (some ad) m c) (hl : news.length = m * size) (hnews : ∀ j u, news[j]? = some u → w.cell? (ad.add j) = some u) (h1 : ∀ u ∈ news, u.oneCell' = true)
    (h63 : n + m ≤ maxLen) (hbytes : (n + m) * bytes ≤ 140737488355328) (hbase : base ≤ w.heap.size)
    (h : ∀ v' w', w'.ownsRow base e size v' (n + m) (xs ++ news) → w.grownBy w' v.ownBlock → (v'.ownBlock = v.ownBlock ∨ v'.ownBlock = some w.heap.size) → K (a.put o.dst v') w') : o.wp P a w K Q := by
  obtain ⟨v', w', hr, h2, h3, _, h5⟩ := run_append_own_at (P := P) w base t o.type e i z size bytes ht hi hz hsize hby hzs hsz v n xs hown ad m c news hl hnews h1 h63 hbytes hbase
  unfold Oper.wp execOp
  simp only [ho, resolve, invoke, builtin, Sem.run_bind, Sem.run_pure, Result.andThen_ok, List.map_toArray, List.map_cons, List.map_nil, hs, hx, hr]
  exact h v' w' h2 h3 h5
section
variable {G : Nat → Prop} {T : TypeId} {rest : List Value} {w w' : World} {g : Nat} {L H C B st : Int} {f : ByteArray} {fs : List Fld} {sz : Nat} {cur : List UInt8} {cr : Bool} {e : Int} {rv ln : Value}
theorem HeAt.he (h : HeAt G T rest w g L H C B st f fs sz cur cr e rv ln) : He G T rest w g L H C B st f fs sz cur cr e := ⟨_, _, h⟩
/-- The line's row has grown. -/
theorem HeAt.grewL {row : Option Nat} {ln' : Value} {cur' : List UInt8} (h : HeAt G T rest w g L H C B st f fs sz cur cr e rv ln) (hg : w.grownBy w' row) (hr : row = ln.ownBlock) (ha : ln'.ownBlock = ln.ownBlock ∨ ln'.ownBlock = some w.heap.size) (hu : Up G w)
    (ho : w'.ownsRow 0 5 1 ln' cur'.length (byteVals cur')) :
    HeAt G T rest (w'.setCell ⟨g, 8, none⟩ ln') g L H C B st f fs sz cur' cr e rv ln' ∧ Row w' g T (heCells L H C B st f rv sz ln cr e rest) ∧ Keep G w (w'.setCell ⟨g, 8, none⟩ ln') := by
  subst hr
  have hrow := h.row.grown hg (own_ne h.lo h.row h.t1)
  have hro := own_grown h.ro hg (fun j hj he => own_apart h.ro h.lo (by decide) hj he)
  have hG : ∀ j, ln'.ownBlock = some j → G j := fun j hj => by
    rcases ha with e | e
    · exact h.lG j (by rw [← e]; exact hj)
    · rw [e] at hj; injection hj with hj; exact hu j (by omega)
  have hk : Keep G w w' := .grown hg h.lG
  have r8 : Row (w'.setCell ⟨g, 8, none⟩ ln') g T ((heL L H C B st f rv sz ln cr e rest).set 8 ln').toArray := by
    rw [← he_put]; exact hrow.put 8 _
  exact ⟨⟨r8, h.t1, h.t2, h.gG, own_set hro hrow h.t2 _, own_set ho hrow h.t1 _, h.rG, hG⟩, hrow, hk.trans (Keep.setCell w' (p := ⟨g, 8, none⟩) h.gG ln')⟩
/-- The fields' row has grown. -/
theorem HeAt.grewR {row : Option Nat} {rv' : Value} {fs' : List Fld} (h : HeAt G T rest w g L H C B st f fs sz cur cr e rv ln) (hg : w.grownBy w' row) (hr : row = rv.ownBlock) (ha : rv'.ownBlock = rv.ownBlock ∨ rv'.ownBlock = some w.heap.size) (hu : Up G w)
    (ho : w'.ownsRow 0 62 2 rv' fs'.length (cellsF fs')) :
    HeAt G T rest (w'.setCell ⟨g, 6, none⟩ rv') g L H C B st f fs' sz cur cr e rv' ln ∧ Row w' g T (heCells L H C B st f rv sz ln cr e rest) ∧ Keep G w (w'.setCell ⟨g, 6, none⟩ rv') ∧ Keep G w w' := by
  subst hr
  have hrow := h.row.grown hg (own_ne h.ro h.row h.t2)
  have hlo := own_grown h.lo hg (fun j hj he => own_apart h.lo h.ro (by decide) hj he)
  have hG : ∀ j, rv'.ownBlock = some j → G j := fun j hj => by
    rcases ha with e | e
    · exact h.rG j (by rw [← e]; exact hj)
    · rw [e] at hj; injection hj with hj; exact hu j (by omega)
  have hk : Keep G w w' := .grown hg h.rG
  have r6 : Row (w'.setCell ⟨g, 6, none⟩ rv') g T ((heL L H C B st f rv sz ln cr e rest).set 6 rv').toArray := by
    rw [← he_put]; exact hrow.put 6 _
  exact ⟨⟨r6, h.t1, h.t2, h.gG, own_set ho hrow h.t2 _, own_set hlo hrow h.t1 _, hG, h.lG⟩, hrow, hk.trans (Keep.setCell w' (p := ⟨g, 6, none⟩) h.gG rv'), hk⟩
end
theorem infoU8r : (Tryz.prog.info? 5).map (fun i => (i.zero, i.size, i.bytes)) = some (some (.int .u8 0), 1, 1) := by kernel_rfl
set_option maxRecDepth 100000 in
set_option maxHeartbeats 2000000 in
/-- NewHead. -/
theorem newhead7 (l h c b : Int) (w : World) :
    Calls Tryz.prog 57 #[.agg #[.int .i64 l, .int .i64 h, .int .i64 c, .int .i64 b]] w fun x w' => ∃ g, x = .returned (.pointer (some ⟨g, 0, none⟩)) ∧ w.heap.size ≤ g ∧ He (fun j => j = g) 103 [] w' g (max l 0) (max h 0) (max c 0) b 0 ⟨#[]⟩ [] 0 [] false 0 ∧ Below w.heap.size w w' := by
  go_enter Tryz.func57, Tryz.ntmps57
  go_wp2_with fail
  go_ret
  refine ⟨w.heap.size + 1, rfl, Nat.le_succ _, ⟨.slice none 0 0, .slice none 0 0, ?_⟩, ((below_alloc w _).alloc (by simp) _)⟩
  have hr := Row.new (w.alloc (.cells #[.int .i64 (max l 0), .int .i64 (max h 0), .int .i64 (max c 0), .int .i64 b] 57)) 103 #[.int .i64 (max l 0), .int .i64 (max h 0), .int .i64 (max c 0), .int .i64 b, .int .i64 0, .string ⟨#[]⟩, .slice none 0 0, .int .i64 0, .slice none 0 0, .bool false, .int .i64 0]
  have hz : (w.alloc (.cells #[.int .i64 (max l 0), .int .i64 (max h 0), .int .i64 (max c 0), .int .i64 b] 57)).heap.size = w.heap.size + 1 := by simp
  rw [hz] at hr
  exact ⟨hr, by decide, by decide, rfl, nil_flds _, nil_byt _, (fun j h => by cases h), (fun j h => by cases h)⟩
/-- The way that a byte's line takes: is it too long? -/
def TooLong (L H st : Int) (sz n : Nat) (q : Bool) : Prop := (st = 0 ∧ q = decide (L < (n : Int))) ∨ (st = 1 ∧ q = decide (H < (sz : Int) + (n : Int)))
def HSel (q : Bool) (A B : Prop) : Prop := if q = true then A else B
set_option maxRecDepth 100000 in
set_option maxHeartbeats 4000000 in
theorem hext42 (G : Nat → Prop) (T : TypeId) (rest : List Value) (g : Nat) (L H C B st : Int) (f : ByteArray) (fs : List Fld) (sz : Nat) (cur : List UInt8) (cr : Bool) (e : Int) (c : UInt8) (q : Bool) (hq : TooLong L H st sz (cur.length + 1) q) (hsz : sz + cur.length ≤ 1000000000) (w : World) (h : He G T rest w g L H C B st f fs sz cur cr e) (hu : Up G w) :
    Calls Tryz.prog 148 #[.pointer (some ⟨g, 0, none⟩), .int .u8 (c.toNat : Int)] w fun r w' => r = .returned (.tuple #[]) ∧ HSel q (He G T rest w' g 0 0 0 0 3 ⟨#[]⟩ [] 0 [] false 4) (He G T rest w' g L H C B st f fs sz (cur ++ [c]) cr e) ∧ Keep G w w' := by
  obtain ⟨i0, hi, hz0, hz1, hz2⟩ := info_parts infoU8r
  obtain ⟨rv, ln, h⟩ := h
  have c8 := h.c.2.2.2.2.2.2.2.2.1
  have f8 := h.row.free 8
  have HD := Lib.hid h
  have HU := Lib.hid hu
  have HQ := Lib.hid hq
  clear h hu hq
  go_enter Tryz.func148, Tryz.ntmps148
  go_wp2_with (at_builtin; refine wpList_append_own_at _ rfl _ _ 101 rfl 0 5 i0 (.int .u8 0) 1 1 Tryz.underlying101 hi hz0 hz1 hz2 rfl (by decide) _ _ _ rfl (HD.out.lo.alloc _) ⟨w.heap.size, 0, none⟩ 1 1 [.int .u8 (c.toNat : Int)] rfl rfl (cell_one _ _ _) (one_cell _ _) (by unfold maxLen; omega) (by omega) (Nat.zero_le _) ?_)
  intro v' w1 hown' hgrow _ hat
  have L0 := below_alloc w (.cells #[.int .u8 (c.toNat : Int)] 5)
  rw [byteVals_snoc] at hown'
  obtain ⟨n, hn⟩ : ∃ n, cur.length + 1 = n := ⟨_, rfl⟩
  have hown2 := own_len hown' (show cur.length + 1 = (cur ++ [c]).length by simp)
  rw [hn] at hown' HQ
  obtain ⟨va, vc, rfl⟩ := own_slice hown'
  obtain ⟨HD2, row1, K1⟩ := (HD.out.below L0).grewL hgrow rfl (hat.imp id (fun e => e.trans (by simp))) (HU.out.below L0) hown2
  have HK2 := Lib.hid ((Keep.of_below (G := G) L0).trans K1)
  have c81 : w1.cell? ⟨g, 8, none⟩ = some ln := (row1.cell 8).trans (by simp [heCells, heL])
  have f81 := row1.free 8
  have hnz : n ≤ 1000000001 := by omega
  have hnz2 : sz + n ≤ 1000000001 := by omega
  clear L0 row1 K1 hown' hown2 hgrow hat c8 f8 hi hz0 hz1 hz2 hn
  go_wp2_with fail
  clear c81 f81
  have HD3 := Lib.hid HD2
  clear HD2
  generalize w1.setCell ⟨g, 8, none⟩ (.slice va n vc) = w2 at *
  obtain ⟨c0, c1, c2, c3, c4, c5, c6, c7, c8, c9, c10⟩ := HD3.out.c
  clear c2 c3 c5 c6 c9 c10
  have HF := Lib.hid (fun (W : World) (st : Int) (h : He G T rest W g L H C B st f fs sz (cur ++ [c]) cr e) => hfail40 G T rest g L H C B st f fs sz (cur ++ [c]) cr e 4 W h)
  have DN : ∀ k, Below w2.heap.size w2 (w2.drewN k) := fun k => ⟨rfl, rfl, rfl, Nat.le_refl _, fun _ _ => rfl⟩
  have HDN := Lib.hid DN
  clear DN
  rcases HQ.out with ⟨rfl, hq⟩ | ⟨rfl, hq⟩
  · by_cases hlt : L < (n : Int)
    · have h1 : decide (L < (n : Int)) = true := decide_eq_true hlt
      obtain rfl : q = true := by rw [hq, h1]
      clear hq
      go_quiet (fail)
      go_wp2_with fail
      with_reducible refine (HF.out _ _ (HD3.out.below (HDN.out _)).he).mono ?_
      rintro e9 w' ⟨rfl, hd, hk⟩
      go_wp2_with fail
      go_end0
      exact ⟨rfl, hd, (HK2.out.trans (.of_below (HDN.out _))).trans hk⟩
    · have h1 : decide (L < (n : Int)) = false := decide_eq_false hlt
      obtain rfl : q = false := by rw [hq, h1]
      clear hq
      go_quiet (fail)
      go_wp2_with fail
      go_end0
      exact ⟨rfl, ⟨_, _, HD3.out.below (HDN.out _)⟩, HK2.out.trans (.of_below (HDN.out _))⟩
  · by_cases hlt : H < (sz : Int) + (n : Int)
    · have h1 : decide (H < (sz : Int) + (n : Int)) = true := decide_eq_true hlt
      obtain rfl : q = true := by rw [hq, h1]
      clear hq
      go_quiet (fail)
      go_wp2_with fail
      with_reducible refine (HF.out _ _ (HD3.out.below (HDN.out _)).he).mono ?_
      rintro e9 w' ⟨rfl, hd, hk⟩
      go_wp2_with fail
      go_end0
      exact ⟨rfl, hd, (HK2.out.trans (.of_below (HDN.out _))).trans hk⟩
    · have h1 : decide (H < (sz : Int) + (n : Int)) = false := decide_eq_false hlt
      obtain rfl : q = false := by rw [hq, h1]
      clear hq
      go_quiet (fail)
      go_wp2_with fail
      go_end0
      exact ⟨rfl, ⟨_, _, HD3.out.below (HDN.out _)⟩, HK2.out.trans (.of_below (HDN.out _))⟩
end Go.Proofs.YtbbphklhnngjmaaGreatDoor

/- fields: slices.DeleteFunc, Drop. -/
namespace Go.Proofs.YtbbphklhnngjmaaGreatDoor
open Go.RowKit

/-- What is left without these names. -/
def dropL (xs : List ByteArray) (fs : List Fld) : List Fld := fs.filter fun f => !hasB xs f
/-- The two cells of a place. -/
def PairAt (w : World) (g k : Nat) (f : Fld) : Prop := w.cell? ⟨g, k * 2, none⟩ = some (.string (bs f.1)) ∧ w.cell? ⟨g, k * 2 + 1, none⟩ = some (.string (bs f.2))
/-- A block of places that may be written. -/
def Open2 (w : World) (g n : Nat) : Prop := g < w.heap.size ∧ ∀ k, k < n * 2 → (w.cell? ⟨g, k, none⟩).isSome = true ∧ w.frozen? ⟨g, k, none⟩ = false
theorem PairAt.below {w w' : World} {g k : Nat} {f : Fld} (h : PairAt w g k f) (hb : Below w.heap.size w w') (hg : g < w.heap.size) : PairAt w' g k f := by
  obtain ⟨hc, _⟩ := bcell hb
  exact ⟨(hc _ _ hg).trans h.1, (hc _ _ hg).trans h.2⟩
theorem Open2.below {w w' : World} {g n : Nat} (h : Open2 w g n) (hb : Below w.heap.size w w') : Open2 w' g n := by
  obtain ⟨hc, hf⟩ := bcell hb
  exact ⟨Nat.lt_of_lt_of_le h.1 hb.size, fun k hk => by rw [hc _ _ h.1, hf _ _ h.1]; exact h.2 k hk⟩
theorem Open2.set {w : World} {g n : Nat} (h : Open2 w g n) (p : Nat) (v : Value) : Open2 (w.setCell ⟨g, p, none⟩ v) g n := by
  refine ⟨by simpa [World.setCell] using h.1, fun k hk => ?_⟩
  obtain ⟨h1, h2⟩ := h.2 k hk
  refine ⟨?_, by rw [World.frozen?_setCell]; exact h2⟩
  by_cases e : k = p
  · subst e
    obtain ⟨u, hu⟩ := Option.isSome_iff_exists.1 h1
    rw [World.cell?_setCell_same _ _ _ hu]; rfl
  · rw [World.cell?_setCell_other _ _ _ _ (by simp <;> omega)]; exact h1
theorem PairAt.set {w : World} {g k : Nat} {f : Fld} (h : PairAt w g k f) (p : Nat) (v : Value) (hp : p ≠ k * 2 ∧ p ≠ k * 2 + 1) : PairAt (w.setCell ⟨g, p, none⟩ v) g k f :=
  ⟨by rw [World.cell?_setCell_other _ _ _ _ (by simp <;> omega)]; exact h.1, by rw [World.cell?_setCell_other _ _ _ _ (by simp <;> omega)]; exact h.2⟩
theorem PairAt.put {w : World} {g n k : Nat} (h : Open2 w g n) (hk : k < n) (f : Fld) : PairAt ((w.setCell ⟨g, k * 2, none⟩ (.string (bs f.1))).setCell ⟨g, k * 2 + 1, none⟩ (.string (bs f.2))) g k f := by
  obtain ⟨u, hu⟩ := Option.isSome_iff_exists.1 (h.2 (k * 2) (by omega)).1
  obtain ⟨u2, hu2⟩ := Option.isSome_iff_exists.1 ((h.set (k * 2) (.string (bs f.1))).2 (k * 2 + 1) (by omega)).1
  refine ⟨?_, World.cell?_setCell_same _ _ _ hu2⟩
  rw [World.cell?_setCell_other _ _ _ _ (by simp <;> omega)]
  exact World.cell?_setCell_same _ _ _ hu
theorem dropL_step_keep {xs : List ByteArray} {fs : List Fld} {j : Nat} (hj : j < fs.length) (h : hasB xs fs[j] = false) : dropL xs (fs.take (j + 1)) = dropL xs (fs.take j) ++ [fs[j]] := by
  unfold dropL
  rw [List.take_add_one, List.getElem?_eq_getElem hj, Option.toList_some, List.filter_append]
  simp [h]
theorem dropL_step_drop {xs : List ByteArray} {fs : List Fld} {j : Nat} (hj : j < fs.length) (h : hasB xs fs[j] = true) : dropL xs (fs.take (j + 1)) = dropL xs (fs.take j) := by
  unfold dropL
  rw [List.take_add_one, List.getElem?_eq_getElem hj, Option.toList_some, List.filter_append]
  simp [h]
theorem dropL_none {xs : List ByteArray} {fs : List Fld} (h : ∀ f ∈ fs, hasB xs f = false) : dropL xs fs = fs := by
  unfold dropL
  rw [List.filter_eq_self]
  intro f hf
  simp [h f hf]
theorem findI_cases (xs : List ByteArray) (fs : List Fld) : (findI xs fs = -1 ∧ ∀ f ∈ fs, hasB xs f = false) ∨ ∃ i, ∃ h : i < fs.length, findI xs fs = (i : Int) ∧ hasB xs fs[i] = true ∧ ∀ f ∈ fs.take i, hasB xs f = false := by
  unfold findI
  cases hfi : fs.findIdx? (hasB xs) with
  | none => exact .inl ⟨rfl, List.findIdx?_eq_none_iff.1 hfi⟩
  | some i =>
    obtain ⟨h, h1, h2⟩ := List.findIdx?_eq_some_iff_getElem.1 hfi
    refine .inr ⟨i, h, rfl, h1, fun f hf => ?_⟩
    obtain ⟨k, hk, rfl⟩ := List.mem_take_iff_getElem.1 hf
    have := h2 k (by omega)
    simpa using this
/-- clear on places. -/
theorem run_clear2 (w : World) (ty : TypeId) (b o n c : Nat) (hn : 0 < n) (hc : ∀ j, j < n * 2 → (w.cell? ⟨b, o + j, none⟩).isSome = true) (hf : ∀ j, j < n * 2 → w.frozen? ⟨b, o + j, none⟩ = false) :
    (Builtin.clear_ #[31] ty #[.slice (some ⟨b, o, none⟩) n c]).run Tryz.prog w = .ok (.tuple #[]) (w.setCells b o (Builtin.zeroCells #[.string ⟨#[]⟩, .string ⟨#[]⟩] n).toList) := by
  have hv : ∀ w, (zeroValue 62).run Tryz.prog w = .ok (.agg #[.string ⟨#[]⟩, .string ⟨#[]⟩]) w := fun w => by kernel_rfl
  have hz : (Builtin.zeroCells #[Value.string ⟨#[]⟩, .string ⟨#[]⟩] n).toList.length = n * 2 := by simp [Builtin.zeroCells]
  have hone : ∀ v ∈ (Builtin.zeroCells #[Value.string ⟨#[]⟩, .string ⟨#[]⟩] n).toList, v.oneCell' = true := by
    intro v hv'
    simp [Builtin.zeroCells] at hv'
    obtain ⟨i, _, rfl⟩ := hv'
    rcases Nat.mod_two_eq_zero_or_one i with h | h <;> rw [h] <;> rfl
  have hst := run_storeCells_cells (P := Tryz.prog) b o (Builtin.zeroCells #[Value.string ⟨#[]⟩, .string ⟨#[]⟩] n).toList 0 w (by rw [hz]; simpa using hc) (by rw [hz]; simpa using hf) hone
  simp only [Nat.add_zero] at hst
  obtain ⟨m, rfl⟩ : ∃ m, n = m + 1 := ⟨n - 1, by omega⟩
  simp [Builtin.clear_, run_underlying Tryz.underlying31, hv, Value.cells, hst]
theorem cell_setCells_before (g : Nat) : ∀ (vs : List Value) (o : Nat) (w : World) (k : Nat), k < o → (w.setCells g o vs).cell? ⟨g, k, none⟩ = w.cell? ⟨g, k, none⟩
  | [], _, _, _, _ => rfl
  | v :: r, o, w, k, h => by
    have ih := cell_setCells_before g r (o + 1) (w.setCell ⟨g, o, none⟩ v) k (by omega)
    have e : w.setCells g o (v :: r) = (w.setCell ⟨g, o, none⟩ v).setCells g (o + 1) r := rfl
    rw [e, ih, World.cell?_setCell_other _ _ _ _ (by simp <;> omega)]
theorem size_setCells (g : Nat) : ∀ (vs : List Value) (o : Nat) (w : World), (w.setCells g o vs).heap.size = w.heap.size
  | [], _, _ => rfl
  | v :: r, o, w => by
    have e : w.setCells g o (v :: r) = (w.setCell ⟨g, o, none⟩ v).setCells g (o + 1) r := rfl
    rw [e, size_setCells g r]
    simp
theorem below_setCells {B : Nat} {a : World} (g : Nat) (hg : B ≤ g) : ∀ (vs : List Value) (o : Nat) (w : World), Below B a w → Below B a (w.setCells g o vs)
  | [], _, _, h => h
  | v :: r, o, _, h => below_setCells g hg r (o + 1) _ (h.setCell (p := ⟨g, o, none⟩) hg v)

set_option maxRecDepth 1000000 in
set_option maxHeartbeats 4000000 in
theorem delete76 (w0 : World) (g cap : Nat) (fs : List Fld) (b : Option Addr) (d : Nat) (xs : List ByteArray) (hfl : fs.length ≤ 1000000000) (hx1 : xs.length ≤ 1000000000) (hok : ∀ f ∈ fs, FldOk f) (hx : IsStrs w0 b d xs) (hg : w0.heap.size ≤ g) (hcap : fs.length ≤ cap)
    (w : World) (hbl : Below w0.heap.size w0 w) (hop : Open2 w g fs.length) (hp : ∀ (k : Nat) f, fs[k]? = some f → PairAt w g k f) :
    Calls Tryz.prog 103 #[.slice (some ⟨g, 0, none⟩) fs.length cap, hasV b xs.length d] w fun e w' =>
      e = .returned (.slice (some ⟨g, 0, none⟩) (dropL xs fs).length cap) ∧ IsFlds w' (some ⟨g, 0, none⟩) cap (dropL xs fs) ∧ Below w0.heap.size w0 w' := by
  have hif : IsFlds w (some ⟨g, 0, none⟩) cap fs := .inr ⟨g, 0, rfl, hop.1, hcap, fun j f hf => by rw [Nat.zero_add]; exact hp j f hf⟩
  have HI := Lib.hid (index93 (some ⟨g, 0, none⟩) cap fs b d xs hfl hx1 hok w hif (hx.below hbl))
  obtain ⟨V, hV⟩ : ∃ V, V = hasV b xs.length d := ⟨_, rfl⟩
  rw [← hV] at HI ⊢
  have HV := Lib.hid hV
  have HX := Lib.hid hx
  have HOK := Lib.hid hok
  have HOP := Lib.hid hop
  have HP := Lib.hid hp
  clear hV hx hok hop hp hif
  rcases findI_cases xs fs with ⟨hi, hno⟩ | ⟨i, hil, hi, hyes, hno⟩
  · rw [hi] at HI
    have hd := dropL_none hno
    have HD := Lib.hid hd
    rw [hd]
    clear hi hno hd
    go_enter Tryz.func103, Tryz.ntmps103
    go_wp2_with fail
    refine HI.out.mono ?_
    rintro e w1 ⟨rfl, hb1⟩
    go_wp2_with fail
    go_ret
    refine ⟨rfl, ?_, hbl.trans (hb1.mono hbl.size)⟩
    have : IsFlds w (some ⟨g, 0, none⟩) cap fs := .inr ⟨g, 0, rfl, HOP.out.1, hcap, fun j f hf => by rw [Nat.zero_add]; exact HP.out j f hf⟩
    exact this.below hb1
  · rw [hi] at HI
    have ht : dropL xs (fs.take (i + 1)) = fs.take i := by rw [dropL_step_drop hil hyes, dropL_none hno]
    have hl : i = (dropL xs (fs.take (i + 1))).length := by rw [ht, List.length_take]; omega
    have HT := Lib.hid ht
    have HL := Lib.hid hl
    have i1 : ((i : Int) == -1) = false := beq_eq_false_iff_ne.2 (by omega)
    clear hi hno hyes ht hl
    go_enter Tryz.func103, Tryz.ntmps103
    go_wp2_with fail
    refine HI.out.mono ?_
    rintro e w1 ⟨rfl, hb1⟩
    have b1 := hbl.trans (hb1.mono hbl.size)
    have O1 : Hid (Open2 w1 g fs.length) := HOP.out.below hb1
    have P1 : Hid (∀ (k : Nat) f, fs[k]? = some f → PairAt w1 g k f) := fun k f hf => (HP.out k f hf).below hb1 HOP.out.1
    go_wp2_with fail
    clear i1 hbl hb1
    go_loopw [5, 6] (fun vi vj wr => ∃ i j : Nat, vi = .int .i64 (i : Int) ∧ vj = .int .i64 (j : Int) ∧ i < j ∧ j ≤ fs.length ∧ Hid (i = (dropL xs (fs.take j)).length) ∧ Hid (Open2 wr g fs.length) ∧ Hid (∀ (k : Nat) f, (dropL xs (fs.take j))[k]? = some f → PairAt wr g k f) ∧ Hid (∀ (k : Nat) f, j ≤ k → fs[k]? = some f → PairAt wr g k f) ∧ Below w0.heap.size w0 wr)
      (fun _ vj _ => fs.length - (intOf vj).toNat)
    case atStart =>
      refine ⟨i, i + 1, rfl, by first | rfl | go_num, by omega, by omega, HL, O1, ?_, fun k f _ hf => P1.out k f hf, b1⟩
      show ∀ _ _, _
      rw [HT.out]
      intro k f hf
      rw [List.getElem?_take] at hf
      split at hf
      · exact P1.out k f hf
      · cases hf
    case round =>
      clear O1 P1 b1 HL HT hil HI HOP HP
      obtain ⟨i, j, rfl, rfl, hij, hj, hlen, hO, hK, hS, hb⟩ := hrel
      by_cases hlt : j < fs.length
      · obtain ⟨c1, c2⟩ := hS.out j fs[j] (Nat.le_refl _) (by simp [hlt])
        have hgl := hO.out.1
        have hfo := HOK.out fs[j] (List.getElem_mem hlt)
        obtain ⟨q, hq⟩ : ∃ q, q = hasB xs fs[j] := ⟨_, rfl⟩
        obtain ⟨f, hfe⟩ : ∃ f, f = fs[j] := ⟨_, rfl⟩
        have HKeep : Hid (q = false → dropL xs (fs.take (j + 1)) = dropL xs (fs.take j) ++ [f]) := fun e => by rw [hfe]; exact dropL_step_keep hlt (hq ▸ e)
        have HDrop : Hid (q = true → dropL xs (fs.take (j + 1)) = dropL xs (fs.take j)) := fun e => dropL_step_drop hlt (hq ▸ e)
        rw [← hfe] at c1 c2 hfo hq
        clear hfe
        obtain ⟨n, v⟩ := f
        have HC := Lib.hid (fun W hW => has72 b d xs (n, v) hx1 hfo.1 q hq W hW)
        clear hq hfo
        simp only at c1 c2
        have j1 : (j : Int) < fs.length := by omega
        rw [HV.out]
        unfold hasV
        go_wp2_with fail
        have bA := hb.alloc hb.size (.cells #[.string (bs n), .string (bs v)] 62)
        have LA := below_alloc wr (.cells #[.string (bs n), .string (bs v)] 62)
        have e0 : (wr.alloc (.cells #[.string (bs n), .string (bs v)] 62)).cell? ⟨wr.heap.size, 0, none⟩ = some (.string (bs n)) := by simp
        have e1 : (wr.alloc (.cells #[.string (bs n), .string (bs v)] 62)).cell? ⟨wr.heap.size, 1, none⟩ = some (.string (bs v)) := by simp
        have hzz : wr.heap.size < (wr.alloc (.cells #[.string (bs n), .string (bs v)] 62)).heap.size := by simp
        have HXA : Hid (IsStrs (wr.alloc (.cells #[.string (bs n), .string (bs v)] 62)) b d xs) := HX.out.below bA
        refine (HC.out _ HXA.out).mono ?_
        rintro e w2 ⟨rfl, hb2⟩
        have b2 := bA.trans (hb2.mono bA.size)
        have bl2 : Below wr.heap.size wr w2 := LA.trans (hb2.mono LA.size)
        have f0 : w2.cell? ⟨wr.heap.size, 0, none⟩ = some (.string (bs n)) := by rw [(bcell hb2).1 _ _ hzz, e0]
        have f1 : w2.cell? ⟨wr.heap.size, 1, none⟩ = some (.string (bs v)) := by rw [(bcell hb2).1 _ _ hzz, e1]
        have O2 : Hid (Open2 w2 g fs.length) := hO.out.below bl2
        have K2 : Hid (∀ (k : Nat) f, (dropL xs (fs.take j))[k]? = some f → PairAt w2 g k f) := fun k f hf => (hK.out k f hf).below bl2 hgl
        have S2 : Hid (∀ (k : Nat) f, j ≤ k → fs[k]? = some f → PairAt w2 g k f) := fun k f hk hf => (hS.out k f hk hf).below bl2 hgl
        clear e0 e1 hzz HXA bA LA hb2 hO hK hS c1 c2 HC hb
        cases q
        · have HK3 := Lib.hid (HKeep.out rfl)
          clear HKeep HDrop
          obtain ⟨u0, hu0⟩ := Option.isSome_iff_exists.1 (O2.out.2 (i * 2) (by omega)).1
          obtain ⟨u1, hu1⟩ := Option.isSome_iff_exists.1 (O2.out.2 (i * 2 + 1) (by omega)).1
          have z0 := (O2.out.2 (i * 2) (by omega)).2
          have z1 := (O2.out.2 (i * 2 + 1) (by omega)).2
          have ii : (i : Int) < fs.length := by omega
          have hput := PairAt.put O2.out (show i < fs.length by omega) (n, v)
          have O3 : Hid (Open2 ((w2.setCell ⟨g, i * 2, none⟩ (.string (bs n))).setCell ⟨g, i * 2 + 1, none⟩ (.string (bs v))) g fs.length) := (O2.out.set _ _).set _ _
          have hl3 : Hid (i + 1 = (dropL xs (fs.take (j + 1))).length) := by
            show i + 1 = _
            rw [HK3.out, List.length_append, ← hlen.out]; rfl
          have K3 : Hid (∀ (k : Nat) f, (dropL xs (fs.take (j + 1)))[k]? = some f → PairAt ((w2.setCell ⟨g, i * 2, none⟩ (.string (bs n))).setCell ⟨g, i * 2 + 1, none⟩ (.string (bs v))) g k f) := by
            intro k f hf
            rw [HK3.out] at hf
            by_cases hk : k < i
            · rw [List.getElem?_append_left (by rw [← hlen.out]; exact hk)] at hf
              exact ((K2.out k f hf).set _ _ (by omega)).set _ _ (by omega)
            · rw [List.getElem?_append_right (by rw [← hlen.out]; omega), ← hlen.out] at hf
              have hk0 : k - i = 0 := by
                have := (List.getElem?_eq_some_iff.1 hf).1
                simp at this
                omega
              rw [hk0] at hf
              obtain rfl : (n, v) = f := by simpa using hf
              obtain rfl : k = i := by omega
              exact hput
          have S3 : Hid (∀ (k : Nat) f, j + 1 ≤ k → fs[k]? = some f → PairAt ((w2.setCell ⟨g, i * 2, none⟩ (.string (bs n))).setCell ⟨g, i * 2 + 1, none⟩ (.string (bs v))) g k f) := fun k f hk hf =>
            ((S2.out k f (by omega) hf).set _ _ (by omega)).set _ _ (by omega)
          have b3 := (b2.setCell (p := ⟨g, i * 2, none⟩) hg (.string (bs n))).setCell (p := ⟨g, i * 2 + 1, none⟩) hg (.string (bs v))
          clear hput O2 K2 S2 hlen HK3
          go_wp2_with fail
          go_roundw
          case rel => exact ⟨i + 1, j + 1, by go_num, by go_num, by omega, hlt, hl3, O3, K3, S3, b3⟩
          case measure => simp [intOf]; omega
        · have HD3 := Lib.hid (HDrop.out rfl)
          clear HKeep HDrop
          have hl3 : Hid (i = (dropL xs (fs.take (j + 1))).length) := by show i = _; rw [HD3.out]; exact hlen.out
          have K3 : Hid (∀ (k : Nat) f, (dropL xs (fs.take (j + 1)))[k]? = some f → PairAt w2 g k f) := by
            intro k f hf
            rw [HD3.out] at hf
            exact K2.out k f hf
          have S3 : Hid (∀ (k : Nat) f, j + 1 ≤ k → fs[k]? = some f → PairAt w2 g k f) := fun k f hk hf => S2.out k f (by omega) hf
          clear K2 S2 hlen HD3
          go_wp2_with fail
          go_roundw
          case rel => exact ⟨i, j + 1, rfl, by go_num, by omega, hlt, hl3, O2, K3, S3, b2⟩
          case measure => simp [intOf]; omega
      · obtain rfl : j = fs.length := by omega
        have hK2 := hK.out
        have hl2 := hlen.out
        rw [List.take_of_length_le (Nat.le_refl _)] at hK2 hl2
        have hclr := run_clear2 wr 0 g (i * 2) (fs.length - i) (cap - i) (by omega) (fun k hk => (hO.out.2 _ (by omega)).1) (fun k hk => (hO.out.2 _ (by omega)).2)
        have HKK := Lib.hid hK2
        have HLL := Lib.hid hl2
        have ii : (i : Int) ≤ fs.length := by omega
        have ic : (i : Int) ≤ cap := by omega
        have i00 : (0 : Int) ≤ i := by omega
        have hcc : (fs.length : Int) ≤ cap := by omega
        have hgl := hO.out.1
        have hbz : Below w0.heap.size w0 (wr.setCells g (i * 2) (Builtin.zeroCells #[.string ⟨#[]⟩, .string ⟨#[]⟩] (fs.length - i)).toList) := below_setCells g hg _ _ _ hb
        clear hK2 hl2 hK hlen hS
        have hsz : g < (wr.setCells g (i * 2) (Builtin.zeroCells #[.string ⟨#[]⟩, .string ⟨#[]⟩] (fs.length - i)).toList).heap.size := Nat.lt_of_lt_of_le (Nat.lt_of_lt_of_le hgl (Nat.le_of_eq (size_setCells g _ _ _).symm)) (Nat.le_refl _)
        go_wp2_with fail
        go_ret
        refine ⟨by rw [← HLL.out]; rfl, ?_, hbz⟩
        have hcl : (dropL xs fs).length ≤ cap := by have := HLL.out; omega
        refine .inr ⟨g, 0, rfl, hsz, hcl, fun k f hf => ?_⟩
        have hki : k < i := by have := (List.getElem?_eq_some_iff.1 hf).1; have := HLL.out; omega
        obtain ⟨p0, p1⟩ := HKK.out k f hf
        rw [Nat.zero_add]
        exact ⟨by rw [cell_setCells_before g _ _ _ _ (by omega)]; exact p0, by rw [cell_setCells_before g _ _ _ _ (by omega)]; exact p1⟩
end Go.Proofs.YtbbphklhnngjmaaGreatDoor

