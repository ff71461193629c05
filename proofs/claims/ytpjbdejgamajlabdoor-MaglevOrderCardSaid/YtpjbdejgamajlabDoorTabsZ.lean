/- A world that lays the tables that the rows of score list. -/
import Derived.Test.YtpjbdejgamajlabDoorRows
import Derived.Test.YtpjbdejgamajlabDoorRec
import Derived.KernelRfl
import Derived.Lib.LaidIn
import Derived.Great.FillDense
import Derived.DataShut
import Derived.ChangeSame
import Derived.Deep.MidRow
import Derived.ChangeFn
namespace Go.Proofs.YtpjbdejgamajlabDoor

/-- The scalars of a datum. -/
def leavesZ (fuel : Nat) (d : DataW Unit) : List Value :=
  match fuel with
  | 0 => []
  | fuel + 1 => match d with
    | .lit (.int k n) => [.int k n]
    | .lit (.bool b) => [.bool b]
    | .lit (.string s) => [.string ⟨s.toArray⟩]
    | .agg l => l.flatMap (leavesZ fuel)
    | .slice l _ => l.flatMap (leavesZ fuel)
    | _ => []
def layZ (cs : Array Value) : Obj → Obj
  | .cells _ t frozen => .cells cs t frozen
  | o => o
/-- A fact of the rows: they list nothing that a walk needs (the zero's text looks at no table). -/
def NoTab (_ : World) : Prop := True
def pmC (rows : List (Nat × Nat)) : List Value := rows.flatMap fun x => [.int .u64 x.1, .int .u64 x.2]
def chC (rows : List (Nat × List UInt8)) : List Value := rows.flatMap fun x => [.int .i64 x.1, .string ⟨x.2.toArray⟩]
theorem flat2Z {α : Type} (f g : α → Value) : ∀ (l : List α) (i : Nat) (x : α), l[i]? = some x → ((l.flatMap fun x => [f x, g x]).drop (i * 2)).take 2 = [f x, g x]
  | [], _, _, h => by simp at h
  | a :: l, 0, x, h => by
    obtain rfl : a = x := by simpa using h
    simp
  | a :: l, i + 1, x, h => by
    have ih := flat2Z f g l i x (by simpa using h)
    rw [show (i + 1) * 2 = i * 2 + 2 by omega, List.flatMap_cons]
    simpa using ih
theorem flat2Z_len {α : Type} (f g : α → Value) : ∀ l : List α, (l.flatMap fun x => [f x, g x]).length = l.length * 2
  | [] => rfl
  | a :: l => by
    rw [List.flatMap_cons, List.length_append, flat2Z_len f g l]
    simp
    omega
theorem flat2Z_mem {α : Type} (f g : α → Value) (l : List α) (hf : ∀ x u v, f x ≠ .iface u v) (hg : ∀ x u v, g x ≠ .iface u v) : ∀ c ∈ (l.flatMap fun x => [f x, g x]), ∀ u v, c ≠ .iface u v := by
  intro c hc u v
  rw [List.mem_flatMap] at hc
  obtain ⟨x, _, hx⟩ := hc
  simp at hx
  rcases hx with rfl | rfl
  · exact hf x u v
  · exact hg x u v
/-- A variable that holds plain values. -/
theorem laid_flat {P : Program} {W : World} {n : String} {d : DataW Unit} {g fuel : Nat} {t t0 : TypeId} {cs : Array Value} (hg : P.globalNamed n = some g) (ht : (P.globals[g]?).map (·.type) = some t) (hh : W.heap[g]? = some (.cells cs t0 (0, 0)))
    (hread : DataW.trod (fun _ => ()) P W 0 (fun _ => true) false fuel t cs.toList = some (d, [])) (hno : ∀ c ∈ cs.toList, ∀ u v, c ≠ .iface u v) : LaidIn P W [(n, d)] [g] := by
  have hv : W.var? P n = some cs := by simp [World.var?, hg, hh]
  refine LaidIn.one [g] hg ht hv hread ?_ ?_ ?_
  · rw [List.append_nil]; exact rowP_nodup _ _
  · intro b off hp
    rw [List.append_nil] at hp
    obtain ⟨i, hi, e1⟩ := MemPlace.mem_row.1 hp
    simp only [MemPlace.cell.injEq] at e1
    obtain ⟨rfl, rfl⟩ := e1
    refine ⟨⟨_, _, hh⟩, fun u v hc => ?_⟩
    simp only [World.cell?, hh] at hc
    exfalso
    refine hno (.iface u v) ?_ u v rfl
    have := Array.mem_of_getElem? (a := .iface u v) (xs := cs) (i := 0 + i) (by simpa using hc)
    simpa using this
  · intro x hx
    rw [List.append_nil] at hx
    obtain ⟨i, hi, e1⟩ := MemPlace.mem_row.1 hx
    rw [e1]
    simp [MemPlace.block]
theorem pmF : (Tryd.prog.underlying 214).map fieldsOf = some [(40, 0), (40, 1)] := by kernel_rfl
theorem pmC2 : Tryd.prog.cellsOf 214 = 2 := by kernel_rfl
theorem pmC1 : Tryd.prog.cellsOf 40 = 1 := by kernel_rfl
theorem pmA : Tryd.prog.cellsOf 215 = 1392 := by kernel_rfl
theorem chF : (Tryd.prog.underlying 219).map fieldsOf = some [(3, 0), (9, 1)] := by kernel_rfl
theorem chC2 : Tryd.prog.cellsOf 219 = 2 := by kernel_rfl
theorem chCi : Tryd.prog.cellsOf 3 = 1 := by kernel_rfl
theorem chCs : Tryd.prog.cellsOf 9 = 1 := by kernel_rfl
theorem two_ofZ {α : Type} {l : List α} (h : l.length = 2) : ∃ a b, l = [a, b] := by
  match l, h with
  | [a, b], _ => exact ⟨a, b, rfl⟩
theorem twoF {fs : Array Field} {a b : TypeId} (h : fs.toList.map (fun f => (f.type, f.offset)) = [(a, 0), (b, 1)]) : ∃ f g, fs.toList = [f, g] ∧ f.type = a ∧ f.offset = 0 ∧ g.type = b ∧ g.offset = 1 := by
  obtain ⟨f, g, hl⟩ := two_ofZ (l := fs.toList) (by have := congrArg List.length h; simpa using this)
  rw [hl] at h
  simp at h
  exact ⟨f, g, hl, h.1.1, h.1.2, h.2.1, h.2.2⟩
theorem pmRow (W : World) (x : Nat × Nat) (h1 : x.1 < 18446744073709551616) (h2 : x.2 < 18446744073709551616) (fuel : Nat) :
    DataW.trod (fun _ => ()) Tryd.prog W 0 (fun _ => true) false (fuel + 2) 214 [.int .u64 x.1, .int .u64 x.2] = some (.agg [.lit (.int .u64 x.1), .lit (.int .u64 x.2)], []) := by
  obtain ⟨fs, pmU, hfs⟩ := fieldsOf_struct pmF (List.cons_ne_nil _ _)
  obtain ⟨f, g, hl, a1, a2, b1, b2⟩ := twoF hfs
  have w1 : (Lit.int .u64 (x.1 : Int)).wf = true := by simp [Lit.wf, IntKind.min, IntKind.max, IntKind.signed, IntKind.bits]; omega
  have w2 : (Lit.int .u64 (x.2 : Int)).wf = true := by simp [Lit.wf, IntKind.min, IntKind.max, IntKind.signed, IntKind.bits]; omega
  refine (ChangeShapes.trod_struct_mk (xs := [(.lit (.int .u64 x.1), []), (.lit (.int .u64 x.2), [])]) pmU (by rw [pmC2]; rfl) ?_).trans rfl
  rw [hl]
  have e1 := ChangeShapes.trod_int_mk (enc := fun _ => ()) (P := Tryd.prog) (w := W) (base := 0) (spare := fun _ => true) (held := false) fuel Tryd.underlying40 w1
  have e2 := ChangeShapes.trod_int_mk (enc := fun _ => ()) (P := Tryd.prog) (w := W) (base := 0) (spare := fun _ => true) (held := false) fuel Tryd.underlying40 w2
  simp [a1, a2, b1, b2, pmC1, e1, e2]
theorem chRow (W : World) (x : Nat × List UInt8) (h1 : x.1 < 1000) (h2 : x.2.length < 1000) (fuel : Nat) :
    DataW.trod (fun _ => ()) Tryd.prog W 0 (fun _ => true) false (fuel + 2) 219 [.int .i64 x.1, .string ⟨x.2.toArray⟩] = some (.agg [.lit (.int .i64 x.1), .lit (.string x.2)], []) := by
  obtain ⟨fs, chU, hfs⟩ := fieldsOf_struct chF (List.cons_ne_nil _ _)
  obtain ⟨f, g, hl, a1, a2, b1, b2⟩ := twoF hfs
  have w1 : (Lit.int .i64 (x.1 : Int)).wf = true := by simp [Lit.wf, IntKind.min, IntKind.max, IntKind.signed, IntKind.bits]; omega
  have w2 : (ByteArray.mk x.2.toArray).size ≤ maxLen := by
    show x.2.toArray.size ≤ _
    simp [maxLen]
    omega
  refine (ChangeShapes.trod_struct_mk (xs := [(.lit (.int .i64 x.1), []), (.lit (.string x.2), [])]) chU (by rw [chC2]; rfl) ?_).trans rfl
  rw [hl]
  have e1 := ChangeShapes.trod_int_mk (enc := fun _ => ()) (P := Tryd.prog) (w := W) (base := 0) (spare := fun _ => true) (held := false) fuel Tryd.underlying3 w1
  have e2 : DataW.trod (fun _ => ()) Tryd.prog W 0 (fun _ => true) false (fuel + 1) 9 [.string ⟨x.2.toArray⟩] = some (.lit (.string x.2), []) := by
    unfold DataW.trod
    rw [Tryd.underlying9]
    simp [w2]
  simp [a1, a2, b1, b2, chCi, chCs, e1, e2]
theorem pmWf : (Go.Pinned.pow10Rows.all fun x => decide (x.1 < 18446744073709551616) && decide (x.2 < 18446744073709551616)) = true := by decide +kernel
theorem chWf : (Go.Pinned.cheatRows.all fun x => decide (x.1 < 1000) && decide (x.2.length < 1000)) = true := by decide +kernel
theorem pmLen : Go.Pinned.pow10Rows.length = 696 := by decide +kernel
theorem chLen : Go.Pinned.cheatRows.length = 61 := by decide +kernel
set_option maxRecDepth 100000 in
theorem pmRead (W : World) : DataW.trod (fun _ => ()) Tryd.prog W 0 (fun _ => true) false 3 215 (pmC Go.Pinned.pow10Rows) = some (Go.Pinned.pow10Tab, []) := by
  have hlen := pmLen
  have hwf := pmWf
  rw [List.all_eq_true] at hwf
  unfold Go.Pinned.pow10Tab
  generalize Go.Pinned.pow10Rows = rows at *
  have hl2 : (pmC rows).length = 1392 := by unfold pmC; rw [flat2Z_len, hlen]
  unfold DataW.trod
  rw [Tryd.underlying215]
  simp only [pmA, pmC2, hl2, if_true]
  have hm : (List.range 696).mapM (fun i => DataW.trod (fun _ => ()) Tryd.prog W 0 (fun _ => true) false 2 214 (((pmC rows).drop (i * 2)).take 2)) = some (rows.map fun x => (.agg [.lit (.int .u64 x.1), .lit (.int .u64 x.2)], [])) := by
    refine mapM_some_of_get _ _ (by simp [hlen]) ?_
    intro i y hy
    obtain ⟨hi, he⟩ := List.getElem?_eq_some_iff.1 hy
    rw [List.length_range] at hi
    rw [List.getElem_range] at he
    subst he
    have hx : rows[i]? = some (rows[i]'(by omega)) := by simp [show i < rows.length by omega]
    have hw := hwf _ (List.getElem_mem (l := rows) (n := i) (by omega))
    simp only [Bool.and_eq_true, decide_eq_true_eq] at hw
    rw [show ((pmC rows).drop (i * 2)).take 2 = _ from flat2Z (fun x : Nat × Nat => Value.int .u64 (x.1 : Int)) (fun x => Value.int .u64 (x.2 : Int)) rows i _ hx]
    rw [pmRow W _ hw.1 hw.2 0, List.getElem?_map, hx]
    rfl
  rw [hm]
  simp [Function.comp_def]
set_option maxRecDepth 100000 in
theorem chRead (W : World) (R : Nat) (t0 : TypeId) (hR : W.heap[R]? = some (.cells (chC Go.Pinned.cheatRows).toArray t0 (0, 0))) :
    DataW.trod (fun _ => ()) Tryd.prog W 0 (fun _ => true) false 4 220 [.slice (some ⟨R, 0, none⟩) 61 61] = some (Go.Pinned.leftcheats, MemPlace.row ⟨R, 0, none⟩ 122) := by
  have hlen := chLen
  have hwf := chWf
  rw [List.all_eq_true] at hwf
  unfold Go.Pinned.leftcheats
  generalize Go.Pinned.cheatRows = rows at *
  unfold DataW.trod
  rw [Tryd.underlying220]
  simp only [chC2]
  rw [if_pos ⟨Nat.zero_le _, Nat.le_refl _, by decide⟩]
  have hm : (List.range 61).mapM (fun i => (W.cells? 0 ((⟨R, 0, none⟩ : Addr).add (i * 2)) 2).bind (DataW.trod (fun _ => ()) Tryd.prog W 0 (fun _ => true) false 3 219)) = some (rows.map fun x => (.agg [.lit (.int .i64 x.1), .lit (.string x.2)], [])) := by
    refine mapM_some_of_get _ _ (by simp [hlen]) ?_
    intro i y hy
    obtain ⟨hi, he⟩ := List.getElem?_eq_some_iff.1 hy
    rw [List.length_range] at hi
    rw [List.getElem_range] at he
    subst he
    have hx : rows[i]? = some (rows[i]'(by omega)) := by simp [show i < rows.length by omega]
    have hw := hwf _ (List.getElem_mem (l := rows) (n := i) (by omega))
    simp only [Bool.and_eq_true, decide_eq_true_eq] at hw
    have h2 := flat2Z (fun x : Nat × List UInt8 => Value.int .i64 (x.1 : Int)) (fun x => Value.string ⟨x.2.toArray⟩) rows i _ hx
    have hc : W.cells? 0 ((⟨R, 0, none⟩ : Addr).add (i * 2)) 2 = some [.int .i64 (rows[i]'(by omega)).1, .string ⟨(rows[i]'(by omega)).2.toArray⟩] := by
      rw [Addr.add_mid]
      refine World.cells?_of_each (Nat.zero_le _) rfl fun j hj => ?_
      have h3 := congrArg (fun l => l[j]?) h2
      simp only [List.getElem?_take, List.getElem?_drop, if_pos hj] at h3
      have h4 : (chC rows)[i * 2 + j]? = _ := h3
      rw [← h4, Addr.add_mid, Nat.zero_add]
      simp [World.cell?, hR]
    rw [hc]
    show DataW.trod _ _ _ _ _ _ _ _ _ = _
    rw [chRow W _ hw.1 hw.2 1, List.getElem?_map, hx]
    rfl
  rw [hm]
  simp [Function.comp_def, hlen]

/-- A world that lays the tables. -/
noncomputable def scHeap (h : Array Obj) : Array Obj :=
  let h0 := h.modify 7 (layZ (leavesZ 4 Rows.laid_math_bits_deBruijn32tab).toArray)
  let h1 := h0.modify 8 (layZ (leavesZ 4 Rows.laid_math_bits_deBruijn64tab).toArray)
  let h2 := h1.modify 2 (layZ #[.bool true])
  let h3 := h2.modify 3 (layZ (leavesZ 4 Rows.laid_internal_strconv_uint64pow10).toArray)
  let h4 := h3.modify 4 (layZ (pmC Go.Pinned.pow10Rows).toArray)
  let h5 := h4.modify 5 (layZ #[.slice (some ⟨h.size, 0, none⟩) 61 61])
  h5.push (.cells (chC Go.Pinned.cheatRows).toArray 219 (0, 0))
noncomputable def scWorld (os : Os) : World := { World.holding Tryd.prog os ⟨#[], #[], []⟩ with heap := scHeap (World.holding Tryd.prog os ⟨#[], #[], []⟩).heap }
/-- The tables, as they lie in a world. -/
structure LaysZ (W : World) (R : Nat) : Prop where
  h32 : ∃ t, W.heap[7]? = some (.cells (leavesZ 4 Rows.laid_math_bits_deBruijn32tab).toArray t (0, 0))
  h64 : ∃ t, W.heap[8]? = some (.cells (leavesZ 4 Rows.laid_math_bits_deBruijn64tab).toArray t (0, 0))
  hop : ∃ t, W.heap[2]? = some (.cells #[.bool true] t (0, 0))
  hpo : ∃ t, W.heap[3]? = some (.cells (leavesZ 4 Rows.laid_internal_strconv_uint64pow10).toArray t (0, 0))
  hpm : ∃ t, W.heap[4]? = some (.cells (pmC Go.Pinned.pow10Rows).toArray t (0, 0))
  hch : ∃ t, W.heap[5]? = some (.cells #[.slice (some ⟨R, 0, none⟩) 61 61] t (0, 0))
  hro : ∃ t, W.heap[R]? = some (.cells (chC Go.Pinned.cheatRows).toArray t (0, 0))
theorem noI {l : List Value} (h : (l.all fun c => match c with | .iface _ _ => false | _ => true) = true) : ∀ c ∈ l, ∀ u v, c ≠ .iface u v := by
  intro c hc u v e
  subst e
  have := List.all_eq_true.1 h _ hc
  cases this
set_option maxRecDepth 100000 in
theorem laidZ {W : World} {R : Nat} (hR : Tryd.prog.globals.size ≤ R) (H : LaysZ W R) :
    laidMet Tryd.prog [("math/bits.deBruijn32tab", Rows.laid_math_bits_deBruijn32tab), ("math/bits.deBruijn64tab", Rows.laid_math_bits_deBruijn64tab), ("internal/strconv.optimize", Rows.laid_internal_strconv_optimize), ("internal/strconv.uint64pow10", Rows.laid_internal_strconv_uint64pow10), ("internal/strconv.leftcheats", Rows.laid_internal_strconv_leftcheats), ("internal/strconv.pow10Tab", Rows.laid_internal_strconv_pow10Tab)] W := by
  obtain ⟨⟨t0, h0⟩, ⟨t1, h1⟩, ⟨t2, h2⟩, ⟨t3, h3⟩, ⟨t4, h4⟩, ⟨t5, h5⟩, ⟨t6, h6⟩⟩ := H
  have l0 : LaidIn Tryd.prog W [("math/bits.deBruijn32tab", Rows.laid_math_bits_deBruijn32tab)] [7] := laid_flat (t := 161) (fuel := 4) (by kernel_rfl) (by kernel_rfl) h0 (by kernel_rfl) (noI (by kernel_rfl))
  have l1 : LaidIn Tryd.prog W [("math/bits.deBruijn64tab", Rows.laid_math_bits_deBruijn64tab)] [8] := laid_flat (t := 225) (fuel := 4) (by kernel_rfl) (by kernel_rfl) h1 (by kernel_rfl) (noI (by kernel_rfl))
  have l2 : LaidIn Tryd.prog W [("internal/strconv.optimize", Rows.laid_internal_strconv_optimize)] [2] := laid_flat (t := 4) (fuel := 4) (by kernel_rfl) (by kernel_rfl) h2 (by kernel_rfl) (noI (by kernel_rfl))
  have l3 : LaidIn Tryd.prog W [("internal/strconv.uint64pow10", Rows.laid_internal_strconv_uint64pow10)] [3] := laid_flat (t := 197) (fuel := 4) (by kernel_rfl) (by kernel_rfl) h3 (by kernel_rfl) (noI (by kernel_rfl))
  have l4 : LaidIn Tryd.prog W [("internal/strconv.pow10Tab", Rows.laid_internal_strconv_pow10Tab)] [4] := laid_flat (t := 215) (fuel := 3) (by kernel_rfl) (by kernel_rfl) h4 (pmRead W) (flat2Z_mem _ _ _ (fun _ _ _ e => by cases e) (fun _ _ _ e => by cases e))
  have hne : 5 ≠ R := by
    intro e
    rw [← e] at hR
    exact absurd hR (by decide +kernel)
  have l5 : LaidIn Tryd.prog W [("internal/strconv.leftcheats", Rows.laid_internal_strconv_leftcheats)] [5, R] := by
    have hg : Tryd.prog.globalNamed "internal/strconv.leftcheats" = some 5 := by kernel_rfl
    have hv : W.var? Tryd.prog "internal/strconv.leftcheats" = some #[.slice (some ⟨R, 0, none⟩) 61 61] := by simp [World.var?, hg, h5]
    have hrows2 : MemPlace.row ⟨5, 0, none⟩ 1 ++ MemPlace.row ⟨R, 0, none⟩ 122 = [((⟨5, 0, none⟩ : Addr), 1), (⟨R, 0, none⟩, 122)].flatMap fun r => MemPlace.row r.1 r.2 := by simp
    refine LaidIn.one _ hg (by kernel_rfl) hv (chRead W R _ h6) ?_ ?_ ?_
    · show (MemPlace.row ⟨5, 0, none⟩ 1 ++ MemPlace.row ⟨R, 0, none⟩ 122).Nodup
      rw [hrows2]
      exact rows_nodup _ (by simp [hne])
    · intro b off hp
      have hp' : MemPlace.cell b off ∈ MemPlace.row ⟨5, 0, none⟩ 1 ++ MemPlace.row ⟨R, 0, none⟩ 122 := hp
      rcases List.mem_append.1 hp' with h | h
      · obtain ⟨i, hi, e1⟩ := MemPlace.mem_row.1 h
        simp only [MemPlace.cell.injEq] at e1
        obtain ⟨rfl, rfl⟩ := e1
        obtain rfl : i = 0 := by omega
        refine ⟨⟨_, _, h5⟩, fun u v hcv => ?_⟩
        simp [World.cell?, h5] at hcv
      · obtain ⟨i, hi, e1⟩ := MemPlace.mem_row.1 h
        simp only [MemPlace.cell.injEq] at e1
        obtain ⟨rfl, rfl⟩ := e1
        refine ⟨⟨_, _, h6⟩, fun u v hcv => ?_⟩
        simp only [World.cell?, h6] at hcv
        exfalso
        have hm := Array.mem_of_getElem? (a := .iface u v) (xs := (chC Go.Pinned.cheatRows).toArray) (i := 0 + i) (by simpa using hcv)
        simp [chC] at hm
    · intro x hx
      have hx' : x ∈ MemPlace.row ⟨5, 0, none⟩ 1 ++ MemPlace.row ⟨R, 0, none⟩ 122 := hx
      rw [hrows2] at hx'
      simpa using rows_block _ x hx'
  have hR7 : 9 ≤ R := Nat.le_trans (by decide +kernel) hR
  have := ((((l0.append l1 (by decide)).append l2 (by decide)).append l3 (by decide)).append l5 (by simp; omega)).append l4 (by simp; omega)
  exact this.met
def rowZ : Obj → Option (Array Value × (Nat × Nat))
  | .cells cs _ f => some (cs, f)
  | _ => none
theorem rowZ_some {o : Option Obj} {cs : Array Value} (h : o.bind rowZ = some (cs, (0, 0))) : ∃ t, o = some (.cells cs t (0, 0)) := by
  match o, h with
  | some (.cells cs' t f), h =>
    obtain ⟨rfl, rfl⟩ : cs' = cs ∧ f = (0, 0) := by simpa [rowZ] using h
    exact ⟨t, rfl⟩
theorem rd_flt (W : World) {H : Type} (enc : TypeId × Value → H) : DataW.trod enc Tryd.prog W 0 (fun _ => true) true 8 48 (Value.float .f64 0).cells.toList = some (.lit (.float .f64 0), []) := by
  show DataW.trod enc Tryd.prog W 0 (fun _ => true) true 8 48 [.float .f64 0] = _
  have hw : (Lit.float .f64 0).wf = true := by decide
  unfold DataW.trod
  rw [Tryd.underlying48]
  simp [hw]
theorem rd_int (W : World) {H : Type} (enc : TypeId × Value → H) : DataW.trod enc Tryd.prog W 0 (fun _ => true) true 8 3 (Value.int .i64 0).cells.toList = some (.lit (.int .i64 0), []) := by
  show DataW.trod enc Tryd.prog W 0 (fun _ => true) true 8 3 [.int .i64 0] = _
  have hw : (Lit.int .i64 0).wf = true := by decide
  unfold DataW.trod
  rw [Tryd.underlying3]
  simp [hw]
theorem rd_nil (W : World) {H : Type} (enc : TypeId × Value → H) : DataW.trod enc Tryd.prog W 0 (fun _ => true) true 8 47 (Value.slice none 0 0).cells.toList = some (.nil, []) := by
  show DataW.trod enc Tryd.prog W 0 (fun _ => true) true 8 47 [.slice none 0 0] = _
  unfold DataW.trod
  rw [Tryd.underlying47]
  rfl
end Go.Proofs.YtpjbdejgamajlabDoor
