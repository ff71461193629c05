/- Packed: Base, Post, Rec, TabsZ, WitE, FlM, FlA, FlB, FlC. -/
import Derived.Test.YtpjbdejgamajlabDoorChecked
import Derived.WalkKit
import Derived.Outline
import Derived.Deep.QuietTactic
import Derived.BigQuiet
import Derived.StillTailTactics
import Derived.Lib.Hide
import Derived.ProofKit
import Derived.OpenShut
import Derived.WideKeyArr2
import Derived.Test.YtpjbdejgamajlabDoorRows
import Derived.KernelRfl
import Derived.Lib.LaidIn
import Derived.Great.FillDense
import Derived.DataShut
import Derived.ChangeSame
import Derived.Deep.MidRow
import Derived.ChangeFn
import Derived.DataWitness
import Derived.Deep.DeepHandedRow
import Derived.Laws.FloatArith
import Derived.Laws.Externs
import Derived.Laws.Cover2
import Derived.Laws.Bits64b
/- Small lemmas that the walks of this seat share. -/
namespace Go.Proofs.YtpjbdejgamajlabDoor
open Go.RowKit

/-- A region whose head only reads, with the drawn world under its name. -/
theorem region_tail {P : Program} {w : World} {id : Nat} {Q : Exit → Act → World → Prop} {a : Act} {l : List Oper} (n : Nat) (hm : P.follows .mixedOrders = true) (hB : Region.lexTailB .any l.toArray n = true)
    (h : wpStill P l.toArray w.drew (fun a' => wpList P l.toArray Q (l.drop n) a' w.drew) (l.take n) a) : (Code.region id l.toArray true).wp P Q a w :=
  wp_region_still_tail n hm hB h
theorem still_tail_nil {P : Program} {w : World} {ops : Array Oper} {Q : Exit → Act → World → Prop} {a : Act} {ops' : Array Oper} {l : List Oper} (h : wpList P ops' Q l a w) : wpStill P ops w (fun a' => wpList P ops' Q l a' w) [] a := wpStill_nil h
theorem calls_flip {P : Program} {f : Nat} {args : Array Value} {w : World} {v : Value} (h : Calls P f args w fun e w' => e = .returned v ∧ w = w') : Calls P f args w fun e w' => e = .returned v ∧ w' = w :=
  h.mono fun _ _ ⟨a, b⟩ => ⟨a, b.symm⟩
theorem calls_flop {P : Program} {f : Nat} {args : Array Value} {w : World} {v : Value} (h : Calls P f args w fun e w' => e = .returned v ∧ w' = w) : Calls P f args w fun e w' => e = .returned v ∧ w = w' :=
  h.mono fun _ _ ⟨a, b⟩ => ⟨a, b.symm⟩
theorem bcell {W w1 : World} (hb : Below W.heap.size W w1) : (∀ b o, b < W.heap.size → w1.cell? ⟨b, o, none⟩ = W.cell? ⟨b, o, none⟩) ∧ (∀ b o, b < W.heap.size → w1.frozen? ⟨b, o, none⟩ = W.frozen? ⟨b, o, none⟩) :=
  ⟨fun b o h => hb.cell (p := ⟨b, o, none⟩) h, fun b o h => hb.frozen (p := ⟨b, o, none⟩) h⟩
end Go.Proofs.YtpjbdejgamajlabDoor

/- The row's last step where the call leaves the old memory alone and makes new memory. -/
namespace Go.Proofs.YtpjbdejgamajlabDoor
open Go.ChangeShapes Go.WideShapes Go.ChangeAt Go.RowKit

/-- What a call leaves that has only made new memory: results that lead nowhere, arguments and variables read as before. -/
theorem post_new {H : Type} {enc : TypeId × Value → H} {P : Program} {fn : Func} {sp : ChangeSpec} {ap fr ho ag : Bool} {W V : World} {args : Array Value} {r : Value} {ds gs : List (DataW H)} {places ofArgs ofVars : List MemPlace}
    (whole : DataW.Whole enc P fn.params.toList sp.vars ap W args.toList ds gs places) (bel : Below W.heap.size W V) (parts : places = ofArgs ++ ofVars)
    (hR : ∀ b spare held, DataW.TrodAll enc P V b spare held fn.resultTypes.toList (r.resultList fn.resultTypes.size) (sp.fn H (ds ++ gs)).results [])
    (hA : ∀ spare : Nat → Bool, (∀ p ∈ places, spare p.block = true) → DataW.TrodAll enc P V 0 spare true fn.params.toList args.toList (sp.fn H (ds ++ gs)).args ofArgs)
    (hV : ∀ spare : Nat → Bool, (∀ p ∈ places, spare p.block = true) → DataW.TrodVars enc P V spare sp.vars (sp.fn H (ds ++ gs)).vars ofVars)
    (okR : ∀ (j : Nat) t x, fn.resultTypes[j]? = some t → (r.resultList fn.resultTypes.size)[j]? = some x → Value.okWide P V .any 0 t x) :
    sp.post enc P fn ap fr ho ag W args r V := by
  have below : ∀ p, p ∈ places → p.block < W.heap.size := fun p hp => whole.lt p hp
  have old : ∀ p ∈ places, (fun b => decide (b < W.heap.size)) p.block = true := fun p hp => decide_eq_true (below p hp)
  have kept : W.keptBut V (fun p => p ∈ places ∧ (p ∈ ([] : List MemPlace) ∨ p ∈ ofArgs ++ ofVars)) :=
    World.keptBut_mono (fun p hp => ⟨hp, .inr (parts ▸ hp)⟩) (bel.frame (fun p => p ∈ places))
  refine ⟨ds, gs, places, [], ofArgs, ofVars, whole, hR _ _ _, hA _ old, hV _ old, ?_, fun _ => ?_⟩
  · exact World.keptBut_mono (fun p hp => ⟨hp.1, by simpa using hp.2⟩) kept
  · obtain ⟨_, _, _, _, _, marks, once⟩ := whole
    refine ⟨okR, _, _, ([] ++ ofArgs) ++ ofVars, ⟨[] ++ ofArgs, ofVars, trodAll_append (hA _ (fun _ _ => rfl)) (hR _ _ _), hV _ (fun _ _ => rfl), rfl, fun b o hp => ?_, fun h => ?_⟩, ?_⟩
    · have hm : MemPlace.cell b o ∈ places := by rw [parts]; simpa using hp
      exact (bel.frozen (below _ hm)).trans (marks b o hm)
    · simpa [← parts] using once h
    · exact fun p hp _ => by simpa [← parts] using hp
end Go.Proofs.YtpjbdejgamajlabDoor

/- Records of strings and numbers that are handed in by value. -/
namespace Go.Proofs.YtpjbdejgamajlabDoor
open Go.ChangeShapes Go.WideShapes Go.ChangeAt Go.RowKit

/-- The fields of a record: their types and offsets. -/
def fieldsOf (d : TypeDesc) : List (TypeId × Nat) := match d with
  | .struct fs => fs.toList.map fun f => (f.type, f.offset)
  | _ => []
theorem fieldsOf_struct {o : Option TypeDesc} {l : List (TypeId × Nat)} (h : o.map fieldsOf = some l) (hl : l ≠ []) : ∃ fs : Array Field, o = some (.struct fs) ∧ fs.toList.map (fun f => (f.type, f.offset)) = l := by
  cases o with
  | none => cases h
  | some d =>
    cases d with
    | struct fs => exact ⟨fs, rfl, Option.some.inj h⟩
    | _ => exact absurd (Option.some.inj h).symm hl
section
variable {H : Type} {enc : TypeId × Value → H} {P : Program} {t : TypeId} {W : World} {base : Nat} {sp : Nat → Bool} {held : Bool}
theorem rec_open {l : List (TypeId × Nat)} (hu : (P.underlying t).map fieldsOf = some l) (hl : l ≠ []) {r : Reach} {b0 : Nat} {v : Value} {d : DataW H} {ps : List MemPlace}
    (hval : Value.okWide P W r b0 t v) (hd : DataW.Trod enc P W base sp held t v d ps) :
    ∃ (cs : Array Value) (xs : List (DataW H × List MemPlace)) (n : Nat), v = .agg cs ∧ cs.toList.length = P.cellsOf t ∧ d = .agg (xs.map (·.1)) ∧ ps = xs.flatMap (·.2) ∧ xs.length = l.length ∧
      ∀ (i : Nat) (u : TypeId) (o : Nat), l[i]? = some (u, o) → DataW.trod enc P W base sp held n u ((cs.toList.drop o).take (P.cellsOf u)) = xs[i]? := by
  obtain ⟨fs, hs, rfl⟩ := fieldsOf_struct hu hl
  obtain ⟨cs, rfl, hc⟩ := okWide_struct hs hval
  obtain ⟨fuel, hf⟩ := hd
  obtain ⟨xs, n, _, hx, h1, h2, h3⟩ := DataW.trod_struct hs hf
  simp only [Prod.mk.injEq] at hx
  refine ⟨cs, xs, n, rfl, h1, hx.1, hx.2, by simpa using h2, fun i u o hi => ?_⟩
  rw [List.getElem?_map] at hi
  obtain ⟨f, hf', he⟩ := Option.map_eq_some_iff.1 hi
  simp only [Prod.mk.injEq] at he
  obtain ⟨rfl, rfl⟩ := he
  exact h3 i f (by simpa using hf')
theorem rec_shut {l : List (TypeId × Nat)} (hu : (P.underlying t).map fieldsOf = some l) (hl : l ≠ []) (cs : List Value) (xs : List (DataW H × List MemPlace)) (n : Nat) (hc : cs.length = P.cellsOf t)
    (hm : l.mapM (fun q => DataW.trod enc P W base sp held n q.1 ((cs.drop q.2).take (P.cellsOf q.1))) = some xs) : DataW.Trod enc P W base sp held t (.agg cs.toArray) (.agg (xs.map (·.1))) (xs.flatMap (·.2)) := by
  obtain ⟨fs, hs, rfl⟩ := fieldsOf_struct hu hl
  refine ⟨n + 1, ?_⟩
  have := trod_struct_mk (enc := enc) (w := W) (base := base) (spare := sp) (held := held) (n := n) (cs := cs) (xs := xs) hs hc (by rw [List.mapM_map] at hm; exact hm)
  exact this
end
theorem one_cellR {cs : List Value} {i : Nat} {v : Value} (h : (cs.drop i).take 1 = [v]) : cs[i]? = some v := by
  have h1 : ((cs.drop i).take 1)[0]? = some v := by rw [h]; rfl
  rw [List.getElem?_take, if_pos (by decide), List.getElem?_drop] at h1
  exact h1
end Go.Proofs.YtpjbdejgamajlabDoor

/- A world that lays the tables that the rows of score list. -/
namespace Go.Proofs.YtpjbdejgamajlabDoor

/-- The scalars of a datum. -/
def leavesZ (fuel : Nat) (d : DataW Unit) : List Value :=
  match fuel with
  | 0 => []
  | fuel + 1 => match d with
    | .lit (.int k n) => [.int k n]
    | .lit (.bool b) => [.bool b]
    | .lit (.string s) => [.string ⟨s.toArray⟩]
    | .agg l => l.flatMap (leavesZ fuel)
    | .slice l _ => l.flatMap (leavesZ fuel)
    | _ => []
def layZ (cs : Array Value) : Obj → Obj
  | .cells _ t frozen => .cells cs t frozen
  | o => o
/-- A fact of the rows: they list nothing that a walk needs (the zero's text looks at no table). -/
def NoTab (_ : World) : Prop := True
def pmC (rows : List (Nat × Nat)) : List Value := rows.flatMap fun x => [.int .u64 x.1, .int .u64 x.2]
def chC (rows : List (Nat × List UInt8)) : List Value := rows.flatMap fun x => [.int .i64 x.1, .string ⟨x.2.toArray⟩]
theorem flat2Z {α : Type} (f g : α → Value) : ∀ (l : List α) (i : Nat) (x : α), l[i]? = some x → ((l.flatMap fun x => [f x, g x]).drop (i * 2)).take 2 = [f x, g x]
  | [], _, _, h => by simp at h
  | a :: l, 0, x, h => by
    obtain rfl : a = x := by simpa using h
    simp
  | a :: l, i + 1, x, h => by
    have ih := flat2Z f g l i x (by simpa using h)
    rw [show (i + 1) * 2 = i * 2 + 2 by omega, List.flatMap_cons]
    simpa using ih
theorem flat2Z_len {α : Type} (f g : α → Value) : ∀ l : List α, (l.flatMap fun x => [f x, g x]).length = l.length * 2
  | [] => rfl
  | a :: l => by
    rw [List.flatMap_cons, List.length_append, flat2Z_len f g l]
    simp
    omega
theorem flat2Z_mem {α : Type} (f g : α → Value) (l : List α) (hf : ∀ x u v, f x ≠ .iface u v) (hg : ∀ x u v, g x ≠ .iface u v) : ∀ c ∈ (l.flatMap fun x => [f x, g x]), ∀ u v, c ≠ .iface u v := by
  intro c hc u v
  rw [List.mem_flatMap] at hc
  obtain ⟨x, _, hx⟩ := hc
  simp at hx
  rcases hx with rfl | rfl
  · exact hf x u v
  · exact hg x u v
/-- A variable that holds plain values. -/
theorem laid_flat {P : Program} {W : World} {n : String} {d : DataW Unit} {g fuel : Nat} {t t0 : TypeId} {cs : Array Value} (hg : P.globalNamed n = some g) (ht : (P.globals[g]?).map (·.type) = some t) (hh : W.heap[g]? = some (.cells cs t0 (0, 0)))
    (hread : DataW.trod (fun _ => ()) P W 0 (fun _ => true) false fuel t cs.toList = some (d, [])) (hno : ∀ c ∈ cs.toList, ∀ u v, c ≠ .iface u v) : LaidIn P W [(n, d)] [g] := by
  have hv : W.var? P n = some cs := by simp [World.var?, hg, hh]
  refine LaidIn.one [g] hg ht hv hread ?_ ?_ ?_
  · rw [List.append_nil]; exact rowP_nodup _ _
  · intro b off hp
    rw [List.append_nil] at hp
    obtain ⟨i, hi, e1⟩ := MemPlace.mem_row.1 hp
    simp only [MemPlace.cell.injEq] at e1
    obtain ⟨rfl, rfl⟩ := e1
    refine ⟨⟨_, _, hh⟩, fun u v hc => ?_⟩
    simp only [World.cell?, hh] at hc
    exfalso
    refine hno (.iface u v) ?_ u v rfl
    have := Array.mem_of_getElem? (a := .iface u v) (xs := cs) (i := 0 + i) (by simpa using hc)
    simpa using this
  · intro x hx
    rw [List.append_nil] at hx
    obtain ⟨i, hi, e1⟩ := MemPlace.mem_row.1 hx
    rw [e1]
    simp [MemPlace.block]
theorem pmF : (Tryd.prog.underlying 214).map fieldsOf = some [(40, 0), (40, 1)] := by kernel_rfl
theorem pmC2 : Tryd.prog.cellsOf 214 = 2 := by kernel_rfl
theorem pmC1 : Tryd.prog.cellsOf 40 = 1 := by kernel_rfl
theorem pmA : Tryd.prog.cellsOf 215 = 1392 := by kernel_rfl
theorem chF : (Tryd.prog.underlying 219).map fieldsOf = some [(3, 0), (9, 1)] := by kernel_rfl
theorem chC2 : Tryd.prog.cellsOf 219 = 2 := by kernel_rfl
theorem chCi : Tryd.prog.cellsOf 3 = 1 := by kernel_rfl
theorem chCs : Tryd.prog.cellsOf 9 = 1 := by kernel_rfl
theorem two_ofZ {α : Type} {l : List α} (h : l.length = 2) : ∃ a b, l = [a, b] := by
  match l, h with
  | [a, b], _ => exact ⟨a, b, rfl⟩
theorem twoF {fs : Array Field} {a b : TypeId} (h : fs.toList.map (fun f => (f.type, f.offset)) = [(a, 0), (b, 1)]) : ∃ f g, fs.toList = [f, g] ∧ f.type = a ∧ f.offset = 0 ∧ g.type = b ∧ g.offset = 1 := by
  obtain ⟨f, g, hl⟩ := two_ofZ (l := fs.toList) (by have := congrArg List.length h; simpa using this)
  rw [hl] at h
  simp at h
  exact ⟨f, g, hl, h.1.1, h.1.2, h.2.1, h.2.2⟩
theorem pmRow (W : World) (x : Nat × Nat) (h1 : x.1 < 18446744073709551616) (h2 : x.2 < 18446744073709551616) (fuel : Nat) :
    DataW.trod (fun _ => ()) Tryd.prog W 0 (fun _ => true) false (fuel + 2) 214 [.int .u64 x.1, .int .u64 x.2] = some (.agg [.lit (.int .u64 x.1), .lit (.int .u64 x.2)], []) := by
  obtain ⟨fs, pmU, hfs⟩ := fieldsOf_struct pmF (List.cons_ne_nil _ _)
  obtain ⟨f, g, hl, a1, a2, b1, b2⟩ := twoF hfs
  have w1 : (Lit.int .u64 (x.1 : Int)).wf = true := by simp [Lit.wf, IntKind.min, IntKind.max, IntKind.signed, IntKind.bits]; omega
  have w2 : (Lit.int .u64 (x.2 : Int)).wf = true := by simp [Lit.wf, IntKind.min, IntKind.max, IntKind.signed, IntKind.bits]; omega
  refine (ChangeShapes.trod_struct_mk (xs := [(.lit (.int .u64 x.1), []), (.lit (.int .u64 x.2), [])]) pmU (by rw [pmC2]; rfl) ?_).trans rfl
  rw [hl]
  have e1 := ChangeShapes.trod_int_mk (enc := fun _ => ()) (P := Tryd.prog) (w := W) (base := 0) (spare := fun _ => true) (held := false) fuel Tryd.underlying40 w1
  have e2 := ChangeShapes.trod_int_mk (enc := fun _ => ()) (P := Tryd.prog) (w := W) (base := 0) (spare := fun _ => true) (held := false) fuel Tryd.underlying40 w2
  simp [a1, a2, b1, b2, pmC1, e1, e2]
theorem chRow (W : World) (x : Nat × List UInt8) (h1 : x.1 < 1000) (h2 : x.2.length < 1000) (fuel : Nat) :
    DataW.trod (fun _ => ()) Tryd.prog W 0 (fun _ => true) false (fuel + 2) 219 [.int .i64 x.1, .string ⟨x.2.toArray⟩] = some (.agg [.lit (.int .i64 x.1), .lit (.string x.2)], []) := by
  obtain ⟨fs, chU, hfs⟩ := fieldsOf_struct chF (List.cons_ne_nil _ _)
  obtain ⟨f, g, hl, a1, a2, b1, b2⟩ := twoF hfs
  have w1 : (Lit.int .i64 (x.1 : Int)).wf = true := by simp [Lit.wf, IntKind.min, IntKind.max, IntKind.signed, IntKind.bits]; omega
  have w2 : (ByteArray.mk x.2.toArray).size ≤ maxLen := by
    show x.2.toArray.size ≤ _
    simp [maxLen]
    omega
  refine (ChangeShapes.trod_struct_mk (xs := [(.lit (.int .i64 x.1), []), (.lit (.string x.2), [])]) chU (by rw [chC2]; rfl) ?_).trans rfl
  rw [hl]
  have e1 := ChangeShapes.trod_int_mk (enc := fun _ => ()) (P := Tryd.prog) (w := W) (base := 0) (spare := fun _ => true) (held := false) fuel Tryd.underlying3 w1
  have e2 : DataW.trod (fun _ => ()) Tryd.prog W 0 (fun _ => true) false (fuel + 1) 9 [.string ⟨x.2.toArray⟩] = some (.lit (.string x.2), []) := by
    unfold DataW.trod
    rw [Tryd.underlying9]
    simp [w2]
  simp [a1, a2, b1, b2, chCi, chCs, e1, e2]
theorem pmWf : (Go.Pinned.pow10Rows.all fun x => decide (x.1 < 18446744073709551616) && decide (x.2 < 18446744073709551616)) = true := by decide +kernel
theorem chWf : (Go.Pinned.cheatRows.all fun x => decide (x.1 < 1000) && decide (x.2.length < 1000)) = true := by decide +kernel
theorem pmLen : Go.Pinned.pow10Rows.length = 696 := by decide +kernel
theorem chLen : Go.Pinned.cheatRows.length = 61 := by decide +kernel
set_option maxRecDepth 100000 in
theorem pmRead (W : World) : DataW.trod (fun _ => ()) Tryd.prog W 0 (fun _ => true) false 3 215 (pmC Go.Pinned.pow10Rows) = some (Go.Pinned.pow10Tab, []) := by
  have hlen := pmLen
  have hwf := pmWf
  rw [List.all_eq_true] at hwf
  unfold Go.Pinned.pow10Tab
  generalize Go.Pinned.pow10Rows = rows at *
  have hl2 : (pmC rows).length = 1392 := by unfold pmC; rw [flat2Z_len, hlen]
  unfold DataW.trod
  rw [Tryd.underlying215]
  simp only [pmA, pmC2, hl2, if_true]
  have hm : (List.range 696).mapM (fun i => DataW.trod (fun _ => ()) Tryd.prog W 0 (fun _ => true) false 2 214 (((pmC rows).drop (i * 2)).take 2)) = some (rows.map fun x => (.agg [.lit (.int .u64 x.1), .lit (.int .u64 x.2)], [])) := by
    refine mapM_some_of_get _ _ (by simp [hlen]) ?_
    intro i y hy
    obtain ⟨hi, he⟩ := List.getElem?_eq_some_iff.1 hy
    rw [List.length_range] at hi
    rw [List.getElem_range] at he
    subst he
    have hx : rows[i]? = some (rows[i]'(by omega)) := by simp [show i < rows.length by omega]
    have hw := hwf _ (List.getElem_mem (l := rows) (n := i) (by omega))
    simp only [Bool.and_eq_true, decide_eq_true_eq] at hw
    rw [show ((pmC rows).drop (i * 2)).take 2 = _ from flat2Z (fun x : Nat × Nat => Value.int .u64 (x.1 : Int)) (fun x => Value.int .u64 (x.2 : Int)) rows i _ hx]
    rw [pmRow W _ hw.1 hw.2 0, List.getElem?_map, hx]
    rfl
  rw [hm]
  simp [Function.comp_def]
set_option maxRecDepth 100000 in
theorem chRead (W : World) (R : Nat) (t0 : TypeId) (hR : W.heap[R]? = some (.cells (chC Go.Pinned.cheatRows).toArray t0 (0, 0))) :
    DataW.trod (fun _ => ()) Tryd.prog W 0 (fun _ => true) false 4 220 [.slice (some ⟨R, 0, none⟩) 61 61] = some (Go.Pinned.leftcheats, MemPlace.row ⟨R, 0, none⟩ 122) := by
  have hlen := chLen
  have hwf := chWf
  rw [List.all_eq_true] at hwf
  unfold Go.Pinned.leftcheats
  generalize Go.Pinned.cheatRows = rows at *
  unfold DataW.trod
  rw [Tryd.underlying220]
  simp only [chC2]
  rw [if_pos ⟨Nat.zero_le _, Nat.le_refl _, by decide⟩]
  have hm : (List.range 61).mapM (fun i => (W.cells? 0 ((⟨R, 0, none⟩ : Addr).add (i * 2)) 2).bind (DataW.trod (fun _ => ()) Tryd.prog W 0 (fun _ => true) false 3 219)) = some (rows.map fun x => (.agg [.lit (.int .i64 x.1), .lit (.string x.2)], [])) := by
    refine mapM_some_of_get _ _ (by simp [hlen]) ?_
    intro i y hy
    obtain ⟨hi, he⟩ := List.getElem?_eq_some_iff.1 hy
    rw [List.length_range] at hi
    rw [List.getElem_range] at he
    subst he
    have hx : rows[i]? = some (rows[i]'(by omega)) := by simp [show i < rows.length by omega]
    have hw := hwf _ (List.getElem_mem (l := rows) (n := i) (by omega))
    simp only [Bool.and_eq_true, decide_eq_true_eq] at hw
    have h2 := flat2Z (fun x : Nat × List UInt8 => Value.int .i64 (x.1 : Int)) (fun x => Value.string ⟨x.2.toArray⟩) rows i _ hx
    have hc : W.cells? 0 ((⟨R, 0, none⟩ : Addr).add (i * 2)) 2 = some [.int .i64 (rows[i]'(by omega)).1, .string ⟨(rows[i]'(by omega)).2.toArray⟩] := by
      rw [Addr.add_mid]
      refine World.cells?_of_each (Nat.zero_le _) rfl fun j hj => ?_
      have h3 := congrArg (fun l => l[j]?) h2
      simp only [List.getElem?_take, List.getElem?_drop, if_pos hj] at h3
      have h4 : (chC rows)[i * 2 + j]? = _ := h3
      rw [← h4, Addr.add_mid, Nat.zero_add]
      simp [World.cell?, hR]
    rw [hc]
    show DataW.trod _ _ _ _ _ _ _ _ _ = _
    rw [chRow W _ hw.1 hw.2 1, List.getElem?_map, hx]
    rfl
  rw [hm]
  simp [Function.comp_def, hlen]

/-- A world that lays the tables. -/
noncomputable def scHeap (h : Array Obj) : Array Obj :=
  let h0 := h.modify 7 (layZ (leavesZ 4 Rows.laid_math_bits_deBruijn32tab).toArray)
  let h1 := h0.modify 8 (layZ (leavesZ 4 Rows.laid_math_bits_deBruijn64tab).toArray)
  let h2 := h1.modify 2 (layZ #[.bool true])
  let h3 := h2.modify 3 (layZ (leavesZ 4 Rows.laid_internal_strconv_uint64pow10).toArray)
  let h4 := h3.modify 4 (layZ (pmC Go.Pinned.pow10Rows).toArray)
  let h5 := h4.modify 5 (layZ #[.slice (some ⟨h.size, 0, none⟩) 61 61])
  h5.push (.cells (chC Go.Pinned.cheatRows).toArray 219 (0, 0))
noncomputable def scWorld (os : Os) : World := { World.holding Tryd.prog os ⟨#[], #[], []⟩ with heap := scHeap (World.holding Tryd.prog os ⟨#[], #[], []⟩).heap }
/-- The tables, as they lie in a world. -/
structure LaysZ (W : World) (R : Nat) : Prop where
  h32 : ∃ t, W.heap[7]? = some (.cells (leavesZ 4 Rows.laid_math_bits_deBruijn32tab).toArray t (0, 0))
  h64 : ∃ t, W.heap[8]? = some (.cells (leavesZ 4 Rows.laid_math_bits_deBruijn64tab).toArray t (0, 0))
  hop : ∃ t, W.heap[2]? = some (.cells #[.bool true] t (0, 0))
  hpo : ∃ t, W.heap[3]? = some (.cells (leavesZ 4 Rows.laid_internal_strconv_uint64pow10).toArray t (0, 0))
  hpm : ∃ t, W.heap[4]? = some (.cells (pmC Go.Pinned.pow10Rows).toArray t (0, 0))
  hch : ∃ t, W.heap[5]? = some (.cells #[.slice (some ⟨R, 0, none⟩) 61 61] t (0, 0))
  hro : ∃ t, W.heap[R]? = some (.cells (chC Go.Pinned.cheatRows).toArray t (0, 0))
theorem noI {l : List Value} (h : (l.all fun c => match c with | .iface _ _ => false | _ => true) = true) : ∀ c ∈ l, ∀ u v, c ≠ .iface u v := by
  intro c hc u v e
  subst e
  have := List.all_eq_true.1 h _ hc
  cases this
set_option maxRecDepth 100000 in
theorem laidZ {W : World} {R : Nat} (hR : Tryd.prog.globals.size ≤ R) (H : LaysZ W R) :
    laidMet Tryd.prog [("math/bits.deBruijn32tab", Rows.laid_math_bits_deBruijn32tab), ("math/bits.deBruijn64tab", Rows.laid_math_bits_deBruijn64tab), ("internal/strconv.optimize", Rows.laid_internal_strconv_optimize), ("internal/strconv.uint64pow10", Rows.laid_internal_strconv_uint64pow10), ("internal/strconv.leftcheats", Rows.laid_internal_strconv_leftcheats), ("internal/strconv.pow10Tab", Rows.laid_internal_strconv_pow10Tab)] W := by
  obtain ⟨⟨t0, h0⟩, ⟨t1, h1⟩, ⟨t2, h2⟩, ⟨t3, h3⟩, ⟨t4, h4⟩, ⟨t5, h5⟩, ⟨t6, h6⟩⟩ := H
  have l0 : LaidIn Tryd.prog W [("math/bits.deBruijn32tab", Rows.laid_math_bits_deBruijn32tab)] [7] := laid_flat (t := 161) (fuel := 4) (by kernel_rfl) (by kernel_rfl) h0 (by kernel_rfl) (noI (by kernel_rfl))
  have l1 : LaidIn Tryd.prog W [("math/bits.deBruijn64tab", Rows.laid_math_bits_deBruijn64tab)] [8] := laid_flat (t := 225) (fuel := 4) (by kernel_rfl) (by kernel_rfl) h1 (by kernel_rfl) (noI (by kernel_rfl))
  have l2 : LaidIn Tryd.prog W [("internal/strconv.optimize", Rows.laid_internal_strconv_optimize)] [2] := laid_flat (t := 4) (fuel := 4) (by kernel_rfl) (by kernel_rfl) h2 (by kernel_rfl) (noI (by kernel_rfl))
  have l3 : LaidIn Tryd.prog W [("internal/strconv.uint64pow10", Rows.laid_internal_strconv_uint64pow10)] [3] := laid_flat (t := 197) (fuel := 4) (by kernel_rfl) (by kernel_rfl) h3 (by kernel_rfl) (noI (by kernel_rfl))
  have l4 : LaidIn Tryd.prog W [("internal/strconv.pow10Tab", Rows.laid_internal_strconv_pow10Tab)] [4] := laid_flat (t := 215) (fuel := 3) (by kernel_rfl) (by kernel_rfl) h4 (pmRead W) (flat2Z_mem _ _ _ (fun _ _ _ e => by cases e) (fun _ _ _ e => by cases e))
  have hne : 5 ≠ R := by
    intro e
    rw [← e] at hR
    exact absurd hR (by decide +kernel)
  have l5 : LaidIn Tryd.prog W [("internal/strconv.leftcheats", Rows.laid_internal_strconv_leftcheats)] [5, R] := by
    have hg : Tryd.prog.globalNamed "internal/strconv.leftcheats" = some 5 := by kernel_rfl
    have hv : W.var? Tryd.prog "internal/strconv.leftcheats" = some #[.slice (some ⟨R, 0, none⟩) 61 61] := by simp [World.var?, hg, h5]
    have hrows2 : MemPlace.row ⟨5, 0, none⟩ 1 ++ MemPlace.row ⟨R, 0, none⟩ 122 = [((⟨5, 0, none⟩ : Addr), 1), (⟨R, 0, none⟩, 122)].flatMap fun r => MemPlace.row r.1 r.2 := by simp
    refine LaidIn.one _ hg (by kernel_rfl) hv (chRead W R _ h6) ?_ ?_ ?_
    · show (MemPlace.row ⟨5, 0, none⟩ 1 ++ MemPlace.row ⟨R, 0, none⟩ 122).Nodup
      rw [hrows2]
      exact rows_nodup _ (by simp [hne])
    · intro b off hp
      have hp' : MemPlace.cell b off ∈ MemPlace.row ⟨5, 0, none⟩ 1 ++ MemPlace.row ⟨R, 0, none⟩ 122 := hp
      rcases List.mem_append.1 hp' with h | h
      · obtain ⟨i, hi, e1⟩ := MemPlace.mem_row.1 h
        simp only [MemPlace.cell.injEq] at e1
        obtain ⟨rfl, rfl⟩ := e1
        obtain rfl : i = 0 := by omega
        refine ⟨⟨_, _, h5⟩, fun u v hcv => ?_⟩
        simp [World.cell?, h5] at hcv
      · obtain ⟨i, hi, e1⟩ := MemPlace.mem_row.1 h
        simp only [MemPlace.cell.injEq] at e1
        obtain ⟨rfl, rfl⟩ := e1
        refine ⟨⟨_, _, h6⟩, fun u v hcv => ?_⟩
        simp only [World.cell?, h6] at hcv
        exfalso
        have hm := Array.mem_of_getElem? (a := .iface u v) (xs := (chC Go.Pinned.cheatRows).toArray) (i := 0 + i) (by simpa using hcv)
        simp [chC] at hm
    · intro x hx
      have hx' : x ∈ MemPlace.row ⟨5, 0, none⟩ 1 ++ MemPlace.row ⟨R, 0, none⟩ 122 := hx
      rw [hrows2] at hx'
      simpa using rows_block _ x hx'
  have hR7 : 9 ≤ R := Nat.le_trans (by decide +kernel) hR
  have := ((((l0.append l1 (by decide)).append l2 (by decide)).append l3 (by decide)).append l5 (by simp; omega)).append l4 (by simp; omega)
  exact this.met
def rowZ : Obj → Option (Array Value × (Nat × Nat))
  | .cells cs _ f => some (cs, f)
  | _ => none
theorem rowZ_some {o : Option Obj} {cs : Array Value} (h : o.bind rowZ = some (cs, (0, 0))) : ∃ t, o = some (.cells cs t (0, 0)) := by
  match o, h with
  | some (.cells cs' t f), h =>
    obtain ⟨rfl, rfl⟩ : cs' = cs ∧ f = (0, 0) := by simpa [rowZ] using h
    exact ⟨t, rfl⟩
theorem rd_flt (W : World) {H : Type} (enc : TypeId × Value → H) : DataW.trod enc Tryd.prog W 0 (fun _ => true) true 8 48 (Value.float .f64 0).cells.toList = some (.lit (.float .f64 0), []) := by
  show DataW.trod enc Tryd.prog W 0 (fun _ => true) true 8 48 [.float .f64 0] = _
  have hw : (Lit.float .f64 0).wf = true := by decide
  unfold DataW.trod
  rw [Tryd.underlying48]
  simp [hw]
theorem rd_int (W : World) {H : Type} (enc : TypeId × Value → H) : DataW.trod enc Tryd.prog W 0 (fun _ => true) true 8 3 (Value.int .i64 0).cells.toList = some (.lit (.int .i64 0), []) := by
  show DataW.trod enc Tryd.prog W 0 (fun _ => true) true 8 3 [.int .i64 0] = _
  have hw : (Lit.int .i64 0).wf = true := by decide
  unfold DataW.trod
  rw [Tryd.underlying3]
  simp [hw]
theorem rd_nil (W : World) {H : Type} (enc : TypeId × Value → H) : DataW.trod enc Tryd.prog W 0 (fun _ => true) true 8 47 (Value.slice none 0 0).cells.toList = some (.nil, []) := by
  show DataW.trod enc Tryd.prog W 0 (fun _ => true) true 8 47 [.slice none 0 0] = _
  unfold DataW.trod
  rw [Tryd.underlying47]
  rfl
end Go.Proofs.YtpjbdejgamajlabDoor

/- The witness's world is one in which a call may begin (nine variables; out of XWitZ). -/
namespace Go.Proofs.YtpjbdejgamajlabDoor
open Go.RowKit

def rowSize : Obj → Option (Nat × TypeId)
  | .cells cs t _ => some (cs.size, t)
  | _ => none
theorem shaped_one {W : World} {g N : Nat} {T : TypeId} (hz0 : (((begin Tryd.prog (fun _ _ => 0) default).world.heap[g]?).bind Obj.row?).map (fun r => (r.1.size, r.2)) = some (N, T))
    {cs0 : Array Value} (hW : W.heap[g]? = some (.cells cs0 T (0, 0))) (hN : cs0.size = N) (hok : Row.ok Tryd.prog W .any 0 T cs0) {zero : Array Value} {t : TypeId}
    (hz : ((begin Tryd.prog (fun _ _ => 0) default).world.heap[g]?).bind Obj.row? = some (zero, t)) :
    ∃ cs, W.heap[g]? = some (.cells cs t) ∧ cs.size = zero.size ∧ (Tryd.prog.buildable t = true → Row.ok Tryd.prog W .any 0 t cs) := by
  rw [hz] at hz0
  simp only [Option.map_some, Option.some.injEq, Prod.mk.injEq] at hz0
  obtain ⟨h1, rfl⟩ := hz0
  exact ⟨cs0, hW, by rw [hN, h1], fun _ => hok⟩
theorem pmTypes : Tryd.prog.cellTypes Tryd.prog.depth 215 = some (List.replicate 1392 40) := by kernel_rfl
set_option maxRecDepth 100000 in
theorem pmRowOk (W : World) : Row.ok Tryd.prog W .any 0 215 (pmC Go.Pinned.pow10Rows).toArray := by
  have hlen := pmLen
  have hwf := pmWf
  rw [List.all_eq_true] at hwf
  generalize Go.Pinned.pow10Rows = rows at *
  have hl2 : (pmC rows).length = 1392 := by unfold pmC; rw [flat2Z_len, hlen]
  refine ⟨_, pmTypes, ⟨1, by rw [List.length_replicate, List.size_toArray, hl2]⟩, fun i v hv => ?_⟩
  rw [List.getElem?_toArray] at hv
  have hi : i < 1392 := by rw [← hl2]; exact (List.getElem?_eq_some_iff.1 hv).1
  refine ⟨40, by rw [List.length_replicate, Nat.mod_eq_of_lt hi, List.getElem?_replicate, if_pos hi], ?_⟩
  have hm := List.mem_of_getElem? hv
  unfold pmC at hm
  rw [List.mem_flatMap] at hm
  obtain ⟨x, hx, hv2⟩ := hm
  have hw := hwf x hx
  simp only [Bool.and_eq_true, decide_eq_true_eq] at hw
  have key : ∀ n : Nat, n < 18446744073709551616 → Cell.ok Tryd.prog W .any 0 40 (.int .u64 (n : Int)) := by
    intro n hn
    unfold Cell.ok
    rw [Tryd.underlying40]
    exact ⟨rfl, by simp [IntKind.has, IntKind.min, IntKind.max, IntKind.signed, IntKind.bits]; omega⟩
  simp at hv2
  rcases hv2 with rfl | rfl
  · exact key _ hw.1
  · exact key _ hw.2
set_option maxRecDepth 100000 in
theorem shapedZ (os : Os) (args : Array Value) : ((scWorld os).forCall (fun _ _ => 0) ⟨#[], args, []⟩).Shaped Tryd.prog := by
  refine ⟨fun g zero t hg hz => ?_, fun k h1 h2 => ?_⟩
  · have hg7 : g < 9 := Nat.lt_of_lt_of_le hg (by decide +kernel)
    have hc : g = 0 ∨ g = 1 ∨ g = 2 ∨ g = 3 ∨ g = 4 ∨ g = 5 ∨ g = 6 ∨ g = 7 ∨ g = 8 := by omega
    rcases hc with rfl | rfl | rfl | rfl | rfl | rfl | rfl | rfl | rfl
    · exact shaped_one (N := 1) (T := 4) (cs0 := #[.bool false]) (by kernel_rfl) (by kernel_rfl) (by kernel_rfl) (Row.ok_of_okRefB (by kernel_rfl)) hz
    · exact shaped_one (N := 4) (T := 151) (cs0 := #[.int .u64 0, .int .u64 0, .int .u64 0, .int .u64 0]) (by kernel_rfl) (by kernel_rfl) (by kernel_rfl) (Row.ok_of_okRefB (by kernel_rfl)) hz
    · exact shaped_one (N := 1) (T := 4) (cs0 := #[.bool true]) (by kernel_rfl) (by kernel_rfl) (by kernel_rfl) (Row.ok_of_okRefB (by kernel_rfl)) hz
    · exact shaped_one (N := 20) (T := 197) (cs0 := (leavesZ 4 Rows.laid_internal_strconv_uint64pow10).toArray) (by kernel_rfl) (by kernel_rfl) (by kernel_rfl) (Row.ok_of_okRefB (by kernel_rfl)) hz
    · exact shaped_one (N := 1392) (T := 215) (cs0 := (pmC Go.Pinned.pow10Rows).toArray) (by kernel_rfl) (by kernel_rfl) (by rw [List.size_toArray]; unfold pmC; rw [flat2Z_len, pmLen]) (pmRowOk _) hz
    · exact shaped_one (N := 1) (T := 220) (cs0 := #[.slice (some ⟨(World.holding Tryd.prog os ⟨#[], #[], []⟩).heap.size, 0, none⟩) 61 61]) (by kernel_rfl) (by kernel_rfl) (by kernel_rfl) (Row.ok_of_okRefB (by kernel_rfl)) hz
    · exact shaped_one (N := 1) (T := 3) (cs0 := #[.int .i64 0]) (by kernel_rfl) (by kernel_rfl) (by kernel_rfl) (Row.ok_of_okRefB (by kernel_rfl)) hz
    · exact shaped_one (N := 32) (T := 161) (cs0 := (leavesZ 4 Rows.laid_math_bits_deBruijn32tab).toArray) (by kernel_rfl) (by kernel_rfl) (by kernel_rfl) (Row.ok_of_okRefB (by kernel_rfl)) hz
    · exact shaped_one (N := 64) (T := 225) (cs0 := (leavesZ 4 Rows.laid_math_bits_deBruijn64tab).toArray) (by kernel_rfl) (by kernel_rfl) (by kernel_rfl) (Row.ok_of_okRefB (by kernel_rfl)) hz
  · have hr : (((scWorld os).forCall (fun _ _ => 0) ⟨#[], args, []⟩).heap.toList.drop Tryd.prog.globals.size).take ((begin Tryd.prog (fun _ _ => 0) default).world.heap.size - Tryd.prog.globals.size) =
      (begin Tryd.prog (fun _ _ => 0) default).world.heap.toList.drop Tryd.prog.globals.size := by kernel_rfl
    have := congrArg (·[k - Tryd.prog.globals.size]?) hr
    simp only [List.getElem?_take, List.getElem?_drop, Array.getElem?_toList] at this
    rw [if_pos (by omega), Nat.add_sub_cancel' h1] at this
    exact this
/-- 'There is an input that fits', in the world that lays the tables. -/
theorem witnessZ {H : Type} {enc : TypeId × Value → H} {os : Os} {f : FuncId} {fn : Func} {s : OpenSpec} {conds : List PathCond} {apart : Bool} {laid : List (String × DataW Unit)} (modest : Bool) (args : Array Value) (hos : (scWorld os).os = os)
    (hok : Input.okWideB Tryd.prog ((scWorld os).forCall (fun _ _ => 0) ⟨#[], args, []⟩) f ⟨#[], args, []⟩ = true)
    (hrow : s.preRow enc Tryd.prog fn conds apart laid ((scWorld os).forCall (fun _ _ => 0) ⟨#[], args, []⟩).memory args) :
    ∃ (w : World) (tape : Tape) (i : Input), w.os = os ∧ (w.forCall tape i).Shaped Tryd.prog ∧ i.vars = [] ∧ Input.okWide Tryd.prog (w.forCall tape i) .any w.heap.size f i ∧
      s.preRow enc Tryd.prog fn conds apart laid (w.forCall tape i).memory i.args ∧ ({ modest := modest } : Assume).holds Tryd.prog (lone (Frame.enter Tryd.prog f i.args .normal) [] (w.forCall tape i)) :=
  ⟨scWorld os, fun _ _ => 0, ⟨#[], args, []⟩, hos, shapedZ os args, (Input.okWide_of_okWideB (base := 0) hok).1, (Input.okWide_of_okWideB hok).2, hrow, by
    simp only [Assume.holds]
    exact ⟨by simp, by simp, fun _ => Modest.zero, by simp, by simp⟩⟩
end Go.Proofs.YtpjbdejgamajlabDoor

/- Floats by their bits: the order of two numbers is the order of two integers. -/
namespace Go.Proofs.YtpjbdejgamajlabDoor

/-- The magnitude of a word. -/
def mg (x : Nat) : Nat := x % 9223372036854775808
/-- Its sign. -/
def ng (x : Nat) : Bool := x / 9223372036854775808 % 2 == 1
/-- Is it no number? -/
def isN (x : Nat) : Bool := decide (9218868437227405312 < mg x)
/-- A word's place in the order. -/
def kf (x : Nat) : Int := if isN x then 9223372036854775807 else if ng x then -(mg x : Int) else (mg x : Int)
/-- What a magnitude is worth, in units of the least one. -/
def vl (r : Nat) : Nat := if r < 4503599627370496 then r else (4503599627370496 + r % 4503599627370496) * 2 ^ (r / 4503599627370496 - 1)
def sv (x : Nat) : Int := if ng x then -(vl (mg x) : Int) else (vl (mg x) : Int)

theorem vl_lo (r : Nat) (h : 4503599627370496 ≤ r) : 4503599627370496 * 2 ^ (r / 4503599627370496 - 1) ≤ vl r := by
  unfold vl; rw [if_neg (by omega)]; exact Nat.mul_le_mul_right _ (by omega)
theorem vl_hi (r : Nat) : vl r < 4503599627370496 * 2 ^ (r / 4503599627370496) := by
  unfold vl
  split
  · rename_i h
    rw [Nat.div_eq_of_lt h]; omega
  · rename_i h
    have h1 : 1 ≤ r / 4503599627370496 := by omega
    obtain ⟨q, hq⟩ : ∃ q, r / 4503599627370496 = q + 1 := ⟨_, (Nat.sub_add_cancel h1).symm⟩
    rw [hq, Nat.add_sub_cancel, Nat.pow_succ]
    have h2 : r % 4503599627370496 < 4503599627370496 := Nat.mod_lt _ (by decide)
    have h3 : 0 < 2 ^ q := Nat.two_pow_pos q
    calc (4503599627370496 + r % 4503599627370496) * 2 ^ q < (4503599627370496 * 2) * 2 ^ q := Nat.mul_lt_mul_of_pos_right (by omega) h3
      _ = 4503599627370496 * (2 ^ q * 2) := by rw [Nat.mul_assoc, Nat.mul_comm 2]
theorem vl_mono {r s : Nat} (h : r < s) : vl r < vl s := by
  by_cases hq : r / 4503599627370496 = s / 4503599627370496
  · by_cases hr : s < 4503599627370496
    · unfold vl; rw [if_pos hr, if_pos (by omega)]; exact h
    · have h1 : ¬ r < 4503599627370496 := by omega
      unfold vl; rw [if_neg hr, if_neg h1, hq]
      exact Nat.mul_lt_mul_of_pos_right (by omega) (Nat.two_pow_pos _)
  · have h1 : r / 4503599627370496 ≤ s / 4503599627370496 - 1 := by omega
    have h2 : 4503599627370496 ≤ s := by omega
    exact Nat.lt_of_lt_of_le (vl_hi r) (Nat.le_trans (Nat.mul_le_mul_left _ (Nat.pow_le_pow_right (by decide) h1)) (vl_lo s h2))
theorem vl_zero : vl 0 = 0 := rfl
theorem vl_lt {r s : Nat} : vl r < vl s ↔ r < s :=
  ⟨fun h => Decidable.byContradiction fun hn => by
    rcases Nat.lt_or_eq_of_le (Nat.not_lt.1 hn) with h1 | h1
    · exact absurd h (Nat.not_lt.2 (Nat.le_of_lt (vl_mono h1)))
    · subst h1; exact Nat.lt_irrefl _ h, vl_mono⟩
theorem vl_eq {r s : Nat} : vl r = vl s ↔ r = s := by
  have h1 := @vl_lt r s
  have h2 := @vl_lt s r
  omega

theorem cmp_def (a b : Int) : compare a b = if a < b then .lt else if a = b then .eq else .gt := rfl
theorem cmp_mul (a b : Int) (c : Nat) (hc : 0 < c) : compare (a * c) (b * c) = compare a b := by
  have hc' : (0 : Int) < c := by omega
  rw [cmp_def, cmp_def]
  by_cases h : a < b
  · rw [if_pos h, if_pos (Int.mul_lt_mul_of_pos_right h hc')]
  · rw [if_neg h, if_neg (by
      intro hn
      exact h (Int.lt_of_mul_lt_mul_right hn (Int.le_of_lt hc')))]
    by_cases e : a = b
    · rw [if_pos e, if_pos (by rw [e])]
    · rw [if_neg e, if_neg (by
        intro hn
        exact e (Int.eq_of_mul_eq_mul_right (by omega) hn))]
theorem signed_add (s : Bool) (m a e : Nat) : Ieee.signed s m (a + e) = Ieee.signed s m a * ((2 ^ e : Nat) : Int) := by
  unfold Ieee.signed
  simp only [Nat.shiftLeft_eq]
  cases s
  · simp [Nat.pow_add, Int.mul_assoc]
  · simp [Nat.pow_add, Int.mul_assoc, Int.neg_mul]
theorem order_num (s t : Bool) (m n : Nat) (i j : Int) (hi : -1074 ≤ i) (hj : -1074 ≤ j) :
    (Ieee.Datum.number s m i).order (.number t n j) = some (compare (Ieee.signed s m (i + 1074).toNat) (Ieee.signed t n (j + 1074).toNat)) := by
  show some (compare (Ieee.signed s m (i - min i j).toNat) (Ieee.signed t n (j - min i j).toNat)) = _
  have h1 : (i + 1074).toNat = (i - min i j).toNat + (min i j + 1074).toNat := by omega
  have h2 : (j + 1074).toNat = (j - min i j).toNat + (min i j + 1074).toNat := by omega
  rw [h1, h2, signed_add, signed_add, cmp_mul _ _ _ (Nat.two_pow_pos _)]

theorem read_eq (x : Nat) : Ieee.double.read x =
    if mg x < 4503599627370496 then .number (ng x) (mg x) (-1074)
    else if mg x < 9218868437227405312 then .number (ng x) (4503599627370496 + mg x % 4503599627370496) (-1074 + ((mg x / 4503599627370496 - 1 : Nat) : Int))
    else if mg x = 9218868437227405312 then .infinity (ng x) else .nan (ng x) (mg x - 9218868437227405312) := rfl
theorem read_nan (x : Nat) (h : isN x = true) : Ieee.double.read x = .nan (ng x) (mg x - 9218868437227405312) := by
  have h : 9218868437227405312 < mg x := by simpa [isN] using h
  rw [read_eq, if_neg (by omega), if_neg (by omega), if_neg (by omega)]
theorem read_inf (x : Nat) (h : mg x = 9218868437227405312) : Ieee.double.read x = .infinity (ng x) := by
  rw [read_eq, if_neg (by omega), if_neg (by omega), if_pos h]
theorem read_num (x : Nat) (h : mg x < 9218868437227405312) :
    ∃ m i, Ieee.double.read x = .number (ng x) m i ∧ -1074 ≤ i ∧ m <<< (i + 1074).toNat = vl (mg x) := by
  rw [read_eq]
  by_cases h1 : mg x < 4503599627370496
  · rw [if_pos h1]
    exact ⟨_, _, rfl, by omega, by unfold vl; rw [if_pos h1]; rfl⟩
  · rw [if_neg h1, if_pos h]
    refine ⟨_, _, rfl, by omega, ?_⟩
    unfold vl
    rw [if_neg h1, Nat.shiftLeft_eq]
    congr 2
    omega
theorem vl_inf {r : Nat} (h : r < 9218868437227405312) : vl r < vl 9218868437227405312 := vl_mono h
theorem vl_pos {r : Nat} (h : 0 < r) : 0 < vl r := vl_mono h

theorem ord_sv (x y : Nat) (hx : isN x = false) (hy : isN y = false) : Ieee.double.order x y = some (compare (sv x) (sv y)) := by
  have hx : mg x ≤ 9218868437227405312 := by simpa [isN] using hx
  have hy : mg y ≤ 9218868437227405312 := by simpa [isN] using hy
  unfold Ieee.Format.order
  rcases Nat.lt_or_eq_of_le hx with h1 | h1
  · obtain ⟨m, i, e1, hi, v1⟩ := read_num x h1
    rcases Nat.lt_or_eq_of_le hy with h2 | h2
    · obtain ⟨n, j, e2, hj, v2⟩ := read_num y h2
      rw [e1, e2, order_num _ _ _ _ _ _ hi hj]
      unfold Ieee.signed sv
      rw [v1, v2]
    · rw [e1, read_inf y h2]
      show some (if ng y then Ordering.gt else .lt) = _
      have := vl_inf h1
      have := vl_pos (show 0 < 9218868437227405312 by decide)
      unfold sv
      rw [h2, cmp_def]
      generalize vl 9218868437227405312 = V at *
      generalize vl (mg x) = v at *
      cases ng x <;> cases ng y <;> simp <;> (try split) <;> first | rfl | omega | (split <;> first | rfl | omega)
  · rcases Nat.lt_or_eq_of_le hy with h2 | h2
    · obtain ⟨n, j, e2, hj, v2⟩ := read_num y h2
      rw [e2, read_inf x h1]
      show some (if ng x then Ordering.lt else .gt) = _
      have := vl_inf h2
      have := vl_pos (show 0 < 9218868437227405312 by decide)
      unfold sv
      rw [h1, cmp_def]
      generalize vl 9218868437227405312 = V at *
      generalize vl (mg y) = v at *
      cases ng x <;> cases ng y <;> simp <;> (try split) <;> first | rfl | omega | (split <;> first | rfl | omega)
    · rw [read_inf x h1, read_inf y h2]
      show some (compare (ng y).toNat (ng x).toNat) = _
      have := vl_pos (show 0 < 9218868437227405312 by decide)
      unfold sv
      rw [h1, h2, cmp_def]
      generalize vl 9218868437227405312 = V at *
      cases ng x <;> cases ng y <;> simp <;> (try split) <;> first | rfl | omega | (split <;> first | rfl | omega)
theorem sv_cmp (x y : Nat) (hx : isN x = false) (hy : isN y = false) : compare (sv x) (sv y) = compare (kf x) (kf y) := by
  have a1 := @vl_lt (mg x) (mg y)
  have a2 := @vl_lt (mg y) (mg x)
  have a3 := @vl_lt 0 (mg y)
  have a4 := @vl_lt 0 (mg x)
  rw [vl_zero] at a3 a4
  unfold sv kf
  rw [hx, hy, cmp_def, cmp_def]
  generalize vl (mg x) = v at *
  generalize vl (mg y) = u at *
  generalize mg x = r at *
  generalize mg y = s at *
  have e : ∀ (p q p' q' : Int), (p < q ↔ p' < q') → (p = q ↔ p' = q') → (if p < q then Ordering.lt else if p = q then .eq else .gt) = (if p' < q' then Ordering.lt else if p' = q' then .eq else .gt) := by
    intro p q p' q' h1 h2
    simp only [h1, h2]
  apply e <;> cases ng x <;> cases ng y <;> simp <;> omega

/-- THE ORDER OF TWO NUMBERS. -/
theorem ord_key (x y : Nat) (hx : isN x = false) (hy : isN y = false) : FloatKind.f64.format.order x y = some (compare (kf x) (kf y)) := by
  show Ieee.double.order x y = _
  rw [ord_sv x y hx hy, sv_cmp x y hx hy]
theorem ord_nan (x y : Nat) (h : isN x = true ∨ isN y = true) : FloatKind.f64.format.order x y = none := by
  show (Ieee.double.read x).order (Ieee.double.read y) = _
  rcases h with h | h
  · rw [read_nan x h]; rfl
  · rw [read_nan y h]; cases Ieee.double.read x <;> rfl
theorem ord_lt (x y : Nat) : (FloatKind.f64.format.order x y == some .lt) = (!isN x && !isN y && decide (kf x < kf y)) := by
  cases hx : isN x
  · cases hy : isN y
    · rw [ord_key x y hx hy, cmp_def]
      by_cases h : kf x < kf y
      · rw [if_pos h]; simp [h]
      · rw [if_neg h]; split <;> simp [h]
    · rw [ord_nan x y (.inr hy)]; simp
  · rw [ord_nan x y (.inl hx)]; simp
theorem ord_gt (x y : Nat) : (FloatKind.f64.format.order x y == some .gt) = (!isN x && !isN y && decide (kf y < kf x)) := by
  cases hx : isN x
  · cases hy : isN y
    · rw [ord_key x y hx hy, cmp_def]
      by_cases h : kf y < kf x
      · rw [if_neg (by omega), if_neg (by omega)]; simp [h]
      · by_cases h' : kf x < kf y
        · rw [if_pos h']; simp [h]
        · rw [if_neg h', if_pos (by omega)]; simp [h]
    · rw [ord_nan x y (.inr hy)]; simp
  · rw [ord_nan x y (.inl hx)]; simp
theorem ord_eq (x y : Nat) : (FloatKind.f64.format.order x y == some .eq) = (!isN x && !isN y && decide (kf x = kf y)) := by
  cases hx : isN x
  · cases hy : isN y
    · rw [ord_key x y hx hy, cmp_def]
      by_cases h : kf x = kf y
      · rw [if_neg (by omega), if_pos h]; simp [h]
      · rw [if_neg h]; split <;> simp [h]
    · rw [ord_nan x y (.inr hy)]; simp
  · rw [ord_nan x y (.inl hx)]; simp
theorem ord_ne (x y : Nat) : (FloatKind.f64.format.order x y != some .eq) = !(!isN x && !isN y && decide (kf x = kf y)) := by
  rw [← ord_eq]; rfl
theorem ord_ne_self (x : Nat) : (FloatKind.f64.format.order x x != some .eq) = isN x := by
  rw [ord_ne]; simp

theorem kf_nan {x : Nat} (h : isN x = true) : kf x = 9223372036854775807 := by unfold kf; rw [if_pos h]
theorem kf_num {x : Nat} (h : isN x = false) : -9218868437227405312 ≤ kf x ∧ kf x ≤ 9218868437227405312 := by
  unfold kf
  rw [h]
  have hx : mg x ≤ 9218868437227405312 := by simpa [isN] using h
  cases ng x <;> simp <;> omega
end Go.Proofs.YtpjbdejgamajlabDoor

/- Floats: the small functions of package math, of score and of its reference. -/
namespace Go.Proofs.YtpjbdejgamajlabDoor
open Go.RowKit

theorem frombits29 (n : Int) (w : World) : (callFunc 64 #[.int .u64 n]).run Tryd.prog w = .ok (.value (.float .f64 n.toNat)) w := by
  rw [run_callFunc_extern Tryd.func64 (by kernel_rfl) (by kernel_rfl) (by kernel_rfl) (e := Extern.MathFloatBits.float64frombits) (by kernel_rfl)]
  rfl
theorem bits21 (b : Nat) (w : World) : (callFunc 76 #[.float .f64 b]).run Tryd.prog w = .ok (.value (.int .u64 b)) w := by
  rw [run_callFunc_extern Tryd.func76 (by kernel_rfl) (by kernel_rfl) (by kernel_rfl) (e := Extern.MathFloatBits.float64bits) (by kernel_rfl)]
  rfl

theorem isnan6 (x : Nat) (w : World) : Calls Tryd.prog 39 #[.float .f64 x] w fun e w' => e = .returned (.bool (isN x)) ∧ w' = w := by
  have h := ord_ne_self x
  go_enter Tryd.func39, Tryd.ntmps39
  go_wp2
  go_ret
  exact ⟨rfl, rfl⟩
theorem before5 (a b : Nat) (w : World) : Calls Tryd.prog 47 #[.float .f64 a, .float .f64 b] w fun e w' => e = .returned (.bool (decide (kf a < kf b))) ∧ w' = w := by
  have h := ord_lt a b
  cases na : isN a
  · cases nb : isN b
    · rw [na, nb] at h
      generalize decide (kf a < kf b) = t at *
      cases t <;> (
      go_enter Tryd.func47, Tryd.ntmps47
      go_wp2_with (go_at_call 39; refine (isnan6 _ _).mono ?_; rintro e w' ⟨rfl, rfl⟩)
      go_ret
      exact ⟨rfl, rfl⟩)
    · have k1 := kf_num na
      have k2 := kf_nan nb
      rw [decide_eq_true (show kf a < kf b by omega)]
      rw [na, nb] at h
      clear k1 k2
      go_enter Tryd.func47, Tryd.ntmps47
      go_wp2_with (go_at_call 39; refine (isnan6 _ _).mono ?_; rintro e w' ⟨rfl, rfl⟩)
      go_ret
      exact ⟨rfl, rfl⟩
  · have k1 := kf_nan na
    have k2 : kf b ≤ 9223372036854775807 := by
      cases nb : isN b
      · have := kf_num nb; omega
      · rw [kf_nan nb]; exact Int.le_refl _
    rw [decide_eq_false (show ¬ kf a < kf b by omega)]
    rw [na] at h
    clear k1 k2
    · go_enter Tryd.func47, Tryd.ntmps47
      go_wp2_with (go_at_call 39; refine (isnan6 _ _).mono ?_; rintro e w' ⟨rfl, rfl⟩)
      go_ret
      exact ⟨rfl, rfl⟩
theorem mg_lt (x : Nat) : mg x < 9223372036854775808 := Nat.mod_lt _ (by decide)
theorem and_mg (x : Nat) (hx : x < 18446744073709551616) : bits .and .u64 (x : Int) 9223372036854775807 = (mg x : Int) := by
  have h := bits_and_u64_nat x 9223372036854775807 hx (by decide)
  have e : x &&& 9223372036854775807 = x % 9223372036854775808 := Nat.and_two_pow_sub_one_eq_mod x 63
  exact h.trans (by rw [e]; rfl)
theorem shr_ng (x : Nat) (hx : x < 18446744073709551616) : ((x : Int) / 9223372036854775808 == 1) = ng x := by
  unfold ng
  rw [Bool.eq_iff_iff, beq_iff_eq, beq_iff_eq]
  omega
end Go.Proofs.YtpjbdejgamajlabDoor

/- Floats: Compare, Plain, Clamp of score and of its reference; Far; IsInf. -/
namespace Go.Proofs.YtpjbdejgamajlabDoor
open Go.RowKit

def cmpF (a b : Nat) : Int := if kf a < kf b then -1 else if kf b < kf a then 1 else 0
def plainF (x : Nat) : Nat := if kf x = 0 then 0 else x
def clampF (x lo hi : Nat) : Nat := if kf hi < kf x then plainF hi else if kf x < kf lo then plainF lo else plainF x
def farF (x : Nat) : Bool := mg x == 9218868437227405312

theorem kf_zero : kf 0 = 0 := by decide
theorem isN_zero : isN 0 = false := by decide
theorem eq0 (x : Nat) : (FloatKind.f64.format.order x 0 == some .eq) = decide (kf x = 0) := by
  rw [ord_eq, kf_zero, isN_zero]
  cases hx : isN x
  · simp
  · simp [kf_nan hx]
theorem compare5 (a b : Nat) (w : World) : Calls Tryd.prog 21 #[.float .f64 a, .float .f64 b] w fun e w' => e = .returned (.int .i64 (cmpF a b)) ∧ w' = w := by
  have hc : cmpF a b = if decide (kf a < kf b) = true then -1 else if decide (kf b < kf a) = true then 1 else 0 := by simp [cmpF]
  have h1 := before5 a b
  have h2 := before5 b a
  rw [hc]
  clear hc
  generalize decide (kf a < kf b) = s at *
  generalize decide (kf b < kf a) = t at *
  cases s <;> cases t <;> (
  go_enter Tryd.func21, Tryd.ntmps21
  go_wp2_with fail
  refine (h1 _).mono ?_
  rintro e w' ⟨rfl, rfl⟩
  go_wp2_with fail
  first
  | (go_ret; exact ⟨rfl, rfl⟩)
  | (refine (h2 _).mono ?_
     rintro e w' ⟨rfl, rfl⟩
     go_wp2_with fail
     go_ret
     exact ⟨rfl, rfl⟩))
theorem plain3 (x : Nat) (w : World) : Calls Tryd.prog 42 #[.float .f64 x] w fun e w' => e = .returned (.float .f64 (plainF x)) ∧ w' = w := by
  have h := eq0 x
  unfold plainF
  by_cases hk : kf x = 0
  · rw [decide_eq_true hk] at h
    rw [if_pos hk]
    clear hk
    go_enter Tryd.func42, Tryd.ntmps42
    go_wp2
    go_ret
    exact ⟨rfl, rfl⟩
  · rw [decide_eq_false hk] at h
    rw [if_neg hk]
    clear hk
    go_enter Tryd.func42, Tryd.ntmps42
    go_wp2
    go_ret
    exact ⟨rfl, rfl⟩
theorem clamp5 (x lo hi : Nat) (w : World) : Calls Tryd.prog 43 #[.float .f64 x, .float .f64 lo, .float .f64 hi] w fun e w' => e = .returned (.float .f64 (clampF x lo hi)) ∧ w' = w := by
  have hc : clampF x lo hi = if decide (kf hi < kf x) = true then plainF hi else if decide (kf x < kf lo) = true then plainF lo else plainF x := by simp [clampF]
  have h1 := before5 hi x
  have h2 := before5 x lo
  have p1 := plain3 hi
  have p2 := plain3 lo
  have p3 := plain3 x
  rw [hc]
  clear hc
  generalize decide (kf hi < kf x) = s at *
  generalize decide (kf x < kf lo) = t at *
  generalize plainF hi = y1 at *
  generalize plainF lo = y2 at *
  generalize plainF x = y3 at *
  cases s <;> cases t <;> (
  go_enter Tryd.func43, Tryd.ntmps43
  go_wp2_with fail
  refine (h1 _).mono ?_
  rintro e w' ⟨rfl, rfl⟩
  go_wp2_with fail
  first
  | (with_reducible refine (p1 _).mono ?_
     rintro e w' ⟨rfl, rfl⟩
     go_wp2_with fail
     go_ret
     exact ⟨rfl, rfl⟩)
  | (refine (h2 _).mono ?_
     rintro e w' ⟨rfl, rfl⟩
     go_wp2_with fail
     first
     | (with_reducible refine (p2 _).mono ?_
        rintro e w' ⟨rfl, rfl⟩
        go_wp2_with fail
        go_ret
        exact ⟨rfl, rfl⟩)
     | (with_reducible refine (p3 _).mono ?_
        rintro e w' ⟨rfl, rfl⟩
        go_wp2_with fail
        go_ret
        exact ⟨rfl, rfl⟩)))
end Go.Proofs.YtpjbdejgamajlabDoor

/- Floats: IsInf; a difference, a product, a sum that is a number; min and max. -/
namespace Go.Proofs.YtpjbdejgamajlabDoor
open Go.RowKit

theorem mg_mg (x : Nat) : mg (mg x) = mg x := Nat.mod_mod _ _
theorem ng_mg (x : Nat) : ng (mg x) = false := by
  have := mg_lt x
  unfold ng
  rw [beq_eq_false_iff_ne]
  omega
theorem isN_mg (x : Nat) : isN (mg x) = isN x := by unfold isN; rw [mg_mg]
theorem kf_mg (x : Nat) (h : isN x = false) : kf (mg x) = (mg x : Int) := by
  unfold kf
  rw [isN_mg, h, ng_mg, mg_mg]
  rfl
theorem mg_xor (x : Nat) : mg (x ^^^ 9223372036854775808) = mg x := by
  have := @Nat.xor_mod_two_pow x 9223372036854775808 63
  exact this.trans (by simp [mg])
theorem ng_xor (x : Nat) : ng (x ^^^ 9223372036854775808) = !ng x := by
  unfold ng
  have := @Nat.xor_div_two_pow x 9223372036854775808 63
  have h : (x ^^^ 9223372036854775808) / 9223372036854775808 = x / 9223372036854775808 ^^^ 1 := this
  rw [h]
  have h2 := @Nat.xor_mod_two_pow (x / 9223372036854775808) 1 1
  have h3 : (x / 9223372036854775808 ^^^ 1) % 2 = (x / 9223372036854775808) % 2 ^^^ 1 := h2
  rw [h3]
  have h4 : (x / 9223372036854775808) % 2 < 2 := Nat.mod_lt _ (by decide)
  generalize (x / 9223372036854775808) % 2 = m at *
  match m, h4 with
  | 0, _ => rfl
  | 1, _ => rfl
theorem isN_xor (x : Nat) : isN (x ^^^ 9223372036854775808) = isN x := by unfold isN; rw [mg_xor]
def infP (x : Nat) : Bool := farF x && !ng x
def infM (x : Nat) : Bool := farF x && ng x
theorem gt_max (x : Nat) : (FloatKind.f64.format.order x 9218868437227405311 == some .gt) = infP x := by
  rw [ord_gt]
  have h1 : isN 9218868437227405311 = false := by decide
  have h2 : kf 9218868437227405311 = 9218868437227405311 := by decide
  rw [h1, h2]
  unfold infP farF
  cases hn : isN x
  · have hm : mg x ≤ 9218868437227405312 := by simpa [isN] using hn
    unfold kf
    rw [hn]
    cases hg : ng x
    · simp
      rw [Bool.eq_iff_iff, beq_iff_eq, decide_eq_true_iff]
      omega
    · simp
  · have hm : 9218868437227405312 < mg x := by simpa [isN] using hn
    have : (mg x == 9218868437227405312) = false := by rw [beq_eq_false_iff_ne]; omega
    rw [this]
    rfl
theorem infP_mg (x : Nat) : infP (mg x) = farF x := by unfold infP farF; rw [mg_mg, ng_mg]; simp
theorem infP_xor (x : Nat) : infP (x ^^^ 9223372036854775808) = infM x := by unfold infP infM farF; rw [mg_xor, ng_xor]; simp
theorem andNot_mg (x : Nat) (hx : x < 18446744073709551616) : bits .andNot .u64 (x : Int) 9223372036854775808 = (mg x : Int) := by
  rw [← and_mg x hx]
  unfold bits
  have : ~~~(BitVec.ofInt IntKind.u64.bits 9223372036854775808) = BitVec.ofInt IntKind.u64.bits 9223372036854775807 := by decide
  show IntKind.u64.wrap ((BitVec.ofInt IntKind.u64.bits x &&& ~~~(BitVec.ofInt IntKind.u64.bits 9223372036854775808)).toNat) = IntKind.u64.wrap ((BitVec.ofInt IntKind.u64.bits x &&& (BitVec.ofInt IntKind.u64.bits 9223372036854775807)).toNat)
  rw [this]
theorem abs3 (x : Nat) (hx : x < 18446744073709551616) (w : World) : Calls Tryd.prog 61 #[.float .f64 x] w fun e w' => e = .returned (.float .f64 (mg x)) ∧ w' = w := by
  have hb := bits21 x
  have hm := andNot_mg x hx
  have hf := frombits29 (mg x)
  clear hx
  go_enter Tryd.func61, Tryd.ntmps61
  go_wp2
  go_ret
  exact ⟨rfl, rfl⟩
theorem isinf0 (x : Nat) (hx : x < 18446744073709551616) (w : World) : Calls Tryd.prog 40 #[.float .f64 x, .int .i64 0] w fun e w' => e = .returned (.bool (farF x)) ∧ w' = w := by
  have ha := abs3 x hx
  have hg := gt_max (mg x)
  rw [infP_mg] at hg
  clear hx
  go_enter Tryd.func40, Tryd.ntmps40
  go_wp2_with (with_reducible refine (ha _).mono ?_; rintro e w' ⟨rfl, rfl⟩)
  go_ret
  exact ⟨rfl, rfl⟩
theorem isinf1 (x : Nat) (w : World) : Calls Tryd.prog 40 #[.float .f64 x, .int .i64 1] w fun e w' => e = .returned (.bool (infP x)) ∧ w' = w := by
  have hg := gt_max x
  go_enter Tryd.func40, Tryd.ntmps40
  go_wp2
  go_ret
  exact ⟨rfl, rfl⟩
theorem neg_float (x : Nat) : Op.unary .neg (.float .f64 x) = pure (.float .f64 (x ^^^ 9223372036854775808)) := rfl
theorem isinfm (x : Nat) (w : World) : Calls Tryd.prog 40 #[.float .f64 x, .int .i64 (-1)] w fun e w' => e = .returned (.bool (infM x)) ∧ w' = w := by
  have hg := gt_max (x ^^^ 9223372036854775808)
  have hn := neg_float x
  rw [infP_xor] at hg
  go_enter Tryd.func40, Tryd.ntmps40
  go_wp2
  go_ret
  exact ⟨rfl, rfl⟩
theorem inf1 (w : World) : Calls Tryd.prog 48 #[.int .i64 1] w fun e w' => e = .returned (.float .f64 9218868437227405312) ∧ w' = w := by
  have hf := frombits29 9218868437227405312
  go_enter Tryd.func48, Tryd.ntmps48
  go_wp2
  go_ret
  exact ⟨rfl, rfl⟩

/-- A word that a number gives is no NaN. -/
theorem word_ok (neg : Bool) (r : Nat) (h : r ≤ 9218868437227405312) : Ieee.double.word neg r < 18446744073709551616 ∧ isN (Ieee.double.word neg r) = false ∧ mg (Ieee.double.word neg r) = r ∧ ng (Ieee.double.word neg r) = neg := by
  have e : Ieee.double.word neg r = if neg then 9223372036854775808 + r else r := rfl
  rw [e]
  have hm : mg (if neg then 9223372036854775808 + r else r) = r := by
    unfold mg
    cases neg
    · show r % 9223372036854775808 = r
      exact Nat.mod_eq_of_lt (by omega)
    · show (9223372036854775808 + r) % 9223372036854775808 = r
      omega
  refine ⟨?_, ?_, hm, ?_⟩
  · cases neg
    · show r < _; omega
    · show 9223372036854775808 + r < _; omega
  · unfold isN
    rw [hm]
    simpa using h
  · unfold ng
    cases neg
    · simp
      omega
    · simp
      omega
theorem write_num (neg : Bool) (m : Nat) (p : Int) : ∃ r, r ≤ 9218868437227405312 ∧ Ieee.double.write (.number neg m p) = Ieee.double.word neg r := by
  show ∃ r, r ≤ _ ∧ Ieee.double.nearest neg m p = _
  unfold Ieee.Format.nearest
  split
  · exact ⟨0, by decide, rfl⟩
  · exact ⟨_, Nat.le_trans (Nat.min_le_right _ _) (Nat.le_refl _), rfl⟩
theorem write_inf (neg : Bool) : Ieee.double.write (.infinity neg) = Ieee.double.word neg 9218868437227405312 := rfl
theorem write_ok (d : Ieee.Datum) (h : d.isNaN = false) : Ieee.double.write d < 18446744073709551616 ∧ isN (Ieee.double.write d) = false := by
  cases d with
  | number s m p => obtain ⟨r, hr, e⟩ := write_num s m p; rw [e]; exact ⟨(word_ok s r hr).1, (word_ok s r hr).2.1⟩
  | infinity s => rw [write_inf]; exact ⟨(word_ok s _ (Nat.le_refl _)).1, (word_ok s _ (Nat.le_refl _)).2.1⟩
  | nan => cases h
theorem read_fin (x : Nat) (h : mg x < 9218868437227405312) : ∃ m i, Ieee.double.read x = .number (ng x) m i ∧ (m = 0 → mg x = 0) := by
  rw [read_eq]
  by_cases h1 : mg x < 4503599627370496
  · rw [if_pos h1]; exact ⟨_, _, rfl, id⟩
  · rw [if_neg h1, if_pos h]; exact ⟨_, _, rfl, by omega⟩
theorem read_non (x : Nat) (h : isN x = false) : (∃ m i, Ieee.double.read x = .number (ng x) m i) ∨ Ieee.double.read x = .infinity (ng x) := by
  have hx : mg x ≤ 9218868437227405312 := by simpa [isN] using h
  rcases Nat.lt_or_eq_of_le hx with h1 | h1
  · obtain ⟨m, i, e, _⟩ := read_fin x h1; exact .inl ⟨m, i, e⟩
  · exact .inr (read_inf x h1)
theorem sub_some (x y : Nat) (hx : mg x < 9218868437227405312) (hy : mg y < 9218868437227405312) :
    ∃ d, floatBits .sub .f64 x y = some d ∧ d < 18446744073709551616 ∧ isN d = false := by
  obtain ⟨m, i, e1, _⟩ := read_fin x hx
  obtain ⟨n, j, e2, _⟩ := read_fin y hy
  show ∃ d, ((Ieee.double.read x).sum (Ieee.double.read y).opposite).map Ieee.double.write = some d ∧ _
  rw [e1, e2]
  exact ⟨_, rfl, write_ok _ rfl⟩
theorem mul_some (s d : Nat) (hs : mg s < 9218868437227405312) (h0 : mg s ≠ 0) (hd : isN d = false) :
    ∃ p, floatBits .mul .f64 s d = some p ∧ p < 18446744073709551616 ∧ isN p = false := by
  obtain ⟨m, i, e1, hm⟩ := read_fin s hs
  show ∃ p, ((Ieee.double.read s).product (Ieee.double.read d)).map Ieee.double.write = some p ∧ _
  rw [e1]
  rcases read_non d hd with ⟨n, j, e2⟩ | e2
  · rw [e2]
    exact ⟨_, rfl, write_ok _ rfl⟩
  · rw [e2]
    have : (Ieee.Datum.number (ng s) m i).product (.infinity (ng d)) = if m = 0 then none else some (.infinity (ng d ^^ ng s)) := rfl
    rw [this, if_neg (fun h => h0 (hm h))]
    exact ⟨_, rfl, write_ok _ rfl⟩
theorem add_some (x p : Nat) (hx : mg x < 9218868437227405312) (hp : isN p = false) :
    ∃ r, floatBits .add .f64 x p = some r ∧ r < 18446744073709551616 ∧ isN r = false := by
  obtain ⟨m, i, e1, _⟩ := read_fin x hx
  show ∃ r, ((Ieee.double.read x).sum (Ieee.double.read p)).map Ieee.double.write = some r ∧ _
  rw [e1]
  rcases read_non p hp with ⟨n, j, e2⟩ | e2
  · rw [e2]; exact ⟨_, rfl, write_ok _ rfl⟩
  · rw [e2]; exact ⟨_, rfl, write_ok _ rfl⟩

theorem min_lt (ts : Array TypeId) (t : TypeId) (x y : Nat) (hx : isN x = false) (hy : isN y = false) (h : kf x < kf y) (w : World) :
    (Builtin.min_ ts t #[.float .f64 x, .float .f64 y]).run Tryd.prog w = .ok (.float .f64 x) w := by
  simp [Builtin.min_, Builtin.min2, ord_key x y hx hy, cmp_def, h]
theorem max_lt (ts : Array TypeId) (t : TypeId) (x y : Nat) (hx : isN x = false) (hy : isN y = false) (h : kf x < kf y) (w : World) :
    (Builtin.max_ ts t #[.float .f64 x, .float .f64 y]).run Tryd.prog w = .ok (.float .f64 y) w := by
  simp [Builtin.max_, Builtin.max2, ord_key x y hx hy, cmp_def, h]
theorem min_gt (ts : Array TypeId) (t : TypeId) (x y : Nat) (hx : isN x = false) (hy : isN y = false) (h : kf y < kf x) (w : World) :
    (Builtin.min_ ts t #[.float .f64 x, .float .f64 y]).run Tryd.prog w = .ok (.float .f64 y) w := by
  have h1 : ¬ kf x < kf y := by omega
  have h2 : ¬ kf x = kf y := by omega
  simp [Builtin.min_, Builtin.min2, ord_key x y hx hy, cmp_def, h1, h2]
theorem max_gt (ts : Array TypeId) (t : TypeId) (x y : Nat) (hx : isN x = false) (hy : isN y = false) (h : kf y < kf x) (w : World) :
    (Builtin.max_ ts t #[.float .f64 x, .float .f64 y]).run Tryd.prog w = .ok (.float .f64 x) w := by
  have h1 : ¬ kf x < kf y := by omega
  have h2 : ¬ kf x = kf y := by omega
  simp [Builtin.max_, Builtin.max2, ord_key x y hx hy, cmp_def, h1, h2]
theorem min_eq (ts : Array TypeId) (t : TypeId) (x y : Nat) (hx : isN x = false) (hy : isN y = false) (h : kf x = kf y) (w : World) :
    (Builtin.min_ ts t #[.float .f64 x, .float .f64 y]).run Tryd.prog w = .ok (.float .f64 (if ng x then x else y)) w := by
  have hn : (FloatKind.f64.decode x).neg = ng x := by
    show (Ieee.double.read x).neg = _
    rcases read_non x hx with ⟨m, i, e⟩ | e <;> rw [e] <;> rfl
  simp [Builtin.min_, Builtin.min2, ord_key x y hx hy, h, hn]
theorem max_eq (ts : Array TypeId) (t : TypeId) (x y : Nat) (hx : isN x = false) (hy : isN y = false) (h : kf x = kf y) (w : World) :
    (Builtin.max_ ts t #[.float .f64 x, .float .f64 y]).run Tryd.prog w = .ok (.float .f64 (if ng x then y else x)) w := by
  have hn : (FloatKind.f64.decode x).neg = ng x := by
    show (Ieee.double.read x).neg = _
    rcases read_non x hx with ⟨m, i, e⟩ | e <;> rw [e] <;> rfl
  simp [Builtin.max_, Builtin.max2, ord_key x y hx hy, h, hn]
end Go.Proofs.YtpjbdejgamajlabDoor

