/- Packed: Base, Post, KeepN, MgL, MgB, MgA, MgS, Reg, RegT. -/
import Derived.Test.YtklfpnnnoaaiaabGreatDoorChecked
import Derived.WalkKit
import Derived.Outline
import Derived.Deep.QuietTactic
import Derived.BigQuiet
import Derived.StillTailTactics
import Derived.Lib.Hide
import Derived.ProofKit
import Derived.OpenShut
import Derived.OwnWalk
import Derived.Deep.MidRow
import Derived.Carry
import Derived.Maps.OwnSet
import Derived.WalkSpells
import Derived.RangeFuncNested
import Derived.RangeFuncBound
import Derived.RangeFuncCalls
import Derived.RangeFuncBox
import Derived.RangeFuncLeaves
import Derived.Shelf.Abstract
import Derived.OwnWalkIn
import Derived.TacticsInMore
import Derived.LoopNIn
import Derived.LoopIn
import Derived.Maps.AppendAt
import Derived.Shelf.SlSortCmp.SmallK
import Derived.Shelf.Small.Bits
import Derived.Shelf.Lay
import Derived.Ground.SlsfProg
import Derived.Ground.NamesProg
import Derived.Sort.Walk0
import Derived.Laws.Cover1
import Derived.Lib.OwnBridge
import Derived.Deep.RegionHeld3
/- Small lemmas that the walks of this seat share. -/
namespace Go.Proofs.YtklfpnnnoaaiaabGreatDoor
open Go.RowKit

/-- A region whose head only reads, with the drawn world under its name. -/
theorem region_tail {P : Program} {w : World} {id : Nat} {Q : Exit → Act → World → Prop} {a : Act} {l : List Oper} (n : Nat) (hm : P.follows .mixedOrders = true) (hB : Region.lexTailB .any l.toArray n = true)
    (h : wpStill P l.toArray w.drew (fun a' => wpList P l.toArray Q (l.drop n) a' w.drew) (l.take n) a) : (Code.region id l.toArray true).wp P Q a w :=
  wp_region_still_tail n hm hB h
theorem still_tail_nil {P : Program} {w : World} {ops : Array Oper} {Q : Exit → Act → World → Prop} {a : Act} {ops' : Array Oper} {l : List Oper} (h : wpList P ops' Q l a w) : wpStill P ops w (fun a' => wpList P ops' Q l a' w) [] a := wpStill_nil h
theorem calls_flip {P : Program} {f : Nat} {args : Array Value} {w : World} {v : Value} (h : Calls P f args w fun e w' => e = .returned v ∧ w = w') : Calls P f args w fun e w' => e = .returned v ∧ w' = w :=
  h.mono fun _ _ ⟨a, b⟩ => ⟨a, b.symm⟩
theorem calls_flop {P : Program} {f : Nat} {args : Array Value} {w : World} {v : Value} (h : Calls P f args w fun e w' => e = .returned v ∧ w' = w) : Calls P f args w fun e w' => e = .returned v ∧ w = w' :=
  h.mono fun _ _ ⟨a, b⟩ => ⟨a, b.symm⟩
theorem bcell {W w1 : World} (hb : Below W.heap.size W w1) : (∀ b o, b < W.heap.size → w1.cell? ⟨b, o, none⟩ = W.cell? ⟨b, o, none⟩) ∧ (∀ b o, b < W.heap.size → w1.frozen? ⟨b, o, none⟩ = W.frozen? ⟨b, o, none⟩) :=
  ⟨fun b o h => hb.cell (p := ⟨b, o, none⟩) h, fun b o h => hb.frozen (p := ⟨b, o, none⟩) h⟩
end Go.Proofs.YtklfpnnnoaaiaabGreatDoor

/- The row's last step where the call leaves the old memory alone and makes new memory. -/
namespace Go.Proofs.YtklfpnnnoaaiaabGreatDoor
open Go.ChangeShapes Go.WideShapes Go.ChangeAt Go.RowKit

/-- What a call leaves that has only made new memory: results that lead nowhere, arguments and variables read as before. -/
theorem post_new {H : Type} {enc : TypeId × Value → H} {P : Program} {fn : Func} {sp : ChangeSpec} {ap fr ho ag : Bool} {W V : World} {args : Array Value} {r : Value} {ds gs : List (DataW H)} {places ofArgs ofVars : List MemPlace}
    (whole : DataW.Whole enc P fn.params.toList sp.vars ap W args.toList ds gs places) (bel : Below W.heap.size W V) (parts : places = ofArgs ++ ofVars)
    (hR : ∀ b spare held, DataW.TrodAll enc P V b spare held fn.resultTypes.toList (r.resultList fn.resultTypes.size) (sp.fn H (ds ++ gs)).results [])
    (hA : ∀ spare : Nat → Bool, (∀ p ∈ places, spare p.block = true) → DataW.TrodAll enc P V 0 spare true fn.params.toList args.toList (sp.fn H (ds ++ gs)).args ofArgs)
    (hV : ∀ spare : Nat → Bool, (∀ p ∈ places, spare p.block = true) → DataW.TrodVars enc P V spare sp.vars (sp.fn H (ds ++ gs)).vars ofVars)
    (okR : ∀ (j : Nat) t x, fn.resultTypes[j]? = some t → (r.resultList fn.resultTypes.size)[j]? = some x → Value.okWide P V .any 0 t x) :
    sp.post enc P fn ap fr ho ag W args r V := by
  have below : ∀ p, p ∈ places → p.block < W.heap.size := fun p hp => whole.lt p hp
  have old : ∀ p ∈ places, (fun b => decide (b < W.heap.size)) p.block = true := fun p hp => decide_eq_true (below p hp)
  have kept : W.keptBut V (fun p => p ∈ places ∧ (p ∈ ([] : List MemPlace) ∨ p ∈ ofArgs ++ ofVars)) :=
    World.keptBut_mono (fun p hp => ⟨hp, .inr (parts ▸ hp)⟩) (bel.frame (fun p => p ∈ places))
  refine ⟨ds, gs, places, [], ofArgs, ofVars, whole, hR _ _ _, hA _ old, hV _ old, ?_, fun _ => ?_⟩
  · exact World.keptBut_mono (fun p hp => ⟨hp.1, by simpa using hp.2⟩) kept
  · obtain ⟨_, _, _, _, _, marks, once⟩ := whole
    refine ⟨okR, _, _, ([] ++ ofArgs) ++ ofVars, ⟨[] ++ ofArgs, ofVars, trodAll_append (hA _ (fun _ _ => rfl)) (hR _ _ _), hV _ (fun _ _ => rfl), rfl, fun b o hp => ?_, fun h => ?_⟩, ?_⟩
    · have hm : MemPlace.cell b o ∈ places := by rw [parts]; simpa using hp
      exact (bel.frozen (below _ hm)).trans (marks b o hm)
    · simpa [← parts] using once h
    · exact fun p hp _ => by simpa [← parts] using hp
end Go.Proofs.YtklfpnnnoaaiaabGreatDoor

/- Memory of an object that lies in some blocks G, its own: what a call that writes there leaves as it was. -/
namespace Go.Proofs.YtklfpnnnoaaiaabGreatDoor
open Go.RowKit

theorem below_alloc (w : World) (o : Obj) : Below w.heap.size w (w.alloc o) := (Below.refl _ _).alloc (Nat.le_refl _) _

/-- Nothing has changed but blocks of G and new ones. -/
structure Keep (G : Nat → Prop) (w w' : World) : Prop where
  os : w'.os = w.os
  tape : w'.tape = w.tape
  output : w'.output = w.output
  size : w.heap.size ≤ w'.heap.size
  block : ∀ k, k < w.heap.size → ¬ G k → w'.heap[k]? = w.heap[k]?
/-- The blocks to come are G's. -/
def Up (G : Nat → Prop) (w : World) : Prop := ∀ k, w.heap.size ≤ k → G k
/-- The first size is small enough for B. -/
def Floor (G : Nat → Prop) (B : Nat) : Prop := ∀ k, G k → B ≤ k
section
variable {G : Nat → Prop} {a w w' : World} {B : Nat}
theorem Keep.refl (G : Nat → Prop) (w : World) : Keep G w w := ⟨rfl, rfl, rfl, Nat.le_refl _, fun _ _ _ => rfl⟩
theorem Keep.trans {b c : World} (h : Keep G a b) (k : Keep G b c) : Keep G a c :=
  ⟨k.os.trans h.os, k.tape.trans h.tape, k.output.trans h.output, Nat.le_trans h.size k.size, fun i hi hn => (k.block i (Nat.lt_of_lt_of_le hi h.size) hn).trans (h.block i hi hn)⟩
theorem Keep.of_below (h : Below w.heap.size w w') : Keep G w w' := ⟨h.os, h.tape, h.output, h.size, fun k hk _ => h.block k hk⟩
theorem Keep.more {G' : Nat → Prop} (h : Keep G w w') (hg : ∀ k, k < w.heap.size → G k → G' k) : Keep G' w w' := ⟨h.os, h.tape, h.output, h.size, fun k hk hn => h.block k hk (fun hk2 => hn (hg k hk hk2))⟩
theorem Keep.bel (h : Keep G w w') (hf : Floor G B) (hB : B ≤ w.heap.size) : Below B w w' :=
  ⟨h.os, h.tape, h.output, h.size, fun k hk => h.block k (by omega) (fun hg => by have := hf k hg; omega)⟩
theorem Keep.grown {row : Option Nat} (hg : w.grownBy w' row) (hr : ∀ k, row = some k → G k) : Keep G w w' :=
  ⟨hg.os, hg.tape, hg.output, hg.size, fun k hk hn => hg.block k hk (fun e => hn (hr k e.symm))⟩
theorem Keep.setCell (w : World) {p : Addr} (hp : G p.block) (u : Value) : Keep G w (w.setCell p u) :=
  ⟨rfl, rfl, rfl, by simp [World.setCell], fun k _ hn => Below.heap_setCell w p u k (fun e => hn (by rw [e]; exact hp))⟩
theorem Keep.alloc (w : World) (o : Obj) : Keep G w (w.alloc o) := .of_below (below_alloc w o)
theorem Keep.drew (w : World) : Keep G w w.drew := ⟨rfl, rfl, rfl, Nat.le_refl _, fun _ _ _ => rfl⟩
theorem Keep.drewN (w : World) (n : Nat) : Keep G w (w.drewN n) := ⟨rfl, rfl, rfl, Nat.le_refl _, fun _ _ _ => rfl⟩
theorem Up.keep (h : Up G w) (hk : Keep G w w') : Up G w' := fun k hk2 => h k (Nat.le_trans hk.size hk2)
theorem Up.below (h : Up G w) (hk : Below w.heap.size w w') : Up G w' := fun k hk2 => h k (Nat.le_trans hk.size hk2)
end

/-- Block g is just these cells; none is frozen. -/
def Row (w : World) (g : Nat) (t : TypeId) (cs : Array Value) : Prop := w.heap[g]? = some (.cells cs t (0, 0))
section
variable {w w' : World} {g : Nat} {t : TypeId} {cs : Array Value} {G : Nat → Prop}
theorem Row.lt (h : Row w g t cs) : g < w.heap.size := (Array.getElem?_eq_some_iff.1 h).1
theorem Row.cell (h : Row w g t cs) (i : Nat) : w.cell? ⟨g, i, none⟩ = cs[i]? := cell_of_row w g i cs t (0, 0) h
theorem Row.free (h : Row w g t cs) (i : Nat) : w.frozen? ⟨g, i, none⟩ = false := by
  unfold Row at h
  simp [World.frozen?, h]
theorem Row.new (w : World) (t : TypeId) (cs : Array Value) : Row (w.alloc (.cells cs t)) w.heap.size t cs := heap_alloc_new w _
theorem Row.keep (h : Row w g t cs) (hk : Keep G w w') (hg : ¬ G g) : Row w' g t cs := (hk.block g h.lt hg).trans h
theorem Row.below (h : Row w g t cs) (hb : Below w.heap.size w w') : Row w' g t cs := (hb.block g h.lt).trans h
theorem Row.grown {row : Option Nat} (h : Row w g t cs) (hb : w.grownBy w' row) (hg : row ≠ some g) : Row w' g t cs := (hb.block g h.lt (fun e => hg e.symm)).trans h
theorem Row.alloc (h : Row w g t cs) (o : Obj) : Row (w.alloc o) g t cs := h.below (below_alloc w o)
theorem Row.put (h : Row w g t cs) (i : Nat) (u : Value) : Row (w.setCell ⟨g, i, none⟩ u) g t (cs.setIfInBounds i u) := by
  unfold Row at h ⊢
  simp [World.setCell, Array.getElem?_modify, h]
theorem Row.far (h : Row w g t cs) {p : Addr} (hp : g ≠ p.block) (u : Value) : Row (w.setCell p u) g t cs := (Below.heap_setCell w p u g hp).trans h
theorem Row.drew (h : Row w g t cs) : Row w.drew g t cs := h
theorem Row.drewN (h : Row w g t cs) (n : Nat) : Row (w.drewN n) g t cs := h
end

/-- A row of elements that the object owns. -/
def Own (w : World) (e : TypeId) (n : Nat) (v : Value) (m : Nat) (xs : List Value) : Prop := w.ownsRow 0 e n v m xs
theorem own_lt {w : World} {e : TypeId} {n m : Nat} {v : Value} {xs : List Value} (h : w.ownsRow 0 e n v m xs) {k : Nat} (hk : v.ownBlock = some k) : k < w.heap.size := (h.lt k hk).2
theorem own_ne {w : World} {e t : TypeId} {n m g : Nat} {v : Value} {xs : List Value} {cs : Array Value} (h : w.ownsRow 0 e n v m xs) (hg : Row w g t cs) (hne : e ≠ t) : v.ownBlock ≠ some g := by
  obtain ⟨_, ⟨rfl, _⟩ | ⟨k, cap, cur, rfl, _, hk, _⟩⟩ := h
  · simp [Value.ownBlock]
  · intro he
    have : k = g := by simpa [Value.ownBlock] using he
    subst this
    unfold Row at hg
    rw [hk] at hg
    injection hg with h2
    injection h2 with _ h3
    exact hne h3
theorem own_keep {w w' : World} {G : Nat → Prop} {e : TypeId} {n m : Nat} {v : Value} {xs : List Value} (h : w.ownsRow 0 e n v m xs) (hk : Keep G w w') (hg : ∀ k, v.ownBlock = some k → ¬ G k) : w'.ownsRow 0 e n v m xs := by
  obtain ⟨hl, h0 | ⟨g, cap, cur, rfl, hb, hc, r⟩⟩ := h
  · exact ⟨hl, .inl h0⟩
  · exact ⟨hl, .inr ⟨g, cap, cur, rfl, hb, (hk.block g (Array.getElem?_eq_some_iff.1 hc).1 (hg g rfl)).trans hc, r⟩⟩
theorem own_bel {w w' : World} {e : TypeId} {n m : Nat} {v : Value} {xs : List Value} (h : w.ownsRow 0 e n v m xs) (hb : Below w.heap.size w w') : w'.ownsRow 0 e n v m xs :=
  own_keep (G := fun _ => False) h (.of_below hb) (fun _ _ h => h)
theorem own_grown {w w' : World} {row : Option Nat} {e : TypeId} {n m : Nat} {v : Value} {xs : List Value} (h : w.ownsRow 0 e n v m xs) (hg : w.grownBy w' row) (hr : ∀ k, v.ownBlock = some k → row ≠ some k) : w'.ownsRow 0 e n v m xs :=
  own_keep (G := fun k => row = some k) h (.grown hg (fun _ h => h)) hr
theorem own_set {w : World} {e t : TypeId} {n m g i : Nat} {v : Value} {xs : List Value} {cs : Array Value} (h : w.ownsRow 0 e n v m xs) (hg : Row w g t cs) (hne : e ≠ t) (u : Value) : (w.setCell ⟨g, i, none⟩ u).ownsRow 0 e n v m xs :=
  own_keep (G := fun k => k = g) h (Keep.setCell (G := fun k => k = g) w (p := ⟨g, i, none⟩) rfl u) (fun k hk e => own_ne h hg hne (by rw [hk, e]))
theorem own_slice {w : World} {base : Nat} {e : TypeId} {n m : Nat} {v : Value} {xs : List Value} (h : w.ownsRow base e n v m xs) : ∃ a c, v = .slice a m c := by
  obtain ⟨_, ⟨rfl, h0⟩ | ⟨g, cap, cur, rfl, _⟩⟩ := h
  · exact ⟨none, 0, by rw [h0]⟩
  · exact ⟨_, _, rfl⟩
theorem own_len {w : World} {base : Nat} {e : TypeId} {n m m' : Nat} {v : Value} {xs : List Value} (h : w.ownsRow base e n v m xs) (he : m = m') : w.ownsRow base e n v m' xs := he ▸ h
end Go.Proofs.YtklfpnnnoaaiaabGreatDoor

/- maglev: slices of entries; sets of names with their size (out of XRoC). -/
namespace Go.Proofs.YtklfpnnnoaaiaabGreatDoor
open Go.RowKit Go.Maps

abbrev Ent := ByteArray × Int
theorem infoMEnt : (Tryz.prog.info? 63).map (fun i => (i.zero, i.size, i.bytes)) = some (some (.agg #[.string ⟨#[]⟩, .int .i64 0]), 2, 24) := by kernel_rfl
theorem infoXEnt : (Tryz.prog.info? 53).map (fun i => (i.zero, i.size, i.bytes)) = some (some (.agg #[.string ⟨#[]⟩, .int .i64 0]), 2, 24) := by kernel_rfl
/-- The cells of entries. -/
def cellsE (es : List Ent) : List Value := es.flatMap fun e => [.string e.1, .int .i64 e.2]
theorem cellsE_append (a b : List Ent) : cellsE (a ++ b) = cellsE a ++ cellsE b := by simp [cellsE]
theorem cellsE_length (a : List Ent) : (cellsE a).length = a.length * 2 := by
  induction a with
  | nil => rfl
  | cons e a ih => simp [cellsE] at ih ⊢; omega
theorem cellsE_at : ∀ (es : List Ent) (j : Nat) (e : Ent), es[j]? = some e → (cellsE es)[j * 2]? = some (.string e.1) ∧ (cellsE es)[j * 2 + 1]? = some (.int .i64 e.2)
  | [], j, e, h => by cases j <;> cases h
  | x :: es, 0, e, h => by
    simp at h; subst h
    exact ⟨rfl, rfl⟩
  | x :: es, j + 1, e, h => by
    have := cellsE_at es j e (by simpa using h)
    rw [show (j + 1) * 2 = j * 2 + 1 + 1 by omega]
    exact ⟨this.1, this.2⟩
theorem cellsE_step {es : List Ent} {j : Nat} (hj : j < es.length) : cellsE (es.take (j + 1)) = cellsE (es.take j) ++ [.string es[j].1, .int .i64 es[j].2] := by
  rw [List.take_add_one, List.getElem?_eq_getElem hj, Option.toList_some, cellsE_append]
  rfl
/-- A slice that reads as these entries. -/
def IsEnts (w : World) (a : Option Addr) (c : Nat) (es : List Ent) : Prop :=
  es = [] ∨ ∃ bk o, a = some ⟨bk, o, none⟩ ∧ bk < w.heap.size ∧ es.length ≤ c ∧ ∀ (j : Nat) e, es[j]? = some e → w.cell? ⟨bk, o + j * 2, none⟩ = some (.string e.1) ∧ w.cell? ⟨bk, o + j * 2 + 1, none⟩ = some (.int .i64 e.2)
theorem keep_cell {G : Nat → Prop} {w w' : World} (h : Keep G w w') {b : Nat} (hb : b < w.heap.size) (hg : ¬ G b) (o : Nat) : w'.cell? ⟨b, o, none⟩ = w.cell? ⟨b, o, none⟩ := by
  have := h.block b hb hg
  simp only [World.cell?, this]
theorem IsEnts.keep {G : Nat → Prop} {w w' : World} {a : Option Addr} {c : Nat} {es : List Ent} (h : IsEnts w a c es) (hk : Keep G w w') (hg : ∀ p, a = some p → ¬ G p.block) : IsEnts w' a c es := by
  obtain h | ⟨bk, o, ha, hlt, hc, hcell⟩ := h
  · exact .inl h
  · have hb := hg _ ha
    exact .inr ⟨bk, o, ha, Nat.lt_of_lt_of_le hlt hk.size, hc, fun j f hf => by rw [keep_cell hk hlt hb, keep_cell hk hlt hb]; exact hcell j f hf⟩
theorem IsEnts.below {w w' : World} {a : Option Addr} {c : Nat} {es : List Ent} (h : IsEnts w a c es) (hb : Below w.heap.size w w') : IsEnts w' a c es :=
  h.keep (G := fun _ => False) (.of_below hb) (fun _ _ h => h)
theorem isEnts_own {w : World} {base : Nat} {e : TypeId} {a : Option Addr} {m c : Nat} {es : List Ent} (h : w.ownsRow base e 2 (.slice a m c) es.length (cellsE es)) : m = es.length ∧ IsEnts w a c es ∧ ∀ p, a = some p → base ≤ p.block ∧ p.block < w.heap.size := by
  have hl := fun k hk => h.lt k hk
  obtain ⟨_, ⟨hv, h0⟩ | ⟨g, cap, cur, hv, hb, hg, hcap, _, hcs, htk⟩⟩ := h
  · injection hv with h1 h2 h3
    refine ⟨by omega, .inl (List.eq_nil_of_length_eq_zero h0), fun p hp => ?_⟩
    rw [h1] at hp; cases hp
  · injection hv with h1 h2 h3
    have hlt : g < w.heap.size := (Array.getElem?_eq_some_iff.1 hg).1
    subst h1 h2 h3
    refine ⟨rfl, .inr ⟨g, 0, rfl, hlt, hcap, fun j e' he => ?_⟩, fun p hp => ?_⟩
    · have hj : j < es.length := by
        rcases Nat.lt_or_ge j es.length with h | h
        · exact h
        · rw [List.getElem?_eq_none h] at he; cases he
      obtain ⟨q1, q2⟩ := cellsE_at es j e' he
      rw [← htk, List.getElem?_take, if_pos (by omega)] at q1 q2
      rw [Nat.zero_add]
      constructor
      · simpa [World.cell?, hg] using q1
      · simpa [World.cell?, hg] using q2
    · injection hp with hp; subst hp; exact ⟨hb, hlt⟩
theorem cells_ent (w : World) (n : ByteArray) (v : Int) (T : TypeId) : ∀ (k : Nat) u, [Value.string n, .int .i64 v][k]? = some u → (w.alloc (.cells #[.string n, .int .i64 v] T)).cell? ((⟨w.heap.size, 0, none⟩ : Addr).add k) = some u := by
  intro k u hu
  rw [Addr.add_mid]
  match k, hu with
  | 0, hu => obtain rfl := Option.some.inj hu; simp
  | 1, hu => obtain rfl := Option.some.inj hu; simp
  | k + 2, hu => simp at hu
theorem ent_one (n : ByteArray) (v : Int) : ∀ u ∈ [Value.string n, Value.int .i64 v], u.oneCell' = true := by intro u hu; simp at hu; rcases hu with rfl | rfl <;> rfl

theorem lawS : Keyed Tryz.prog 9 := string_keyed Tryz.underlying9
theorem key_ne {x s : ByteArray} (h : x ≠ s) : (Lit.string x.data.toList) ≠ (Lit.string s.data.toList) := by
  intro e
  injection e with e
  exact h (ByteArray.ext (Array.ext' e))
/-- A set of names, so many. -/
def SetN (w : World) (b n k : Nat) (p : ByteArray → Bool) : Prop :=
  ∃ D : DataW Unit, w.ownsMap Tryz.prog 9 unitElem b n D ∧ (∀ s : ByteArray, Maps.has D (.string s.data.toList) = p s) ∧ Maps.size D = k
theorem SetN.lt {w : World} {b n k : Nat} {p : ByteArray → Bool} (h : SetN w b n k p) : b < w.heap.size := by
  obtain ⟨D, ho, _⟩ := h
  exact ho.lt
theorem SetN.same {w w' : World} {b n k : Nat} {p : ByteArray → Bool} (h : SetN w b n k p) (hb : w'.heap[b]? = w.heap[b]?) : SetN w' b n k p := by
  obtain ⟨D, ⟨es, clock, hm, F, hs, hD⟩, r⟩ := h
  exact ⟨D, ⟨es, clock, hb.trans hm, F, hs, hD⟩, r⟩
theorem SetN.alloc {w : World} {b n k : Nat} {p : ByteArray → Bool} (h : SetN w b n k p) (o : Obj) : SetN (w.alloc o) b n k p := h.same ((below_alloc w o).block b h.lt)
theorem SetN.new (w : World) : SetN (w.alloc (.map #[] 0)) w.heap.size 0 0 (fun _ => false) := ⟨_, World.ownsMap_made w _ _ _, fun _ => rfl, rfl⟩
theorem zeroU (w : World) : (zeroValue 83).run Tryz.prog w = .ok (.agg #[]) w := by kernel_rfl
section
variable (w : World) {ops : Array Oper} {rest : List Oper} {o : Oper} {a : Act} {Q : Exit → Act → World → Prop}
theorem wpl_seenN (hg : o.guard = none) (m x : Operand) (hop : o.op = Op.lookup 80 m x true) (b n k : Nat) (p : ByteArray → Bool)
    (hm : a.eval m = .map (some b)) (hown : SetN w b n k p) (s : ByteArray) (hx : a.eval x = .string s) (hs : s.size ≤ maxLen)
    (hK : wpList Tryz.prog ops Q rest (a.put o.dst (.tuple #[.agg #[], .bool (p s)])) w) :
    wpList Tryz.prog ops Q (o :: rest) a w := by
  obtain ⟨D, ho, r, _⟩ := hown
  rw [← r s] at hK
  exact wpList_lookup_own_unit w hg m x _ hop _ _ lawS Tryz.underlying80 (zeroU _) b n D hm ho _ _ hx (WideMaps.keyOf_string_mk Tryz.underlying9 hs) hK
theorem wpl_markN (hg : o.guard = none) (m x v : Operand) (hop : o.op = Op.mapUpdate 80 m x v) (b n k : Nat) (p : ByteArray → Bool)
    (hm : a.eval m = .map (some b)) (hown : SetN w b n k p) (hn : n < maxLen) (s : ByteArray) (hx : a.eval x = .string s) (hv : a.eval v = .agg #[]) (hs : s.size ≤ maxLen)
    (hK : ∀ w', SetN w' b (n + 1) (if p s then k else k + 1) (fun y => p y || decide (s = y)) → w.grownBy w' (some b) → wpList Tryz.prog ops Q rest (a.put o.dst undef) w') :
    wpList Tryz.prog ops Q (o :: rest) a w := by
  obtain ⟨D, ho, r, hk⟩ := hown
  refine wpList_mapUpdate_own w hg m x v _ hop _ _ lawS Tryz.underlying80 unitElem b n D hm ho hn _ _ _ hx hv (WideMaps.keyOf_string_mk Tryz.underlying9 hs) _ [] unitElem_mk ?_
  intro w' ho' hg'
  refine hK w' ⟨_, ho', fun y => ?_, ?_⟩ hg'
  · by_cases h : y = s
    · subst h
      rw [has_put_same ho.isMap (by unfold WideAt.IsKeyLit; trivial)]
      simp
    · rw [has_put_other (key_ne h), r y]
      have : ¬ s = y := fun e => h e.symm
      simp [this]
  · rw [size_put (ho.tidy lawS), r s, hk]
end
end Go.Proofs.YtklfpnnnoaaiaabGreatDoor

/- slices.Values, slices.AppendSeq, slices.Collect at maglev's entries. -/
namespace Go.Proofs.YtklfpnnnoaaiaabGreatDoor
open Go.RowKit Go.Shelf

attribute [local go_sem] Oper.semAt_some

def entV (e : Ent) : Value := .agg #[.string e.1, .int .i64 e.2]
set_option maxRecDepth 100000 in
set_option maxHeartbeats 2000000 in
/-- The iterator of slices.Values, for every loop body that keeps what lay below n0. -/
theorem val1_in (n : Nat) (hn : 1 ≤ n) (l Bs n0 c : Nat) (a : Option Addr) (es : List Ent) (hl : es.length ≤ 1000000) (J Jx : List Ent → World → Prop)
    (hY : ∀ pre x W, J pre W → pre.length < es.length → YieldAt Fence.wide (n - 1) Tryz.prog l #[entV x] W fun e W' =>
      (e = .returned (.bool true) ∧ J (pre ++ [x]) W' ∧ Below n0 W W') ∨ (e = .returned (.bool false) ∧ Jx (pre ++ [x]) W'))
    (W : World) (hn0 : n0 ≤ W.heap.size) (hJ : AbidesFrom W.heap.size J) (hBs : W.cell? ⟨Bs, 0, none⟩ = some (.slice a es.length c)) (hI : IsEnts W a c es) (hA : ∀ p, a = some p → es ≠ [] → p.block < n0) (h0 : J [] W) :
    CallsIn Fence.wide n Tryz.prog 57 #[.func (.yield l) #[] #[], .pointer (some ⟨Bs, 0, none⟩)] W fun e W' => (∃ v, e = .returned v) ∧
      (J es W' ∨ ∃ k, k ≤ es.length ∧ Jx (es.take k) W') := by
  refine callsIn_of_wp Tryz.func57 rfl trivial ?_ rfl
  simp only [Tryz.ntmps57, List.size_toArray, List.length_cons, List.length_nil, Nat.reduceAdd, Nat.reduceSub, Array.replicate_succ, Array.replicate_zero, List.push_toArray, List.append_toArray, List.nil_append, List.cons_append]
  have HI := Lib.hid hI
  have HA := Lib.hid hA
  clear hI hA
  gi_wp2
  gi_loopw [7] (fun i wr => ∃ k : Nat, k ≤ es.length ∧ i = .int .i64 k ∧ J (es.take k) wr ∧ Below n0 W wr)
    (fun i _ => es.length - (intOf i).toNat)
  case atStart => exact ⟨0, Nat.zero_le _, rfl, h0, Below.refl _ _⟩
  case round =>
    obtain ⟨k, hk, rfl, hJs, hnx⟩ := hrel
    by_cases hlt : k < es.length
    · obtain h0 | ⟨bk, o, rfl, hbk, hc, hcell⟩ := HI.out
      · subst h0; simp at hlt
      have hb0 := HA.out _ rfl (by rintro rfl; simp at hlt)
      obtain ⟨c1, c2⟩ := hcell k es[k] (by simp [hlt])
      rw [← hnx.cell (p := ⟨bk, o + k * 2, none⟩) hb0] at c1
      rw [← hnx.cell (p := ⟨bk, o + k * 2 + 1, none⟩) hb0] at c2
      have htk : es.take k ++ [es[k]] = es.take (k + 1) := (List.take_succ_eq_append_getElem hlt).symm
      have HTK := Lib.hid htk
      obtain ⟨e, he⟩ : ∃ e, e = es[k] := ⟨_, rfl⟩
      rw [← he] at c1 c2 HTK
      clear hcell htk he
      obtain ⟨N, V⟩ := e
      simp only at c1 c2
      have hJ2 := hJ _ wr _ none hJs (World.grownBy_alloc wr (.cells #[.string N, .int .i64 V] 63) none) (fun r e => by cases e)
      have hB2 : Below n0 wr (wr.alloc (.cells #[.string N, .int .i64 V] 63)) := (Below.refl _ _).alloc (Nat.le_trans hn0 (by have := hnx.size; exact this)) _
      obtain ⟨fn, tmps, assign, body, hy, hR⟩ := hY _ (N, V) _ hJ2 (by rw [List.length_take]; omega)
      dsimp only [entV] at hy
      have hsz := hnx.size
      have k1 : (k : Int) < es.length := by omega
      clear hJ2
      gi_wp2
      refine hR.mono ?_
      rintro e W3 (⟨rfl, hJ3, hk3⟩ | ⟨rfl, hJx3⟩)
      · gi_wp2
        go_roundw
        case rel => exact ⟨k + 1, by omega, by simp, by rw [← HTK.out]; exact hJ3, hnx.trans (hB2.trans hk3)⟩
        case measure => simp [intOf]; omega
      · gi_wp2
        refine bodyPost_ret (results_none rfl _ _ _) rfl ?_
        exact ⟨⟨_, rfl⟩, .inr ⟨k + 1, by omega, by rw [← HTK.out]; exact hJx3⟩⟩
    · obtain rfl : k = es.length := by omega
      have hne : ¬ ((es.length : Int) < es.length) := by omega
      rw [List.take_length] at hJs
      gi_wp2
      go_end0
      exact ⟨⟨_, rfl⟩, .inl hJs⟩
set_option maxHeartbeats 1000000 in
/-- slices.Values: the slice is boxed; the function value captures the box. -/
theorem values_in (n : Nat) (a : Option Addr) (len cap : Nat) (w : World) :
    CallsIn Fence.wide n Tryz.prog 40 #[.slice a len cap] w fun e w' => e = .returned (.func (.func 57) #[] #[.pointer (some ⟨w.heap.size, 0, none⟩)]) ∧ w' = w.alloc (.cells #[.slice a len cap] 37) := by
  refine callsIn_of_wp Tryz.func40 rfl trivial ?_ rfl
  simp only [Tryz.ntmps40, List.size_toArray, List.length_cons, List.length_nil, Nat.reduceAdd, Nat.reduceSub, Array.replicate_succ, Array.replicate_zero, List.push_toArray, List.append_toArray, List.nil_append, List.cons_append]
  gi_wp2
  go_ret
  exact ⟨rfl, rfl⟩
/-- Its contract: all of them, in order; or some first ones. -/
theorem values_stops (n : Nat) (hn : 1 ≤ n) (Bs n0 c : Nat) (a : Option Addr) (es : List Ent) (hl : es.length ≤ 1000000) (w : World) (hBs : Bs < w.heap.size) (hn0 : n0 ≤ w.heap.size)
    (hc : w.cell? ⟨Bs, 0, none⟩ = some (.slice a es.length c)) (hI : IsEnts w a c es) (hA : ∀ p, a = some p → es ≠ [] → p.block < n0) :
    SeqStopsK Fence.wide n Tryz.prog 57 #[.pointer (some ⟨Bs, 0, none⟩)] (fun x : Ent => #[entV x]) (Below n0) (fun ys => ys = es) (fun _ => True) es.length w := fun l J Jx W hW hJ _ hY h0 => by
  refine (val1_in n hn l Bs n0 c a es hl J Jx hY W (Nat.le_trans hn0 hW.size) hJ ((hW.cell (p := ⟨Bs, 0, none⟩) hBs).trans hc) (hI.below hW) hA h0).mono ?_
  rintro e W' ⟨he, hj | ⟨k, _, hj⟩⟩
  · exact ⟨he, .inl ⟨es, rfl, hj⟩⟩
  · exact ⟨he, .inr ⟨_, trivial, hj⟩⟩
/-- A block of cells stays where what is turned is no cells. -/
theorem cells_own {β : Type} (B : Nat) (t : TypeId) (cs : Array Value) : _root_.Go.Own (fun (_ : β) (W : World) => W.heap[B]? = some (.cells cs t (0, 0))) := fun s X Y row hs hg hrow =>
  (hg.block B (Array.getElem?_eq_some_iff.1 hs).1 (fun e' => by obtain ⟨o, ho, hc⟩ := hrow B e'.symm; rw [hs] at ho; cases ho; cases hc)).trans hs
set_option maxRecDepth 100000 in
set_option maxHeartbeats 4000000 in
theorem appendSeq_in (n : Nat) (hn : 3 ≤ n) (Bs c : Nat) (a : Option Addr) (es : List Ent) (hl : es.length ≤ 100000) (w : World) (hBs : Bs < w.heap.size)
    (hc : w.cell? ⟨Bs, 0, none⟩ = some (.slice a es.length c)) (hI : IsEnts w a c es) :
    CallsIn Fence.wide n Tryz.prog 79 #[.slice none 0 0, .func (.func 57) #[] #[.pointer (some ⟨Bs, 0, none⟩)]] w fun e W' =>
      ∃ v, e = .returned v ∧ W'.ownsRow w.heap.size 63 2 v es.length (cellsE es) ∧ Below w.heap.size w W' := by
  obtain ⟨i0, hi, hz0, hz1, hz2⟩ := info_parts infoMEnt
  have h1 : 1 ≤ n := by omega
  have hA : ∀ p, a = some p → es ≠ [] → p.block < w.heap.size := by
    intro p hp hne
    obtain h0 | ⟨bk, o, ha, hbk, _⟩ := hI
    · exact absurd h0 hne
    · rw [ha] at hp; cases hp; exact hbk
  refine callsIn_of_wp_marks Tryz.func79 rfl trivial ?_ rfl
  simp only [Tryz.ntmps79, List.size_toArray, List.length_cons, List.length_nil, Nat.reduceAdd, Nat.reduceSub, Array.replicate_succ, Array.replicate_zero, List.push_toArray, List.append_toArray, List.nil_append, List.cons_append]
  have HI := Lib.hid hI
  have hB0 : Below w.heap.size w (w.alloc (.cells #[.slice none 0 0] 37)) := below_alloc w _
  have hc' : (w.alloc (.cells #[.slice none 0 0] 37)).cell? ⟨Bs, 0, none⟩ = some (.slice a es.length c) := (hB0.cell (p := ⟨Bs, 0, none⟩) hBs).trans hc
  have bS := Boxed.new w 37 (.slice none 0 0)
  clear hc hI
  gi_wp2
  refine wpIn_rangeFunc_ownH rfl h1 (gf := 57) (lb := #[.pointer (some ⟨Bs, 0, none⟩)]) rfl trivial (enters_of Tryz.func57 (by kernel_rfl) rfl)
    (values_stops (n - 1) (by omega) Bs w.heap.size c a es (by omega) _ (by simp; omega) (by simp) hc' (HI.out.below hB0) hA) belowK_t (belowK_b (by simp)) (Below.refl _ _) (fun _ => rfl)
    (fun pre W => (∃ v, Boxed W w.heap.size 37 v ∧ W.ownsRow w.heap.size 63 2 v pre.length (cellsE pre) ∧ True) ∧ Below w.heap.size w W)
    (fun _ _ _ => False)
    (OwnFrom.and (Own.from (holdsRow_own w.heap.size w.heap.size 37 63 2 (fun pre => pre.length) (fun pre => cellsE pre) (fun _ _ => True)) _) (ownFrom_below (Nat.le_refl _) (by simp)))
    (fun _ _ _ _ _ hs _ _ => hs)
    ⟨⟨_, bS, World.ownsRow_nil _ _ _ _, trivial⟩, hB0⟩
    (fun x a' W => ∃ Bx, w.heap.size < Bx ∧ W.heap[Bx]? = some (.cells #[.string x.1, .int .i64 x.2] 63 (0, 0)) ∧ a' = { tmps := #[.slice none 0 0, .func (.func 57) #[] #[.pointer (some ⟨Bs, 0, none⟩)], .pointer (some ⟨w.heap.size, 0, none⟩), undef, .slice none 0 0, .pointer (some ⟨Bx, 0, none⟩), .func (.func 57) #[] #[.pointer (some ⟨Bs, 0, none⟩)], .agg #[.string x.1, .int .i64 x.2], undef, undef, undef, undef, undef], defers := [] })
    (fun x a' => fun s A B row hs hg hr => by
      obtain ⟨Bx, h1, h2, h3⟩ := hs
      exact ⟨Bx, h1, (cells_own (β := Unit) Bx _ _).from _ () A B row h2 hg hr, h3⟩) ?assign ?body ?done ?stop
  case assign =>
    rintro l pre ⟨N, V⟩ W K ⟨⟨v, hv, hrow, _⟩, hB⟩ hK
    dsimp only [entV]
    gi_wp2
    exact hK _ _ ((KeepsOthers.alloc _ _).from _) ((Below.refl _ W).alloc hB.size _) ⟨⟨v, hv.alloc _, hrow.alloc _, trivial⟩, hB.alloc hB.size _⟩ ⟨W.heap.size, hv.lt, heap_alloc_new W _, rfl⟩
  case body =>
    rintro l pre ⟨N, V⟩ a' W hl ⟨r, hr⟩ ⟨⟨v, hv, hrow, _⟩, hB⟩ ⟨Bx, hBx, hbX, rfl⟩ hlt
    have cx0 : W.cell? ⟨Bx, 0, none⟩ = some (.string N) := by rw [cell_of_row W Bx 0 _ _ _ hbX]; rfl
    have cx1 : W.cell? ⟨Bx, 1, none⟩ = some (.int .i64 V) := by rw [cell_of_row W Bx 1 _ _ _ hbX]; rfl
    have hvc := hv.cell
    have HNW := Lib.hid (cells_ent W N V 63)
    have hsz := hB.size
    clear hbX hr
    gi_wp2_with (gi_at_builtin; refine wpListIn_append_own _ rfl _ _ 37 rfl w.heap.size 63 i0 (.agg #[.string ⟨#[]⟩, .int .i64 0]) 2 24 Tryz.underlying37 hi hz0 hz1 hz2 rfl (by decide) _ _ _ rfl (hrow.alloc _) ⟨W.heap.size, 0, none⟩ 1 1 [.string N, .int .i64 V] rfl rfl HNW.out (ent_one _ _) (by unfold maxLen; omega) (by omega) (by simp; omega) ?_; intro v' w1 hown' hgrow _; obtain ⟨g', cap', rfl⟩ := ownsRow_succ hown'; obtain ⟨hv1, hv2, hr2, hk2, hb2⟩ := hv.appended (by decide) hrow hB.size (Nat.le_refl _) hown' hgrow; have hc1 := hv1.cell; have hf1 := hv1.frozen)
    refine ⟨hk2.from _, hb2, ⟨_, hv2, ?_⟩, hB.trans hb2⟩
    have e1 : (pre ++ [(N, V)]).length = pre.length + 1 := by simp
    have e2 : cellsE (pre ++ [(N, V)]) = cellsE pre ++ [.string N, .int .i64 V] := by rw [cellsE_append]; rfl
    rw [e1, e2]
    exact hr2
  case done =>
    rintro D ys W hD rfl ⟨⟨v, hv, hrow, _⟩, hB⟩ hK
    have hvc := hv.cell
    gi_wp2
    refine ⟨by simp, .inl ⟨_, _, rfl, run_takeDeferred hK, ?_⟩⟩
    exact ⟨_, results_tmp rfl _ _ _, v, rfl, ownsRow_putObj hrow _ hK rfl, hB.trans (belowK_b (w := w) (Nat.le_refl _) W D _ _ (by simp at hD; omega) hK rfl rfl)⟩
  case stop =>
    rintro D c pre W _ _ h _
    exact h.elim
end Go.Proofs.YtklfpnnnoaaiaabGreatDoor

/- cmp.Compare at strings; slices.SortFunc, slices.SortedFunc at maglev's entries; maglev.sorted. -/
namespace Go.Proofs.YtklfpnnnoaaiaabGreatDoor
open Go.RowKit Go.Shelf Go.Lib Go.Sort

shelf_lay_g SlLaysF0.n6 Slsf 6 at Tryz 56 as Tryz.sortEnt

/-- The bytes of a name. -/
def nmB (s : ByteArray) : List UInt8 := s.data.toList
theorem nmB_inj {a b : ByteArray} (h : nmB a = nmB b) : a = b := by
  cases a with | mk a => cases b with | mk b =>
    have : a.toList = b.toList := h
    rw [Array.toList_inj.1 this]
/-- The order of names. -/
def cmpS (a b : ByteArray) : Int := if nmB a < nmB b then -1 else if nmB b < nmB a then 1 else 0
theorem less_eq (a b : ByteArray) : Op.bytesLess a.toList b.toList = decide (nmB a < nmB b) := by
  rw [bytesLess_eq, Lib.toList_data, Lib.toList_data]; rfl
theorem same_eq (a b : ByteArray) : (a.toList == b.toList) = decide (nmB a = nmB b) := by
  rw [Lib.toList_data, Lib.toList_data]
  by_cases h : nmB a = nmB b
  · rw [decide_eq_true h]; exact beq_iff_eq.2 h
  · rw [decide_eq_false h]; exact beq_eq_false_iff_ne.2 h
theorem lt_asymmS {a b : List UInt8} (h : a < b) : ¬ b < a := fun h2 => List.lt_irrefl a (List.lt_trans h h2)
theorem isnan49 (s : ByteArray) (w : World) : Calls Tryz.prog 58 #[.string s] w fun e w' => e = .returned (.bool false) ∧ w' = w := by
  have he : (s.toList == s.toList) = true := by simp
  go_enter Tryz.func58, Tryz.ntmps58
  go_wp2_with fail
  go_ret
  exact ⟨rfl, rfl⟩
theorem compare37 (a b : ByteArray) (w : World) : Calls Tryz.prog 42 #[.string a, .string b] w fun e w' => e = .returned (.int .i64 (cmpS a b)) ∧ w' = w := by
  have h1 := less_eq a b
  have h2 := same_eq a b
  by_cases hlt : nmB a < nmB b
  · have hc : cmpS a b = -1 := if_pos hlt
    rw [decide_eq_true hlt] at h1
    rw [hc]
    go_enter Tryz.func42, Tryz.ntmps42
    go_wp2_with (go_at_call 58; refine (isnan49 _ _).mono ?_; rintro e w' ⟨rfl, rfl⟩)
    go_ret
    exact ⟨rfl, rfl⟩
  · rw [decide_eq_false hlt] at h1
    by_cases hgt : nmB b < nmB a
    · have hc : cmpS a b = 1 := by unfold cmpS; rw [if_neg hlt, if_pos hgt]
      have hne : ¬ nmB a = nmB b := fun h => by rw [h] at hgt; exact List.lt_irrefl _ hgt
      rw [decide_eq_false hne] at h2
      rw [hc]
      go_enter Tryz.func42, Tryz.ntmps42
      go_wp2_with (go_at_call 58; refine (isnan49 _ _).mono ?_; rintro e w' ⟨rfl, rfl⟩)
      go_ret
      exact ⟨rfl, rfl⟩
    · have hc : cmpS a b = 0 := by unfold cmpS; rw [if_neg hlt, if_neg hgt]
      have hne : nmB a = nmB b := List.le_antisymm (List.not_lt.1 hgt) (List.not_lt.1 hlt)
      rw [decide_eq_true hne] at h2
      rw [hc]
      go_enter Tryz.func42, Tryz.ntmps42
      go_wp2_with (go_at_call 58; refine (isnan49 _ _).mono ?_; rintro e w' ⟨rfl, rfl⟩)
      go_ret
      exact ⟨rfl, rfl⟩
/-- The closure that maglev.sorted gives: two blocks are laid. -/
theorem closureS (x y : Ent) (W : World) : Calls Tryz.prog 41 #[.agg #[.string x.1, .int .i64 x.2], .agg #[.string y.1, .int .i64 y.2]] W fun e w' => e = .returned (.int .i64 (cmpS x.1 y.1)) ∧ ∃ q os', w' = grow (W.drewN q) os' := by
  have hcon := fun W' => compare37 x.1 y.1 W'
  generalize cmpS x.1 y.1 = r at hcon ⊢
  go_enter Tryz.func41, Tryz.ntmps41
  go_wp2_with (go_at_call 42; refine (hcon _).mono ?_; rintro e w' ⟨rfl, rfl⟩)
  go_ret
  exact ⟨rfl, 0, _, by rw [alloc_eq_grow, alloc_eq_grow, grow_grow]; rfl⟩
def encE (x : Ent) : List Value := [.string x.1, .int .i64 x.2]
theorem cmpLaysS (blk off size : Nat) (w : World) : CmpLays Tryz.prog 41 #[] encE 2 (fun x y => cmpS x.1 y.1) blk off size w :=
  fun _ _ _ _ x y => closureS x y _
theorem ltS (x y : Ent) : ltOf (fun x y : Ent => cmpS x.1 y.1) x y = decide (nmB x.1 < nmB y.1) := by
  unfold ltOf cmpS
  by_cases h1 : nmB x.1 < nmB y.1
  · simp [h1]
  · by_cases h2 : nmB y.1 < nmB x.1 <;> simp [h1, h2]
theorem swoS : SWO (ltOf fun x y : Ent => cmpS x.1 y.1) where
  irrefl x := by rw [ltS]; simp [List.lt_irrefl]
  trans x y z h1 h2 := by rw [ltS] at *; simp only [decide_eq_true_eq] at *; exact List.lt_trans h1 h2
  ntrans x y z h1 h2 := by
    rw [ltS] at *; simp only [decide_eq_false_iff_not] at *
    exact List.not_lt.2 (List.le_trans (List.not_lt.1 h2) (List.not_lt.1 h1))
end Go.Proofs.YtklfpnnnoaaiaabGreatDoor

/- slices.SortFunc, slices.SortedFunc at maglev's entries; maglev.sorted. -/
namespace Go.Proofs.YtklfpnnnoaaiaabGreatDoor
open Go.RowKit Go.Shelf Go.Lib Go.Sort

shelf_lay Lays.n125 Nm 125 at Tryz as Tryz.bitsLenS

theorem hlenS (n : Nat) (W : World) (h : n ≤ 12) : Calls Tryz.prog 50 #[.int .u64 n] W fun e w' => (∃ l : Int, e = .returned (.int .i64 l)) ∧ w' = W :=
  (Any.bits_Len Tryz.bitsLenS n W (by omega) (by omega)).mono fun _ _ ⟨he, hw⟩ => ⟨⟨_, he⟩, hw⟩
/-- In the order of their names. -/
def SortedE (es : List Ent) : Prop := es.Pairwise fun a b => ¬ nmB b.1 < nmB a.1
theorem below_sortK {B g q : Nat} {w : World} (os : Array Obj) (d : Array Ent) (hg : B ≤ g) (hB : B ≤ w.heap.size) : Below B w (sortWorldK encE 2 w g 0 q d os) := by
  have h := below_putRow (enc := id) (B := B) (w0 := w) (w := w) (g := g) (q := q) (d := flatK encE 2 d) (Below.refl B w) hg
  exact ⟨h.os, h.tape, h.output, by unfold sortWorldK grow; have := h.size; show _ ≤ (_ ++ os).size; rw [Array.size_append]; exact Nat.le_trans this (Nat.le_add_right _ _), fun k hk => by
    unfold sortWorldK
    have := heap_grow_old (putRowK encE 2 (Go.Sort.ahead w q) g 0 d) os (k := k) (Nat.lt_of_lt_of_le (Nat.lt_of_lt_of_le hk hB) h.size)
    rw [this]
    exact h.block k hk⟩
theorem holds_ents {base g c : Nat} {T : TypeId} {es : List Ent} {w : World} (h : w.ownsRow base T 2 (.slice (some ⟨g, 0, none⟩) es.length c) es.length (cellsE es)) : HoldsK encE 2 w g 0 es.toArray := by
  intro t ht
  rw [size_flatK, List.size_toArray] at ht
  have hcl := cellsE_length es
  rw [get_flatK _ _ _ _ (by simpa using ht), Nat.zero_add]
  refine ⟨?_, h.frozenAt t⟩
  have hi : t / 2 < es.length := by omega
  have hd : es.toArray[t / 2]! = es[t / 2] := by simp [hi]
  obtain ⟨c1, c2⟩ := cellsE_at es (t / 2) es[t / 2] (by simp [hi])
  rw [h.cellAt t (by omega), hd]
  rcases Nat.mod_two_eq_zero_or_one t with e | e
  · rw [show (cellsE es)[t]? = (cellsE es)[t / 2 * 2]? by congr 1; omega, c1, e]; rfl
  · rw [show (cellsE es)[t]? = (cellsE es)[t / 2 * 2 + 1]? by congr 1; omega, c2, e]; rfl
theorem ents_holds {g c : Nat} {d : Array Ent} {w : World} (h : HoldsK encE 2 w g 0 d) (hg : g < w.heap.size) (hc : d.size ≤ c) : IsEnts w (some ⟨g, 0, none⟩) c d.toList := by
  refine .inr ⟨g, 0, rfl, hg, by simpa using hc, fun j e he => ?_⟩
  have hj : j < d.size := by
    rcases Nat.lt_or_ge j d.size with h | h
    · exact h
    · rw [List.getElem?_eq_none (by simpa using h)] at he; cases he
  have hd : d[j]! = e := by
    rw [getElem!_pos d j hj]
    simpa [hj] using he
  have c1 := (h.cell (i := j) (c := 0) hj (by decide)).1
  have c2 := (h.cell (i := j) (c := 1) hj (by decide)).1
  rw [hd] at c1 c2
  exact ⟨c1, c2⟩
theorem perm_ents {es : List Ent} {d' : Array Ent} (h : PermIn 0 es.toArray.size es.toArray d') : d'.toList.Perm es := by
  obtain ⟨h1, _, h3⟩ := h
  have hl : d'.toList.length = es.length := by simpa using h1
  have e1 : (d'.extract 0 es.toArray.size).toList = d'.toList := by simp [← hl]
  have e2 : (es.toArray.extract 0 es.toArray.size).toList = es := by simp
  rw [e1, e2] at h3
  exact h3
theorem sorted_ents {d' : Array Ent} (h : SortedIn (ltOf fun x y : Ent => cmpS x.1 y.1) 0 d'.size d') : SortedE d'.toList := by
  unfold SortedE
  rw [List.pairwise_iff_getElem]
  intro i j hi hj hij
  have := h i j (Nat.zero_le _) hij (by simpa using hj)
  rw [ltS, decide_eq_false_iff_not] at this
  rw [getElem!_pos d' i (by simpa using hi), getElem!_pos d' j (by simpa using hj)] at this
  simpa using this
set_option maxHeartbeats 1000000 in
theorem sort47 (base g c : Nat) (es : List Ent) (h12 : es.length ≤ 12) (w : World) (hb : base ≤ g) (hbw : base ≤ w.heap.size) (hg : g < w.heap.size) (hc : es.length ≤ c) (hown : w.ownsRow base 63 2 (.slice (some ⟨g, 0, none⟩) es.length c) es.length (cellsE es)) :
    Calls Tryz.prog 56 #[.slice (some ⟨g, 0, none⟩) es.length c, .func (.func 41) #[] #[]] w fun e w' => e = .returned (.tuple #[]) ∧ ∃ es' : List Ent, es'.Perm es ∧ SortedE es' ∧ IsEnts w' (some ⟨g, 0, none⟩) c es' ∧ Below base w w' := by
  have eg : ∀ args w, (callFunc 41 args).run Tryz.prog w = .ok (.enter 41 args) w := enters_of Tryz.func41 (by kernel_rfl) rfl
  have hH := holds_ents hown
  have hcon := AnyQ.slices_SortFunc_small_sorted Tryz.sortEnt 2 Tryz.isAgg63 Tryz.sizeOf63 encE (fun _ => rfl) (fun x v hv => by simp [encE] at hv; rcases hv with rfl | rfl <;> rfl) (fun x y => cmpS x.1 y.1) 41 #[] swoS g 0 c es.toArray w eg (cmpLaysS g 0 _ w) hH hg (by simpa using h12) hlenS
  rw [List.size_toArray] at hcon
  refine Calls.mono hcon ?_
  rintro e w' ⟨he, d', n, os, hp, hs, rfl⟩
  have hsz : d'.size = es.length := by have := hp.1; simpa using this
  refine ⟨he, d'.toList, perm_ents (by simpa using hp), sorted_ents (by rw [hsz]; exact hs), ents_holds (holdsK_sortWorldK_c encE 2 w g 0 es.toArray d' n os hH hg (by simpa using hsz)) ?_ (by omega), below_sortK os d' hb hbw⟩
  have := (below_sortK (w := w) (q := n) os d' hb hbw).size
  omega
theorem insNone (a : Option Addr) (c : Nat) (f : Value) (w : World) :
    Calls Tryz.prog 93 #[.slice a 0 c, .int .i64 0, .int .i64 0, f] w fun e w' => e = .returned (.tuple #[]) ∧ w' = w := by
  go_enter Tryz.func93, Tryz.ntmps93
  go_wp2_with fail
  go_loopw [8] (fun i wr => i = .int .i64 1 ∧ wr = w) (fun _ _ => 0)
  case atStart => exact ⟨rfl, rfl⟩
  case round =>
    obtain ⟨rfl, rfl⟩ := hrel
    go_wp2_with fail
    go_end0
    exact ⟨rfl, rfl⟩
theorem pdqNone (a : Option Addr) (c : Nat) (l : Int) (f : Value) (w : World) :
    Calls Tryz.prog 80 #[.slice a 0 c, .int .i64 0, .int .i64 0, .int .i64 l, f] w fun e w' => e = .returned (.tuple #[]) ∧ w' = w := by
  go_enter Tryz.func80, Tryz.ntmps80
  go_wp2_with fail
  go_loopw [1, 2] (fun i j wr => i = .int .i64 0 ∧ j = .int .i64 0 ∧ wr = w) (fun _ _ _ => 0)
  case atStart => exact ⟨rfl, rfl, rfl⟩
  case round =>
    obtain ⟨rfl, rfl, rfl⟩ := hrel
    go_wp2_with (go_at_call 93; refine (insNone _ _ _ _).mono ?_; rintro e w' ⟨rfl, hw'⟩; subst hw')
    refine bodyPost_ret (results_none rfl _ _ _) rfl ?_
    exact ⟨rfl, rfl⟩
theorem sortNone (a : Option Addr) (c : Nat) (f : Value) (w : World) :
    Calls Tryz.prog 56 #[.slice a 0 c, f] w fun e w' => e = .returned (.tuple #[]) ∧ w' = w := by
  go_enter Tryz.func56, Tryz.ntmps56
  go_wp2_with (first
    | (go_at_call 50; refine (hlenS 0 _ (by omega)).mono ?_; rintro e w' ⟨⟨l, rfl⟩, hw'⟩; subst hw')
    | (go_at_call 80; refine (pdqNone _ _ _ _ _).mono ?_; rintro e w' ⟨rfl, hw'⟩; subst hw'))
  go_end0
  exact ⟨rfl, rfl⟩
theorem collect46 (Bs c : Nat) (a : Option Addr) (es : List Ent) (hl : es.length ≤ 100000) (w : World) (hBs : Bs < w.heap.size)
    (hc : w.cell? ⟨Bs, 0, none⟩ = some (.slice a es.length c)) (hI : IsEnts w a c es) :
    Calls Tryz.prog 55 #[.func (.func 57) #[] #[.pointer (some ⟨Bs, 0, none⟩)]] w fun e W' =>
      ∃ v, e = .returned v ∧ W'.ownsRow w.heap.size 63 2 v es.length (cellsE es) ∧ Below w.heap.size w W' := by
  have HA := Lib.hid (callsIn_wide.1 (appendSeq_in 3 (by omega) Bs c a es hl w hBs hc hI))
  clear hI
  go_enter Tryz.func55, Tryz.ntmps55
  go_wp2_with (go_at_call 79; refine HA.out.mono ?_; rintro e w' ⟨v, rfl, ho, hb⟩)
  go_ret
  exact ⟨v, rfl, ho, hb⟩
def SortPost (w : World) (es : List Ent) (e : Ending) (w' : World) : Prop :=
  ∃ a c es', e = .returned (.slice a es.length c) ∧ es'.Perm es ∧ SortedE es' ∧ IsEnts w' a c es' ∧ Below w.heap.size w w'
set_option maxHeartbeats 1000000 in
theorem sortedFunc34 (Bs c : Nat) (a : Option Addr) (es : List Ent) (h12 : es.length ≤ 12) (w : World) (hBs : Bs < w.heap.size)
    (hc : w.cell? ⟨Bs, 0, none⟩ = some (.slice a es.length c)) (hI : IsEnts w a c es) :
    Calls Tryz.prog 39 #[.func (.func 57) #[] #[.pointer (some ⟨Bs, 0, none⟩)], .func (.func 41) #[] #[]] w (SortPost w es) := by
  have HC := Lib.hid (collect46 Bs c a es (by omega) w hBs hc hI)
  clear hI
  go_enter Tryz.func39, Tryz.ntmps39
  go_wp2_with (go_at_call 55; refine HC.out.mono ?_; rintro e w1 ⟨v, rfl, ho, hb⟩)
  obtain ⟨a1, c1, rfl⟩ := own_slice ho
  have HB := Lib.hid hb
  by_cases h0 : es.length = 0
  · have he0 : es = [] := List.eq_nil_of_length_eq_zero h0
    clear ho hb
    rw [h0]
    go_wp2_with (go_at_call 56; refine (sortNone _ _ _ _).mono ?_; rintro e w' ⟨rfl, hw'⟩; subst hw')
    go_ret
    exact ⟨a1, c1, [], by rw [h0]; rfl, by rw [he0], List.Pairwise.nil, .inl rfl, HB.out⟩
  · obtain ⟨g, rfl⟩ : ∃ g, a1 = some ⟨g, 0, none⟩ := by
      rcases ho.2 with ⟨h1, h2⟩ | ⟨g, cap, cur, h1, _⟩
      · exact absurd h2 h0
      · injection h1 with h1; exact ⟨g, h1⟩
    obtain ⟨hg1, hg2⟩ := ho.lt g rfl
    have hcap : es.length ≤ c1 := by
      rcases ho.2 with ⟨h1, h2⟩ | ⟨g, cap, cur, h1, _, _, h3, _⟩
      · exact absurd h2 h0
      · injection h1 with _ _ h4; omega
    have HS := Lib.hid (sort47 w.heap.size g c1 es h12 w1 hg1 hb.size hg2 hcap ho)
    clear ho hb
    go_wp2_with (go_at_call 56; refine HS.out.mono ?_; rintro e w2 ⟨rfl, es', hp, hs, hi, hb2⟩)
    go_ret
    exact ⟨_, c1, es', rfl, hp, hs, hi, HB.out.trans hb2⟩
set_option maxHeartbeats 1000000 in
theorem sorted25 (c : Nat) (a : Option Addr) (es : List Ent) (h12 : es.length ≤ 12) (w : World) (hI : IsEnts w a c es) :
    Calls Tryz.prog 26 #[.slice a es.length c] w (SortPost w es) := by
  have HV := Lib.hid (callsIn_wide.1 (values_in 2 a es.length c w))
  have hb := below_alloc w (.cells #[.slice a es.length c] 37)
  have HF := Lib.hid (sortedFunc34 w.heap.size c a es h12 (w.alloc (.cells #[.slice a es.length c] 37)) (by simp) (by simp) (hI.below hb))
  have HB := Lib.hid hb
  clear hI hb
  go_enter Tryz.func26, Tryz.ntmps26
  go_wp2_with (first
    | (go_at_call 40; refine HV.out.mono ?_; rintro e w' ⟨rfl, rfl⟩)
    | (go_at_call 39; refine HF.out.mono ?_; rintro e w2 ⟨a2, c2, es', rfl, hp, hs, hi, hb2⟩))
  go_ret
  exact ⟨a2, c2, es', rfl, hp, hs, hi, HB.out.trans (hb2.mono HB.out.size)⟩
end Go.Proofs.YtklfpnnnoaaiaabGreatDoor

/- A region that draws its order, by an invariant: one step for each operation, whatever the order. -/
namespace Go.Proofs.YtklfpnnnoaaiaabGreatDoor
open Go.RowKit

/-- The frame with the operations' values in their slots. -/
def actOf : List Oper → (Nat → Value) → Nat → Act → Act
  | [], _, _, a => a
  | o :: r, x, i, a => (actOf r x (i + 1) a).put o.dst (x i)
def setL (L : Nat → Bool) (i : Nat) : Nat → Bool := fun j => if j = i then true else L j
def updV (x : Nat → Value) (i : Nat) (v : Value) : Nat → Value := fun j => if j = i then v else x j
/-- What an operation waits for. -/
def predsOf (o : Oper) : List Nat := (o.after.toList.filter fun e => Region.binds .any e).map (·.on)
def AllL (L : Nat → Bool) : List Nat → Prop
  | [] => True
  | j :: r => L j = true ∧ AllL L r
theorem allL_of {L : Nat → Bool} : ∀ {l : List Nat}, (∀ j ∈ l, L j = true) → AllL L l
  | [], _ => trivial
  | j :: _, h => ⟨h j (List.mem_cons_self ..), allL_of (fun k hk => h k (List.mem_cons_of_mem _ hk))⟩
/-- Each slot is written by one operation, and is there. -/
def dstsOk : List Oper → Nat → Bool
  | [], _ => true
  | o :: r, n => (match o.dst with
    | some d => decide (d < n) && r.all fun q => q.dst != some d
    | none => true) && dstsOk r n
theorem put_same (a : Act) (d : Nat) (v u : Value) : (a.put (some d) v).put (some d) u = a.put (some d) u := by
  simp [Act.put, Array.setIfInBounds_setIfInBounds]
theorem actOf_put : ∀ (l : List Oper) (n : Nat) (x : Nat → Value) (k : Nat) (a : Act), dstsOk l n = true → ∀ (i : Nat) (o : Oper), l[i]? = some o → ∀ v, (actOf l x k a).put o.dst v = actOf l (updV x (k + i) v) k a
  | [], _, _, _, _, _, i, o, h, _ => by simp at h
  | p :: r, n, x, k, a, hd, i, o, h, v => by
    simp only [dstsOk, Bool.and_eq_true] at hd
    match i, h with
    | 0, h =>
      obtain rfl : p = o := Option.some.inj h
      have hrest : ∀ (l : List Oper) (m : Nat), k < m → actOf l (updV x k v) m a = actOf l x m a := by
        intro l
        induction l with
        | nil => intro m _; rfl
        | cons q l ih =>
          intro m hm
          simp only [actOf, ih (m + 1) (by omega)]
          rw [show updV x k v m = x m from if_neg (by omega)]
      simp only [actOf, Nat.add_zero, hrest r (k + 1) (by omega)]
      rw [show updV x k v k = v from if_pos rfl]
      cases hp : p.dst with
      | none => rfl
      | some d => exact put_same _ _ _ _
    | i + 1, h =>
      have h' : r[i]? = some o := h
      have ih := actOf_put r n x (k + 1) a hd.2 i o h' v
      simp only [actOf]
      rw [show updV x (k + (i + 1)) v k = x k from if_neg (by omega), show k + (i + 1) = k + 1 + i by omega, ← ih]
      refine (Act.put_comm _ _ _ fun d hdd => ?_)
      have := hd.1
      rw [hdd] at this
      simp only [Bool.and_eq_true, List.all_eq_true] at this
      have := this.2 o (List.mem_of_getElem? h')
      simpa using this
/-- The values at the start. -/
def valsAt (l : List Oper) (a : Act) (i : Nat) : Value :=
  match l[i]? with
  | some o => match o.dst with
    | some d => a.tmps.getD d undef
    | none => undef
  | none => undef
theorem actOf_self : ∀ (l : List Oper) (x : Nat → Value) (k : Nat) (a : Act), dstsOk l a.tmps.size = true → (∀ i, x (k + i) = valsAt l a i) → actOf l x k a = a
  | [], _, _, _, _, _ => rfl
  | o :: r, x, k, a, hd, hx => by
    simp only [dstsOk, Bool.and_eq_true] at hd
    simp only [actOf]
    rw [actOf_self r x (k + 1) a hd.2 (fun i => by rw [show k + 1 + i = k + (i + 1) by omega, hx (i + 1)]; rfl)]
    have h0 := hx 0
    cases ho : o.dst with
    | none => rfl
    | some d =>
      have hlt := hd.1
      rw [ho] at hlt
      simp only [Bool.and_eq_true, decide_eq_true_eq] at hlt
      simp only [valsAt, List.getElem?_cons_zero, ho, Nat.add_zero] at h0
      rw [h0]
      simp only [Act.put]
      congr 1
      apply Array.ext
      · simp
      · intro j h1 h2
        rw [Array.getElem_setIfInBounds]
        split
        · rename_i e; subst e; simp [Array.getD, hlt.1]
        · rfl

/-- Each operation waits for earlier ones alone. -/
def edgesDown : List Oper → Nat → Bool
  | [], _ => true
  | o :: r, i => (predsOf o).all (fun j => decide (j < i)) && edgesDown r (i + 1)
theorem edgesDown_at : ∀ {l : List Oper} {k i : Nat} {o : Oper}, edgesDown l k = true → l[i]? = some o → ∀ j ∈ predsOf o, j < k + i
  | [], _, i, _, _, h, _, _ => by simp at h
  | p :: r, k, i, o, hd, h, j, hj => by
    simp only [edgesDown, Bool.and_eq_true, List.all_eq_true, decide_eq_true_eq] at hd
    match i, h with
    | 0, h => obtain rfl : p = o := Option.some.inj h; exact hd.1 j hj
    | i + 1, h => have := edgesDown_at hd.2 (show r[i]? = some o from h) j hj; omega
theorem listed_preds {ops : Array Oper} {listed : Array Bool} {i : Nat} {o : Oper} (hi : i ∈ Region.ready .any ops listed) (ho : ops[i]? = some o) : AllL (fun j => listed.getD j false) (predsOf o) := by
  obtain ⟨_, o', ho', hall⟩ := mem_ready.1 hi
  obtain rfl : o = o' := Option.some.inj (ho.symm.trans ho')
  refine allL_of fun j hj => ?_
  simp only [predsOf, List.mem_map, List.mem_filter, Array.mem_toList_iff] at hj
  obtain ⟨e, ⟨he, hb⟩, rfl⟩ := hj
  exact hall e he hb
theorem ready_nil {ops : Array Oper} {listed : Array Bool} (hd : edgesDown ops.toList 0 = true) (hs : listed.size = ops.size) (h : Region.ready .any ops listed = []) : ∀ i, i < ops.size → listed.getD i false = true := by
  intro i
  induction i using Nat.strongRecOn with
  | ind i ih =>
    intro hi
    cases hl : listed.getD i false with
    | true => rfl
    | false =>
      have hm : i ∈ Region.ready .any ops listed := by
        refine mem_ready.2 ⟨?_, ops[i], by simp [hi], fun e he hb => ?_⟩
        · simpa [Array.getD, hs, hi] using hl
        · have hlt := edgesDown_at (i := i) (o := ops[i]) hd (by simp [hi]) e.on (by
            simp only [predsOf, List.mem_map, List.mem_filter, Array.mem_toList_iff]
            exact ⟨e, ⟨he, hb⟩, rfl⟩)
          exact ih e.on (by omega) (by omega)
      rw [h] at hm
      cases hm

section
variable {P : Program} {ops : Array Oper} {Q : Exit → Act → World → Prop}

/-- Any order, by an invariant over what is listed, the values, and the world. -/
theorem wpAny_inv (a : Act) (n : Nat) (hn : dstsOk ops.toList n = true) (hd : edgesDown ops.toList 0 = true) (I : (Nat → Bool) → (Nat → Value) → World → Prop)
    (hstep : ∀ (i : Nat) (o : Oper), ops[i]? = some o → ∀ (L : Nat → Bool) (x : Nat → Value) (w : World), I L x w → L i = false → AllL L (predsOf o) →
      ∀ K : Act → World → Prop, Shut (∀ v w', I (setL L i) (updV x i v) w' → K ((actOf ops.toList x 0 a).put o.dst v) w') →
        if Region.wanted o (yielded ops (actOf ops.toList x 0 a).tmps) = true then o.wp P (actOf ops.toList x 0 a) w K Q else K ((actOf ops.toList x 0 a).put o.dst undef) w)
    (hfin : ∀ (L : Nat → Bool) (x : Nat → Value) (w : World), I L x w → (∀ i, i < ops.size → L i = true) → Q .normal (actOf ops.toList x 0 a) w) :
    ∀ (fuel : Nat) (listed : Array Bool) (x : Nat → Value) (w : World), listed.size = ops.size → I (fun i => listed.getD i false) x w →
      (∃ l : List Nat, l.length ≤ fuel ∧ ∀ i, i < ops.size → listed.getD i false = false → i ∈ l) →
      wpAny P .any ops Q fuel listed (actOf ops.toList x 0 a) w
  | 0, listed, x, w, hs, hI, ⟨l, hl, hc⟩ => by
    obtain rfl : l = [] := List.eq_nil_of_length_eq_zero (by omega)
    have hall : ∀ i, i < ops.size → listed.getD i false = true := fun i hi => by
      cases h : listed.getD i false with
      | true => rfl
      | false => have := hc i hi h; cases this
    refine ⟨?_, hfin _ x w hI hall⟩
    cases hr : Region.ready .any ops listed with
    | nil => rfl
    | cons j r =>
      have hj : j ∈ Region.ready .any ops listed := by rw [hr]; exact List.mem_cons_self ..
      obtain ⟨h1, o, ho, _⟩ := mem_ready.1 hj
      have hlt : j < ops.size := by
        rcases Nat.lt_or_ge j ops.size with h | h
        · exact h
        · rw [Array.getElem?_eq_none h] at ho; cases ho
      have h2 := hall j hlt
      simp [Array.getD, hs, hlt] at h1 h2
      rw [h2] at h1
      cases h1
  | fuel + 1, listed, x, w, hs, hI, ⟨l, hl, hc⟩ => by
    refine ⟨fun h => hfin _ x w hI (ready_nil hd hs h), fun i hi => ?_⟩
    obtain ⟨h1, o, ho, _⟩ := mem_ready.1 hi
    have hlt : i < ops.size := by
      rcases Nat.lt_or_ge i ops.size with h | h
      · exact h
      · rw [Array.getElem?_eq_none h] at ho; cases ho
    have h1' : listed.getD i false = false := by simp [Array.getD, hs, hlt] at h1 ⊢; exact h1
    refine wpOp_step ho (fun K hK => hstep i o ho _ x w hI h1' (listed_preds hi ho) K (fun v w' hI' => ?_))
    refine hK _ _ ?_
    rw [actOf_put ops.toList n x 0 a hn i o (by simpa using ho) v, Nat.zero_add]
    have hset : (fun j => (listed.setIfInBounds i true).getD j false) = setL (fun j => listed.getD j false) i := by
      funext j
      unfold setL
      by_cases e : j = i
      · subst e; rw [if_pos rfl]; simp [Array.getD, hs, hlt]
      · rw [if_neg e]
        simp only [Array.getD_eq_getD_getElem?, Array.getElem?_setIfInBounds_ne (Ne.symm e)]
    refine wpAny_inv a n hn hd I hstep hfin fuel _ _ w' (by simpa using hs) (by rw [hset]; exact hI') ⟨l.erase i, ?_, fun j hj hjl => ?_⟩
    · rw [List.length_erase_of_mem (hc i hlt h1')]; omega
    · have hji : j ≠ i := by
        rintro rfl
        simp [Array.getD, hs, hlt] at hjl
      have : listed.getD j false = false := by
        rw [Array.getD_eq_getD_getElem?, Array.getElem?_setIfInBounds_ne (Ne.symm hji), ← Array.getD_eq_getD_getElem?] at hjl
        exact hjl
      exact (List.mem_erase_of_ne hji).2 (hc j hj this)

/-- One goal for each operation. -/
def StepsAll (P : Program) (ops : Array Oper) (Q : Exit → Act → World → Prop) (a : Act) (I : (Nat → Bool) → (Nat → Value) → World → Prop) : List Oper → Nat → Prop
  | [], _ => True
  | o :: r, i => (∀ (L : Nat → Bool) (x : Nat → Value) (w : World), I L x w → L i = false → AllL L (predsOf o) →
      ∀ K : Act → World → Prop, Shut (∀ v w', I (setL L i) (updV x i v) w' → K ((actOf ops.toList x 0 a).put o.dst v) w') →
        if Region.wanted o (yielded ops (actOf ops.toList x 0 a).tmps) = true then o.wp P (actOf ops.toList x 0 a) w K Q else K ((actOf ops.toList x 0 a).put o.dst undef) w) ∧ StepsAll P ops Q a I r (i + 1)
theorem stepsAll_at {a : Act} {I : (Nat → Bool) → (Nat → Value) → World → Prop} : ∀ {l : List Oper} {k : Nat}, StepsAll P ops Q a I l k → ∀ (i : Nat) (o : Oper), l[i]? = some o → ∀ (L : Nat → Bool) (x : Nat → Value) (w : World), I L x w → L (k + i) = false → AllL L (predsOf o) →
      ∀ K : Act → World → Prop, Shut (∀ v w', I (setL L (k + i)) (updV x (k + i) v) w' → K ((actOf ops.toList x 0 a).put o.dst v) w') →
        if Region.wanted o (yielded ops (actOf ops.toList x 0 a).tmps) = true then o.wp P (actOf ops.toList x 0 a) w K Q else K ((actOf ops.toList x 0 a).put o.dst undef) w
  | [], _, _, i, _, h => by simp at h
  | p :: r, k, hs, 0, o, h => by
    obtain rfl : p = o := Option.some.inj h
    exact hs.1
  | p :: r, k, hs, i + 1, o, h => by
    have := stepsAll_at hs.2 i o h
    rw [show k + 1 + i = k + (i + 1) by omega] at this
    exact this

/-- The region. -/
theorem region_inv {id : Nat} {a : Act} {w : World} (I : (Nat → Bool) → (Nat → Value) → World → Prop) (hm : P.follows .mixedOrders = true)
    (hn : dstsOk ops.toList a.tmps.size = true) (hd : edgesDown ops.toList 0 = true) (h0 : I (fun _ => false) (valsAt ops.toList a) w.drew)
    (hstep : StepsAll P ops Q a I ops.toList 0)
    (hfin : ∀ (L : Nat → Bool) (x : Nat → Value) (w : World), I L x w → (∀ i, i < ops.size → L i = true) → Q .normal (actOf ops.toList x 0 a) w) : (Code.region id ops true).wp P Q a w := by
  refine wp_region_any hm ?_
  have hself := actOf_self ops.toList (valsAt ops.toList a) 0 a hn (fun i => by rw [Nat.zero_add])
  have hL : (fun i => (Array.replicate ops.size false).getD i false) = fun _ => false := by
    funext i
    simp [Array.getD]
  have := wpAny_inv (P := P) (ops := ops) (Q := Q) a _ hn hd I (fun i o ho => by have := stepsAll_at hstep i o (by simpa using ho); rwa [Nat.zero_add] at this) hfin ops.size (Array.replicate ops.size false) (valsAt ops.toList a) w.drew (by simp) (by rw [hL]; exact h0) ⟨List.range ops.size, by simp, fun i hi _ => by simpa using hi⟩
  rw [hself] at this
  exact this

/-- The values of the operations that have come up. -/
def Holds (L : Nat → Bool) (x : Nat → Value) : List Value → Nat → Prop
  | [], _ => True
  | v :: r, i => (L i = true → x i = v) ∧ Holds L x r (i + 1)
theorem Holds.none (x : Nat → Value) : ∀ (vs : List Value) (k : Nat), Holds (fun _ => false) x vs k
  | [], _ => trivial
  | _ :: r, k => ⟨fun h => (by cases h), Holds.none x r (k + 1)⟩
theorem Holds.step {L : Nat → Bool} {x : Nat → Value} {i : Nat} {v : Value} : ∀ {vs : List Value} {k : Nat}, Holds L x vs k → (∀ j u, vs[j]? = some u → k + j = i → u = v) → Holds (setL L i) (updV x i v) vs k
  | [], _, _, _ => trivial
  | u :: r, k, h, hv => by
    refine ⟨fun hl => ?_, h.2.step fun j u' hj hk => hv (j + 1) u' hj (by omega)⟩
    by_cases e : k = i
    · subst e
      rw [hv 0 u rfl rfl]
      exact if_pos rfl
    · have h1 : L k = true := by rw [← hl]; exact (if_neg e).symm
      rw [← h.1 h1]
      exact if_neg e
/-- One goal for each operation, where the values are determined. -/
def StepsD (P : Program) (ops : Array Oper) (Q : Exit → Act → World → Prop) (a : Act) (vals : List Value) (S : (Nat → Bool) → World → Prop) : List Oper → Nat → Prop
  | [], _ => True
  | o :: r, i => (∀ (L : Nat → Bool) (x : Nat → Value) (w : World), Holds L x vals 0 → S L w → L i = false → AllL L (predsOf o) →
      ∀ K : Act → World → Prop, Shut (∀ w', S (setL L i) w' → K ((actOf ops.toList x 0 a).put o.dst (vals.getD i undef)) w') →
        if Region.wanted o (yielded ops (actOf ops.toList x 0 a).tmps) = true then o.wp P (actOf ops.toList x 0 a) w K Q else K ((actOf ops.toList x 0 a).put o.dst undef) w) ∧ StepsD P ops Q a vals S r (i + 1)
theorem stepsAll_of_det {a : Act} {vals : List Value} {S : (Nat → Bool) → World → Prop} : ∀ (l : List Oper) (k : Nat), StepsD P ops Q a vals S l k → StepsAll P ops Q a (fun L x w => Holds L x vals 0 ∧ S L w) l k
  | [], _, _ => trivial
  | o :: r, k, h => ⟨fun L x w ⟨hv, hS⟩ hl hp K hK => h.1 L x w hv hS hl hp K (fun w' hS' => hK _ w' ⟨hv.step fun j u hj e => by
      rw [Nat.zero_add] at e
      subst e
      rw [List.getD_eq_getElem?_getD, hj]; rfl, hS'⟩), stepsAll_of_det r (k + 1) h.2⟩
theorem Holds.at {L : Nat → Bool} {x : Nat → Value} : ∀ {vs : List Value} {k : Nat}, Holds L x vs k → ∀ (i : Nat) (v : Value), vs[i]? = some v → L (k + i) = true → x (k + i) = v
  | [], _, _, _, _, h, _ => by simp at h
  | u :: r, k, h, 0, v, hi, hl => by obtain rfl : u = v := Option.some.inj hi; exact h.1 hl
  | u :: r, k, h, i + 1, v, hi, hl => by
    have := h.2.at i v hi
    rw [show k + 1 + i = k + (i + 1) by omega] at this
    exact this hl
theorem actOf_congr {x y : Nat → Value} {a : Act} : ∀ (l : List Oper) (k : Nat), (∀ i, i < l.length → x (k + i) = y (k + i)) → actOf l x k a = actOf l y k a
  | [], _, _ => rfl
  | o :: r, k, h => by
    simp only [actOf]
    have h0 : ∀ i, i < r.length → x (k + 1 + i) = y (k + 1 + i) := fun i hi => by
      have h3 := h (i + 1) (Nat.succ_lt_succ hi)
      rw [show k + (i + 1) = k + 1 + i by omega] at h3
      exact h3
    have h1 := actOf_congr (a := a) r (k + 1) h0
    have h2 : x k = y k := h 0 (by simp)
    rw [h1, h2]
/-- The region, where the values are determined. -/
theorem region_det {id : Nat} {a : Act} {w : World} (vals : List Value) (S : (Nat → Bool) → World → Prop) (hm : P.follows .mixedOrders = true)
    (hn : dstsOk ops.toList a.tmps.size = true) (hd : edgesDown ops.toList 0 = true) (hl : vals.length = ops.size) (h0 : S (fun _ => false) w.drew)
    (hstep : StepsD P ops Q a vals S ops.toList 0)
    (hfin : ∀ (L : Nat → Bool) (w : World), S L w → (∀ i, i < ops.size → L i = true) → Q .normal (actOf ops.toList (fun i => vals.getD i undef) 0 a) w) : (Code.region id ops true).wp P Q a w := by
  refine region_inv (fun L x w => Holds L x vals 0 ∧ S L w) hm hn hd ⟨Holds.none _ _ _, h0⟩ (stepsAll_of_det _ _ hstep) fun L x w ⟨hv, hS⟩ hL => ?_
  have he : actOf ops.toList x 0 a = actOf ops.toList (fun i => vals.getD i undef) 0 a := by
    refine actOf_congr _ _ fun i hi => ?_
    have hi' : i < ops.size := by simpa using hi
    have hiv : vals[i]? = some (vals.getD i undef) := by rw [List.getD_eq_getElem?_getD, List.getElem?_eq_getElem (by omega)]; rfl
    have := hv.at i _ hiv (by rw [Nat.zero_add]; exact hL i hi')
    rw [Nat.zero_add] at this ⊢
    exact this
  rw [he]
  exact hfin L w hS hL

def pickV : Bool → Option Value → Value → Value
  | true, some v, _ => v
  | _, _, u => u
/-- The frame: what is determined and has surely come up stands in its slot. -/
def actMix : List Oper → List Bool → List (Option Value) → (Nat → Value) → Nat → Act → Act
  | [], _, _, _, _, a => a
  | o :: r, bs, vs, x, i, a => (actMix r bs.tail vs.tail x (i + 1) a).put o.dst (pickV (bs.headD false) (vs.headD none) (x i))
theorem actMix_eq {x : Nat → Value} {a : Act} : ∀ (l : List Oper) (bs : List Bool) (vs : List (Option Value)) (k : Nat), (∀ i v, bs[i]? = some true → vs[i]? = some (some v) → x (k + i) = v) → actMix l bs vs x k a = actOf l x k a
  | [], _, _, _, _ => rfl
  | o :: r, bs, vs, k, h => by
    simp only [actMix, actOf]
    have h1 := actMix_eq (x := x) (a := a) r bs.tail vs.tail (k + 1) (fun i v hb hv => by
      have h3 := h (i + 1) v (by cases bs <;> simp at hb ⊢; exact hb) (by cases vs <;> simp at hv ⊢; exact hv)
      rw [show k + (i + 1) = k + 1 + i by omega] at h3
      exact h3)
    have h2 : pickV (bs.headD false) (vs.headD none) (x k) = x k := by
      cases bs with
      | nil => rfl
      | cons b bs =>
        cases vs with
        | nil => cases b <;> rfl
        | cons v vs =>
          cases b with
          | false => rfl
          | true =>
            cases v with
            | none => rfl
            | some v => exact (h 0 v rfl rfl).symm
    rw [h1, h2]
/-- The masks: who has surely come up ahead of each operation. -/
def masksOf (ops : List Oper) (l : List Oper) : List (List Bool) := l.map fun o => (List.range ops.length).map fun j => (predsOf o).contains j
/-- One goal for each operation. -/
def StepsM (P : Program) (ops : Array Oper) (Q : Exit → Act → World → Prop) (a : Act) (vals : List (Option Value)) (S : (Nat → Bool) → (Nat → Value) → World → Prop) : List Oper → List (List Bool) → List (Option Value) → Nat → Prop
  | [], _, _, _ => True
  | o :: r, m :: ms, some v :: vs, i => (∀ (L : Nat → Bool) (x : Nat → Value) (w : World), S L x w → L i = false → AllL L (predsOf o) →
      ∀ K : Act → World → Prop, Shut (∀ w', S (setL L i) (updV x i v) w' → K ((actMix ops.toList m vals x 0 a).put o.dst v) w') →
        if Region.wanted o (yielded ops (actMix ops.toList m vals x 0 a).tmps) = true then o.wp P (actMix ops.toList m vals x 0 a) w K Q else K ((actMix ops.toList m vals x 0 a).put o.dst undef) w) ∧ StepsM P ops Q a vals S r ms vs (i + 1)
  | o :: r, m :: ms, none :: vs, i => (∀ (L : Nat → Bool) (x : Nat → Value) (w : World), S L x w → L i = false → AllL L (predsOf o) →
      ∀ K : Act → World → Prop, Shut (∀ v w', S (setL L i) (updV x i v) w' → K ((actMix ops.toList m vals x 0 a).put o.dst v) w') →
        if Region.wanted o (yielded ops (actMix ops.toList m vals x 0 a).tmps) = true then o.wp P (actMix ops.toList m vals x 0 a) w K Q else K ((actMix ops.toList m vals x 0 a).put o.dst undef) w) ∧ StepsM P ops Q a vals S r ms vs (i + 1)
  | _, _, _, _ => False
def HoldsM (L : Nat → Bool) (x : Nat → Value) (vals : List (Option Value)) : Prop := ∀ i v, vals[i]? = some (some v) → L i = true → x i = v
theorem HoldsM.step {L : Nat → Bool} {x : Nat → Value} {vals : List (Option Value)} {i : Nat} {v : Value} (h : HoldsM L x vals) (hv : ∀ u, vals[i]? = some (some u) → u = v) : HoldsM (setL L i) (updV x i v) vals := fun j u hj hl => by
  by_cases e : j = i
  · subst e
    rw [hv u hj]
    exact if_pos rfl
  · have h1 : L j = true := by rw [← hl]; exact (if_neg e).symm
    rw [← h j u hj h1]
    exact if_neg e
theorem mask_eq {x : Nat → Value} {a : Act} {vals : List (Option Value)} {L : Nat → Bool} {o : Oper} {m : List Bool} {l : List Oper} (hh : HoldsM L x vals) (hp : ∀ j ∈ predsOf o, L j = true) (hm : m = (List.range l.length).map fun j => (predsOf o).contains j) : actMix l m vals x 0 a = actOf l x 0 a := by
  refine actMix_eq _ _ _ _ fun i v hb hv => ?_
  rw [Nat.zero_add]
  refine hh i v hv (hp i ?_)
  rw [hm, List.getElem?_map, Option.map_eq_some_iff] at hb
  obtain ⟨k, hk, hc⟩ := hb
  obtain ⟨h1, h2⟩ := List.getElem?_eq_some_iff.1 hk
  rw [List.getElem_range] at h2
  subst h2
  simpa using hc
theorem allL_mem {L : Nat → Bool} : ∀ {l : List Nat}, AllL L l → ∀ j ∈ l, L j = true
  | [], _, j, hj => by cases hj
  | k :: r, h, j, hj => by
    rcases List.mem_cons.1 hj with rfl | hj
    · exact h.1
    · exact allL_mem h.2 j hj
theorem stepsAll_of_mix {a : Act} {vals : List (Option Value)} {S : (Nat → Bool) → (Nat → Value) → World → Prop} : ∀ (l : List Oper) (ms : List (List Bool)) (vs : List (Option Value)) (k : Nat), ms = masksOf ops.toList l → (∀ i, vs[i]? = vals[k + i]?) →
    StepsM P ops Q a vals S l ms vs k → StepsAll P ops Q a (fun L x w => HoldsM L x vals ∧ S L x w) l k
  | [], _, _, _, _, _, _ => trivial
  | o :: r, m :: ms, some v :: vs, k, hm, hv, h => by
    simp only [masksOf, List.map_cons, List.cons.injEq] at hm
    refine ⟨fun L x w ⟨hh, hS⟩ hl hp K hK => ?_, stepsAll_of_mix r ms vs (k + 1) hm.2 (fun i => by have := hv (i + 1); rw [show k + (i + 1) = k + 1 + i by omega] at this; exact this) h.2⟩
    have he := mask_eq (a := a) hh (allL_mem hp) hm.1
    have := h.1 L x w hS hl hp K
    rw [he] at this
    refine this fun w' hS' => hK _ w' ⟨hh.step fun u hu => ?_, hS'⟩
    have h0 := hv 0
    rw [Nat.add_zero, hu] at h0
    exact (Option.some.inj (Option.some.inj h0)).symm
  | o :: r, m :: ms, none :: vs, k, hm, hv, h => by
    simp only [masksOf, List.map_cons, List.cons.injEq] at hm
    refine ⟨fun L x w ⟨hh, hS⟩ hl hp K hK => ?_, stepsAll_of_mix r ms vs (k + 1) hm.2 (fun i => by have := hv (i + 1); rw [show k + (i + 1) = k + 1 + i by omega] at this; exact this) h.2⟩
    have he := mask_eq (a := a) hh (allL_mem hp) hm.1
    have := h.1 L x w hS hl hp K
    rw [he] at this
    refine this fun v w' hS' => hK _ w' ⟨hh.step fun u hu => ?_, hS'⟩
    have h0 := hv 0
    rw [Nat.add_zero, hu] at h0
    cases h0
  | _ :: _, [], _, _, _, _, h => h.elim
  | _ :: _, _ :: _, [], _, _, _, h => h.elim
/-- The region: what is determined stands in the list, of the rest S speaks. -/
theorem region_mix {id : Nat} {a : Act} {w : World} (vals : List (Option Value)) (masks : List (List Bool)) (S : (Nat → Bool) → (Nat → Value) → World → Prop) (hm : P.follows .mixedOrders = true)
    (hn : dstsOk ops.toList a.tmps.size = true) (hd : edgesDown ops.toList 0 = true) (hk : masks = masksOf ops.toList ops.toList) (h0 : ∀ x, S (fun _ => false) x w.drew)
    (hstep : StepsM P ops Q a vals S ops.toList masks vals 0)
    (hfin : ∀ (L : Nat → Bool) (x : Nat → Value) (w : World), S L x w → (∀ i, i < ops.size → L i = true) → Q .normal (actMix ops.toList (List.replicate ops.size true) vals x 0 a) w) : (Code.region id ops true).wp P Q a w := by
  refine region_inv (fun L x w => HoldsM L x vals ∧ S L x w) hm hn hd ⟨fun i v _ hl => (by cases hl), h0 _⟩ (stepsAll_of_mix _ _ _ _ hk (fun i => by rw [Nat.zero_add]) hstep) fun L x w ⟨hh, hS⟩ hL => ?_
  have he : actMix ops.toList (List.replicate ops.size true) vals x 0 a = actOf ops.toList x 0 a := by
    refine actMix_eq _ _ _ _ fun i v hb hv => ?_
    rw [Nat.zero_add]
    refine hh i v hv (hL i ?_)
    obtain ⟨h1, _⟩ := List.getElem?_eq_some_iff.1 hb
    simpa using h1
  rw [← he]
  exact hfin L x w hS hL
end
end Go.Proofs.YtklfpnnnoaaiaabGreatDoor

/- A region that draws its order, by an invariant over its first operations; the others, each of which waits for all before it, follow in their order. -/
namespace Go.Proofs.YtklfpnnnoaaiaabGreatDoor
open Go.RowKit

section
variable {P : Program} {ops : Array Oper} {Q : Exit → Act → World → Prop}

theorem wpAny_act (hd : edgesDown ops.toList 0 = true) (I : (Nat → Bool) → Act → World → Prop)
    (hstep : ∀ (i : Nat) (o : Oper), ops[i]? = some o → ∀ (L : Nat → Bool) (a : Act) (w : World), I L a w → L i = false → AllL L (predsOf o) → wpOp P ops Q i (fun a' w' => I (setL L i) a' w') a w)
    (hfin : ∀ (L : Nat → Bool) (a : Act) (w : World), I L a w → (∀ i, i < ops.size → L i = true) → Q .normal a w) :
    ∀ (fuel : Nat) (listed : Array Bool) (a : Act) (w : World), listed.size = ops.size → I (fun i => listed.getD i false) a w →
      (∃ l : List Nat, l.length ≤ fuel ∧ ∀ i, i < ops.size → listed.getD i false = false → i ∈ l) → wpAny P .any ops Q fuel listed a w
  | 0, listed, a, w, hs, hI, ⟨l, hl, hc⟩ => by
    obtain rfl : l = [] := List.eq_nil_of_length_eq_zero (by omega)
    have hall : ∀ i, i < ops.size → listed.getD i false = true := fun i hi => by
      cases h : listed.getD i false with
      | true => rfl
      | false => have := hc i hi h; cases this
    refine ⟨?_, hfin _ a w hI hall⟩
    cases hr : Region.ready .any ops listed with
    | nil => rfl
    | cons j r =>
      have hj : j ∈ Region.ready .any ops listed := by rw [hr]; exact List.mem_cons_self ..
      obtain ⟨h1, o, ho, _⟩ := mem_ready.1 hj
      have hlt : j < ops.size := by
        rcases Nat.lt_or_ge j ops.size with h | h
        · exact h
        · rw [Array.getElem?_eq_none h] at ho; cases ho
      have h2 := hall j hlt
      simp [Array.getD, hs, hlt] at h1 h2
      rw [h2] at h1
      cases h1
  | fuel + 1, listed, a, w, hs, hI, ⟨l, hl, hc⟩ => by
    refine ⟨fun h => hfin _ a w hI (ready_nil hd hs h), fun i hi => ?_⟩
    obtain ⟨h1, o, ho, _⟩ := mem_ready.1 hi
    have hlt : i < ops.size := by
      rcases Nat.lt_or_ge i ops.size with h | h
      · exact h
      · rw [Array.getElem?_eq_none h] at ho; cases ho
    have h1' : listed.getD i false = false := by simp [Array.getD, hs, hlt] at h1 ⊢; exact h1
    have hset : (fun j => (listed.setIfInBounds i true).getD j false) = setL (fun j => listed.getD j false) i := by
      funext j
      unfold setL
      by_cases e : j = i
      · subst e; rw [if_pos rfl]; simp [Array.getD, hs, hlt]
      · rw [if_neg e]
        simp only [Array.getD_eq_getD_getElem?, Array.getElem?_setIfInBounds_ne (Ne.symm e)]
    refine wpOp_mono (fun a' w' hI' => ?_) (hstep i o ho _ a w hI h1' (listed_preds hi ho))
    refine wpAny_act hd I hstep hfin fuel _ a' w' (by simpa using hs) (by rw [hset]; exact hI') ⟨l.erase i, ?_, fun j hj hjl => ?_⟩
    · rw [List.length_erase_of_mem (hc i hlt h1')]; omega
    · have hji : j ≠ i := by
        rintro rfl
        simp [Array.getD, hs, hlt] at hjl
      have : listed.getD j false = false := by
        rw [Array.getD_eq_getD_getElem?, Array.getElem?_setIfInBounds_ne (Ne.symm hji), ← Array.getD_eq_getD_getElem?] at hjl
        exact hjl
      exact (List.mem_erase_of_ne hji).2 (hc j hj this)

/-- The first behind so many waits for all before it, each later one for the one before it. -/
def tailOk : List Oper → Nat → Nat → Bool
  | [], _, _ => true
  | o :: r, i, n => (decide (i < n) || (if i = n then (List.range n).all (fun j => (predsOf o).contains j) else (predsOf o).contains (i - 1))) && tailOk r (i + 1) n
theorem tailOk_n {n : Nat} : ∀ {l : List Oper} {k i : Nat} {o : Oper}, tailOk l k n = true → l[i]? = some o → k + i = n → ∀ j, j < n → j ∈ predsOf o
  | [], _, i, _, _, h, _, _, _ => by simp at h
  | p :: r, k, i, o, ht, h, hn, j, hj => by
    simp only [tailOk, Bool.and_eq_true, Bool.or_eq_true, decide_eq_true_eq] at ht
    match i, h with
    | 0, h =>
      obtain rfl : p = o := Option.some.inj h
      rcases ht.1 with h1 | h1
      · omega
      · rw [if_pos (by omega)] at h1
        simp only [List.all_eq_true, List.mem_range] at h1
        simpa using h1 j hj
    | i + 1, h => exact tailOk_n ht.2 (show r[i]? = some o from h) (by omega) j (by omega)
theorem tailOk_s {n : Nat} : ∀ {l : List Oper} {k i : Nat} {o : Oper}, tailOk l k n = true → l[i]? = some o → n < k + i → k + i - 1 ∈ predsOf o
  | [], _, i, _, _, h, _ => by simp at h
  | p :: r, k, i, o, ht, h, hn => by
    simp only [tailOk, Bool.and_eq_true, Bool.or_eq_true, decide_eq_true_eq] at ht
    match i, h with
    | 0, h =>
      obtain rfl : p = o := Option.some.inj h
      rcases ht.1 with h1 | h1
      · omega
      · rw [if_neg (by omega)] at h1
        simpa using h1
    | i + 1, h =>
      have := tailOk_s ht.2 (show r[i]? = some o from h) (by omega)
      rwa [show k + (i + 1) - 1 = k + 1 + i - 1 by omega]
theorem wpList_op {k : Nat} {o : Oper} (ho : ops[k]? = some o) {rest : List Oper} {a : Act} {w : World} (h : wpList P ops Q (o :: rest) a w) : wpOp P ops Q k (wpList P ops Q rest) a w := by
  unfold wpOp
  simp only [ho]
  exact h
/-- One goal for each operation. -/
def StepsT (P : Program) (ops : Array Oper) (Q : Exit → Act → World → Prop) (a : Act) (hd : List Oper) (vals : List (Option Value)) (S : (Nat → Bool) → (Nat → Value) → World → Prop) : List Oper → List (List Bool) → List (Option Value) → Nat → Prop
  | [], _, _, _ => True
  | o :: r, m :: ms, some v :: vs, i => (∀ (L : Nat → Bool) (x : Nat → Value) (w : World), S L x w → L i = false → AllL L (predsOf o) →
      ∀ K : Act → World → Prop, Shut (∀ w', S (setL L i) (updV x i v) w' → K ((actMix hd m vals x 0 a).put o.dst v) w') →
        if Region.wanted o (yielded ops (actMix hd m vals x 0 a).tmps) = true then o.wp P (actMix hd m vals x 0 a) w K Q else K ((actMix hd m vals x 0 a).put o.dst undef) w) ∧ StepsT P ops Q a hd vals S r ms vs (i + 1)
  | o :: r, m :: ms, none :: vs, i => (∀ (L : Nat → Bool) (x : Nat → Value) (w : World), S L x w → L i = false → AllL L (predsOf o) →
      ∀ K : Act → World → Prop, Shut (∀ v w', S (setL L i) (updV x i v) w' → K ((actMix hd m vals x 0 a).put o.dst v) w') →
        if Region.wanted o (yielded ops (actMix hd m vals x 0 a).tmps) = true then o.wp P (actMix hd m vals x 0 a) w K Q else K ((actMix hd m vals x 0 a).put o.dst undef) w) ∧ StepsT P ops Q a hd vals S r ms vs (i + 1)
  | _, _, _, _ => False
def masksT (n : Nat) (l : List Oper) : List (List Bool) := l.map fun o => (List.range n).map fun j => (predsOf o).contains j
theorem stepsT_at {a : Act} {hd : List Oper} {vals : List (Option Value)} {S : (Nat → Bool) → (Nat → Value) → World → Prop} : ∀ (l : List Oper) (ms : List (List Bool)) (vs : List (Option Value)) (k : Nat), ms = masksT hd.length l → (∀ i, vs[i]? = vals[k + i]?) →
    StepsT P ops Q a hd vals S l ms vs k → ∀ (i : Nat) (o : Oper), l[i]? = some o → ∀ (L : Nat → Bool) (x : Nat → Value) (w : World), HoldsM L x vals ∧ S L x w → L (k + i) = false → AllL L (predsOf o) →
      ∀ K : Act → World → Prop, Shut (∀ v w', HoldsM (setL L (k + i)) (updV x (k + i) v) vals ∧ S (setL L (k + i)) (updV x (k + i) v) w' → K ((actOf hd x 0 a).put o.dst v) w') →
        if Region.wanted o (yielded ops (actOf hd x 0 a).tmps) = true then o.wp P (actOf hd x 0 a) w K Q else K ((actOf hd x 0 a).put o.dst undef) w
  | [], _, _, _, _, _, _, i, o, h => by simp at h
  | o :: r, m :: ms, some v :: vs, k, hm, hv, h, 0, p, hp0 => by
    obtain rfl : o = p := Option.some.inj hp0
    simp only [masksT, List.map_cons, List.cons.injEq] at hm
    intro L x w ⟨hh, hS⟩ hl hp K hK
    rw [Nat.add_zero] at hl hK
    have he := mask_eq (a := a) hh (allL_mem hp) hm.1
    have := h.1 L x w hS hl hp K
    rw [he] at this
    refine this fun w' hS' => hK _ w' ⟨hh.step fun u hu => ?_, hS'⟩
    have h0 := hv 0
    rw [Nat.add_zero, hu] at h0
    exact (Option.some.inj (Option.some.inj h0)).symm
  | o :: r, m :: ms, none :: vs, k, hm, hv, h, 0, p, hp0 => by
    obtain rfl : o = p := Option.some.inj hp0
    simp only [masksT, List.map_cons, List.cons.injEq] at hm
    intro L x w ⟨hh, hS⟩ hl hp K hK
    rw [Nat.add_zero] at hl hK
    have he := mask_eq (a := a) hh (allL_mem hp) hm.1
    have := h.1 L x w hS hl hp K
    rw [he] at this
    refine this fun v w' hS' => hK _ w' ⟨hh.step fun u hu => ?_, hS'⟩
    have h0 := hv 0
    rw [Nat.add_zero, hu] at h0
    cases h0
  | o :: r, m :: ms, some v :: vs, k, hm, hv, h, i + 1, p, hp0 => by
    simp only [masksT, List.map_cons, List.cons.injEq] at hm
    have := stepsT_at r ms vs (k + 1) hm.2 (fun i => by have := hv (i + 1); rw [show k + (i + 1) = k + 1 + i by omega] at this; exact this) h.2 i p hp0
    rw [show k + 1 + i = k + (i + 1) by omega] at this
    exact this
  | o :: r, m :: ms, none :: vs, k, hm, hv, h, i + 1, p, hp0 => by
    simp only [masksT, List.map_cons, List.cons.injEq] at hm
    have := stepsT_at r ms vs (k + 1) hm.2 (fun i => by have := hv (i + 1); rw [show k + (i + 1) = k + 1 + i by omega] at this; exact this) h.2 i p hp0
    rw [show k + 1 + i = k + (i + 1) by omega] at this
    exact this
  | _ :: _, [], _, _, _, _, h, _, _, _ => h.elim
  | _ :: _, _ :: _, [], _, _, _, h, _, _, _ => h.elim
def HeadS (P : Program) (ops : Array Oper) (Q : Exit → Act → World → Prop) (n : Nat) (a0 : Act) (vals : List (Option Value)) (S : (Nat → Bool) → (Nat → Value) → World → Prop) (L : Nat → Bool) (a : Act) (w : World) : Prop :=
  ((∀ i, n ≤ i → L i = false) ∧ ∃ x, a = actOf (ops.toList.take n) x 0 a0 ∧ HoldsM L x vals ∧ S L x w) ∨
  ∃ k, n ≤ k ∧ (∀ i, i < k → i < ops.size → L i = true) ∧ (∀ i, k ≤ i → L i = false) ∧ wpList P ops Q (ops.toList.drop k) a w

/-- The region. -/
theorem region_mixt {id : Nat} {a : Act} {w : World} (n : Nat) (vals : List (Option Value)) (masks : List (List Bool)) (S : (Nat → Bool) → (Nat → Value) → World → Prop) (hm : P.follows .mixedOrders = true)
    (hn : dstsOk (ops.toList.take n) a.tmps.size = true) (hd : edgesDown ops.toList 0 = true) (ht : tailOk ops.toList 0 n = true) (hk : masks = masksT n (ops.toList.take n)) (hnn : n ≤ ops.size) (h0 : ∀ x, S (fun _ => false) x w.drew)
    (hstep : StepsT P ops Q a (ops.toList.take n) vals S (ops.toList.take n) masks vals 0)
    (hfin : ∀ (L : Nat → Bool) (x : Nat → Value) (w : World), S L x w → (∀ i, i < n → L i = true) → wpList P ops Q (ops.toList.drop n) (actMix (ops.toList.take n) (List.replicate n true) vals x 0 a) w) : (Code.region id ops true).wp P Q a w := by
  refine wp_region_any hm ?_
  have hself := actOf_self (ops.toList.take n) (valsAt (ops.toList.take n) a) 0 a hn (fun i => by rw [Nat.zero_add])
  have hlen : (ops.toList.take n).length = n := by simp; omega
  have hL : (fun i => (Array.replicate ops.size false).getD i false) = fun _ => false := by
    funext i
    simp [Array.getD]
  refine wpAny_act (P := P) (ops := ops) (Q := Q) hd (HeadS P ops Q n a vals S) ?_ ?_ ops.size (Array.replicate ops.size false) a w.drew (by simp) ?_ ⟨List.range ops.size, by simp, fun i hi _ => by simpa using hi⟩
  · intro i o ho L a1 w1 hI hl hp
    have hol : ops.toList[i]? = some o := by simpa using ho
    have hlt : i < ops.size := by
      rcases Nat.lt_or_ge i ops.size with h | h
      · exact h
      · rw [Array.getElem?_eq_none h] at ho; cases ho
    have tail : ∀ k, n ≤ k → (∀ j, j < k → j < ops.size → L j = true) → (∀ j, k ≤ j → L j = false) → wpList P ops Q (ops.toList.drop k) a1 w1 → wpOp P ops Q i (fun a' w' => HeadS P ops Q n a vals S (setL L i) a' w') a1 w1 := by
      intro k hk1 hk2 hk3 hw
      have hik : k ≤ i := by
        rcases Nat.lt_or_ge i k with h | h
        · have := hk2 i h hlt
          rw [hl] at this
          cases this
        · exact h
      have hki : i = k := by
        rcases Nat.lt_or_ge k i with h | h
        · have h1 := allL_mem hp _ (tailOk_s ht hol (by omega))
          rw [hk3 _ (by omega)] at h1
          cases h1
        · omega
      subst hki
      have hdr : ops.toList.drop i = o :: ops.toList.drop (i + 1) := by
        rw [List.drop_eq_getElem_cons (by simpa using hlt)]
        congr 1
        have := List.getElem?_eq_some_iff.1 hol
        exact this.2
      rw [hdr] at hw
      refine wpOp_mono (fun a' w' h => ?_) (wpList_op ho hw)
      refine .inr ⟨i + 1, by omega, fun j hj hjs => ?_, fun j hj => ?_, h⟩
      · unfold setL
        by_cases e : j = i
        · rw [if_pos e]
        · rw [if_neg e]; exact hk2 j (by omega) hjs
      · unfold setL
        rw [if_neg (by omega)]
        exact hk3 j (by omega)
    rcases hI with ⟨hu, x, rfl, hh, hS⟩ | ⟨k, hk1, hk2, hk3, hw⟩
    · rcases Nat.lt_or_ge i n with hin | hin
      · have hti : (ops.toList.take n)[i]? = some o := by rw [List.getElem?_take, if_pos hin]; exact hol
        have hst := stepsT_at (ops.toList.take n) masks vals 0 (by rw [hlen]; exact hk) (fun i => by rw [Nat.zero_add]) hstep i o hti L x w1 ⟨hh, hS⟩ (by rw [Nat.zero_add]; exact hl) hp
        rw [Nat.zero_add] at hst
        refine wpOp_step ho (fun K hK => hst K (fun v w' ⟨hh', hS'⟩ => hK _ _ (.inl ⟨fun j hj => ?_, updV x i v, ?_, hh', hS'⟩)))
        · unfold setL
          rw [if_neg (by omega)]
          exact hu j hj
        · rw [actOf_put (ops.toList.take n) _ x 0 a hn i o hti v, Nat.zero_add]
      · have hin' : i = n := by
          rcases Nat.lt_or_ge n i with h | h
          · have h1 := allL_mem hp _ (tailOk_s ht hol (by omega))
            rw [hu _ (by omega)] at h1
            cases h1
          · omega
        have hall : ∀ j, j < i → L j = true := fun j hj => allL_mem hp j (tailOk_n ht hol (by omega) j (by omega))
        subst hin'
        have he : actMix (ops.toList.take i) (List.replicate i true) vals x 0 a = actOf (ops.toList.take i) x 0 a := by
          refine actMix_eq _ _ _ _ fun j v hb hv => ?_
          rw [Nat.zero_add]
          obtain ⟨h1, _⟩ := List.getElem?_eq_some_iff.1 hb
          exact hh j v hv (hall j (by simpa using h1))
        have hw := hfin L x w1 hS hall
        rw [he] at hw
        exact tail i (Nat.le_refl _) (fun j hj _ => hall j hj) hu hw
    · exact tail k hk1 hk2 hk3 hw
  · intro L a1 w1 hI hall
    rcases hI with ⟨hu, x, rfl, hh, hS⟩ | ⟨k, hk1, hk2, hk3, hw⟩
    · have hns : n = ops.size := by
        rcases Nat.lt_or_ge n ops.size with h | h
        · have h1 := hall n h
          rw [hu n (Nat.le_refl _)] at h1
          cases h1
        · omega
      have hw := hfin L x w1 hS (fun j hj => hall j (by omega))
      have he : actMix (ops.toList.take n) (List.replicate n true) vals x 0 a = actOf (ops.toList.take n) x 0 a := by
        refine actMix_eq _ _ _ _ fun j v hb hv => ?_
        rw [Nat.zero_add]
        obtain ⟨h1, _⟩ := List.getElem?_eq_some_iff.1 hb
        exact hh j v hv (hall j (by have : j < n := by simpa using h1
                                    omega))
      rw [he, List.drop_eq_nil_of_le (by simp; omega)] at hw
      exact hw
    · have hns : ops.size ≤ k := by
        rcases Nat.lt_or_ge k ops.size with h | h
        · have h1 := hall k h
          rw [hk3 k (Nat.le_refl _)] at h1
          cases h1
        · exact h
      rw [List.drop_eq_nil_of_le (by simpa using hns)] at hw
      exact hw
  · rw [hL]
    exact .inl ⟨fun _ _ => rfl, valsAt (ops.toList.take n) a, hself.symm, fun i v _ hl => (by cases hl), h0 _⟩
end
end Go.Proofs.YtklfpnnnoaaiaabGreatDoor

