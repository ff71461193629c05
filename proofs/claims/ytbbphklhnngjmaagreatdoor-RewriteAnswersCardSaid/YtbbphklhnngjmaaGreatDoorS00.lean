/- Packed: Base, Post, OctM. -/
import Derived.Test.YtbbphklhnngjmaaGreatDoorChecked
import Derived.WalkKit
import Derived.Outline
import Derived.Deep.QuietTactic
import Derived.BigQuiet
import Derived.StillTailTactics
import Derived.Lib.Hide
import Derived.ProofKit
import Derived.OpenShut
import Derived.Lib.IndexBytes
import Derived.Lib.SlTrimSet
/- Small lemmas that the walks of this seat share. -/
namespace Go.Proofs.YtbbphklhnngjmaaGreatDoor
open Go.RowKit

/-- A region whose head only reads, with the drawn world under its name. -/
theorem region_tail {P : Program} {w : World} {id : Nat} {Q : Exit → Act → World → Prop} {a : Act} {l : List Oper} (n : Nat) (hm : P.follows .mixedOrders = true) (hB : Region.lexTailB .any l.toArray n = true)
    (h : wpStill P l.toArray w.drew (fun a' => wpList P l.toArray Q (l.drop n) a' w.drew) (l.take n) a) : (Code.region id l.toArray true).wp P Q a w :=
  wp_region_still_tail n hm hB h
theorem still_tail_nil {P : Program} {w : World} {ops : Array Oper} {Q : Exit → Act → World → Prop} {a : Act} {ops' : Array Oper} {l : List Oper} (h : wpList P ops' Q l a w) : wpStill P ops w (fun a' => wpList P ops' Q l a' w) [] a := wpStill_nil h
theorem calls_flip {P : Program} {f : Nat} {args : Array Value} {w : World} {v : Value} (h : Calls P f args w fun e w' => e = .returned v ∧ w = w') : Calls P f args w fun e w' => e = .returned v ∧ w' = w :=
  h.mono fun _ _ ⟨a, b⟩ => ⟨a, b.symm⟩
theorem calls_flop {P : Program} {f : Nat} {args : Array Value} {w : World} {v : Value} (h : Calls P f args w fun e w' => e = .returned v ∧ w' = w) : Calls P f args w fun e w' => e = .returned v ∧ w = w' :=
  h.mono fun _ _ ⟨a, b⟩ => ⟨a, b.symm⟩
theorem bcell {W w1 : World} (hb : Below W.heap.size W w1) : (∀ b o, b < W.heap.size → w1.cell? ⟨b, o, none⟩ = W.cell? ⟨b, o, none⟩) ∧ (∀ b o, b < W.heap.size → w1.frozen? ⟨b, o, none⟩ = W.frozen? ⟨b, o, none⟩) :=
  ⟨fun b o h => hb.cell (p := ⟨b, o, none⟩) h, fun b o h => hb.frozen (p := ⟨b, o, none⟩) h⟩
end Go.Proofs.YtbbphklhnngjmaaGreatDoor

/- The row's last step where the call leaves the old memory alone and makes new memory. -/
namespace Go.Proofs.YtbbphklhnngjmaaGreatDoor
open Go.ChangeShapes Go.WideShapes Go.ChangeAt Go.RowKit

/-- What a call leaves that has only made new memory: results that lead nowhere, arguments and variables read as before. -/
theorem post_new {H : Type} {enc : TypeId × Value → H} {P : Program} {fn : Func} {sp : ChangeSpec} {ap fr ho ag : Bool} {W V : World} {args : Array Value} {r : Value} {ds gs : List (DataW H)} {places ofArgs ofVars : List MemPlace}
    (whole : DataW.Whole enc P fn.params.toList sp.vars ap W args.toList ds gs places) (bel : Below W.heap.size W V) (parts : places = ofArgs ++ ofVars)
    (hR : ∀ b spare held, DataW.TrodAll enc P V b spare held fn.resultTypes.toList (r.resultList fn.resultTypes.size) (sp.fn H (ds ++ gs)).results [])
    (hA : ∀ spare : Nat → Bool, (∀ p ∈ places, spare p.block = true) → DataW.TrodAll enc P V 0 spare true fn.params.toList args.toList (sp.fn H (ds ++ gs)).args ofArgs)
    (hV : ∀ spare : Nat → Bool, (∀ p ∈ places, spare p.block = true) → DataW.TrodVars enc P V spare sp.vars (sp.fn H (ds ++ gs)).vars ofVars)
    (okR : ∀ (j : Nat) t x, fn.resultTypes[j]? = some t → (r.resultList fn.resultTypes.size)[j]? = some x → Value.okWide P V .any 0 t x) :
    sp.post enc P fn ap fr ho ag W args r V := by
  have below : ∀ p, p ∈ places → p.block < W.heap.size := fun p hp => whole.lt p hp
  have old : ∀ p ∈ places, (fun b => decide (b < W.heap.size)) p.block = true := fun p hp => decide_eq_true (below p hp)
  have kept : W.keptBut V (fun p => p ∈ places ∧ (p ∈ ([] : List MemPlace) ∨ p ∈ ofArgs ++ ofVars)) :=
    World.keptBut_mono (fun p hp => ⟨hp, .inr (parts ▸ hp)⟩) (bel.frame (fun p => p ∈ places))
  refine ⟨ds, gs, places, [], ofArgs, ofVars, whole, hR _ _ _, hA _ old, hV _ old, ?_, fun _ => ?_⟩
  · exact World.keptBut_mono (fun p hp => ⟨hp.1, by simpa using hp.2⟩) kept
  · obtain ⟨_, _, _, _, _, marks, once⟩ := whole
    refine ⟨okR, _, _, ([] ++ ofArgs) ++ ofVars, ⟨[] ++ ofArgs, ofVars, trodAll_append (hA _ (fun _ _ => rfl)) (hR _ _ _), hV _ (fun _ _ => rfl), rfl, fun b o hp => ?_, fun h => ?_⟩, ?_⟩
    · have hm : MemPlace.cell b o ∈ places := by rw [parts]; simpa using hp
      exact (bel.frozen (below _ hm)).trans (marks b o hm)
    · simpa [← parts] using once h
    · exact fun p hp _ => by simpa [← parts] using hp
end Go.Proofs.YtbbphklhnngjmaaGreatDoor

/- Bytes and lists of bytes: classes, scanning. -/
namespace Go.Proofs.YtbbphklhnngjmaaGreatDoor
open Go.RowKit

theorem all256 {P : UInt8 → Prop} (h : ∀ n : Fin 256, P (UInt8.ofNat n)) (c : UInt8) : P c := by
  have := h ⟨c.toNat, c.toNat_lt⟩
  simpa using this
def marksL : List UInt8 := [33, 35, 36, 37, 38, 39, 42, 43, 45, 46, 94, 95, 96, 124, 126]
def isDec (c : UInt8) : Bool := 48 ≤ c.toNat && c.toNat ≤ 57
def isAF (c : UInt8) : Bool := (97 ≤ c.toNat && c.toNat ≤ 102) || (65 ≤ c.toNat && c.toNat ≤ 70)
def isAZ (c : UInt8) : Bool := (97 ≤ c.toNat && c.toNat ≤ 122) || (65 ≤ c.toNat && c.toNat ≤ 90)
def isHex (c : UInt8) : Bool := isDec c || isAF c
def isTok (c : UInt8) : Bool := isDec c || isAZ c || marksL.contains c
def isVis (c : UInt8) : Bool := 33 ≤ c.toNat && c.toNat ≤ 126
def isBlk (c : UInt8) : Bool := c.toNat == 32 || c.toNat == 9
def isVal (c : UInt8) : Bool := isVis c || isBlk c
/-- All classes of a byte. -/
def clsI (c : UInt8) : Int := if isDec c then 31 else if isAF c then 30 else if isTok c then 28 else if isVis c then 24 else if isBlk c then 16 else 0
theorem cls_dec (c : UInt8) : (bits .and .i64 (clsI c) 1 == 0) = !isDec c := by revert c; apply all256; decide +kernel
theorem cls_hex (c : UInt8) : (bits .and .i64 (clsI c) 2 == 0) = !isHex c := by revert c; apply all256; decide +kernel
theorem cls_tok (c : UInt8) : (bits .and .i64 (clsI c) 4 == 0) = !isTok c := by revert c; apply all256; decide +kernel
theorem cls_vis (c : UInt8) : (bits .and .i64 (clsI c) 8 == 0) = !isVis c := by revert c; apply all256; decide +kernel
theorem cls_val (c : UInt8) : (bits .and .i64 (clsI c) 16 == 0) = !isVal c := by revert c; apply all256; decide +kernel
theorem mark_index (c : UInt8) : 0 ≤ Lib.indexByte marksL c ↔ marksL.contains c = true := by revert c; apply all256; decide +kernel
theorem blank_index (c : UInt8) : 0 ≤ Lib.indexByte [32, 9] c ↔ isBlk c = true := by revert c; apply all256; decide +kernel
/-- A small letter for a capital one. -/
def lowC (c : UInt8) : UInt8 := if 65 ≤ c.toNat ∧ c.toNat ≤ 90 then c + 32 else c
theorem lowC_up (c : UInt8) (h : 65 ≤ c.toNat) (h2 : c.toNat ≤ 90) : ((lowC c).toNat : Int) = c.toNat + 32 := by
  have : ∀ c : UInt8, 65 ≤ c.toNat → c.toNat ≤ 90 → ((lowC c).toNat : Int) = c.toNat + 32 := by apply all256; decide +kernel
  exact this c h h2
theorem lowC_no (c : UInt8) (h : ¬ (65 ≤ c.toNat ∧ c.toNat ≤ 90)) : lowC c = c := if_neg h
theorem lowC_low (c : UInt8) : lowC (lowC c) = lowC c := by revert c; apply all256; decide +kernel
def tokB (l : List UInt8) : Bool := decide (1 ≤ l.length) && decide (l.length ≤ 64) && l.all isTok
def tgtB (l : List UInt8) : Bool := decide (l.head? = some 47) && l.all isVis
def trimB (l : List UInt8) : List UInt8 := Lib.trimS l [32, 9]
def valB (l : List UInt8) : Bool := decide (trimB l = l) && l.all isVal

theorem toList_get (s : ByteArray) (k : Nat) (hk : k < s.size) : s.data.toList[k]? = some s[k] := by
  rw [List.getElem?_eq_getElem (by rw [← Lib.size_eq]; exact hk)]; rfl
theorem take_snoc (s : ByteArray) (k : Nat) (hk : k < s.size) : s.data.toList.take (k + 1) = s.data.toList.take k ++ [s[k]] := by
  rw [List.take_add_one, toList_get s k hk]; rfl
theorem all_step (s : ByteArray) (p : UInt8 → Bool) (k : Nat) (hk : k < s.size) (h : (s.data.toList.take k).all p = true) (hp : p s[k] = true) : (s.data.toList.take (k + 1)).all p = true := by
  rw [take_snoc s k hk, List.all_append, h]; simp [hp]
theorem all_no (s : ByteArray) (p : UInt8 → Bool) (k : Nat) (hk : k < s.size) (hp : p s[k] = false) : s.data.toList.all p = false := by
  rw [List.all_eq_false]
  exact ⟨s[k], List.mem_of_getElem? (toList_get s k hk), by rw [hp]; simp⟩
theorem all_full (s : ByteArray) (p : UInt8 → Bool) (k : Nat) (hk : ¬ k < s.size) (h : (s.data.toList.take k).all p = true) : s.data.toList.all p = true := by
  rwa [List.take_of_length_le (by rw [← Lib.size_eq]; omega)] at h
theorem byte_lt (c : UInt8) : (c.toNat : Int) < 256 := by have := c.toNat_lt; omega
end Go.Proofs.YtbbphklhnngjmaaGreatDoor

