/- The row's last step where the call leaves the old memory alone and makes new memory. -/
import Derived.Test.YtcdgmhglpcokdaaBase
import Derived.ProofKit
import Derived.OpenShut
namespace Go.Proofs.Ytcdgmhglpcokdaa
open Go.ChangeShapes Go.WideShapes Go.ChangeAt Go.RowKit

/-- What a call leaves that has only made new memory: results that lead nowhere, arguments and variables read as before. -/
theorem post_new {H : Type} {enc : TypeId × Value → H} {P : Program} {fn : Func} {sp : ChangeSpec} {ap fr ho ag : Bool} {W V : World} {args : Array Value} {r : Value} {ds gs : List (DataW H)} {places ofArgs ofVars : List MemPlace}
    (whole : DataW.Whole enc P fn.params.toList sp.vars ap W args.toList ds gs places) (bel : Below W.heap.size W V) (parts : places = ofArgs ++ ofVars)
    (hR : ∀ b spare held, DataW.TrodAll enc P V b spare held fn.resultTypes.toList (r.resultList fn.resultTypes.size) (sp.fn H (ds ++ gs)).results [])
    (hA : ∀ spare : Nat → Bool, (∀ p ∈ places, spare p.block = true) → DataW.TrodAll enc P V 0 spare true fn.params.toList args.toList (sp.fn H (ds ++ gs)).args ofArgs)
    (hV : ∀ spare : Nat → Bool, (∀ p ∈ places, spare p.block = true) → DataW.TrodVars enc P V spare sp.vars (sp.fn H (ds ++ gs)).vars ofVars)
    (okR : ∀ (j : Nat) t x, fn.resultTypes[j]? = some t → (r.resultList fn.resultTypes.size)[j]? = some x → Value.okWide P V .any 0 t x) :
    sp.post enc P fn ap fr ho ag W args r V := by
  have below : ∀ p, p ∈ places → p.block < W.heap.size := fun p hp => whole.lt p hp
  have old : ∀ p ∈ places, (fun b => decide (b < W.heap.size)) p.block = true := fun p hp => decide_eq_true (below p hp)
  have kept : W.keptBut V (fun p => p ∈ places ∧ (p ∈ ([] : List MemPlace) ∨ p ∈ ofArgs ++ ofVars)) :=
    World.keptBut_mono (fun p hp => ⟨hp, .inr (parts ▸ hp)⟩) (bel.frame (fun p => p ∈ places))
  refine ⟨ds, gs, places, [], ofArgs, ofVars, whole, hR _ _ _, hA _ old, hV _ old, ?_, fun _ => ?_⟩
  · exact World.keptBut_mono (fun p hp => ⟨hp.1, by simpa using hp.2⟩) kept
  · obtain ⟨_, _, _, _, _, marks, once⟩ := whole
    refine ⟨okR, _, _, ([] ++ ofArgs) ++ ofVars, ⟨[] ++ ofArgs, ofVars, trodAll_append (hA _ (fun _ _ => rfl)) (hR _ _ _), hV _ (fun _ _ => rfl), rfl, fun b o hp => ?_, fun h => ?_⟩, ?_⟩
    · have hm : MemPlace.cell b o ∈ places := by rw [parts]; simpa using hp
      exact (bel.frozen (below _ hm)).trans (marks b o hm)
    · simpa [← parts] using once h
    · exact fun p hp _ => by simpa [← parts] using hp
end Go.Proofs.Ytcdgmhglpcokdaa
