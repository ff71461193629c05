/- The statement StewardEdges: for every two slices of floating-point numbers (NaN, infinities and both zeros among them) and every such number the law's Go function returns true, and its arguments read as before. Condition: the tables of Go's library that the row lists hold at the call what the program's text lays in them (the card ties that to the text). -/
import Derived.Test.YtpjbdejgamajlabDoorCards
import Derived.Test.YtpjbdejgamajlabDoorTie
import Derived.WideKeyArr2
import Derived.Deep.DeepHandedRow
import Derived.Lib.LaidTab
import Derived.Test.YtpjbdejgamajlabDoorG00
import Derived.Test.YtpjbdejgamajlabDoorG10
import Derived.Test.YtpjbdejgamajlabDoorG15
namespace Go.Proofs.YtpjbdejgamajlabDoor.stewardEdges
open Go.ChangeShapes Go.WideShapes Go.ChangeAt Go.RowKit Go.ChangeMaps

theorem own : ownKnob Tryd.prog.godebug = none := by kernel_rfl
theorem cellsFl : Tryd.prog.cellsOf 48 = 1 := by kernel_rfl
theorem laidOut : laidOutB Tryd.prog = true := by kernel_rfl

/-- What the row says of its tables. -/
theorem tabs {W : World} (h : laidMetH Tryd.prog Rows.stewardEdgesRow.laid W) : TabsSt W := by
  exact tabs_edH h

set_option maxRecDepth 1000000 in
theorem contract (H : Type) (enc : TypeId × Value → H) (W : World) (base : Nat) (args : Array Value) (ds gs : List (DataW H)) (before : List MemPlace)
    (hval : ∀ (j : Nat) t v, Tryd.f5.params[j]? = some t → args[j]? = some v → Value.okWide Tryd.prog W .any base t v)
    (hW : DataW.Whole enc Tryd.prog Tryd.f5.params.toList Rows.stewardEdgesSpec.vars false W args.toList ds gs before) (hL : laidMetH Tryd.prog Rows.stewardEdgesRow.laid W) :
    Calls Tryd.prog 5 args W fun e W' => ∃ v, e = .returned v ∧ Rows.stewardEdgesSpec.post enc Tryd.prog Tryd.f5 false true false false W args v W' := by
  have hW' := hW
  obtain ⟨p, q, hA0, hV, rfl, hfz, hnd⟩ := hW
  have hA : DataW.TrodAll enc Tryd.prog W 0 (fun _ => true) true Tryd.f5.params.toList args.toList ds p := hA0
  rw [Tryd.params5] at hA hval
  obtain ⟨v0, vs0, d0, ds0, p0, q0, hargs, rfl, rfl, h0, r0⟩ := trodAll_cons hA
  obtain ⟨v1, vs1, d1, ds1, p1, q1, rfl, rfl, rfl, h1, r1⟩ := trodAll_cons r0
  obtain ⟨v2, vs2, d2, ds2, p2, q2, rfl, rfl, rfl, h2, r2⟩ := trodAll_cons r1
  obtain ⟨rfl, rfl, rfl⟩ := trodAll_nil r2
  obtain rfl : args = #[v0, v1, v2] := by cases args; simp_all
  obtain ⟨rfl, rfl⟩ := trodVars_none hV
  have m0 := h0
  obtain ⟨xsa, xsc, xs, rfl, x0, y0⟩ := flts_open Tryd.underlying47 Tryd.underlying48 cellsFl (hval 0 47 v0 rfl rfl) h0
  have m1 := h1
  obtain ⟨ysa, ysc, ys, rfl, x1, y1⟩ := flts_open Tryd.underlying47 Tryd.underlying48 cellsFl (hval 1 47 v1 rfl rfl) h1
  obtain ⟨share, rfl, rfl, rfl, w2⟩ := open_float Tryd.underlying48 (hval 2 48 v2 rfl rfl) h2
  have hlt := fun p hp => hW'.lt p hp
  clear hA0
  simp only [List.append_nil] at hW'
  have walk : Calls Tryd.prog 5 #[.slice xsa xs.length xsc, .slice ysa ys.length ysc, .float .f64 share] W fun e w' => e = .returned (.bool true) ∧ Below W.heap.size W w' := by
    exact lawStewardEdges xsa xsc xs (by unfold maxLen at y0; omega) ysa ysc ys (by unfold maxLen at y1; omega) share (by simpa [Lit.wf] using w2) W x0 x1 (tabs hL).1 (tabs hL).2
  refine walk.mono fun e W' ⟨he, hg⟩ => ?_
  subst he
  exact ⟨_, rfl, post_new (ofArgs := (p0 ++ (p1 ++ (([] : List MemPlace) ++ [])))) (ofVars := []) hW' hg (by simp)
    (fun _ _ _ => trodAll_cons_mk (shut_bool Tryd.underlying4 _) trodAll_mk0)
    (fun _ hsp => (trodAll_cons_mk (WideElems.Trod_stays laidOut (by kernel_rfl) (of_decide_eq_true (by kernel_rfl)) m0 (fun x hx => hg.same (hlt x (by simp [hx]))) (fun x hx => hsp x (by simp [hx]))) (trodAll_cons_mk (WideElems.Trod_stays laidOut (by kernel_rfl) (of_decide_eq_true (by kernel_rfl)) m1 (fun x hx => hg.same (hlt x (by simp [hx]))) (fun x hx => hsp x (by simp [hx]))) (trodAll_cons_mk (shut_float Tryd.underlying48 w2) trodAll_mk0))))
    (fun _ _ => rfl) (ok_one (by kernel_rfl) rfl (okWide_bool_mk Tryd.underlying4 _))⟩

/-- A world for the witness. -/
noncomputable def laidWorld (os : Os) : World :=
  scWorld os
theorem laid_met (os : Os) : laidMet Tryd.prog Rows.stewardEdgesRow.laid ((laidWorld os).forCall (fun _ _ => 0) ⟨#[], #[.slice none 0 0, .slice none 0 0, .float .f64 0], []⟩).memory :=
  laidZ (R := (World.holding Tryd.prog os ⟨#[], #[], []⟩).heap.size) (Nat.le_of_ble_eq_true (by kernel_rfl)) ⟨rowZ_some (by kernel_rfl), rowZ_some (by kernel_rfl), rowZ_some (by kernel_rfl), rowZ_some (by kernel_rfl), rowZ_some (by kernel_rfl), rowZ_some (by kernel_rfl), rowZ_some (by kernel_rfl)⟩
theorem reads_any (W : World) {H : Type} (enc : TypeId × Value → H) : DataW.whole enc Tryd.prog W Tryd.f5.params.toList Rows.stewardEdgesSpec.vars false (#[.slice none 0 0, .slice none 0 0, .float .f64 0] : Array Value).toList 8 = some ([.nil, .nil, .lit (.float .f64 0)], [], []) := by
  rw [show Tryd.f5.params.toList = [47, 47, 48] by kernel_rfl]
  unfold DataW.whole
  rw [show DataW.trodAll enc Tryd.prog W 0 (fun _ => true) true 8 [47, 47, 48] (#[.slice none 0 0, .slice none 0 0, .float .f64 0] : Array Value).toList = some ([.nil, .nil, .lit (.float .f64 0)], []) by simp [DataW.trodAll, rd_nil, rd_flt]]
  rfl
theorem reads (os : Os) {H : Type} (enc : TypeId × Value → H) : ∃ places, DataW.whole enc Tryd.prog ((laidWorld os).forCall (fun _ _ => 0) ⟨#[], #[.slice none 0 0, .slice none 0 0, .float .f64 0], []⟩).memory Tryd.f5.params.toList Rows.stewardEdgesSpec.vars false (#[.slice none 0 0, .slice none 0 0, .float .f64 0] : Array Value).toList 8 = some ([.nil, .nil, .lit (.float .f64 0)], [], places) :=
  ⟨[], reads_any _ enc⟩

set_option maxRecDepth 100000 in
theorem lifted (os : Os) (started : os.Started) (H : Type) (enc : TypeId × Value → H) (F : Stop.Interp) :
    ReturnsInHanded {} Tryd.checked os 5 .any ((OpenSpec.ofChange Rows.stewardEdgesSpec).preRow enc Tryd.prog Tryd.f5 Rows.stewardEdgesRow.domain false Rows.stewardEdgesRow.laid) (((OpenSpec.ofChange Rows.stewardEdgesSpec).at F).post enc Tryd.prog Tryd.f5 false true false false) := by
  obtain ⟨places, hx⟩ := reads os enc
  refine returnsInHanded_of_row (C := Tryd.checked) (s := OpenSpec.ofChange Rows.stewardEdgesSpec) own started (by kernel_rfl) Tryd.func5
    (witnessZ (enc := enc) false #[.slice none 0 0, .slice none 0 0, .float .f64 0] rfl (by kernel_rfl)
      (OpenSpec.preRow_of_cond 8 hx (by kernel_rfl) (fun k hk => by cases hk) (by kernel_rfl) (laid_met os))) ?_
  intro W base args ds gs before hval hW _ _ _ hL _ _
  exact contract H enc W base args ds gs before hval hW hL

theorem said : Rows.StewardEdgesSaid :=
  OpenClaim.holds_of_cond 5 Tryd.f5 rfl rfl rfl rfl rfl rfl rfl ⟨rfl, rfl, rfl, rfl, rfl⟩ rfl rfl rfl rfl rfl (by kernel_rfl) Tryd.func5 (by kernel_rfl)
    (of_decide_eq_true (by kernel_rfl)) (by unfold Func.isWrapper; first | (rw [if_pos (by decide +kernel)]; kernel_rfl) | (rw [if_neg (by decide +kernel)]; exact ⟨rfl, rfl⟩))
    (fun os started H enc _ F => by rw [OpenClaim.pre_eq_preRow]; exact lifted os started H enc F)

theorem plain (f : FuncId) (fn : Func) (hf : Tryd.pinned.checked.prog.funcNamed "steward/stewardtop.StewardEdges" = some f) (hfn : Tryd.pinned.checked.prog.funcs[f]? = some fn) :
    false = Tryd.pinned.checked.prog.looks [] ∧ ∀ (j : Nat) t, fn.params[j]? = some t → Tryd.pinned.checked.prog.wantsStandIn t = false := by
  obtain rfl : f = 5 := Option.some.inj ((show Tryd.prog.funcNamed "steward/stewardtop.StewardEdges" = some 5 by kernel_rfl).symm.trans hf) |>.symm
  obtain rfl : fn = Tryd.f5 := (Option.some.inj (Tryd.func5.symm.trans hfn)).symm
  refine ⟨by kernel_rfl, fun j t ht => ?_⟩
  rw [Tryd.params5] at ht
  have hm := Array.mem_of_getElem? ht
  simp only [List.mem_toArray, List.mem_cons, List.not_mem_nil, or_false] at hm
  rcases hm with rfl | rfl | rfl
  · exact (show Tryd.prog.wantsStandIn 47 = false by kernel_rfl)
  · exact (show Tryd.prog.wantsStandIn 47 = false by kernel_rfl)
  · exact (show Tryd.prog.wantsStandIn 48 = false by kernel_rfl)

/-- The card. -/
theorem card : Rows.StewardEdgesCardSaid :=
  Claim7.holds_tied_plain_at .later [] _ _ _ _ said (fun _ h => by cases h) (by kernel_rfl) (fun _ h => by cases h) stewardEdges_row_tie rfl ⟨rfl, rfl⟩ (by kernel_rfl) rfl plain (by kernel_rfl)
end Go.Proofs.YtpjbdejgamajlabDoor.stewardEdges

