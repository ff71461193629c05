/- The witness's world is one in which a call may begin (nine variables, siphash's table laid; out of XWitE). -/
import Derived.Test.YtpjbdejgamajlabDoorTabsZ
import Derived.DataWitness
import Derived.Deep.DeepHandedRow
namespace Go.Proofs.YtpjbdejgamajlabDoor
open Go.RowKit

/-- The world of the witness, with siphash's table laid. -/
noncomputable def mgWorld (os : Os) : World :=
  { scWorld os with heap := (scWorld os).heap.modify 1 fun
      | .cells _ t frozen => .cells #[.int .u64 8317987319222330741, .int .u64 7237128888997146477, .int .u64 7816392313619706465, .int .u64 8387220255154660723] t frozen
      | o => o }
def rowSize : Obj → Option (Nat × TypeId)
  | .cells cs t _ => some (cs.size, t)
  | _ => none
theorem shaped_one {W : World} {g N : Nat} {T : TypeId} (hz0 : (((begin Tryd.prog (fun _ _ => 0) default).world.heap[g]?).bind Obj.row?).map (fun r => (r.1.size, r.2)) = some (N, T))
    {cs0 : Array Value} (hW : W.heap[g]? = some (.cells cs0 T (0, 0))) (hN : cs0.size = N) (hok : Row.ok Tryd.prog W .any 0 T cs0) {zero : Array Value} {t : TypeId}
    (hz : ((begin Tryd.prog (fun _ _ => 0) default).world.heap[g]?).bind Obj.row? = some (zero, t)) :
    ∃ cs, W.heap[g]? = some (.cells cs t) ∧ cs.size = zero.size ∧ (Tryd.prog.buildable t = true → Row.ok Tryd.prog W .any 0 t cs) := by
  rw [hz] at hz0
  simp only [Option.map_some, Option.some.injEq, Prod.mk.injEq] at hz0
  obtain ⟨h1, rfl⟩ := hz0
  exact ⟨cs0, hW, by rw [hN, h1], fun _ => hok⟩
theorem pmTypes : Tryd.prog.cellTypes Tryd.prog.depth 215 = some (List.replicate 1392 40) := by kernel_rfl
set_option maxRecDepth 100000 in
theorem pmRowOk (W : World) : Row.ok Tryd.prog W .any 0 215 (pmC Go.Pinned.pow10Rows).toArray := by
  have hlen := pmLen
  have hwf := pmWf
  rw [List.all_eq_true] at hwf
  generalize Go.Pinned.pow10Rows = rows at *
  have hl2 : (pmC rows).length = 1392 := by unfold pmC; rw [flat2Z_len, hlen]
  refine ⟨_, pmTypes, ⟨1, by rw [List.length_replicate, List.size_toArray, hl2]⟩, fun i v hv => ?_⟩
  rw [List.getElem?_toArray] at hv
  have hi : i < 1392 := by rw [← hl2]; exact (List.getElem?_eq_some_iff.1 hv).1
  refine ⟨40, by rw [List.length_replicate, Nat.mod_eq_of_lt hi, List.getElem?_replicate, if_pos hi], ?_⟩
  have hm := List.mem_of_getElem? hv
  unfold pmC at hm
  rw [List.mem_flatMap] at hm
  obtain ⟨x, hx, hv2⟩ := hm
  have hw := hwf x hx
  simp only [Bool.and_eq_true, decide_eq_true_eq] at hw
  have key : ∀ n : Nat, n < 18446744073709551616 → Cell.ok Tryd.prog W .any 0 40 (.int .u64 (n : Int)) := by
    intro n hn
    unfold Cell.ok
    rw [Tryd.underlying40]
    exact ⟨rfl, by simp [IntKind.has, IntKind.min, IntKind.max, IntKind.signed, IntKind.bits]; omega⟩
  simp at hv2
  rcases hv2 with rfl | rfl
  · exact key _ hw.1
  · exact key _ hw.2
set_option maxRecDepth 100000 in
theorem shapedZ (os : Os) (args : Array Value) : ((mgWorld os).forCall (fun _ _ => 0) ⟨#[], args, []⟩).Shaped Tryd.prog := by
  refine ⟨fun g zero t hg hz => ?_, fun k h1 h2 => ?_⟩
  · have hg7 : g < 9 := Nat.lt_of_lt_of_le hg (by decide +kernel)
    have hc : g = 0 ∨ g = 1 ∨ g = 2 ∨ g = 3 ∨ g = 4 ∨ g = 5 ∨ g = 6 ∨ g = 7 ∨ g = 8 := by omega
    rcases hc with rfl | rfl | rfl | rfl | rfl | rfl | rfl | rfl | rfl
    · exact shaped_one (N := 1) (T := 4) (cs0 := #[.bool false]) (by kernel_rfl) (by kernel_rfl) (by kernel_rfl) (Row.ok_of_okRefB (by kernel_rfl)) hz
    · exact shaped_one (N := 4) (T := 151) (cs0 := #[.int .u64 8317987319222330741, .int .u64 7237128888997146477, .int .u64 7816392313619706465, .int .u64 8387220255154660723]) (by kernel_rfl) (by kernel_rfl) (by kernel_rfl) (Row.ok_of_okRefB (by kernel_rfl)) hz
    · exact shaped_one (N := 1) (T := 4) (cs0 := #[.bool true]) (by kernel_rfl) (by kernel_rfl) (by kernel_rfl) (Row.ok_of_okRefB (by kernel_rfl)) hz
    · exact shaped_one (N := 20) (T := 197) (cs0 := (leavesZ 4 Rows.laid_internal_strconv_uint64pow10).toArray) (by kernel_rfl) (by kernel_rfl) (by kernel_rfl) (Row.ok_of_okRefB (by kernel_rfl)) hz
    · exact shaped_one (N := 1392) (T := 215) (cs0 := (pmC Go.Pinned.pow10Rows).toArray) (by kernel_rfl) (by kernel_rfl) (by rw [List.size_toArray]; unfold pmC; rw [flat2Z_len, pmLen]) (pmRowOk _) hz
    · exact shaped_one (N := 1) (T := 220) (cs0 := #[.slice (some ⟨(World.holding Tryd.prog os ⟨#[], #[], []⟩).heap.size, 0, none⟩) 61 61]) (by kernel_rfl) (by kernel_rfl) (by kernel_rfl) (Row.ok_of_okRefB (by kernel_rfl)) hz
    · exact shaped_one (N := 1) (T := 3) (cs0 := #[.int .i64 0]) (by kernel_rfl) (by kernel_rfl) (by kernel_rfl) (Row.ok_of_okRefB (by kernel_rfl)) hz
    · exact shaped_one (N := 32) (T := 161) (cs0 := (leavesZ 4 Rows.laid_math_bits_deBruijn32tab).toArray) (by kernel_rfl) (by kernel_rfl) (by kernel_rfl) (Row.ok_of_okRefB (by kernel_rfl)) hz
    · exact shaped_one (N := 64) (T := 225) (cs0 := (leavesZ 4 Rows.laid_math_bits_deBruijn64tab).toArray) (by kernel_rfl) (by kernel_rfl) (by kernel_rfl) (Row.ok_of_okRefB (by kernel_rfl)) hz
  · have hr : (((mgWorld os).forCall (fun _ _ => 0) ⟨#[], args, []⟩).heap.toList.drop Tryd.prog.globals.size).take ((begin Tryd.prog (fun _ _ => 0) default).world.heap.size - Tryd.prog.globals.size) =
      (begin Tryd.prog (fun _ _ => 0) default).world.heap.toList.drop Tryd.prog.globals.size := by kernel_rfl
    have := congrArg (·[k - Tryd.prog.globals.size]?) hr
    simp only [List.getElem?_take, List.getElem?_drop, Array.getElem?_toList] at this
    rw [if_pos (by omega), Nat.add_sub_cancel' h1] at this
    exact this
/-- 'There is an input that fits', in the world that lays the tables. -/
theorem witnessZ {H : Type} {enc : TypeId × Value → H} {os : Os} {f : FuncId} {fn : Func} {s : OpenSpec} {conds : List PathCond} {apart : Bool} {laid : List (String × DataW Unit)} (modest : Bool) (args : Array Value) (hos : (mgWorld os).os = os)
    (hok : Input.okWideB Tryd.prog ((mgWorld os).forCall (fun _ _ => 0) ⟨#[], args, []⟩) f ⟨#[], args, []⟩ = true)
    (hrow : s.preRow enc Tryd.prog fn conds apart laid ((mgWorld os).forCall (fun _ _ => 0) ⟨#[], args, []⟩).memory args) :
    ∃ (w : World) (tape : Tape) (i : Input), w.os = os ∧ (w.forCall tape i).Shaped Tryd.prog ∧ i.vars = [] ∧ Input.okWide Tryd.prog (w.forCall tape i) .any w.heap.size f i ∧
      s.preRow enc Tryd.prog fn conds apart laid (w.forCall tape i).memory i.args ∧ ({ modest := modest } : Assume).holds Tryd.prog (lone (Frame.enter Tryd.prog f i.args .normal) [] (w.forCall tape i)) :=
  ⟨mgWorld os, fun _ _ => 0, ⟨#[], args, []⟩, hos, shapedZ os args, (Input.okWide_of_okWideB (base := 0) hok).1, (Input.okWide_of_okWideB hok).2, hrow, by
    simp only [Assume.holds]
    exact ⟨by simp, by simp, fun _ => Modest.zero, by simp, by simp⟩⟩
end Go.Proofs.YtpjbdejgamajlabDoor
