/- slices.Values, slices.AppendSeq, slices.Collect at maglev's entries. -/
import Derived.Test.YtlcpkplipfcdaaaDoorMgL
import Derived.RangeFuncNested
import Derived.RangeFuncBound
import Derived.RangeFuncCalls
import Derived.RangeFuncBox
import Derived.RangeFuncLeaves
import Derived.Shelf.Abstract
import Derived.WalkKit
import Derived.OwnWalkIn
import Derived.TacticsInMore
import Derived.LoopNIn
import Derived.LoopIn
import Derived.Maps.AppendAt
namespace Go.Proofs.YtlcpkplipfcdaaaDoor
open Go.RowKit Go.Shelf

attribute [local go_sem] Oper.semAt_some

def entV (e : Ent) : Value := .agg #[.string e.1, .int .i64 e.2]
set_option maxRecDepth 100000 in
set_option maxHeartbeats 2000000 in
/-- The iterator of slices.Values, for every loop body that keeps what lay below n0. -/
theorem val1_in (n : Nat) (hn : 1 ≤ n) (l Bs n0 c : Nat) (a : Option Addr) (es : List Ent) (hl : es.length ≤ 1000000) (J Jx : List Ent → World → Prop)
    (hY : ∀ pre x W, J pre W → pre.length < es.length → YieldAt Fence.wide (n - 1) Tryd.prog l #[entV x] W fun e W' =>
      (e = .returned (.bool true) ∧ J (pre ++ [x]) W' ∧ Below n0 W W') ∨ (e = .returned (.bool false) ∧ Jx (pre ++ [x]) W'))
    (W : World) (hn0 : n0 ≤ W.heap.size) (hJ : AbidesFrom W.heap.size J) (hBs : W.cell? ⟨Bs, 0, none⟩ = some (.slice a es.length c)) (hI : IsEnts W a c es) (hA : ∀ p, a = some p → es ≠ [] → p.block < n0) (h0 : J [] W) :
    CallsIn Fence.wide n Tryd.prog 80 #[.func (.yield l) #[] #[], .pointer (some ⟨Bs, 0, none⟩)] W fun e W' => (∃ v, e = .returned v) ∧
      (J es W' ∨ ∃ k, k ≤ es.length ∧ Jx (es.take k) W') := by
  refine callsIn_of_wp Tryd.func80 rfl trivial ?_ rfl
  simp only [Tryd.ntmps80, List.size_toArray, List.length_cons, List.length_nil, Nat.reduceAdd, Nat.reduceSub, Array.replicate_succ, Array.replicate_zero, List.push_toArray, List.append_toArray, List.nil_append, List.cons_append]
  have HI := Lib.hid hI
  have HA := Lib.hid hA
  clear hI hA
  gi_wp2
  gi_loopw [7] (fun i wr => ∃ k : Nat, k ≤ es.length ∧ i = .int .i64 k ∧ J (es.take k) wr ∧ Below n0 W wr)
    (fun i _ => es.length - (intOf i).toNat)
  case atStart => exact ⟨0, Nat.zero_le _, rfl, h0, Below.refl _ _⟩
  case round =>
    obtain ⟨k, hk, rfl, hJs, hnx⟩ := hrel
    by_cases hlt : k < es.length
    · obtain h0 | ⟨bk, o, rfl, hbk, hc, hcell⟩ := HI.out
      · subst h0; simp at hlt
      have hb0 := HA.out _ rfl (by rintro rfl; simp at hlt)
      obtain ⟨c1, c2⟩ := hcell k es[k] (by simp [hlt])
      rw [← hnx.cell (p := ⟨bk, o + k * 2, none⟩) hb0] at c1
      rw [← hnx.cell (p := ⟨bk, o + k * 2 + 1, none⟩) hb0] at c2
      have htk : es.take k ++ [es[k]] = es.take (k + 1) := (List.take_succ_eq_append_getElem hlt).symm
      have HTK := Lib.hid htk
      obtain ⟨e, he⟩ : ∃ e, e = es[k] := ⟨_, rfl⟩
      rw [← he] at c1 c2 HTK
      clear hcell htk he
      obtain ⟨N, V⟩ := e
      simp only at c1 c2
      have hJ2 := hJ _ wr _ none hJs (World.grownBy_alloc wr (.cells #[.string N, .int .i64 V] 72) none) (fun r e => by cases e)
      have hB2 : Below n0 wr (wr.alloc (.cells #[.string N, .int .i64 V] 72)) := (Below.refl _ _).alloc (Nat.le_trans hn0 (by have := hnx.size; exact this)) _
      obtain ⟨fn, tmps, assign, body, hy, hR⟩ := hY _ (N, V) _ hJ2 (by rw [List.length_take]; omega)
      dsimp only [entV] at hy
      have hsz := hnx.size
      have k1 : (k : Int) < es.length := by omega
      clear hJ2
      gi_wp2
      refine hR.mono ?_
      rintro e W3 (⟨rfl, hJ3, hk3⟩ | ⟨rfl, hJx3⟩)
      · gi_wp2
        go_roundw
        case rel => exact ⟨k + 1, by omega, by simp, by rw [← HTK.out]; exact hJ3, hnx.trans (hB2.trans hk3)⟩
        case measure => simp [intOf]; omega
      · gi_wp2
        refine bodyPost_ret (results_none rfl _ _ _) rfl ?_
        exact ⟨⟨_, rfl⟩, .inr ⟨k + 1, by omega, by rw [← HTK.out]; exact hJx3⟩⟩
    · obtain rfl : k = es.length := by omega
      have hne : ¬ ((es.length : Int) < es.length) := by omega
      rw [List.take_length] at hJs
      gi_wp2
      go_end0
      exact ⟨⟨_, rfl⟩, .inl hJs⟩
set_option maxHeartbeats 1000000 in
/-- slices.Values: the slice is boxed; the function value captures the box. -/
theorem values_in (n : Nat) (a : Option Addr) (len cap : Nat) (w : World) :
    CallsIn Fence.wide n Tryd.prog 58 #[.slice a len cap] w fun e w' => e = .returned (.func (.func 80) #[] #[.pointer (some ⟨w.heap.size, 0, none⟩)]) ∧ w' = w.alloc (.cells #[.slice a len cap] 32) := by
  refine callsIn_of_wp Tryd.func58 rfl trivial ?_ rfl
  simp only [Tryd.ntmps58, List.size_toArray, List.length_cons, List.length_nil, Nat.reduceAdd, Nat.reduceSub, Array.replicate_succ, Array.replicate_zero, List.push_toArray, List.append_toArray, List.nil_append, List.cons_append]
  gi_wp2
  go_ret
  exact ⟨rfl, rfl⟩
/-- Its contract: all of them, in order; or some first ones. -/
theorem values_stops (n : Nat) (hn : 1 ≤ n) (Bs n0 c : Nat) (a : Option Addr) (es : List Ent) (hl : es.length ≤ 1000000) (w : World) (hBs : Bs < w.heap.size) (hn0 : n0 ≤ w.heap.size)
    (hc : w.cell? ⟨Bs, 0, none⟩ = some (.slice a es.length c)) (hI : IsEnts w a c es) (hA : ∀ p, a = some p → es ≠ [] → p.block < n0) :
    SeqStopsK Fence.wide n Tryd.prog 80 #[.pointer (some ⟨Bs, 0, none⟩)] (fun x : Ent => #[entV x]) (Below n0) (fun ys => ys = es) (fun _ => True) es.length w := fun l J Jx W hW hJ _ hY h0 => by
  refine (val1_in n hn l Bs n0 c a es hl J Jx hY W (Nat.le_trans hn0 hW.size) hJ ((hW.cell (p := ⟨Bs, 0, none⟩) hBs).trans hc) (hI.below hW) hA h0).mono ?_
  rintro e W' ⟨he, hj | ⟨k, _, hj⟩⟩
  · exact ⟨he, .inl ⟨es, rfl, hj⟩⟩
  · exact ⟨he, .inr ⟨_, trivial, hj⟩⟩
/-- A block of cells stays where what is turned is no cells. -/
theorem cells_own {β : Type} (B : Nat) (t : TypeId) (cs : Array Value) : _root_.Go.Own (fun (_ : β) (W : World) => W.heap[B]? = some (.cells cs t (0, 0))) := fun s X Y row hs hg hrow =>
  (hg.block B (Array.getElem?_eq_some_iff.1 hs).1 (fun e' => by obtain ⟨o, ho, hc⟩ := hrow B e'.symm; rw [hs] at ho; cases ho; cases hc)).trans hs
set_option maxRecDepth 100000 in
set_option maxHeartbeats 4000000 in
theorem appendSeq_in (n : Nat) (hn : 3 ≤ n) (Bs c : Nat) (a : Option Addr) (es : List Ent) (hl : es.length ≤ 100000) (w : World) (hBs : Bs < w.heap.size)
    (hc : w.cell? ⟨Bs, 0, none⟩ = some (.slice a es.length c)) (hI : IsEnts w a c es) :
    CallsIn Fence.wide n Tryd.prog 103 #[.slice none 0 0, .func (.func 80) #[] #[.pointer (some ⟨Bs, 0, none⟩)]] w fun e W' =>
      ∃ v, e = .returned v ∧ W'.ownsRow w.heap.size 72 2 v es.length (cellsE es) ∧ Below w.heap.size w W' := by
  obtain ⟨i0, hi, hz0, hz1, hz2⟩ := info_parts infoMEnt
  have h1 : 1 ≤ n := by omega
  have hA : ∀ p, a = some p → es ≠ [] → p.block < w.heap.size := by
    intro p hp hne
    obtain h0 | ⟨bk, o, ha, hbk, _⟩ := hI
    · exact absurd h0 hne
    · rw [ha] at hp; cases hp; exact hbk
  refine callsIn_of_wp_marks Tryd.func103 rfl trivial ?_ rfl
  simp only [Tryd.ntmps103, List.size_toArray, List.length_cons, List.length_nil, Nat.reduceAdd, Nat.reduceSub, Array.replicate_succ, Array.replicate_zero, List.push_toArray, List.append_toArray, List.nil_append, List.cons_append]
  have HI := Lib.hid hI
  have hB0 : Below w.heap.size w (w.alloc (.cells #[.slice none 0 0] 32)) := below_alloc w _
  have hc' : (w.alloc (.cells #[.slice none 0 0] 32)).cell? ⟨Bs, 0, none⟩ = some (.slice a es.length c) := (hB0.cell (p := ⟨Bs, 0, none⟩) hBs).trans hc
  have bS := Boxed.new w 32 (.slice none 0 0)
  clear hc hI
  gi_wp2
  refine wpIn_rangeFunc_ownH rfl h1 (gf := 80) (lb := #[.pointer (some ⟨Bs, 0, none⟩)]) rfl trivial (enters_of Tryd.func80 (by kernel_rfl) rfl)
    (values_stops (n - 1) (by omega) Bs w.heap.size c a es (by omega) _ (by simp; omega) (by simp) hc' (HI.out.below hB0) hA) belowK_t (belowK_b (by simp)) (Below.refl _ _) (fun _ => rfl)
    (fun pre W => (∃ v, Boxed W w.heap.size 32 v ∧ W.ownsRow w.heap.size 72 2 v pre.length (cellsE pre) ∧ True) ∧ Below w.heap.size w W)
    (fun _ _ _ => False)
    (OwnFrom.and (Own.from (holdsRow_own w.heap.size w.heap.size 32 72 2 (fun pre => pre.length) (fun pre => cellsE pre) (fun _ _ => True)) _) (ownFrom_below (Nat.le_refl _) (by simp)))
    (fun _ _ _ _ _ hs _ _ => hs)
    ⟨⟨_, bS, World.ownsRow_nil _ _ _ _, trivial⟩, hB0⟩
    (fun x a' W => ∃ Bx, w.heap.size < Bx ∧ W.heap[Bx]? = some (.cells #[.string x.1, .int .i64 x.2] 72 (0, 0)) ∧ a' = { tmps := #[.slice none 0 0, .func (.func 80) #[] #[.pointer (some ⟨Bs, 0, none⟩)], .pointer (some ⟨w.heap.size, 0, none⟩), undef, .slice none 0 0, .pointer (some ⟨Bx, 0, none⟩), .func (.func 80) #[] #[.pointer (some ⟨Bs, 0, none⟩)], .agg #[.string x.1, .int .i64 x.2], undef, undef, undef, undef, undef], defers := [] })
    (fun x a' => fun s A B row hs hg hr => by
      obtain ⟨Bx, h1, h2, h3⟩ := hs
      exact ⟨Bx, h1, (cells_own (β := Unit) Bx _ _).from _ () A B row h2 hg hr, h3⟩) ?assign ?body ?done ?stop
  case assign =>
    rintro l pre ⟨N, V⟩ W K ⟨⟨v, hv, hrow, _⟩, hB⟩ hK
    dsimp only [entV]
    gi_wp2
    exact hK _ _ ((KeepsOthers.alloc _ _).from _) ((Below.refl _ W).alloc hB.size _) ⟨⟨v, hv.alloc _, hrow.alloc _, trivial⟩, hB.alloc hB.size _⟩ ⟨W.heap.size, hv.lt, heap_alloc_new W _, rfl⟩
  case body =>
    rintro l pre ⟨N, V⟩ a' W hl ⟨r, hr⟩ ⟨⟨v, hv, hrow, _⟩, hB⟩ ⟨Bx, hBx, hbX, rfl⟩ hlt
    have cx0 : W.cell? ⟨Bx, 0, none⟩ = some (.string N) := by rw [cell_of_row W Bx 0 _ _ _ hbX]; rfl
    have cx1 : W.cell? ⟨Bx, 1, none⟩ = some (.int .i64 V) := by rw [cell_of_row W Bx 1 _ _ _ hbX]; rfl
    have hvc := hv.cell
    have HNW := Lib.hid (cells_ent W N V 72)
    have hsz := hB.size
    clear hbX hr
    gi_wp2_with (gi_at_builtin; refine wpListIn_append_own _ rfl _ _ 32 rfl w.heap.size 72 i0 (.agg #[.string ⟨#[]⟩, .int .i64 0]) 2 24 Tryd.underlying32 hi hz0 hz1 hz2 rfl (by decide) _ _ _ rfl (hrow.alloc _) ⟨W.heap.size, 0, none⟩ 1 1 [.string N, .int .i64 V] rfl rfl HNW.out (ent_one _ _) (by unfold maxLen; omega) (by omega) (by simp; omega) ?_; intro v' w1 hown' hgrow _; obtain ⟨g', cap', rfl⟩ := ownsRow_succ hown'; obtain ⟨hv1, hv2, hr2, hk2, hb2⟩ := hv.appended (by decide) hrow hB.size (Nat.le_refl _) hown' hgrow; have hc1 := hv1.cell; have hf1 := hv1.frozen)
    refine ⟨hk2.from _, hb2, ⟨_, hv2, ?_⟩, hB.trans hb2⟩
    have e1 : (pre ++ [(N, V)]).length = pre.length + 1 := by simp
    have e2 : cellsE (pre ++ [(N, V)]) = cellsE pre ++ [.string N, .int .i64 V] := by rw [cellsE_append]; rfl
    rw [e1, e2]
    exact hr2
  case done =>
    rintro D ys W hD rfl ⟨⟨v, hv, hrow, _⟩, hB⟩ hK
    have hvc := hv.cell
    gi_wp2
    refine ⟨by simp, .inl ⟨_, _, rfl, run_takeDeferred hK, ?_⟩⟩
    exact ⟨_, results_tmp rfl _ _ _, v, rfl, ownsRow_putObj hrow _ hK rfl, hB.trans (belowK_b (w := w) (Nat.le_refl _) W D _ _ (by simp at hD; omega) hK rfl rfl)⟩
  case stop =>
    rintro D c pre W _ _ h _
    exact h.elim
end Go.Proofs.YtlcpkplipfcdaaaDoor
