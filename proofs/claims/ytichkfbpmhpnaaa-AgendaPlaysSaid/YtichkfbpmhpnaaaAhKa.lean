/- slices.Values, slices.AppendSeq, slices.Collect at the items' pointers. -/
import Derived.Test.YtichkfbpmhpnaaaAhSo
import Derived.RangeFuncNested
import Derived.RangeFuncBound
import Derived.RangeFuncCalls
import Derived.RangeFuncBox
import Derived.RangeFuncLeaves
import Derived.Shelf.Abstract
import Derived.WalkKit
import Derived.OwnWalkIn
import Derived.TacticsInMore
import Derived.LoopNIn
import Derived.LoopIn
import Derived.Maps.AppendAt
namespace Go.Proofs.Ytichkfbpmhpnaaa
open Go.RowKit Go.Shelf

attribute [local go_sem] Oper.semAt_some

/-- A pointer to a block. -/
def pB (b : Nat) : Value := .pointer (some ⟨b, 0, none⟩)
def cellsP (l : List Nat) : List Value := l.map pB
theorem cellsP_append (a b : List Nat) : cellsP (a ++ b) = cellsP a ++ cellsP b := by simp [cellsP]
theorem cellsP_length (a : List Nat) : (cellsP a).length = a.length := by simp [cellsP]
/-- A slice of pointers. -/
def IsPts (w : World) (a : Option Addr) (c : Nat) (l : List Nat) : Prop :=
  l = [] ∨ ∃ bk o, a = some ⟨bk, o, none⟩ ∧ bk < w.heap.size ∧ l.length ≤ c ∧ ∀ (j : Nat) b, l[j]? = some b → w.cell? ⟨bk, o + j, none⟩ = some (pB b)
theorem IsPts.below {w w' : World} {a : Option Addr} {c : Nat} {l : List Nat} (h : IsPts w a c l) (hb : Below w.heap.size w w') : IsPts w' a c l := by
  obtain h | ⟨bk, o, ha, hlt, hc, hcell⟩ := h
  · exact .inl h
  · refine .inr ⟨bk, o, ha, Nat.lt_of_lt_of_le hlt hb.size, hc, fun j e he => ?_⟩
    rw [(bcell hb).1 _ _ hlt]
    exact hcell j e he
set_option maxRecDepth 100000 in
set_option maxHeartbeats 2000000 in
/-- The iterator of slices.Values, for every loop body that keeps what lay below n0. -/
theorem pval1_in (n : Nat) (hn : 1 ≤ n) (l Bs n0 c : Nat) (a : Option Addr) (es : List Nat) (hl : es.length ≤ 1000000) (J Jx : List Nat → World → Prop)
    (hY : ∀ pre x W, J pre W → pre.length < es.length → YieldAt Fence.wide (n - 1) Try.prog l #[pB x] W fun e W' =>
      (e = .returned (.bool true) ∧ J (pre ++ [x]) W' ∧ Below n0 W W') ∨ (e = .returned (.bool false) ∧ Jx (pre ++ [x]) W'))
    (W : World) (hBs : W.cell? ⟨Bs, 0, none⟩ = some (.slice a es.length c)) (hI : IsPts W a c es) (hA : ∀ p, a = some p → es ≠ [] → p.block < n0) (h0 : J [] W) :
    CallsIn Fence.wide n Try.prog 114 #[.func (.yield l) #[] #[], .pointer (some ⟨Bs, 0, none⟩)] W fun e W' => (∃ v, e = .returned v) ∧
      (J es W' ∨ ∃ k, k ≤ es.length ∧ Jx (es.take k) W') := by
  refine callsIn_of_wp Try.func114 rfl trivial ?_ rfl
  simp only [Try.ntmps114, List.size_toArray, List.length_cons, List.length_nil, Nat.reduceAdd, Nat.reduceSub, Array.replicate_succ, Array.replicate_zero, List.push_toArray, List.append_toArray, List.nil_append, List.cons_append]
  have HI := Lib.hid hI
  have HA := Lib.hid hA
  clear hI hA
  gi_wp2
  gi_loopw [7] (fun i wr => ∃ k : Nat, k ≤ es.length ∧ i = .int .i64 k ∧ J (es.take k) wr ∧ Below n0 W wr)
    (fun i _ => es.length - (intOf i).toNat)
  case atStart => exact ⟨0, Nat.zero_le _, rfl, h0, Below.refl _ _⟩
  case round =>
    obtain ⟨k, hk, rfl, hJs, hnx⟩ := hrel
    by_cases hlt : k < es.length
    · obtain h0 | ⟨bk, o, rfl, hbk, hc, hcell⟩ := HI.out
      · subst h0; simp at hlt
      have hb0 := HA.out _ rfl (by rintro rfl; simp at hlt)
      have c1 := hcell k es[k] (by simp [hlt])
      rw [← hnx.cell (p := ⟨bk, o + k, none⟩) hb0] at c1
      have htk : es.take k ++ [es[k]] = es.take (k + 1) := (List.take_succ_eq_append_getElem hlt).symm
      have HTK := Lib.hid htk
      obtain ⟨e, he⟩ : ∃ e, e = es[k] := ⟨_, rfl⟩
      rw [← he] at c1 HTK
      clear hcell htk he
      obtain ⟨fn, tmps, assign, body, hy, hR⟩ := hY _ e wr hJs (by rw [List.length_take]; omega)
      dsimp only [pB] at hy c1
      have k1 : (k : Int) < es.length := by omega
      gi_wp2
      refine hR.mono ?_
      rintro e W3 (⟨rfl, hJ3, hk3⟩ | ⟨rfl, hJx3⟩)
      · gi_wp2
        go_roundw
        case rel => exact ⟨k + 1, by omega, by simp, by rw [← HTK.out]; exact hJ3, hnx.trans hk3⟩
        case measure => simp [intOf]; omega
      · gi_wp2
        refine bodyPost_ret (results_none rfl _ _ _) rfl ?_
        exact ⟨⟨_, rfl⟩, .inr ⟨k + 1, by omega, by rw [← HTK.out]; exact hJx3⟩⟩
    · obtain rfl : k = es.length := by omega
      have hne : ¬ ((es.length : Int) < es.length) := by omega
      rw [List.take_length] at hJs
      gi_wp2
      go_end0
      exact ⟨⟨_, rfl⟩, .inl hJs⟩
set_option maxHeartbeats 1000000 in
/-- slices.Values: the slice is boxed; the function value captures the box. -/
theorem pvalues_in (n : Nat) (a : Option Addr) (len cap : Nat) (w : World) :
    CallsIn Fence.wide n Try.prog 88 #[.slice a len cap] w fun e w' => e = .returned (.func (.func 114) #[] #[.pointer (some ⟨w.heap.size, 0, none⟩)]) ∧ w' = w.alloc (.cells #[.slice a len cap] 87) := by
  refine callsIn_of_wp Try.func88 rfl trivial ?_ rfl
  simp only [Try.ntmps88, List.size_toArray, List.length_cons, List.length_nil, Nat.reduceAdd, Nat.reduceSub, Array.replicate_succ, Array.replicate_zero, List.push_toArray, List.append_toArray, List.nil_append, List.cons_append]
  gi_wp2
  go_ret
  exact ⟨rfl, rfl⟩
/-- Its contract: all of them, in order; or some first ones. -/
theorem pvalues_stops (n : Nat) (hn : 1 ≤ n) (Bs n0 c : Nat) (a : Option Addr) (es : List Nat) (hl : es.length ≤ 1000000) (w : World) (hBs : Bs < w.heap.size)
    (hc : w.cell? ⟨Bs, 0, none⟩ = some (.slice a es.length c)) (hI : IsPts w a c es) (hA : ∀ p, a = some p → es ≠ [] → p.block < n0) :
    SeqStopsK Fence.wide n Try.prog 114 #[.pointer (some ⟨Bs, 0, none⟩)] (fun x : Nat => #[pB x]) (Below n0) (fun ys => ys = es) (fun _ => True) es.length w := fun l J Jx W hW _ _ hY h0 => by
  refine (pval1_in n hn l Bs n0 c a es hl J Jx hY W ((hW.cell (p := ⟨Bs, 0, none⟩) hBs).trans hc) (hI.below hW) hA h0).mono ?_
  rintro e W' ⟨he, hj | ⟨k, _, hj⟩⟩
  · exact ⟨he, .inl ⟨es, rfl, hj⟩⟩
  · exact ⟨he, .inr ⟨_, trivial, hj⟩⟩
set_option maxRecDepth 100000 in
set_option maxHeartbeats 4000000 in
theorem pappendSeq_in (n : Nat) (hn : 3 ≤ n) (Bs c : Nat) (a : Option Addr) (es : List Nat) (hl : es.length ≤ 100000) (w : World) (hBs : Bs < w.heap.size)
    (hc : w.cell? ⟨Bs, 0, none⟩ = some (.slice a es.length c)) (hI : IsPts w a c es) :
    CallsIn Fence.wide n Try.prog 128 #[.slice none 0 0, .func (.func 114) #[] #[.pointer (some ⟨Bs, 0, none⟩)]] w fun e W' =>
      ∃ v, e = .returned v ∧ W'.ownsRow w.heap.size 102 1 v es.length (cellsP es) ∧ Below w.heap.size w W' := by
  obtain ⟨i0, hi, hz0, hz1, hz2⟩ := info_parts infoPS
  have h1 : 1 ≤ n := by omega
  have hA : ∀ p, a = some p → es ≠ [] → p.block < w.heap.size := by
    intro p hp hne
    obtain h0 | ⟨bk, o, ha, hbk, _⟩ := hI
    · exact absurd h0 hne
    · rw [ha] at hp; cases hp; exact hbk
  refine callsIn_of_wp_marks Try.func128 rfl trivial ?_ rfl
  simp only [Try.ntmps128, List.size_toArray, List.length_cons, List.length_nil, Nat.reduceAdd, Nat.reduceSub, Array.replicate_succ, Array.replicate_zero, List.push_toArray, List.append_toArray, List.nil_append, List.cons_append]
  have HI := Lib.hid hI
  have hB0 : Below w.heap.size w (w.alloc (.cells #[.slice none 0 0] 86)) := below_alloc w _
  have hc' : (w.alloc (.cells #[.slice none 0 0] 86)).cell? ⟨Bs, 0, none⟩ = some (.slice a es.length c) := (hB0.cell (p := ⟨Bs, 0, none⟩) hBs).trans hc
  have bS := Boxed.new w 86 (.slice none 0 0)
  clear hc hI
  gi_wp2
  refine wpIn_rangeFunc_ownG rfl h1 (gf := 114) (lb := #[.pointer (some ⟨Bs, 0, none⟩)]) rfl trivial (enters_of Try.func114 (by kernel_rfl) rfl)
    (pvalues_stops (n - 1) (by omega) Bs w.heap.size c a es (by omega) _ (by simp; omega) hc' (HI.out.below hB0) hA) belowK_t (belowK_b (by simp)) (Below.refl _ _) (fun _ => rfl)
    (fun pre W => (∃ v, Boxed W w.heap.size 86 v ∧ W.ownsRow w.heap.size 102 1 v pre.length (cellsP pre) ∧ True) ∧ Below w.heap.size w W)
    (fun _ _ _ => False)
    (OwnFrom.and (Own.from (holdsRow_own w.heap.size w.heap.size 86 102 1 (fun pre => pre.length) (fun pre => cellsP pre) (fun _ _ => True)) _) (ownFrom_below (Nat.le_refl _) (by simp)))
    (fun _ _ _ _ _ hs _ _ => hs)
    ⟨⟨_, bS, World.ownsRow_nil _ _ _ _, trivial⟩, hB0⟩
    (fun x => { tmps := #[.slice none 0 0, .func (.func 114) #[] #[.pointer (some ⟨Bs, 0, none⟩)], .pointer (some ⟨w.heap.size, 0, none⟩), undef, .slice none 0 0, pB x, .func (.func 114) #[] #[.pointer (some ⟨Bs, 0, none⟩)], pB x, undef, undef, undef, undef, undef], defers := [] }) ?assign ?body ?done ?stop
  case assign =>
    intro l x W K hK
    dsimp only [pB]
    gi_wp2
    exact hK
  case body =>
    rintro l pre x W ⟨⟨v, hv, hrow, _⟩, hB⟩ hlt
    have hc := hv.cell
    dsimp only [pB]
    gi_wp2_with (gi_at_builtin; refine wpListIn_append_own _ rfl _ _ 86 rfl w.heap.size 102 i0 (.pointer none) 1 8 Try.underlying86 hi hz0 hz1 hz2 rfl (by decide) _ _ _ rfl (hrow.alloc _) ⟨W.heap.size, 0, none⟩ 1 1 [.pointer (some ⟨x, 0, none⟩)] rfl rfl (cell_one_new _ _ _) (by simp [Value.oneCell']) (by unfold maxLen; omega) (by omega) (by have := hB.size; simp; omega) ?_; intro v' w1 hown' hgrow _; obtain ⟨g', cap', rfl⟩ := ownsRow_succ hown'; obtain ⟨hv1, hv2, hr2, hk2, hb2⟩ := hv.appended (by decide) hrow hB.size (Nat.le_refl _) hown' hgrow; have hc1 := hv1.cell; have hf1 := hv1.frozen)
    refine ⟨hk2.from _, hb2, ⟨_, hv2, ?_⟩, hB.trans hb2⟩
    have e1 : (pre ++ [x]).length = pre.length + 1 := by simp
    have e2 : cellsP (pre ++ [x]) = cellsP pre ++ [pB x] := by rw [cellsP_append]; rfl
    rw [e1, e2]
    exact ⟨hr2, trivial⟩
  case done =>
    rintro D ys W hD rfl ⟨⟨v, hv, hrow, _⟩, hB⟩ hK
    have hvc := hv.cell
    gi_wp2
    refine ⟨by simp, .inl ⟨_, _, rfl, run_takeDeferred hK, ?_⟩⟩
    exact ⟨_, results_tmp rfl _ _ _, v, rfl, ownsRow_putObj hrow _ hK rfl, hB.trans (belowK_b (w := w) (Nat.le_refl _) W D _ _ (by simp at hD; omega) hK rfl rfl)⟩
  case stop =>
    rintro D c pre W _ _ h _
    exact h.elim
theorem pcollect (Bs c : Nat) (a : Option Addr) (es : List Nat) (hl : es.length ≤ 100000) (w : World) (hBs : Bs < w.heap.size)
    (hc : w.cell? ⟨Bs, 0, none⟩ = some (.slice a es.length c)) (hI : IsPts w a c es) :
    Calls Try.prog 112 #[.func (.func 114) #[] #[.pointer (some ⟨Bs, 0, none⟩)]] w fun e W' =>
      ∃ v, e = .returned v ∧ W'.ownsRow w.heap.size 102 1 v es.length (cellsP es) ∧ Below w.heap.size w W' := by
  have HA := Lib.hid (callsIn_wide.1 (pappendSeq_in 3 (by omega) Bs c a es hl w hBs hc hI))
  clear hI
  go_enter Try.func112, Try.ntmps112
  go_wp2_with (go_at_call 128; refine HA.out.mono ?_; rintro e w' ⟨v, rfl, ho, hb⟩)
  go_ret
  exact ⟨v, rfl, ho, hb⟩
end Go.Proofs.Ytichkfbpmhpnaaa
