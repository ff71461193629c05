/- ring: Walk. -/
import Derived.Maps.OwnIn
import Derived.Test.YtklfpnnnoaaiaabGreatDoorG13
import Derived.Test.YtklfpnnnoaaiaabGreatDoorG15
namespace Go.Proofs.YtklfpnnnoaaiaabGreatDoor
open Go.RowKit Go.Maps

attribute [local go_sem] Oper.semAt_some

/-- The names of some points, each once. -/
def nmL (ps : List Pt) : List ByteArray := ps.foldl (fun l p => if inS l p.2 then l else l ++ [p.2]) []
theorem nmL_snoc (ps : List Pt) (p : Pt) : nmL (ps ++ [p]) = if inS (nmL ps) p.2 then nmL ps else nmL ps ++ [p.2] := by
  unfold nmL
  rw [List.foldl_append]; rfl
theorem nmL_old {ps : List Pt} {v : Nat} {N : ByteArray} (h : inS (nmL ps) N = true) : nmL (ps ++ [(v, N)]) = nmL ps := by rw [nmL_snoc]; exact if_pos h
theorem nmL_new {ps : List Pt} {v : Nat} {N : ByteArray} (h : inS (nmL ps) N = false) : nmL (ps ++ [(v, N)]) = nmL ps ++ [N] := by rw [nmL_snoc]; exact if_neg (by rw [h]; exact Bool.false_ne_true)
theorem nmL_len : ∀ (ps : List Pt), (nmL ps).length ≤ ps.length := by
  intro ps
  rw [← List.reverse_reverse ps]
  generalize ps.reverse = qs
  induction qs with
  | nil => exact Nat.le_refl _
  | cons q qs ih =>
    rw [List.reverse_cons, nmL_snoc]
    split
    · rw [List.length_append]; omega
    · rw [List.length_append, List.length_append]; simpa using ih
theorem setN_row {w : World} {b n k base m : Nat} {p : ByteArray → Bool} {e : TypeId} {sz : Nat} {v : Value} {xs : List Value} (h : SetN w b n k p) (ho : w.ownsRow base e sz v m xs) : v.ownBlock ≠ some b := by
  obtain ⟨D, ⟨es, clock, hm, F, hs, hD⟩, r⟩ := h
  obtain ⟨hl, ⟨rfl, _⟩ | ⟨g, cap, cur, rfl, hbg, hg, rr⟩⟩ := ho
  · intro e; cases e
  · intro e
    obtain rfl : g = b := by injection e
    rw [hg] at hm
    cases hm
theorem setN_own {β : Type} {B b : Nat} (hb : b < B) (n k : β → Nat) (p : β → ByteArray → Bool) : OwnFrom B (fun s W => SetN W b (n s) (k s) (p s)) := fun s W W' row hs hg hr =>
  hs.same (hg.block b hs.lt (fun e => by have := (hr b e.symm).1; omega))
section
variable (w : World) {F : Fence} {nF : Nat} {ops : Array Oper} {rest : List Oper} {o : Oper} {a : Act} {Q : Exit → Act → World → Prop}
theorem wplIn_seenN (hg : o.guard = none) (m x : Operand) (hop : o.op = Op.lookup 80 m x true) (b n k : Nat) (p : ByteArray → Bool)
    (hm : a.eval m = .map (some b)) (hown : SetN w b n k p) (s : ByteArray) (hx : a.eval x = .string s) (hs : s.size ≤ maxLen)
    (hK : wpListIn F nF Tryz.prog ops Q rest (a.put o.dst (.tuple #[.agg #[], .bool (p s)])) w) :
    wpListIn F nF Tryz.prog ops Q (o :: rest) a w := by
  obtain ⟨D, ho, r, _⟩ := hown
  rw [← r s] at hK
  exact wpListIn_lookup_own_unit w hg m x _ hop _ _ lawS Tryz.underlying80 (zeroU _) b n D hm ho _ _ hx (WideMaps.keyOf_string_mk Tryz.underlying9 hs) hK
theorem wplIn_markN (hg : o.guard = none) (m x v : Operand) (hop : o.op = Op.mapUpdate 80 m x v) (b n k : Nat) (p : ByteArray → Bool)
    (hm : a.eval m = .map (some b)) (hown : SetN w b n k p) (hn : n < maxLen) (s : ByteArray) (hx : a.eval x = .string s) (hv : a.eval v = .agg #[]) (hs : s.size ≤ maxLen)
    (hK : ∀ w', SetN w' b (n + 1) (if p s then k else k + 1) (fun y => p y || decide (s = y)) → w.grownBy w' (some b) → wpListIn F nF Tryz.prog ops Q rest (a.put o.dst undef) w') :
    wpListIn F nF Tryz.prog ops Q (o :: rest) a w := by
  obtain ⟨D, ho, r, hk⟩ := hown
  refine wpListIn_mapUpdate_own w hg m x v _ hop _ _ lawS Tryz.underlying80 unitElem b n D hm ho hn _ _ _ hx hv (WideMaps.keyOf_string_mk Tryz.underlying9 hs) _ [] unitElem_mk ?_
  intro w' ho' hg'
  refine hK w' ⟨_, ho', fun y => ?_, ?_⟩ hg'
  · by_cases h : y = s
    · subst h
      rw [has_put_same ho.isMap (by unfold WideAt.IsKeyLit; trivial)]
      simp
    · rw [has_put_other (key_ne h), r y]
      have : ¬ s = y := fun e => h e.symm
      simp [this]
  · rw [size_put (ho.tidy lawS), r s, hk]
end
/-- The names of some of a ring's points. -/
def nmS {ps : List Pt} (l : List { p : Pt // p ∈ ps }) : List ByteArray := nmL (l.map (·.1))
theorem nmS_old {ps : List Pt} {pre : List { p : Pt // p ∈ ps }} {v : Nat} {N : ByteArray} {hm : (v, N) ∈ ps} (h : inS (nmS pre) N = true) : nmS (pre ++ [⟨(v, N), hm⟩]) = nmS pre := by
  unfold nmS at *
  rw [List.map_append]; exact nmL_old h
theorem nmS_new {ps : List Pt} {pre : List { p : Pt // p ∈ ps }} {v : Nat} {N : ByteArray} {hm : (v, N) ∈ ps} (h : inS (nmS pre) N = false) : nmS (pre ++ [⟨(v, N), hm⟩]) = nmS pre ++ [N] := by
  unfold nmS at *
  rw [List.map_append]; exact nmL_new h
set_option maxRecDepth 100000 in
set_option maxHeartbeats 4000000 in
theorem walk35_in (n : Nat) (hn : 3 ≤ n) (rb nn : Nat) (ps : List Pt) (hl : ps.length ≤ 100000) (hz : ∀ p ∈ ps, p.2.size ≤ 1000) (hr : Rise ps) (x : Nat) (w : World) (hRg : RingAt w rb ps nn) :
    CallsIn Fence.wide n Tryz.prog 17 #[.pointer (some ⟨rb, 0, none⟩), .int .u64 (x : Nat)] w fun e w' => ∃ st l a c, LowAt ps x st ∧ (l = nmL (arL ps st) ∨ ∃ k, k ≤ ps.length ∧ l = nmL ((arL ps st).take k) ∧ l.length = nn) ∧ e = .returned (.slice a l.length c) ∧ IsStrs w' a c l ∧ Below w.heap.size w w' := by
  obtain ⟨i0, hi, hz0, hz1, hz2⟩ := info_parts infoSt
  have h1 : 1 ≤ n := by omega
  have hmm := run_makeMap_hint Tryz.underlying80
  obtain ⟨hrl, ra, rc, hr0, hr1, hpts⟩ := id hRg
  have HR1 := Lib.hid hr1
  have g2 : ((w.alloc (.cells #[.pointer (some ⟨rb, 0, none⟩)] 40)).alloc (.cells #[.slice none 0 0] 46)).cell? ⟨rb, 1, none⟩ = some (.int .i64 (nn : Nat)) := by
    have hb : Below w.heap.size w ((w.alloc (.cells #[.pointer (some ⟨rb, 0, none⟩)] 40)).alloc (.cells #[.slice none 0 0] 46)) := ((Below.refl _ w).alloc (Nat.le_refl _) _).alloc (by simp) _
    rw [(bcell hb).1 _ _ hrl]; exact hr1
  clear hr0 hr1 hpts
  refine callsIn_of_wp_marks Tryz.func17 rfl trivial ?_ rfl
  simp only [Tryz.ntmps17, List.size_toArray, List.length_cons, List.length_nil, Nat.reduceAdd, Nat.reduceSub, Array.replicate_succ, Array.replicate_zero, List.push_toArray, List.append_toArray, List.nil_append, List.cons_append]
  gi_wp2_with fail
  refine ⟨trivial, (around55 _ _ _ _).mono ?_⟩
  rintro e w' ⟨rfl, rfl⟩
  clear g2 hmm
  gi_wp2_with fail
  have bP0 := Boxed.new w 40 (.pointer (some ⟨rb, 0, none⟩))
  have bN0 := Boxed.new (w.alloc (.cells #[.pointer (some ⟨rb, 0, none⟩)] 40)) 46 (.slice none 0 0)
  have hS0 := SetN.new ((w.alloc (.cells #[.pointer (some ⟨rb, 0, none⟩)] 40)).alloc (.cells #[.slice none 0 0] 46))
  have bM0 := Boxed.new (((w.alloc (.cells #[.pointer (some ⟨rb, 0, none⟩)] 40)).alloc (.cells #[.slice none 0 0] 46)).alloc (.map #[] 0)) 80 (.map (some (w.heap.size + 1 + 1)))
  have bA0 := Boxed.new ((((w.alloc (.cells #[.pointer (some ⟨rb, 0, none⟩)] 40)).alloc (.cells #[.slice none 0 0] 46)).alloc (.map #[] 0)).alloc (.cells #[.map (some (w.heap.size + 1 + 1))] 80)) 40 (.pointer (some ⟨rb, 0, none⟩))
  have bB0 := Boxed.new (((((w.alloc (.cells #[.pointer (some ⟨rb, 0, none⟩)] 40)).alloc (.cells #[.slice none 0 0] 46)).alloc (.map #[] 0)).alloc (.cells #[.map (some (w.heap.size + 1 + 1))] 80)).alloc (.cells #[.pointer (some ⟨rb, 0, none⟩)] 40)) 23 (.int .u64 (x : Nat))
  simp only [World.size_alloc] at bN0 hS0 bM0 bA0 bB0
  have bP := ((((bP0.alloc (.cells #[.slice none 0 0] 46)).alloc (.map #[] 0)).alloc (.cells #[.map (some (w.heap.size + 1 + 1))] 80)).alloc (.cells #[.pointer (some ⟨rb, 0, none⟩)] 40)).alloc (.cells #[.int .u64 (x : Nat)] 23)
  have bN := (((bN0.alloc (.map #[] 0)).alloc (.cells #[.map (some (w.heap.size + 1 + 1))] 80)).alloc (.cells #[.pointer (some ⟨rb, 0, none⟩)] 40)).alloc (.cells #[.int .u64 (x : Nat)] 23)
  have hS := ((hS0.alloc (.cells #[.map (some (w.heap.size + 1 + 1))] 80)).alloc (.cells #[.pointer (some ⟨rb, 0, none⟩)] 40)).alloc (.cells #[.int .u64 (x : Nat)] 23)
  have bM := (bM0.alloc (.cells #[.pointer (some ⟨rb, 0, none⟩)] 40)).alloc (.cells #[.int .u64 (x : Nat)] 23)
  have bA := bA0.alloc (.cells #[.int .u64 (x : Nat)] 23)
  have hB0 : Below w.heap.size w ((((((w.alloc (.cells #[.pointer (some ⟨rb, 0, none⟩)] 40)).alloc (.cells #[.slice none 0 0] 46)).alloc (.map #[] 0)).alloc (.cells #[.map (some (w.heap.size + 1 + 1))] 80)).alloc (.cells #[.pointer (some ⟨rb, 0, none⟩)] 40)).alloc (.cells #[.int .u64 (x : Nat)] 23)) := by
    refine Below.alloc ?_ (by simp; omega) _
    refine Below.alloc ?_ (by simp; omega) _
    refine Below.alloc ?_ (by simp; omega) _
    refine Below.alloc ?_ (by simp; omega) _
    refine Below.alloc ?_ (by simp) _
    exact (Below.refl _ w).alloc (Nat.le_refl _) _
  have hsz : ((((((w.alloc (.cells #[.pointer (some ⟨rb, 0, none⟩)] 40)).alloc (.cells #[.slice none 0 0] 46)).alloc (.map #[] 0)).alloc (.cells #[.map (some (w.heap.size + 1 + 1))] 80)).alloc (.cells #[.pointer (some ⟨rb, 0, none⟩)] 40)).alloc (.cells #[.int .u64 (x : Nat)] 23)).heap.size = w.heap.size + 6 := by simp
  clear bP0 bN0 hS0 bM0 bA0
  generalize (((((w.alloc (.cells #[.pointer (some ⟨rb, 0, none⟩)] 40)).alloc (.cells #[.slice none 0 0] 46)).alloc (.map #[] 0)).alloc (.cells #[.map (some (w.heap.size + 1 + 1))] 80)).alloc (.cells #[.pointer (some ⟨rb, 0, none⟩)] 40)).alloc (.cells #[.int .u64 (x : Nat)] 23) = WS at *
  refine wpIn_rangeFunc_ownH rfl h1 (gf := 53) (lb := #[.pointer (some ⟨w.heap.size + 1 + 1 + 1 + 1, 0, none⟩), .pointer (some ⟨w.heap.size + 1 + 1 + 1 + 1 + 1, 0, none⟩)]) rfl trivial (enters_of Tryz.func53 (by kernel_rfl) rfl)
    (around_stopsS (n - 1) (by omega) (w.heap.size + 1 + 1 + 1 + 1) (w.heap.size + 1 + 1 + 1 + 1 + 1) rb nn ps hl hr x w hRg WS hB0 (by omega) (by omega) bA.cell bB0.cell) KpR.trans (kpR_b (by omega) (by omega)) (Below.refl _ _) (fun _ => rfl)
    (fun (pre : List { p : Pt // p ∈ ps }) W => ((∃ v, Boxed W (w.heap.size + 1) 46 v ∧ W.ownsRow w.heap.size 9 1 v (nmS pre).length ((nmS pre).map Value.string) ∧ True) ∧ (Boxed W w.heap.size 40 (.pointer (some ⟨rb, 0, none⟩)) ∧ Boxed W (w.heap.size + 1 + 1 + 1) 80 (.map (some (w.heap.size + 1 + 1))) ∧ Boxed W (w.heap.size + 1 + 1 + 1 + 1) 40 (.pointer (some ⟨rb, 0, none⟩)))) ∧ (SetN W (w.heap.size + 1 + 1) (nmS pre).length (nmS pre).length (inS (nmS pre)) ∧ Below w.heap.size w W))
    (fun c (pre : List { p : Pt // p ∈ ps }) W => (∃ v, Boxed W (w.heap.size + 1) 46 v ∧ W.ownsRow w.heap.size 9 1 v (nmS pre).length ((nmS pre).map Value.string) ∧ (c = .exit 0 ∧ (nmS pre).length = nn)) ∧ Below w.heap.size w W)
    (OwnFrom.and (OwnFrom.and (Own.from (holdsRow_own w.heap.size (w.heap.size + 1) 46 9 1 (fun (pre : List { p : Pt // p ∈ ps }) => (nmS pre).length) (fun (pre : List { p : Pt // p ∈ ps }) => (nmS pre).map Value.string) (fun _ _ => True)) _) (Own.from (fun s A B row hs hg hr => ⟨(boxed_own (β := Unit) w.heap.size _ (fun _ => .pointer (some ⟨rb, 0, none⟩))) () A B row hs.1 hg hr, (boxed_own (β := Unit) (w.heap.size + 1 + 1 + 1) _ (fun _ => .map (some (w.heap.size + 1 + 1)))) () A B row hs.2.1 hg hr, (boxed_own (β := Unit) (w.heap.size + 1 + 1 + 1 + 1) _ (fun _ => .pointer (some ⟨rb, 0, none⟩))) () A B row hs.2.2 hg hr⟩) _)) (OwnFrom.and (setN_own (by omega) _ _ _) (ownFrom_below (Nat.le_refl _) (by omega))))
    (fun c => OwnFrom.and (Own.from (holdsRow_own w.heap.size (w.heap.size + 1) 46 9 1 (fun (pre : List { p : Pt // p ∈ ps }) => (nmS pre).length) (fun (pre : List { p : Pt // p ∈ ps }) => (nmS pre).map Value.string) (fun pre _ => c = .exit 0 ∧ (nmS pre).length = nn)) _) (ownFrom_below (Nat.le_refl _) (by omega)))
    ⟨⟨⟨_, bN, World.ownsRow_nil _ _ _ _, trivial⟩, bP, bM, bA⟩, hS, hB0⟩
    (fun p a' W => ∃ Bx, w.heap.size + 5 ≤ Bx ∧ W.heap[Bx]? = some (.cells #[.int .u64 (p.1.1 : Nat), .string p.1.2] 75 (0, 0)) ∧ a' = { tmps := #[.pointer (some ⟨rb, 0, none⟩), .int .u64 (x : Nat), .pointer (some ⟨w.heap.size, 0, none⟩), undef, .slice none 0 0, .pointer (some ⟨w.heap.size + 1, 0, none⟩), .pointer (some ⟨w.heap.size + 1 + 1 + 1, 0, none⟩), .pointer (some ⟨Bx, 0, none⟩), undef, undef, .pointer (some ⟨rb, 0, none⟩), .pointer (some ⟨rb, 0, none⟩), .pointer (some ⟨rb, 1, none⟩), .int .i64 (nn : Nat), .map (some (w.heap.size + 1 + 1)), .pointer (some ⟨rb, 0, none⟩), .int .u64 (x : Nat), .func (.func 53) #[] #[.pointer (some ⟨w.heap.size + 1 + 1 + 1 + 1, 0, none⟩), .pointer (some ⟨w.heap.size + 1 + 1 + 1 + 1 + 1, 0, none⟩)], ptVal p.1, undef, undef, undef, undef, undef, undef, undef, undef, undef, undef, undef, undef, undef, undef, undef, undef, undef, undef, undef, undef, undef, undef, undef, undef, undef], defers := [] })
    (fun p a' => fun s A B row hs hg hr => by
      obtain ⟨Bx, h1, h2, h3⟩ := hs
      exact ⟨Bx, h1, (cells_own (β := Unit) Bx _ _).from _ () A B row h2 hg hr, h3⟩) ?assign ?body ?done ?stop
  case assign =>
    rintro l pre ⟨⟨v, N⟩, hmem⟩ W K ⟨⟨⟨u, hv, hrow, hzz⟩, hp, hmb, hb4⟩, hSN, hB⟩ hK
    dsimp only [ptVal]
    gi_wp2
    refine hK _ _ ((KeepsOthers.alloc _ _).from _) (KpR.of_below (below_alloc W _) hB.size hb4.lt) ⟨⟨⟨u, hv.alloc _, hrow.alloc _, hzz⟩, hp.alloc _, hmb.alloc _, hb4.alloc _⟩, hSN.alloc _, hB.alloc hB.size _⟩ ⟨W.heap.size, ?_, heap_alloc_new W _, rfl⟩
    have := hb4.lt
    omega
  case body =>
    rintro l pre ⟨⟨v, N⟩, hmem⟩ a' W hl2 ⟨r, hr2⟩ ⟨⟨⟨u, hv, hrow, hzz⟩, hp, hmb, hb4⟩, hSN, hB⟩ ⟨Bx, hBx, hbX, rfl⟩ hlt
    have cx1 : W.cell? ⟨Bx, 1, none⟩ = some (.string N) := by rw [cell_of_row W Bx 1 _ _ _ hbX]; rfl
    have HNZ : Hid (N.size ≤ 1000) := hz _ hmem
    have HL2 : Hid ((nmS pre).length ≤ 100000) := by
      have := nmL_len (pre.map (·.1))
      rw [List.length_map] at this
      exact Nat.le_trans this (by omega)
    have hvc := hv.cell
    have hmc := hmb.cell
    have hbxl : Bx < W.heap.size := (Array.getElem?_eq_some_iff.1 hbX).1
    cases hIN : inS (nmS pre) N with
    | true =>
      have HIN := Lib.hid hIN
      have HMO := Lib.hid (nmS_old (v := v) (hm := hmem) hIN)
      clear hIN hr2
      gi_wp2_with (first
        | (gi_at_lookup; refine wplIn_seenN _ rfl _ _ rfl (w.heap.size + 1 + 1) _ _ _ rfl hSN N rfl (by have := HNZ.out; unfold maxLen; omega) ?_; rw [HIN.out]))
      refine ⟨(KeepsOthers.alloc _ _).from _, KpR.of_below (below_alloc W _) hB.size hb4.lt, ?_⟩
      dsimp only
      rw [HMO.out]
      refine ⟨⟨⟨u, hv.alloc _, ?_⟩, hp.alloc _, hmb.alloc _, hb4.alloc _⟩, hSN.alloc _, hB.alloc hB.size _⟩
      first
        | exact hrow.alloc _
        | exact ⟨hrow.alloc _, trivial⟩
    | false =>
      have HIN := Lib.hid hIN
      have HMO := Lib.hid (nmS_new (v := v) (hm := hmem) hIN)
      clear hIN hr2
      have hW1 := hSN.alloc (.cells #[] 83)
      have hmc1 := (hmb.alloc (.cells #[] 83)).cell
      have cx1a : (W.alloc (.cells #[] 83)).cell? ⟨Bx, 1, none⟩ = some (.string N) := by rw [cell_of_row _ Bx 1 _ _ _ (((below_alloc W (.cells #[] 83)).block Bx hbxl).trans hbX)]; rfl
      obtain ⟨m, hm⟩ : ∃ m, m = (nmS pre).length := ⟨_, rfl⟩
      have HM := Lib.hid hm
      rw [← hm] at hrow hW1 hSN HL2
      clear hm
      by_cases hful : m + 1 = nn
      · have hq1 : (((m + 1 : Nat) : Int) == (nn : Int)) = true := by rw [beq_iff_eq]; omega
        have hq2 : (((m : Int) + 1) == (nn : Int)) = true := by rw [beq_iff_eq]; omega
        have HFU := Lib.hid hful
        clear hful
        gi_wp2_with (first
          | (gi_at_lookup; refine wplIn_seenN _ rfl _ _ rfl (w.heap.size + 1 + 1) _ _ _ rfl hSN N rfl (by have := HNZ.out; unfold maxLen; omega) ?_; rw [HIN.out])
          | (gi_at_mapUpdate; refine wplIn_markN _ rfl _ _ _ rfl (w.heap.size + 1 + 1) _ _ _ rfl hW1 (by have := HL2.out; unfold maxLen; omega) N rfl rfl (by have := HNZ.out; unfold maxLen; omega) ?_; intro w9 hm9 hg9; rw [HIN.out, if_neg Bool.false_ne_true, inS_step] at hm9; have hv9 := (hv.alloc (.cells #[] 83)).kept hg9 (fun e => by injection e with e; omega); have hp9 := (hp.alloc (.cells #[] 83)).kept hg9 (fun e => by injection e with e; omega); have hmb9 := (hmb.alloc (.cells #[] 83)).kept hg9 (fun e => by injection e with e; omega); have hb49 := (hb4.alloc (.cells #[] 83)).kept hg9 (fun e => by injection e with e; omega); have hr9 := (hrow.alloc (.cells #[] 83)).kept hg9 (.inr (setN_row hW1 (hrow.alloc (.cells #[] 83)))); have hB9 := (hB.alloc hB.size (.cells #[] 83)).grown hg9 (hB.alloc hB.size (.cells #[] 83)).size (fun q e => by injection e with e; omega); have cx9 : w9.cell? ⟨Bx, 1, none⟩ = some (.string N) := (by rw [cell_of_row w9 Bx 1 _ _ _ ((hg9.block Bx (by simp; omega) (by intro e; injection e with e; omega)).trans (((below_alloc W (.cells #[] 83)).block Bx hbxl).trans hbX))]; rfl); have hvc9 := hv9.cell; have hmc9 := hmb9.cell)
          | (gi_at_builtin; refine wpListIn_append_own _ rfl _ _ 46 rfl w.heap.size 9 i0 (.string ⟨#[]⟩) 1 16 Tryz.underlying46 hi hz0 hz1 hz2 rfl (by decide) _ _ _ rfl (hr9.alloc (.cells #[.string N] 9)) ⟨w9.heap.size, 0, none⟩ 1 1 [.string N] rfl rfl (cells_str w9 N 9) (by intro y hy; simp at hy; subst hy; rfl) (by have := HL2.out; unfold maxLen; omega) (by have := HL2.out; omega) (by have := hB9.size; simp; omega) ?_; intro v' w10 hown' hgrow _; obtain ⟨g', cap', rfl⟩ := ownsRow_succ hown'; obtain ⟨hv1, hv2, hr2, hk2, hb2⟩ := hv9.appended (by decide) hr9 hB9.size (by omega) hown' hgrow; have hc1 := hv1.cell; have hf1 := hv1.frozen; have d1 := hv2.cell; have hp10 := ((hp9.alloc (.cells #[.string N] 9)).kept hgrow (hp9.not_row (by decide) hr9)).other (B' := w.heap.size + 1) (by omega) (.slice (some ⟨g', 0, none⟩) (m + 1) cap'); have d2 := hp10.cell; have d3 := ((hB9.trans hb2).cell (p := ⟨rb, 1, none⟩) hrl).trans HR1.out))
        gi_region
        all_goals
          gi_wp2
          have e1 : (nmS (pre ++ [⟨(v, N), hmem⟩])).length = m + 1 := by rw [HMO.out, List.length_append, ← HM.out]; rfl
          have e2 : (nmS (pre ++ [⟨(v, N), hmem⟩])).map Value.string = (nmS pre).map Value.string ++ [.string N] := by rw [HMO.out, List.map_append]; rfl
          have hkF := ((((KeepsOthers.alloc W (.cells #[] 83)).from WS.heap.size).trans (KeepsFrom.of_grownBy (B := WS.heap.size) hg9 (fun j e => by injection e with e; omega))).trans (hk2.from WS.heap.size)).trans ((KeepsOthers.drew _).from WS.heap.size)
          refine ⟨hkF, ⟨_, hv2, ?_⟩, hB9.trans hb2.drew⟩
          rw [e1, e2]
          first
            | exact ⟨hr2, rfl, HFU.out⟩
            | exact ⟨hr2, HFU.out⟩
      · have hq1 : (((m + 1 : Nat) : Int) == (nn : Int)) = false := by rw [beq_eq_false_iff_ne]; omega
        have hq2 : (((m : Int) + 1) == (nn : Int)) = false := by rw [beq_eq_false_iff_ne]; omega
        clear hful
        gi_wp2_with (first
          | (gi_at_lookup; refine wplIn_seenN _ rfl _ _ rfl (w.heap.size + 1 + 1) _ _ _ rfl hSN N rfl (by have := HNZ.out; unfold maxLen; omega) ?_; rw [HIN.out])
          | (gi_at_mapUpdate; refine wplIn_markN _ rfl _ _ _ rfl (w.heap.size + 1 + 1) _ _ _ rfl hW1 (by have := HL2.out; unfold maxLen; omega) N rfl rfl (by have := HNZ.out; unfold maxLen; omega) ?_; intro w9 hm9 hg9; rw [HIN.out, if_neg Bool.false_ne_true, inS_step] at hm9; have hv9 := (hv.alloc (.cells #[] 83)).kept hg9 (fun e => by injection e with e; omega); have hp9 := (hp.alloc (.cells #[] 83)).kept hg9 (fun e => by injection e with e; omega); have hmb9 := (hmb.alloc (.cells #[] 83)).kept hg9 (fun e => by injection e with e; omega); have hb49 := (hb4.alloc (.cells #[] 83)).kept hg9 (fun e => by injection e with e; omega); have hr9 := (hrow.alloc (.cells #[] 83)).kept hg9 (.inr (setN_row hW1 (hrow.alloc (.cells #[] 83)))); have hB9 := (hB.alloc hB.size (.cells #[] 83)).grown hg9 (hB.alloc hB.size (.cells #[] 83)).size (fun q e => by injection e with e; omega); have cx9 : w9.cell? ⟨Bx, 1, none⟩ = some (.string N) := (by rw [cell_of_row w9 Bx 1 _ _ _ ((hg9.block Bx (by simp; omega) (by intro e; injection e with e; omega)).trans (((below_alloc W (.cells #[] 83)).block Bx hbxl).trans hbX))]; rfl); have hvc9 := hv9.cell; have hmc9 := hmb9.cell)
          | (gi_at_builtin; refine wpListIn_append_own _ rfl _ _ 46 rfl w.heap.size 9 i0 (.string ⟨#[]⟩) 1 16 Tryz.underlying46 hi hz0 hz1 hz2 rfl (by decide) _ _ _ rfl (hr9.alloc (.cells #[.string N] 9)) ⟨w9.heap.size, 0, none⟩ 1 1 [.string N] rfl rfl (cells_str w9 N 9) (by intro y hy; simp at hy; subst hy; rfl) (by have := HL2.out; unfold maxLen; omega) (by have := HL2.out; omega) (by have := hB9.size; simp; omega) ?_; intro v' w10 hown' hgrow _; obtain ⟨g', cap', rfl⟩ := ownsRow_succ hown'; obtain ⟨hv1, hv2, hr2, hk2, hb2⟩ := hv9.appended (by decide) hr9 hB9.size (by omega) hown' hgrow; have hc1 := hv1.cell; have hf1 := hv1.frozen; have d1 := hv2.cell; have hp10 := ((hp9.alloc (.cells #[.string N] 9)).kept hgrow (hp9.not_row (by decide) hr9)).other (B' := w.heap.size + 1) (by omega) (.slice (some ⟨g', 0, none⟩) (m + 1) cap'); have d2 := hp10.cell; have d3 := ((hB9.trans hb2).cell (p := ⟨rb, 1, none⟩) hrl).trans HR1.out))
        gi_region
        all_goals
          gi_wp2
          have e1 : (nmS (pre ++ [⟨(v, N), hmem⟩])).length = m + 1 := by rw [HMO.out, List.length_append, ← HM.out]; rfl
          have e2 : (nmS (pre ++ [⟨(v, N), hmem⟩])).map Value.string = (nmS pre).map Value.string ++ [.string N] := by rw [HMO.out, List.map_append]; rfl
          have hkF := ((((KeepsOthers.alloc W (.cells #[] 83)).from WS.heap.size).trans (KeepsFrom.of_grownBy (B := WS.heap.size) hg9 (fun j e => by injection e with e; omega))).trans (hk2.from WS.heap.size)).trans ((KeepsOthers.drew _).from WS.heap.size)
          have hWW : Below w.heap.size W w9 := ((Below.refl w.heap.size W).alloc hB.size (.cells #[] 83)).grown hg9 (hB.alloc hB.size (.cells #[] 83)).size (fun q e => by injection e with e; omega)
          have hb10 := ((hb49.alloc (.cells #[.string N] 9)).kept hgrow (hb49.not_row (by decide) hr9)).other (B' := w.heap.size + 1) (by omega) (.slice (some ⟨g', 0, none⟩) (m + 1) cap')
          have hm10 := ((hmb9.alloc (.cells #[.string N] 9)).kept hgrow (hmb9.not_row (by decide) hr9)).other (B' := w.heap.size + 1) (by omega) (.slice (some ⟨g', 0, none⟩) (m + 1) cap')
          have hs10 := (hm9.alloc (.cells #[.string N] 9)).same (hgrow.block _ (hm9.alloc (.cells #[.string N] 9)).lt (fun e => setN_row hm9 hr9 e.symm))
          have hs11 := hs10.same (Below.heap_setCell w10 ⟨w.heap.size + 1, 0, none⟩ (.slice (some ⟨g', 0, none⟩) (m + 1) cap') (w.heap.size + 1 + 1) (fun e => by have e : w.heap.size + 1 + 1 = w.heap.size + 1 := e; omega))
          refine ⟨hkF, ⟨hWW.trans hb2.drew, Eq.trans hb10 (Eq.symm hb4)⟩, ⟨⟨_, hv2, ?_⟩, hp10, hm10, hb10⟩, ?_, hB9.trans hb2.drew⟩
          · rw [e1, e2]
            first
              | exact hr2
              | exact ⟨hr2, trivial⟩
          · rw [e1, HMO.out]
            exact hs11
  case done =>
    rintro D ys W hD ⟨st, hst, hys⟩ ⟨⟨⟨v, hv, hrow, hzz⟩, hp, hmb, hb4⟩, hSN, hB⟩ hK
    have hvc := hv.cell
    obtain ⟨a9, c9, rfl⟩ := own_slice hrow
    gi_wp2
    refine ⟨by simp, .inl ⟨_, _, rfl, run_takeDeferred hK, ?_⟩⟩
    exact ⟨_, results_tmp rfl _ _ _, st, nmS ys, a9, c9, hst, .inl (by unfold nmS; rw [hys]), rfl, (isStrs_ownM (ownsRow_putObj hrow _ hK rfl)).2, hB.trans (belowK_b (w := w) (Nat.le_refl _) W D _ _ (by omega) hK rfl rfl)⟩
  case stop =>
    rintro D c pre W hD ⟨st, k, hst, hk, hpre⟩ ⟨⟨v, hv, hrow, rfl, hful⟩, hB⟩ hK
    have hvc := hv.cell
    obtain ⟨a9, c9, rfl⟩ := own_slice hrow
    have HFU := Lib.hid hful
    clear hful
    gi_wp2
    refine ⟨by simp, .inl ⟨_, _, rfl, run_takeDeferred hK, ?_⟩⟩
    exact ⟨_, results_tmp rfl _ _ _, st, nmS pre, a9, c9, hst, .inr ⟨k, hk, by unfold nmS; rw [hpre], HFU.out⟩, rfl, (isStrs_ownM (ownsRow_putObj hrow _ hK rfl)).2, hB.trans (belowK_b (w := w) (Nat.le_refl _) W D _ _ (by omega) hK rfl rfl)⟩
theorem walk35 (rb nn : Nat) (ps : List Pt) (hl : ps.length ≤ 100000) (hz : ∀ p ∈ ps, p.2.size ≤ 1000) (hr : Rise ps) (x : Nat) (w : World) (hRg : RingAt w rb ps nn) :
    Calls Tryz.prog 17 #[.pointer (some ⟨rb, 0, none⟩), .int .u64 (x : Nat)] w fun e w' => ∃ st l a c, LowAt ps x st ∧ (l = nmL (arL ps st) ∨ ∃ k, k ≤ ps.length ∧ l = nmL ((arL ps st).take k) ∧ l.length = nn) ∧ e = .returned (.slice a l.length c) ∧ IsStrs w' a c l ∧ Below w.heap.size w w' := callsIn_wide.1 (walk35_in 3 (by decide) rb nn ps hl hz hr x w hRg)
end Go.Proofs.YtklfpnnnoaaiaabGreatDoor

