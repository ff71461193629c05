/- Packed: RgA, MgV, RgB, Rot, SipA, SipB, SipC, Math, Word, Begin, Copy, Key, RefS. -/
import Derived.Shelf.SlSortCmp.WholeK
import Derived.Shelf.SlSortCmp.NoneTotal
import Derived.Laws.BytesArg
import Derived.Lib.BufferWrite
import Derived.Lib.IndexBytes
import Derived.Test.YtklfpnnnoaaiaabGreatDoorG00
/- ring: points in their order (written by genrga.py). -/
namespace Go.Proofs.YtklfpnnnoaaiaabGreatDoor
open Go.RowKit Go.Shelf Go.Lib Go.Sort

shelf_lay_g SlLaysF0.n6 Slsf 6 at Tryz 33 as Tryz.sortPt

/-- A point: its value and its name. -/
abbrev Pt := Nat × ByteArray
def cmpU (a b : Nat) : Int := if a < b then -1 else if b < a then 1 else 0
/-- The order of points. -/
def cmpP (p q : Pt) : Int := if cmpU p.1 q.1 = 0 then cmpS p.2 q.2 else cmpU p.1 q.1
theorem isnanU (a : Nat) (w : World) : Calls Tryz.prog 92 #[.int .u64 (a : Nat)] w fun e w' => e = .returned (.bool false) ∧ w' = w := by
  have he : ((a : Int) != (a : Int)) = false := by simp
  go_enter Tryz.func92, Tryz.ntmps92
  go_wp2_with fail
  go_ret
  exact ⟨rfl, rfl⟩
theorem compareU (a b : Nat) (w : World) : Calls Tryz.prog 78 #[.int .u64 (a : Nat), .int .u64 (b : Nat)] w fun e w' => e = .returned (.int .i64 (cmpU a b)) ∧ w' = w := by
  have hcon := fun (z : Nat) W => isnanU z W
  have HN := Lib.hid hcon
  clear hcon
  by_cases h1 : a < b
  · have hc : cmpU a b = -1 := if_pos h1
    have i1 : (a : Int) < b := by omega
    rw [hc]
    clear h1 hc
    go_enter Tryz.func78, Tryz.ntmps78
    go_wp2_with (go_at_call 92; refine (HN.out _ _).mono ?_; rintro e w' ⟨rfl, rfl⟩)
    go_ret
    exact ⟨rfl, rfl⟩
  · by_cases h2 : b < a
    · have hc : cmpU a b = 1 := by unfold cmpU; rw [if_neg h1, if_pos h2]
      have i1 : ¬ (a : Int) < b := by omega
      have i2 : (b : Int) < a := by omega
      rw [hc]
      clear h1 h2 hc
      go_enter Tryz.func78, Tryz.ntmps78
      go_wp2_with (go_at_call 92; refine (HN.out _ _).mono ?_; rintro e w' ⟨rfl, rfl⟩)
      go_ret
      exact ⟨rfl, rfl⟩
    · have hc : cmpU a b = 0 := by unfold cmpU; rw [if_neg h1, if_neg h2]
      have i1 : ¬ (a : Int) < b := by omega
      have i2 : ¬ (b : Int) < a := by omega
      rw [hc]
      clear h1 h2 hc
      go_enter Tryz.func78, Tryz.ntmps78
      go_wp2_with (go_at_call 92; refine (HN.out _ _).mono ?_; rintro e w' ⟨rfl, rfl⟩)
      go_ret
      exact ⟨rfl, rfl⟩
theorem compareV (a : Nat) (N : ByteArray) (b : Nat) (w : World) : Calls Tryz.prog 52 #[.agg #[.int .u64 (a : Nat), .string N], .int .u64 (b : Nat)] w fun e w' => e = .returned (.int .i64 (cmpU a b)) ∧ ∃ os, w' = grow w os := by
  have hcon := fun W => compareU a b W
  generalize cmpU a b = r at hcon ⊢
  go_enter Tryz.func52, Tryz.ntmps52
  go_wp2_with (go_at_call 78; refine (hcon _).mono ?_; rintro e w' ⟨rfl, rfl⟩)
  go_ret
  exact ⟨rfl, _, by rw [alloc_eq_grow]⟩
/-- cmp.Or of two numbers. -/
theorem or74 (g : Nat) (c1 c2 : Int) (w : World) (h : Row w g 3 #[.int .i64 c1, .int .i64 c2]) : Calls Tryz.prog 51 #[.slice (some ⟨g, 0, none⟩) 2 2] w fun e w' => e = .returned (.int .i64 (if c1 = 0 then c2 else c1)) ∧ w' = w := by
  have d0 : w.cell? ⟨g, 0, none⟩ = some (.int .i64 c1) := by rw [h.cell]; rfl
  have d1 : w.cell? ⟨g, 1, none⟩ = some (.int .i64 c2) := by rw [h.cell]; rfl
  clear h
  by_cases h1 : c1 = 0
  · rw [if_pos h1]
    subst h1
    by_cases h2 : c2 = 0
    · subst h2
      go_enter Tryz.func51, Tryz.ntmps51
      go_wp2_with fail
      go_loopw [8] (fun i wr => ∃ j : Nat, j ≤ 2 ∧ i = .int .i64 (j : Int) ∧ Hid (wr = w)) (fun i _ => 2 - (intOf i).toNat)
      case atStart => exact ⟨0, by decide, rfl, rfl⟩
      case round =>
        obtain ⟨j, hj, rfl, hw⟩ := hrel
        obtain rfl := hw.out
        clear hw
        by_cases hlt : j < 2
        · have j1 : (j : Int) < 2 := by omega
          have hd : wr.cell? ⟨g, j, none⟩ = some (.int .i64 0) := by
            have : j = 0 ∨ j = 1 := by omega
            rcases this with rfl | rfl
            · exact d0
            · exact d1
          clear d0 d1
          go_wp2_with fail
          go_roundw
          case rel => exact ⟨j + 1, hlt, by go_num, trivial⟩
          case measure => simp [intOf]; omega
        · obtain rfl : j = 2 := by omega
          go_wp2_with fail
          go_ret
          exact ⟨rfl, rfl⟩
    · have hb : (c2 != (0 : Int)) = true := by rw [bne_iff_ne]; exact h2
      go_enter Tryz.func51, Tryz.ntmps51
      go_wp2_with fail
      go_loopw [8] (fun i wr => ∃ j : Nat, j ≤ 1 ∧ i = .int .i64 (j : Int) ∧ Hid (wr = w)) (fun i _ => 2 - (intOf i).toNat)
      case atStart => exact ⟨0, by decide, rfl, rfl⟩
      case round =>
        obtain ⟨j, hj, rfl, hw⟩ := hrel
        obtain rfl := hw.out
        clear hw
        by_cases hlt : j = 0
        · subst hlt
          clear d1
          go_wp2_with fail
          go_roundw
          case rel => exact ⟨1, by decide, by go_num, trivial⟩
          case measure => simp [intOf]
        · obtain rfl : j = 1 := by omega
          clear d0
          go_wp2_with fail
          go_ret
          exact ⟨rfl, rfl⟩
  · rw [if_neg h1]
    have hb : (c1 != (0 : Int)) = true := by rw [bne_iff_ne]; exact h1
    go_enter Tryz.func51, Tryz.ntmps51
    go_wp2_with fail
    go_loopw [8] (fun i wr => i = .int .i64 0 ∧ Hid (wr = w)) (fun i _ => 2 - (intOf i).toNat)
    case atStart => exact ⟨rfl, rfl⟩
    case round =>
      obtain ⟨rfl, hw⟩ := hrel
      obtain rfl := hw.out
      clear hw d1
      go_wp2_with fail
      go_ret
      exact ⟨rfl, rfl⟩
/-- What is there while compare is evaluated. -/
structure CpS (W : World) (c1 c2 : Int) (L : Nat → Bool) (x : Nat → Value) (w : World) : Prop where
  grw : ∃ q os, w = grow (W.drewN q) os
  z9 : L 9 = true → ∃ g, x 9 = .slice (some ⟨g, 0, none⟩) 2 2 ∧ Row w g 3 #[.int .i64 c1, .int .i64 c2]
theorem below_growR (w : World) (os : Array Obj) : Below w.heap.size w (grow w os) := by
  exact ⟨rfl, rfl, rfl, by simp, fun k hk => heap_grow_old w os hk⟩
section
variable {W : World} {c1 c2 : Int} {L : Nat → Bool} {x : Nat → Value} {w : World}
theorem CpS.bel (h : CpS W c1 c2 L x w) : Below W.heap.size W w := by
  obtain ⟨q, os, rfl⟩ := h.grw
  exact ⟨rfl, rfl, rfl, by simp [World.drewN], fun k hk => heap_grow_old (W.drewN q) os hk⟩
theorem CpS.grow (h : CpS W c1 c2 L x w) (os : Array Obj) : CpS W c1 c2 L x (grow w os) := by
  refine ⟨?_, fun e => ?_⟩
  · obtain ⟨q, os1, rfl⟩ := h.grw
    exact ⟨q, _, grow_grow _ _ _⟩
  · obtain ⟨g, h1, h2⟩ := h.z9 e
    exact ⟨g, h1, h2.below (below_growR w os)⟩
theorem CpS.next (h : CpS W c1 c2 L x w) (i : Nat) (u : Value) (h9 : i ≠ 9) : CpS W c1 c2 (setL L i) (updV x i u) w :=
  ⟨h.grw, fun e => by
    have e : L 9 = true := by simpa [setL, Ne.symm h9] using e
    obtain ⟨g, h1, h2⟩ := h.z9 e
    exact ⟨g, by simp [updV, Ne.symm h9, h1], h2⟩⟩
theorem CpS.put (h : CpS W c1 c2 L x w) : CpS W c1 c2 (setL L 9) (updV x 9 (.slice (some ⟨w.heap.size, 0, none⟩) 2 2)) (w.alloc (.cells #[.int .i64 c1, .int .i64 c2] 3)) := by
  refine ⟨?_, fun _ => ⟨w.heap.size, by simp [updV], Row.new w _ _⟩⟩
  obtain ⟨q, os1, rfl⟩ := h.grw
  exact ⟨q, _, by rw [alloc_eq_grow, grow_grow]⟩
end
set_option maxRecDepth 100000 in
set_option maxHeartbeats 2000000 in
/-- The method compare: it lays blocks and turns nothing. -/
theorem compareP (p q : Pt) (W : World) : Calls Tryz.prog 34 #[.agg #[.int .u64 (p.1 : Nat), .string p.2], .agg #[.int .u64 (q.1 : Nat), .string q.2]] W fun e w' => e = .returned (.int .i64 (cmpP p q)) ∧ ∃ n os', w' = grow (W.drewN n) os' := by
  have k1 := Row.new W 75 #[.int .u64 (p.1 : Nat), .string p.2]
  have k2 := Row.new (W.alloc (.cells #[.int .u64 (p.1 : Nat), .string p.2] 75)) 75 #[.int .u64 (q.1 : Nat), .string q.2]
  have K1 := Lib.hid (k1.alloc (.cells #[.int .u64 (q.1 : Nat), .string q.2] 75))
  rw [World.size_alloc] at k2
  have K2 := Lib.hid k2
  have HG : Hid (∃ os, (W.alloc (.cells #[.int .u64 (p.1 : Nat), .string p.2] 75)).alloc (.cells #[.int .u64 (q.1 : Nat), .string q.2] 75) = grow W os) := ⟨_, by rw [alloc_eq_grow, alloc_eq_grow, grow_grow]⟩
  have HOR : Hid (∀ g w, Row w g 3 #[.int .i64 (cmpU p.1 q.1), .int .i64 (cmpS p.2 q.2)] → Calls Tryz.prog 51 #[.slice (some ⟨g, 0, none⟩) 2 2] w fun e w' => e = .returned (.int .i64 (cmpP p q)) ∧ w' = w) := fun g w h => or74 g _ _ w h
  clear k1 k2
  go_enter Tryz.func34, Tryz.ntmps34
  go_upto_region 1 with fail
  generalize (W.alloc (.cells #[.int .u64 (p.1 : Nat), .string p.2] 75)).alloc (.cells #[.int .u64 (q.1 : Nat), .string q.2] 75) = W2 at *
  generalize hb2 : W.heap.size + 1 = b2 at *
  generalize hb1 : W.heap.size = b1 at *
  clear hb1 hb2
  refine region_mixt 11 [some (.agg #[.int .u64 (p.1 : Nat), .string p.2]), some (.pointer (some ⟨b2, 0, none⟩)), some (.int .u64 (q.1 : Nat)), some (.int .i64 (cmpU p.1 q.1)), some (.pointer (some ⟨b1, 1, none⟩)), some (.string p.2), some (.pointer (some ⟨b2, 1, none⟩)), some (.string q.2), some (.int .i64 (cmpS p.2 q.2)), none, some (.int .i64 (cmpP p q))]
    [[false, false, false, false, false, false, false, false, false, false, false], [false, false, false, false, false, false, false, false, false, false, false], [false, true, false, false, false, false, false, false, false, false, false], [true, false, true, false, false, false, false, false, false, false, false], [false, false, false, false, false, false, false, false, false, false, false], [false, false, false, false, true, false, false, false, false, false, false], [false, false, false, false, false, false, false, false, false, false, false], [false, false, false, false, false, false, true, false, false, false, false], [false, false, false, true, false, true, false, true, false, false, false], [false, false, false, true, false, false, false, false, true, false, false], [false, false, false, false, false, false, false, false, true, true, false]]
    (fun LL xx w9 => CpS W2 (cmpU p.1 q.1) (cmpS p.2 q.2) LL xx w9)
    (by kernel_rfl) (by kernel_rfl) (by kernel_rfl) (by kernel_rfl) (by kernel_rfl) (by decide) ?_ ?_ ?_
  · intro x
    exact ⟨⟨1, #[], by rw [grow_empty]; rfl⟩, fun h => by cases h⟩
  · simp only [List.take_succ_cons, List.take_zero]
    refine ⟨?_, ?_, ?_, ?_, ?_, ?_, ?_, ?_, ?_, ?_, ?_, trivial⟩
    all_goals
      intro L x w9 hS hl hp K9 hK9
      have hs : CpS W2 (cmpU p.1 q.1) (cmpS p.2 q.2) L x w9 := hS
      clear hS
      have q1 := K1.out.below hs.bel
      have q2 := K2.out.below hs.bel
      have r0 : w9.cell? ⟨b1, 0, none⟩ = some (.int .u64 (p.1 : Nat)) := by rw [q1.cell]; rfl
      have r1 : w9.cell? ⟨b1, 1, none⟩ = some (.string p.2) := by rw [q1.cell]; rfl
      have r2 : w9.cell? ⟨b2, 0, none⟩ = some (.int .u64 (q.1 : Nat)) := by rw [q2.cell]; rfl
      have r3 : w9.cell? ⟨b2, 1, none⟩ = some (.string q.2) := by rw [q2.cell]; rfl
      replace hK9 := hK9.out
      simp only [actMix, pickV, List.tail_cons, List.headD_cons, Act.put, List.setIfInBounds_toArray, List.set_cons_zero, List.set_cons_succ] at hK9 ⊢
    · clear hp
      go_simp
      with_reducible refine hK9 _ ?_
      exact hs.next 0 _ (by decide)
    · clear hp
      go_simp
      with_reducible refine hK9 _ ?_
      exact hs.next 1 _ (by decide)
    · clear hp
      go_simp
      with_reducible refine hK9 _ ?_
      exact hs.next 2 _ (by decide)
    · clear hp
      go_simp
      refine (compareV p.1 p.2 q.1 w9).mono ?_
      rintro e w8 ⟨rfl, os8, rfl⟩
      go_simp
      with_reducible refine hK9 _ ?_
      exact (hs.grow os8).next 3 _ (by decide)
    · clear hp
      go_simp
      with_reducible refine hK9 _ ?_
      exact hs.next 4 _ (by decide)
    · clear hp
      go_simp
      with_reducible refine hK9 _ ?_
      exact hs.next 5 _ (by decide)
    · clear hp
      go_simp
      with_reducible refine hK9 _ ?_
      exact hs.next 6 _ (by decide)
    · clear hp
      go_simp
      with_reducible refine hK9 _ ?_
      exact hs.next 7 _ (by decide)
    · clear hp
      go_simp
      refine (compare37 p.2 q.2 w9).mono ?_
      rintro e w8 ⟨rfl, rfl⟩
      go_simp
      with_reducible refine hK9 _ ?_
      exact hs.next 8 _ (by decide)
    · clear hp
      go_simp
      with_reducible refine hK9 _ _ ?_
      exact hs.put
    · obtain ⟨g8, hx8, hr8⟩ := hs.z9 (allL_mem hp 9 (by decide +kernel))
      clear hp
      rw [hx8] at hK9 ⊢
      go_simp
      refine (HOR.out g8 w9 hr8).mono ?_
      rintro e w8 ⟨rfl, rfl⟩
      go_simp
      with_reducible refine hK9 _ ?_
      exact hs.next 10 _ (by decide)
  intro L x w9 hS hL
  have hs : CpS W2 (cmpU p.1 q.1) (cmpS p.2 q.2) L x w9 := hS
  simp only [actMix, pickV, List.tail_cons, List.headD_cons, Act.put, List.setIfInBounds_toArray, List.set_cons_zero, List.set_cons_succ, List.replicate_succ, List.replicate_zero, List.drop_succ_cons, List.drop_zero, List.take_succ_cons, List.take_zero]
  generalize x 9 = xa
  have HR : Hid (∃ n os', w9 = grow (W.drewN n) os') := by
    obtain ⟨n, os, rfl⟩ := hs.grw
    obtain ⟨os1, rfl⟩ := HG.out
    exact ⟨n, os1 ++ os, grow_grow (W.drewN n) os1 os⟩
  clear hS hs hL HG K1 K2
  go_wp2_with fail
  go_ret
  exact ⟨rfl, HR.out⟩
def encP (p : Pt) : List Value := [.int .u64 (p.1 : Nat), .string p.2]
theorem cmpLaysP (blk off size : Nat) (w : World) : CmpLays Tryz.prog 34 #[] encP 2 cmpP blk off size w := fun _ _ _ _ x y => compareP x y _
/-- A point comes before another. -/
def ltPt (p q : Pt) : Prop := p.1 < q.1 ∨ (p.1 = q.1 ∧ nmB p.2 < nmB q.2)
instance (p q : Pt) : Decidable (ltPt p q) := by unfold ltPt; infer_instance
theorem ltP (p q : Pt) : ltOf cmpP p q = decide (ltPt p q) := by
  unfold ltOf cmpP cmpU cmpS ltPt
  by_cases h1 : p.1 < q.1
  · simp [h1]
  · by_cases h2 : q.1 < p.1
    · have : p.1 ≠ q.1 := by omega
      simp [h1, h2, this]
    · have : p.1 = q.1 := by omega
      by_cases h3 : nmB p.2 < nmB q.2
      · simp [h3, this]
      · by_cases h4 : nmB q.2 < nmB p.2 <;> simp [h3, h4, this]
theorem ltPt_trans {p q r : Pt} (h1 : ltPt p q) (h2 : ltPt q r) : ltPt p r := by
  unfold ltPt at *
  rcases h1 with h1 | ⟨h1, h3⟩ <;> rcases h2 with h2 | ⟨h2, h4⟩
  · exact .inl (by omega)
  · exact .inl (by omega)
  · exact .inl (by omega)
  · exact .inr ⟨by omega, List.lt_trans h3 h4⟩
theorem ltPt_irrefl (p : Pt) : ¬ ltPt p p := by
  unfold ltPt
  rintro (h | ⟨_, h⟩)
  · omega
  · exact List.lt_irrefl _ h
theorem ltPt_tri (p q : Pt) (h1 : ¬ ltPt p q) (h2 : ¬ ltPt q p) : p = q := by
  unfold ltPt at *
  have e : p.1 = q.1 := by omega
  have e2 : nmB p.2 = nmB q.2 := List.le_antisymm (List.not_lt.1 fun h => h2 (.inr ⟨e.symm, h⟩)) (List.not_lt.1 fun h => h1 (.inr ⟨e, h⟩))
  exact Prod.ext e (nmB_inj e2)
theorem swoP : SWO (ltOf cmpP) where
  irrefl x := by rw [ltP]; exact decide_eq_false (ltPt_irrefl x)
  trans x y z h1 h2 := by rw [ltP] at *; simp only [decide_eq_true_eq] at *; exact ltPt_trans h1 h2
  ntrans x y z h1 h2 := by
    rw [ltP] at *; simp only [decide_eq_false_iff_not] at *
    intro h3
    by_cases e : ltPt y x
    · exact h2 (ltPt_trans e h3)
    · have := ltPt_tri _ _ h1 e
      subst this
      exact h2 h3
end Go.Proofs.YtklfpnnnoaaiaabGreatDoor

/- maglev.valid. -/
namespace Go.Proofs.YtklfpnnnoaaiaabGreatDoor
open Go.RowKit Go.Maps

theorem run_makeMap_hint {P : Program} {t k e : TypeId} (hu : P.underlying t = some (.map k e)) (q : IntKind) (n : Int) (w : World) : (Instr.makeMap t (some (.int q n))).run P w = .ok (.map (some w.heap.size)) (w.alloc (.map #[] 0)) := by
  simp [Instr.makeMap, run_underlying hu, asInt, asIntOf, Result.andThen]
section
variable (w : World) {ops : Array Oper} {rest : List Oper} {o : Oper} {a : Act} {Q : Exit → Act → World → Prop}
theorem wpl_lenN (hg : o.guard = none) (m : Operand) (hop : o.op = Op.call { callee := Callee.builtin Builtin.len, args := #[m], argTypes := #[80] }) (b n k : Nat) (p : ByteArray → Bool)
    (hm : a.eval m = .map (some b)) (hown : SetN w b n k p) (hK : wpList Tryz.prog ops Q rest (a.put o.dst (.int .i64 (k : Int))) w) :
    wpList Tryz.prog ops Q (o :: rest) a w := by
  obtain ⟨D, ho, _, hk⟩ := hown
  rw [← hk] at hK
  exact wpList_len_own w hg m _ hop _ _ Tryz.underlying80 unitElem b n D hm ho hK
end
def Apart (es : List Ent) : Prop := es.Pairwise fun a b => a.1 ≠ b.1
instance (es : List Ent) : Decidable (Apart es) := by unfold Apart; infer_instance
def okW (e : Ent) : Bool := decide (1 ≤ e.2) && decide (e.2 ≤ 65535)
def validB (es : List Ent) : Bool := es.all okW && decide (Apart es)
def hasN (es : List Ent) (y : ByteArray) : Bool := es.any fun e => decide (e.1 = y)
theorem hasN_step {es : List Ent} {j : Nat} (hj : j < es.length) : (fun y => hasN (es.take j) y || decide (es[j].1 = y)) = hasN (es.take (j + 1)) := by
  funext y
  unfold hasN
  rw [List.take_succ_eq_append_getElem hj, List.any_append]
  simp
theorem apart_step {es : List Ent} {j : Nat} (hj : j < es.length) : Apart (es.take (j + 1)) ↔ Apart (es.take j) ∧ hasN (es.take j) es[j].1 = false := by
  unfold Apart hasN
  rw [List.take_succ_eq_append_getElem hj, List.pairwise_append]
  constructor
  · rintro ⟨h1, _, h3⟩
    refine ⟨h1, List.any_eq_false.2 fun e he => ?_⟩
    have := h3 e he es[j] (by simp)
    simpa using this
  · rintro ⟨h1, h2⟩
    refine ⟨h1, List.pairwise_singleton _ _, fun e he x hx => ?_⟩
    obtain rfl : x = es[j] := by simpa using hx
    have := List.any_eq_false.1 h2 e he
    simpa using this
theorem validB_bad {es : List Ent} {j : Nat} (hj : j < es.length) (h : okW es[j] = false) : validB es = false := by
  unfold validB
  have : es.all okW = false := List.all_eq_false.2 ⟨es[j], List.getElem_mem hj, by rw [h]; simp⟩
  rw [this]; rfl
theorem all_step {es : List Ent} {j : Nat} (hj : j < es.length) (h : ∀ e ∈ es.take j, okW e = true) (h2 : okW es[j] = true) : ∀ e ∈ es.take (j + 1), okW e = true := by
  intro e he
  rw [List.take_succ_eq_append_getElem hj] at he
  rcases List.mem_append.1 he with h3 | h3
  · exact h e h3
  · obtain rfl : e = es[j] := by simpa using h3
    exact h2
set_option maxRecDepth 100000 in
set_option maxHeartbeats 2000000 in
theorem valid24 (a : Option Addr) (c : Nat) (es : List Ent) (hl : es.length ≤ 100000) (hsz : ∀ e ∈ es, e.1.size ≤ maxLen) (w : World) (hf : IsEnts w a c es) :
    Calls Tryz.prog 25 #[.slice a es.length c] w fun e w' => e = .returned (.bool (validB es)) ∧ Below w.heap.size w w' := by
  have HF := Lib.hid hf
  have HZ := Lib.hid hsz
  have hmm := run_makeMap_hint Tryz.underlying80
  have HS0 := Lib.hid (SetN.new w)
  have HB0 := Lib.hid (below_alloc w (.map #[] 0))
  clear hf hsz
  go_enter Tryz.func25, Tryz.ntmps25
  go_wp2_with fail
  obtain ⟨mb, hmb⟩ : ∃ mb, mb = w.heap.size := ⟨_, rfl⟩
  have HMB := Lib.hid hmb
  rw [← hmb] at HS0 ⊢
  clear hmb hmm
  generalize w.alloc (.map #[] 0) = w1 at *
  go_loopw [11] (fun i wr => ∃ (j k : Nat), j ≤ es.length ∧ i = .int .i64 (j : Int) ∧ Hid (SetN wr mb j k (hasN (es.take j))) ∧ Hid (k ≤ j ∧ (k = j ↔ Apart (es.take j))) ∧ Hid (∀ e ∈ es.take j, okW e = true) ∧ Hid (Below w.heap.size w wr)) (fun i _ => es.length - (intOf i).toNat)
  case atStart => exact ⟨0, 0, Nat.zero_le _, rfl, HS0, ⟨Nat.le_refl _, by simp [Apart]⟩, (fun e he => by simp at he), HB0⟩
  case round =>
    clear HS0 HB0
    obtain ⟨j, k, hj, rfl, HS, HK, HW, HB⟩ := hrel
    by_cases hlt : j < es.length
    · obtain h0 | ⟨bk, o, rfl, hbk, hc, hcell⟩ := HF.out.below HB.out
      · subst h0; simp at hlt
      obtain ⟨c1, c2⟩ := hcell j es[j] (by simp [hlt])
      have j1 : (j : Int) < es.length := by omega
      have hz := HZ.out es[j] (List.getElem_mem hlt)
      have HBAD := Lib.hid (validB_bad (es := es) hlt)
      have HSTP := Lib.hid (hasN_step (es := es) hlt)
      have HAP := Lib.hid (apart_step (es := es) hlt)
      have HALL := Lib.hid (all_step (es := es) hlt HW.out)
      have hokd : okW es[j] = (decide (1 ≤ es[j].2) && decide (es[j].2 ≤ 65535)) := rfl
      obtain ⟨e, he⟩ : ∃ e, e = es[j] := ⟨_, rfl⟩
      rw [← he] at c1 c2 hz HBAD HSTP HAP HALL hokd
      clear hcell he
      obtain ⟨N, V⟩ := e
      simp only at c1 c2 hz hokd
      have HBA := Lib.hid (HB.out.alloc HB.out.size (.cells #[.string N, .int .i64 V] 63))
      have HSA := Lib.hid (HS.out.alloc (.cells #[.string N, .int .i64 V] 63))
      by_cases h1 : V < 1
      · have hb : okW (N, V) = false := by rw [hokd, decide_eq_false (by omega)]; rfl
        have HV := Lib.hid (HBAD.out hb)
        clear hokd
        go_wp2_with fail
        go_ret
        exact ⟨by rw [HV.out]; rfl, HBA.out⟩
      by_cases h2 : 65535 < V
      · have hb : okW (N, V) = false := by rw [hokd, decide_eq_true (by omega), decide_eq_false (by omega)]; rfl
        have HV := Lib.hid (HBAD.out hb)
        clear hokd
        go_wp2_with fail
        go_ret
        exact ⟨by rw [HV.out]; rfl, HBA.out⟩
      have hb : okW (N, V) = true := by rw [hokd, decide_eq_true (by omega), decide_eq_true (by omega)]; rfl
      have HA2 := Lib.hid (HALL.out hb)
      clear hokd
      go_wp2_with (at_mapUpdate; refine wpl_markN _ rfl _ _ _ rfl mb _ k _ rfl HSA.out (by unfold maxLen; omega) N rfl rfl hz ?_; intro w9 hm9 hg9)
      have HB9 : Hid (Below w.heap.size w w9) := HBA.out.grown hg9 HBA.out.size (fun q e => by injection e with e; rw [← e, HMB.out]; exact Nat.le_refl _)
      simp only at HSTP HAP
      rw [HSTP.out] at hm9
      have HS9 := Lib.hid hm9
      have HK9 : Hid ((if hasN (es.take j) N then k else k + 1) ≤ j + 1 ∧ ((if hasN (es.take j) N then k else k + 1) = j + 1 ↔ Apart (es.take (j + 1)))) := by
        obtain ⟨k1, k2⟩ := HK.out
        show _ ∧ _
        rw [HAP.out, ← k2]
        cases hasN (es.take j) N
        · simp; omega
        · simp; omega
      clear hm9 hg9 HSA HBA HS HB HK
      go_wp2_with fail
      go_roundw
      case rel => exact ⟨j + 1, _, hlt, by go_num, HS9, HK9, HA2, HB9⟩
      case measure => simp [intOf]; omega
    · obtain rfl : j = es.length := by omega
      have hne : ¬ (es.length : Int) < es.length := by omega
      have hvb : validB es = ((k : Int) == (es.length : Int)) := by
        have hw := HW.out
        obtain ⟨k1, k2⟩ := HK.out
        rw [List.take_length] at hw k2
        unfold validB
        rw [List.all_eq_true.2 hw, Bool.true_and]
        by_cases h : k = es.length
        · rw [decide_eq_true (k2.1 h), h]; simp
        · rw [decide_eq_false (fun h2 => h (k2.2 h2))]
          exact (beq_eq_false_iff_ne.2 (by omega)).symm
      have HVB := Lib.hid hvb
      clear hvb
      go_wp2_with (at_len; refine wpl_lenN _ rfl _ rfl mb _ k _ rfl HS.out ?_)
      go_ret
      exact ⟨by rw [HVB.out]; rfl, HB.out⟩
end Go.Proofs.YtklfpnnnoaaiaabGreatDoor

/- ring: distinct, permitted, greatestWeight. -/
namespace Go.Proofs.YtklfpnnnoaaiaabGreatDoor
open Go.RowKit Go.Maps

set_option maxRecDepth 100000 in
set_option maxHeartbeats 2000000 in
theorem distinct48 (a : Option Addr) (c : Nat) (es : List Ent) (hl : es.length ≤ 100000) (hsz : ∀ e ∈ es, e.1.size ≤ maxLen) (w : World) (hf : IsEnts w a c es) :
    Calls Tryz.prog 29 #[.slice a es.length c] w fun e w' => e = .returned (.bool (decide (Apart es))) ∧ Below w.heap.size w w' := by
  have HF := Lib.hid hf
  have HZ := Lib.hid hsz
  have hmm := run_makeMap_hint Tryz.underlying80
  have HS0 := Lib.hid (SetN.new w)
  have HB0 := Lib.hid (below_alloc w (.map #[] 0))
  clear hf hsz
  go_enter Tryz.func29, Tryz.ntmps29
  go_wp2_with fail
  obtain ⟨mb, hmb⟩ : ∃ mb, mb = w.heap.size := ⟨_, rfl⟩
  have HMB := Lib.hid hmb
  rw [← hmb] at HS0 ⊢
  clear hmb hmm
  generalize w.alloc (.map #[] 0) = w1 at *
  go_loopw [11] (fun i wr => ∃ (j k : Nat), j ≤ es.length ∧ i = .int .i64 (j : Int) ∧ Hid (SetN wr mb j k (hasN (es.take j))) ∧ Hid (k ≤ j ∧ (k = j ↔ Apart (es.take j))) ∧ Hid (Below w.heap.size w wr)) (fun i _ => es.length - (intOf i).toNat)
  case atStart => exact ⟨0, 0, Nat.zero_le _, rfl, HS0, ⟨Nat.le_refl _, by simp [Apart]⟩, HB0⟩
  case round =>
    clear HS0 HB0
    obtain ⟨j, k, hj, rfl, HS, HK, HB⟩ := hrel
    by_cases hlt : j < es.length
    · obtain h0 | ⟨bk, o, rfl, hbk, hc, hcell⟩ := HF.out.below HB.out
      · subst h0; simp at hlt
      obtain ⟨c1, c2⟩ := hcell j es[j] (by simp [hlt])
      have j1 : (j : Int) < es.length := by omega
      have hz := HZ.out es[j] (List.getElem_mem hlt)
      have HSTP := Lib.hid (hasN_step (es := es) hlt)
      have HAP := Lib.hid (apart_step (es := es) hlt)
      obtain ⟨e, he⟩ : ∃ e, e = es[j] := ⟨_, rfl⟩
      rw [← he] at c1 c2 hz HSTP HAP
      clear hcell he
      obtain ⟨N, V⟩ := e
      simp only at c1 c2 hz
      have HBA := Lib.hid (HB.out.alloc HB.out.size (.cells #[.string N, .int .i64 V] 73))
      have HSA := Lib.hid (HS.out.alloc (.cells #[.string N, .int .i64 V] 73))
      go_wp2_with (at_mapUpdate; refine wpl_markN _ rfl _ _ _ rfl mb _ k _ rfl HSA.out (by unfold maxLen; omega) N rfl rfl hz ?_; intro w9 hm9 hg9)
      have HB9 : Hid (Below w.heap.size w w9) := HBA.out.grown hg9 HBA.out.size (fun q e => by injection e with e; rw [← e, HMB.out]; exact Nat.le_refl _)
      simp only at HSTP HAP
      rw [HSTP.out] at hm9
      have HS9 := Lib.hid hm9
      have HK9 : Hid ((if hasN (es.take j) N then k else k + 1) ≤ j + 1 ∧ ((if hasN (es.take j) N then k else k + 1) = j + 1 ↔ Apart (es.take (j + 1)))) := by
        obtain ⟨k1, k2⟩ := HK.out
        show _ ∧ _
        rw [HAP.out, ← k2]
        cases hasN (es.take j) N
        · simp; omega
        · simp; omega
      clear hm9 hg9 HSA HBA HS HB HK
      go_wp2_with fail
      go_roundw
      case rel => exact ⟨j + 1, _, hlt, by go_num, HS9, HK9, HB9⟩
      case measure => simp [intOf]; omega
    · obtain rfl : j = es.length := by omega
      have hne : ¬ (es.length : Int) < es.length := by omega
      have hvb : decide (Apart es) = ((k : Int) == (es.length : Int)) := by
        obtain ⟨k1, k2⟩ := HK.out
        rw [List.take_length] at k2
        by_cases h : k = es.length
        · rw [decide_eq_true (k2.1 h), h]; simp
        · rw [decide_eq_false (fun h2 => h (k2.2 h2))]
          exact (beq_eq_false_iff_ne.2 (by omega)).symm
      have HVB := Lib.hid hvb
      clear hvb
      go_wp2_with (at_len; refine wpl_lenN _ rfl _ rfl mb _ k _ rfl HS.out ?_)
      go_ret
      exact ⟨by rw [HVB.out]; rfl, HB.out⟩
theorem notOk70 (N : ByteArray) (V : Int) (w : World) : Calls Tryz.prog 47 #[.agg #[.string N, .int .i64 V]] w fun e w' => e = .returned (.bool (!okW (N, V))) ∧ Below w.heap.size w w' := by
  have HB := Lib.hid (below_alloc w (.cells #[.string N, .int .i64 V] 73))
  have hokd : okW (N, V) = (decide (1 ≤ V) && decide (V ≤ 65535)) := rfl
  by_cases h1 : V < 1
  · rw [hokd, decide_eq_false (by omega)]
    clear hokd
    go_enter Tryz.func47, Tryz.ntmps47
    go_wp2_with fail
    go_ret
    exact ⟨rfl, HB.out⟩
  · by_cases h2 : 65535 < V
    · rw [hokd, decide_eq_true (by omega), decide_eq_false (by omega)]
      clear hokd
      go_enter Tryz.func47, Tryz.ntmps47
      go_wp2_with fail
      go_ret
      exact ⟨rfl, HB.out⟩
    · rw [hokd, decide_eq_true (by omega), decide_eq_true (by omega)]
      clear hokd
      go_enter Tryz.func47, Tryz.ntmps47
      go_wp2_with fail
      go_ret
      exact ⟨rfl, HB.out⟩
set_option maxHeartbeats 1000000 in
theorem index90 (a : Option Addr) (c : Nat) (es : List Ent) (hl : es.length ≤ 100000) (w : World) (hf : IsEnts w a c es) :
    Calls Tryz.prog 66 #[.slice a es.length c, .func (.func 47) #[] #[]] w fun e w' => (∃ r : Int, e = .returned (.int .i64 r) ∧ decide (0 ≤ r) = !es.all okW) ∧ Below w.heap.size w w' := by
  have HF := Lib.hid hf
  have HN := Lib.hid (fun N V W => notOk70 N V W)
  clear hf
  have HB0 := Lib.hid (Below.refl w.heap.size w)
  go_enter Tryz.func66, Tryz.ntmps66
  go_wp2_with fail
  go_loopw [8] (fun i wr => ∃ j : Nat, j ≤ es.length ∧ i = .int .i64 (j : Int) ∧ Hid (∀ e ∈ es.take j, okW e = true) ∧ Hid (Below w.heap.size w wr)) (fun i _ => es.length - (intOf i).toNat)
  case atStart => exact ⟨0, Nat.zero_le _, rfl, (fun e he => by simp at he), HB0⟩
  case round =>
    clear HB0
    obtain ⟨j, hj, rfl, HW, HB⟩ := hrel
    by_cases hlt : j < es.length
    · obtain h0 | ⟨bk, o, rfl, hbk, hc, hcell⟩ := HF.out.below HB.out
      · subst h0; simp at hlt
      obtain ⟨c1, c2⟩ := hcell j es[j] (by simp [hlt])
      have j1 : (j : Int) < es.length := by omega
      have HALL := Lib.hid (all_step (es := es) hlt HW.out)
      have HME : Hid (es[j] ∈ es) := List.getElem_mem hlt
      generalize es[j] = e at *
      obtain ⟨N, V⟩ := e
      simp only at c1 c2
      clear hcell
      cases hok : okW (N, V) with
      | true =>
        have HA2 := Lib.hid (HALL.out hok)
        have hn := HN.out N V wr
        rw [hok] at hn
        have HN1 : Hid (Calls Tryz.prog 47 #[.agg #[.string N, .int .i64 V]] wr fun e w' => e = .returned (.bool false) ∧ Below wr.heap.size wr w') := hn
        clear hn hok
        go_wp2_with (go_at_call 47; refine HN1.out.mono ?_; rintro e w9 ⟨rfl, hb9⟩; have HB9 := Lib.hid (HB.out.trans (hb9.mono HB.out.size)); clear hb9)
        go_roundw
        case rel => exact ⟨j + 1, hlt, by go_num, HA2, HB9⟩
        case measure => simp [intOf]; omega
      | false =>
        have hn := HN.out N V wr
        rw [hok] at hn
        have HN1 : Hid (Calls Tryz.prog 47 #[.agg #[.string N, .int .i64 V]] wr fun e w' => e = .returned (.bool true) ∧ Below wr.heap.size wr w') := hn
        have HBD : Hid (es.all okW = false) := List.all_eq_false.2 ⟨_, HME.out, by rw [hok]; simp⟩
        clear hn hok
        go_wp2_with (go_at_call 47; refine HN1.out.mono ?_; rintro e w9 ⟨rfl, hb9⟩; have HB9 := Lib.hid (HB.out.trans (hb9.mono HB.out.size)); clear hb9)
        go_ret
        exact ⟨⟨_, rfl, by rw [HBD.out]; exact decide_eq_true (by omega)⟩, HB9.out⟩
    · obtain rfl : j = es.length := by omega
      have hne : ¬ (es.length : Int) < es.length := by omega
      have hall := HW.out
      rw [List.take_length] at hall
      have HAL : Hid (es.all okW = true) := List.all_eq_true.2 hall
      clear hall
      go_wp2_with fail
      go_ret
      exact ⟨⟨_, rfl, by rw [HAL.out]; rfl⟩, HB.out⟩
theorem contains69 (a : Option Addr) (c : Nat) (es : List Ent) (hl : es.length ≤ 100000) (w : World) (hf : IsEnts w a c es) :
    Calls Tryz.prog 46 #[.slice a es.length c, .func (.func 47) #[] #[]] w fun e w' => e = .returned (.bool (!es.all okW)) ∧ Below w.heap.size w w' := by
  have HI := Lib.hid (index90 a c es hl w hf)
  clear hf
  go_enter Tryz.func46, Tryz.ntmps46
  go_wp2_with (go_at_call 66; refine HI.out.mono ?_; rintro e w9 ⟨⟨r, rfl, hr⟩, hb9⟩; have HR := Lib.hid hr; have HB := Lib.hid hb9; clear hr hb9)
  go_ret
  exact ⟨by rw [← HR.out]; rfl, HB.out⟩
theorem permitted49 (a : Option Addr) (c : Nat) (es : List Ent) (hl : es.length ≤ 100000) (w : World) (hf : IsEnts w a c es) :
    Calls Tryz.prog 30 #[.slice a es.length c] w fun e w' => e = .returned (.bool (es.all okW)) ∧ Below w.heap.size w w' := by
  have HI := Lib.hid (contains69 a c es hl w hf)
  clear hf
  generalize es.all okW = r at *
  go_enter Tryz.func30, Tryz.ntmps30
  go_wp2_with (go_at_call 46; refine HI.out.mono ?_; rintro e w9 ⟨rfl, hb9⟩; have HB := Lib.hid hb9; clear hb9)
  go_ret
  exact ⟨by simp, HB.out⟩
/-- The greatest weight. -/
def gmE : List Ent → Int
  | [] => 0
  | e :: l => max e.2 (gmE l)
theorem gmE_snoc (l : List Ent) (e : Ent) : gmE (l ++ [e]) = max (gmE l) (max e.2 0) := by
  induction l with
  | nil => show max e.2 0 = max 0 (max e.2 0); omega
  | cons x l ih => show max x.2 (gmE (l ++ [e])) = max (max x.2 (gmE l)) (max e.2 0); rw [ih]; omega
theorem gmE_nonneg : ∀ l, 0 ≤ gmE l
  | [] => Int.le_refl _
  | e :: l => by show 0 ≤ max e.2 (gmE l); have := gmE_nonneg l; omega
theorem gmE_step {l : List Ent} {j : Nat} (hj : j < l.length) : gmE (l.take (j + 1)) = max (gmE (l.take j)) l[j].2 := by
  rw [List.take_succ_eq_append_getElem hj, gmE_snoc]
  have := gmE_nonneg (l.take j)
  omega
set_option maxHeartbeats 1000000 in
theorem greatest50 (a : Option Addr) (c : Nat) (es : List Ent) (hl : es.length ≤ 100000) (w : World) (hf : IsEnts w a c es) :
    Calls Tryz.prog 31 #[.slice a es.length c] w fun e w' => e = .returned (.int .i64 (gmE es)) ∧ Below w.heap.size w w' := by
  have HF := Lib.hid hf
  clear hf
  have HB0 := Lib.hid (Below.refl w.heap.size w)
  go_enter Tryz.func31, Tryz.ntmps31
  go_wp2_with fail
  go_loopw [3, 8] (fun g i wr => ∃ j : Nat, j ≤ es.length ∧ g = .int .i64 (gmE (es.take j)) ∧ i = .int .i64 (j : Int) ∧ Hid (Below w.heap.size w wr)) (fun _ i _ => es.length - (intOf i).toNat)
  case atStart => exact ⟨0, Nat.zero_le _, rfl, rfl, HB0⟩
  case round =>
    clear HB0
    obtain ⟨j, hj, rfl, rfl, HB⟩ := hrel
    by_cases hlt : j < es.length
    · obtain h0 | ⟨bk, o, rfl, hbk, hc, hcell⟩ := HF.out.below HB.out
      · subst h0; simp at hlt
      obtain ⟨c1, c2⟩ := hcell j es[j] (by simp [hlt])
      have j1 : (j : Int) < es.length := by omega
      have HG := Lib.hid (gmE_step (l := es) hlt)
      generalize es[j] = e at *
      obtain ⟨N, V⟩ := e
      simp only at c1 c2 HG
      generalize gmE (es.take j) = G at *
      have HBA := Lib.hid (HB.out.alloc HB.out.size (.cells #[.string N, .int .i64 V] 73))
      clear hcell
      go_wp2_with fail
      go_roundw
      case rel => exact ⟨j + 1, hlt, by rw [HG.out], by go_num, HBA⟩
      case measure => simp [intOf]; omega
    · obtain rfl : j = es.length := by omega
      have hne : ¬ (es.length : Int) < es.length := by omega
      rw [List.take_length]
      go_wp2_with fail
      go_ret
      exact ⟨rfl, HB.out⟩
end Go.Proofs.YtklfpnnnoaaiaabGreatDoor

/- The contracts of the rotations: math/bits.RotateLeft64 and the reference's turn. -/
namespace Go.Proofs.YtklfpnnnoaaiaabGreatDoor
open Go.RowKit

/-- A word turned left by so many bits, as Go computes it. -/
def rotl (a k : Int) : Int := bits .or .u64 (IntKind.u64.wrap (a * 2 ^ k.toNat)) (a / 2 ^ (64 - k).toNat)

set_option maxHeartbeats 400000 in
theorem rotl64 (a : Int) (k : Int) (h0 : 0 < k) (h1 : k < 64) (w : World) :
    Calls Tryz.prog 111 #[.int .u64 a, .int .i64 k] w fun e w' => e = .returned (.int .u64 (rotl a k)) ∧ w = w' := by
  have hb : bits .and .u64 k 63 = k := by
    rw [u64_and _ _ (by omega) (by omega) (by omega) (by omega), show (63 : Int).toNat = 63 from rfl, nat_mask6, Nat.mod_eq_of_lt (by omega)]; omega
  go_enter Tryz.func111, Tryz.ntmps111
  go_wp2
  go_ret
  exact ⟨rfl, rfl⟩

end Go.Proofs.YtklfpnnnoaaiaabGreatDoor

/- SipHash, the program's own: round. -/
namespace Go.Proofs.YtklfpnnnoaaiaabGreatDoor
open Go.RowKit

/-- Four words. -/
structure V4 where
  a : Int
  b : Int
  c : Int
  d : Int
def V4.val (v : V4) : Value := .agg #[.int .u64 v.a, .int .u64 v.b, .int .u64 v.c, .int .u64 v.d]

def xo (a b : Int) : Int := bits .xor .u64 a b
def ad (a b : Int) : Int := IntKind.u64.wrap (a + b)

/-- One round. -/
def rnd (v : V4) : V4 :=
  let a := ad v.a v.b
  let b := xo (rotl v.b 13) a
  let a := rotl a 32
  let c := ad v.c v.d
  let d := xo (rotl v.d 16) c
  let a := ad a d
  let d := xo (rotl d 21) a
  let c := ad c b
  let b := xo (rotl b 17) c
  let c := rotl c 32
  ⟨a, b, c, d⟩

set_option maxHeartbeats 400000 in
set_option maxRecDepth 100000 in
theorem round53 (a b c d : Int) (w : World) :
    Calls Tryz.prog 103 #[.agg #[.int .u64 a, .int .u64 b, .int .u64 c, .int .u64 d]] w fun e w' => e = .returned (.agg #[.int .u64 (rnd ⟨a, b, c, d⟩).a, .int .u64 (rnd ⟨a, b, c, d⟩).b, .int .u64 (rnd ⟨a, b, c, d⟩).c, .int .u64 (rnd ⟨a, b, c, d⟩).d]) ∧ Below w.heap.size w w' := by
  go_enter Tryz.func103, Tryz.ntmps103
  go_wp2_with (go_at_call 111; refine (rotl64 _ _ (by decide) (by decide) _).mono ?_; rintro e w' ⟨rfl, rfl⟩)
  refine region_tail 7 (by kernel_rfl) (by kernel_rfl) ?_
  simp only [List.take_succ_cons, List.take_zero, List.drop_succ_cons, List.drop_zero]
  still_step
  still_step
  still_call (calls_flip (rotl64 _ _ (by decide) (by decide) _))
  still_step
  still_step
  still_step
  still_step
  refine still_tail_nil ?_
  go_wp2_with (go_at_call 111; refine (rotl64 _ _ (by decide) (by decide) _).mono ?_; rintro e w' ⟨rfl, rfl⟩)
  refine region_tail 7 (by kernel_rfl) (by kernel_rfl) ?_
  simp only [List.take_succ_cons, List.take_zero, List.drop_succ_cons, List.drop_zero]
  still_step
  still_step
  still_call (calls_flip (rotl64 _ _ (by decide) (by decide) _))
  still_step
  still_step
  still_step
  still_step
  refine still_tail_nil ?_
  go_wp2_with (go_at_call 111; refine (rotl64 _ _ (by decide) (by decide) _).mono ?_; rintro e w' ⟨rfl, rfl⟩)
  refine region_tail 7 (by kernel_rfl) (by kernel_rfl) ?_
  simp only [List.take_succ_cons, List.take_zero, List.drop_succ_cons, List.drop_zero]
  still_step
  still_step
  still_call (calls_flip (rotl64 _ _ (by decide) (by decide) _))
  still_step
  still_step
  still_step
  still_step
  refine still_tail_nil ?_
  go_wp2_with (go_at_call 111; refine (rotl64 _ _ (by decide) (by decide) _).mono ?_; rintro e w' ⟨rfl, rfl⟩)
  refine region_tail 7 (by kernel_rfl) (by kernel_rfl) ?_
  simp only [List.take_succ_cons, List.take_zero, List.drop_succ_cons, List.drop_zero]
  still_step
  still_step
  still_call (calls_flip (rotl64 _ _ (by decide) (by decide) _))
  still_step
  still_step
  still_step
  still_step
  refine still_tail_nil ?_
  go_wp2_with (go_at_call 111; refine (rotl64 _ _ (by decide) (by decide) _).mono ?_; rintro e w' ⟨rfl, rfl⟩)
  refine bodyPost_ret (v := (rnd ⟨a, b, c, d⟩).val) ?_ rfl ⟨rfl, (((((((Below.refl _ _).alloc (Nat.le_refl _) _).alloc (by simp) _).drew).drew).drew).drew)⟩
  simp [results, Tryz.results103, go_sem]
  rfl
end Go.Proofs.YtklfpnnnoaaiaabGreatDoor

/- SipHash, the program's own: rounds. -/
namespace Go.Proofs.YtklfpnnnoaaiaabGreatDoor
open Go.RowKit

/-- So many rounds. -/
def rnds : Nat → V4 → V4
  | 0, v => v
  | k + 1, v => rnd (rnds k v)

/-- A block whose first four cells are these words. -/
def Four (w : World) (b : Nat) (v : V4) : Prop :=
  (w.cell? ⟨b, 0, none⟩ = some (.int .u64 v.a) ∧ w.cell? ⟨b, 1, none⟩ = some (.int .u64 v.b) ∧ w.cell? ⟨b, 2, none⟩ = some (.int .u64 v.c) ∧ w.cell? ⟨b, 3, none⟩ = some (.int .u64 v.d)) ∧
  (w.frozen? ⟨b, 0, none⟩ = false ∧ w.frozen? ⟨b, 1, none⟩ = false ∧ w.frozen? ⟨b, 2, none⟩ = false ∧ w.frozen? ⟨b, 3, none⟩ = false)
set_option maxRecDepth 100000 in
theorem Four.below {w w' : World} {b : Nat} {v : V4} (h : Four w b v) (hb : Below w.heap.size w w') (hlt : b < w.heap.size) : Four w' b v := by
  obtain ⟨hc, hf⟩ := bcell hb
  simpa [Four, hc _ _ hlt, hf _ _ hlt] using h

/-- The four words stored anew. -/
def put4 (w : World) (b : Nat) (x y z t : Int) : World :=
  (((w.setCell ⟨b, 0, none⟩ (.int .u64 x)).setCell ⟨b, 1, none⟩ (.int .u64 y)).setCell ⟨b, 2, none⟩ (.int .u64 z)).setCell ⟨b, 3, none⟩ (.int .u64 t)
set_option maxRecDepth 100000 in
theorem Four.put {w : World} {b : Nat} {v : V4} (h : Four w b v) (x y z t : Int) : Four (put4 w b x y z t) b ⟨x, y, z, t⟩ := by
  obtain ⟨⟨c0, c1, c2, c3⟩, f0, f1, f2, f3⟩ := h
  simp [Four, put4, go_sem, c0, c1, c2, c3, f0, f1, f2, f3]
set_option maxRecDepth 100000 in
theorem Four.other {w : World} {b b' : Nat} {v : V4} (h : Four w b v) (hne : b' ≠ b) (x y z t : Int) : Four (put4 w b' x y z t) b v := by
  obtain ⟨⟨c0, c1, c2, c3⟩, f0, f1, f2, f3⟩ := h
  have hne' := hne
  simp [Four, put4, go_sem, c0, c1, c2, c3, f0, f1, f2, f3]
set_option maxRecDepth 100000 in
theorem Four.setOther {w : World} {b b' o : Nat} {v : V4} {x : Value} (h : Four w b v) (hne : b' ≠ b) : Four (w.setCell ⟨b', o, none⟩ x) b v := by
  obtain ⟨⟨c0, c1, c2, c3⟩, f0, f1, f2, f3⟩ := h
  have hne' := hne
  simp [Four, go_sem, c0, c1, c2, c3, f0, f1, f2, f3]
set_option maxRecDepth 100000 in
theorem put4_size (w : World) (b : Nat) (x y z t : Int) : (put4 w b x y z t).heap.size = w.heap.size := by simp [put4]
theorem below_put4 {B : Nat} {a w : World} (h : Below B a w) {b : Nat} (hb : B ≤ b) (x y z t : Int) : Below B a (put4 w b x y z t) :=
  (((h.setCell (p := ⟨b, 0, none⟩) hb _).setCell (p := ⟨b, 1, none⟩) hb _).setCell (p := ⟨b, 2, none⟩) hb _).setCell (p := ⟨b, 3, none⟩) hb _

set_option maxHeartbeats 400000 in
set_option maxRecDepth 100000 in
theorem rounds45 (a b c d : Int) (n : Int) (h0 : 0 ≤ n) (h1 : n ≤ 100) (w : World) :
    Calls Tryz.prog 84 #[.agg #[.int .u64 a, .int .u64 b, .int .u64 c, .int .u64 d], .int .i64 n] w fun e w' => e = .returned (.agg #[.int .u64 (rnds n.toNat ⟨a, b, c, d⟩).a, .int .u64 (rnds n.toNat ⟨a, b, c, d⟩).b, .int .u64 (rnds n.toNat ⟨a, b, c, d⟩).c, .int .u64 (rnds n.toNat ⟨a, b, c, d⟩).d]) ∧ Below w.heap.size w w' := by
  go_enter Tryz.func84, Tryz.ntmps84
  go_wp2
  go_loopw [6] (fun i wr => ∃ k : Nat, (k : Int) ≤ n ∧ i = .int .i64 k ∧ w.heap.size + 1 < wr.heap.size ∧ Four wr w.heap.size (rnds k ⟨a, b, c, d⟩) ∧ Four wr (w.heap.size + 1) ⟨0, 0, 0, 0⟩ ∧ Below w.heap.size w wr)
    (fun i _ => n.toNat - (intOf i).toNat)
  case atStart => exact ⟨0, by simpa using h0, rfl, by simp, by simp [Four, rnds], by simp [Four], ((Below.refl _ _).alloc (Nat.le_refl _) _).alloc (by simp) _⟩
  case round =>
    obtain ⟨k, hk, rfl, hz, hF, hG, hbel⟩ := hrel
    have hs : rnds (k + 1) ⟨a, b, c, d⟩ = rnd (rnds k ⟨a, b, c, d⟩) := rfl
    generalize hv : rnds k ⟨a, b, c, d⟩ = v at *
    obtain ⟨va, vb, vc, vd⟩ := v
    have HV := Lib.hid hv
    have HS := Lib.hid hs
    clear hv hs
    obtain ⟨⟨c0, c1, c2, c3⟩, f0, f1, f2, f3⟩ := hF
    obtain ⟨⟨r0, r1, r2, r3⟩, g0, g1, g2, g3⟩ := hG
    by_cases hlt : (k : Int) < n
    · have hF : Four wr w.heap.size ⟨va, vb, vc, vd⟩ := ⟨⟨c0, c1, c2, c3⟩, f0, f1, f2, f3⟩
      have hG : Four wr (w.heap.size + 1) ⟨0, 0, 0, 0⟩ := ⟨⟨r0, r1, r2, r3⟩, g0, g1, g2, g3⟩
      go_wp2_with (go_at_call 103; refine (round53 _ _ _ _ _).mono ?_; rintro e w1 ⟨rfl, hb1⟩; have hF1 := hF.below hb1 (by omega); obtain ⟨⟨d0, d1, d2, d3⟩, e0, e1, e2, e3⟩ := (id hF1 : Four _ _ _); have hG1 := hG.below hb1 (by omega); have hz1 := hb1.size)
      go_roundw
      case rel =>
        refine ⟨k + 1, by omega, by go_num, ?_, ?_, ?_, ?_⟩
        · simp; omega
        · rw [HS.out]; exact hF1.put _ _ _ _
        · exact hG1.other (by omega) _ _ _ _
        · exact below_put4 (hbel.trans (hb1.mono (by omega))) (Nat.le_refl _) _ _ _ _
      case measure => simp [intOf]; omega
    · go_wp2
      have hk' : k = n.toNat := by omega
      refine bodyPost_ret (v := .agg #[.int .u64 va, .int .u64 vb, .int .u64 vc, .int .u64 vd]) ?_ rfl ⟨by rw [← hk', HV.out], ?_⟩
      · have hG : Four wr (w.heap.size + 1) ⟨0, 0, 0, 0⟩ := ⟨⟨r0, r1, r2, r3⟩, g0, g1, g2, g3⟩
        obtain ⟨⟨d0, d1, d2, d3⟩, _⟩ := hG.put va vb vc vd
        unfold put4 at d0 d1 d2 d3
        simp [results, Tryz.results84, go_sem, d0, d1, d2, d3]
      · exact below_put4 hbel (by omega) _ _ _ _
set_option maxRecDepth 100000 in
theorem rounds_2 (a b c d : Int) (w : World) :
    Calls Tryz.prog 84 #[.agg #[.int .u64 a, .int .u64 b, .int .u64 c, .int .u64 d], .int .i64 2] w fun e w' => e = .returned (.agg #[.int .u64 (rnds 2 ⟨a, b, c, d⟩).a, .int .u64 (rnds 2 ⟨a, b, c, d⟩).b, .int .u64 (rnds 2 ⟨a, b, c, d⟩).c, .int .u64 (rnds 2 ⟨a, b, c, d⟩).d]) ∧ Below w.heap.size w w' :=
  rounds45 a b c d 2 (by decide) (by decide) w
set_option maxRecDepth 100000 in
theorem rounds_4 (a b c d : Int) (w : World) :
    Calls Tryz.prog 84 #[.agg #[.int .u64 a, .int .u64 b, .int .u64 c, .int .u64 d], .int .i64 4] w fun e w' => e = .returned (.agg #[.int .u64 (rnds 4 ⟨a, b, c, d⟩).a, .int .u64 (rnds 4 ⟨a, b, c, d⟩).b, .int .u64 (rnds 4 ⟨a, b, c, d⟩).c, .int .u64 (rnds 4 ⟨a, b, c, d⟩).d]) ∧ Below w.heap.size w w' :=
  rounds45 a b c d 4 (by decide) (by decide) w
end Go.Proofs.YtklfpnnnoaaiaabGreatDoor

/- SipHash, the program's own: absorb, finish. -/
namespace Go.Proofs.YtklfpnnnoaaiaabGreatDoor
open Go.RowKit

/-- One word absorbed. -/
def absorb (v : V4) (m : Int) : V4 :=
  let u := rnds 2 ⟨v.a, v.b, v.c, xo v.d m⟩
  ⟨xo u.a m, u.b, u.c, u.d⟩
/-- The end. -/
def finish (v : V4) : Int :=
  let u := rnds 4 ⟨v.a, v.b, xo v.c 255, v.d⟩
  xo (xo (xo u.a u.b) u.c) u.d

set_option maxHeartbeats 400000 in
set_option maxRecDepth 100000 in
theorem absorb27 (a b c d m : Int) (w : World) :
    Calls Tryz.prog 61 #[.agg #[.int .u64 a, .int .u64 b, .int .u64 c, .int .u64 d], .int .u64 m] w fun e w' => e = .returned (.agg #[.int .u64 (absorb ⟨a, b, c, d⟩ m).a, .int .u64 (absorb ⟨a, b, c, d⟩ m).b, .int .u64 (absorb ⟨a, b, c, d⟩ m).c, .int .u64 (absorb ⟨a, b, c, d⟩ m).d]) ∧ Below w.heap.size w w' := by
  go_enter Tryz.func61, Tryz.ntmps61
  go_wp2_with fail
  refine (rounds_2 _ _ _ _ _).mono ?_
  rintro e w1 ⟨rfl, hb1⟩
  have hF := Four.below (v := ⟨a, b, c, bits .xor .u64 d m⟩) (b := w.heap.size) (by simp [Four]) hb1 (by simp <;> omega)
  have hG := Four.below (v := ⟨0, 0, 0, 0⟩) (b := w.heap.size + 1) (by simp [Four]) hb1 (by simp <;> omega)
  have hz1 := hb1.size
  simp at hz1
  have hbel : Below w.heap.size w w1 := (((Below.refl _ _).alloc (Nat.le_refl _) _).alloc (by simp) _).trans (hb1.mono (by simp; omega))
  clear hb1
  have hh : absorb ⟨a, b, c, d⟩ m = ⟨bits .xor .u64 (rnds 2 ⟨a, b, c, bits .xor .u64 d m⟩).a m, (rnds 2 ⟨a, b, c, bits .xor .u64 d m⟩).b, (rnds 2 ⟨a, b, c, bits .xor .u64 d m⟩).c, (rnds 2 ⟨a, b, c, bits .xor .u64 d m⟩).d⟩ := rfl
  generalize hv : rnds 2 ⟨a, b, c, bits .xor .u64 d m⟩ = v at *
  obtain ⟨va, vb, vc, vd⟩ := v
  have HH := Lib.hid hh
  clear hh hv
  have hF' := Lib.hid hF
  have hG' := Lib.hid hG
  obtain ⟨⟨c0, c1, c2, c3⟩, f0, f1, f2, f3⟩ := hF
  obtain ⟨⟨r0, r1, r2, r3⟩, g0, g1, g2, g3⟩ := hG
  go_wp2_with fail
  refine bodyPost_ret (v := .agg #[.int .u64 (bits .xor .u64 va m), .int .u64 vb, .int .u64 vc, .int .u64 vd]) ?_ rfl ⟨by rw [HH.out], ?_⟩
  · obtain ⟨⟨d0, d1, d2, d3⟩, _⟩ := (((hG'.out.other (b' := w.heap.size) (by omega) va vb vc vd).setOther (b' := w.heap.size) (o := 0) (x := .int .u64 (bits .xor .u64 va m)) (by omega))).put (bits .xor .u64 va m) vb vc vd
    unfold put4 at d0 d1 d2 d3
    simp [results, Tryz.results61, go_sem, d0, d1, d2, d3]
  · exact below_put4 ((below_put4 hbel (Nat.le_refl _) va vb vc vd).setCell (by simp) _) (by omega) _ _ _ _

set_option maxHeartbeats 400000 in
set_option maxRecDepth 100000 in
theorem finish30 (a b c d : Int) (w : World) :
    Calls Tryz.prog 64 #[.agg #[.int .u64 a, .int .u64 b, .int .u64 c, .int .u64 d]] w fun e w' => e = .returned (.int .u64 (finish ⟨a, b, c, d⟩)) ∧ Below w.heap.size w w' := by
  go_enter Tryz.func64, Tryz.ntmps64
  go_wp2_with fail
  refine (rounds_4 _ _ _ _ _).mono ?_
  rintro e w1 ⟨rfl, hb1⟩
  have hF := Four.below (v := ⟨a, b, bits .xor .u64 c 255, d⟩) (b := w.heap.size) (by simp [Four]) hb1 (by simp <;> omega)
  have hz1 := hb1.size
  simp at hz1
  have hbel : Below w.heap.size w w1 := (((Below.refl _ _).alloc (Nat.le_refl _) _)).trans (hb1.mono (by simp))
  clear hb1
  have hh : finish ⟨a, b, c, d⟩ = xo (xo (xo (rnds 4 ⟨a, b, bits .xor .u64 c 255, d⟩).a (rnds 4 ⟨a, b, bits .xor .u64 c 255, d⟩).b) (rnds 4 ⟨a, b, bits .xor .u64 c 255, d⟩).c) (rnds 4 ⟨a, b, bits .xor .u64 c 255, d⟩).d := rfl
  generalize hv : rnds 4 ⟨a, b, bits .xor .u64 c 255, d⟩ = v at *
  obtain ⟨va, vb, vc, vd⟩ := v
  have HH := Lib.hid hh
  clear hh hv
  obtain ⟨⟨c0, c1, c2, c3⟩, f0, f1, f2, f3⟩ := hF
  go_wp2_with fail
  go_ret
  exact ⟨by rw [HH.out]; rfl, below_put4 hbel (Nat.le_refl _) va vb vc vd⟩
end Go.Proofs.YtklfpnnnoaaiaabGreatDoor

/- Plain arithmetic: words of bytes. -/
namespace Go.Proofs.YtklfpnnnoaaiaabGreatDoor
open Go.RowKit

/-- The number of bytes, the lowest first. -/
def leW : List UInt8 → Int
  | [] => 0
  | x :: r => x.toNat + 256 * leW r
set_option maxRecDepth 100000 in
theorem leW_nonneg : ∀ l : List UInt8, 0 ≤ leW l
  | [] => by simp [leW]
  | x :: r => by have := leW_nonneg r; simp only [leW]; omega
set_option maxRecDepth 100000 in
theorem leW_lt : ∀ l : List UInt8, leW l < 256 ^ l.length
  | [] => by simp [leW]
  | x :: r => by
    have := leW_lt r
    have hx := x.toNat_lt
    simp only [leW, List.length_cons, Int.pow_succ]; omega
set_option maxRecDepth 100000 in
theorem leW_snoc : ∀ (l : List UInt8) (x : UInt8), leW (l ++ [x]) = leW l + 256 ^ l.length * x.toNat
  | [], x => by simp [leW]
  | y :: r, x => by
    simp only [List.cons_append, leW, leW_snoc r x, List.length_cons, Int.pow_succ]
    rw [Int.mul_add, Int.mul_comm (256 ^ r.length) 256, Int.mul_assoc]; omega
set_option maxRecDepth 100000 in
theorem pow_le_of (k : Nat) (hk : k < 8) : (256 : Int) ^ k * 256 ≤ 18446744073709551616 := by
  match k, hk with
  | 0, _ | 1, _ | 2, _ | 3, _ | 4, _ | 5, _ | 6, _ | 7, _ => decide
set_option maxRecDepth 100000 in
theorem or_step (l : List UInt8) (x : UInt8) (h : l.length < 8) :
    bits .or .u64 (leW l) (IntKind.u64.wrap (IntKind.u64.wrap (x.toNat : Int) * 2 ^ (8 * l.length))) = leW (l ++ [x]) := by
  have h0 := leW_nonneg l
  have h1 := leW_lt l
  have hx := x.toNat_lt
  have hp := pow_le_of _ h
  have e : (2 : Int) ^ (8 * l.length) = 256 ^ l.length := by rw [Int.pow_mul]; rfl
  rw [leW_snoc, e, Int.mul_comm]
  obtain ⟨n, hn⟩ : ∃ n : Nat, n = 256 ^ l.length := ⟨_, rfl⟩
  have hn' : (256 : Int) ^ l.length = (n : Int) := by rw [hn, Int.natCast_pow]; rfl
  obtain ⟨a, ha⟩ := Int.eq_ofNat_of_zero_le h0
  rw [hn'] at h1 hp ⊢
  rw [ha] at h1 ⊢
  have hpos : 0 < n := by omega
  have hm : n * x.toNat ≤ n * 255 := Nat.mul_le_mul_left _ (by omega)
  have hw : IntKind.u64.wrap (x.toNat : Int) = (x.toNat : Int) := by rw [IntKind.wrap_u64]; omega
  have hw2 : IntKind.u64.wrap ((n : Int) * (x.toNat : Int)) = ((n * x.toNat : Nat) : Int) := by
    rw [IntKind.wrap_u64, ← Int.natCast_mul]; omega
  rw [hw, hw2]
  refine (u64_or_nat _ _ (by omega) (by omega)).trans ?_
  rw [Nat.or_comm, nat_join (8 * l.length)]
  · rw [Int.natCast_add, Int.natCast_mul, Int.add_comm]
  · rw [show 2 ^ (8 * l.length) = n from by rw [hn, Nat.pow_mul]]; exact Nat.mul_mod_right _ _
  · rw [show 2 ^ (8 * l.length) = n from by rw [hn, Nat.pow_mul]]; omega
set_option maxRecDepth 100000 in
theorem take_snoc (s : ByteArray) (k : Nat) (h : k < s.size) : s.data.toList.take (k + 1) = s.data.toList.take k ++ [s[k]] := by
  rw [List.take_succ_eq_append_getElem (by simpa using h)]; rfl
set_option maxRecDepth 100000 in
theorem leW_drop (l : List UInt8) (j : Nat) (h : j < l.length) : leW (l.drop j) = l[j].toNat + 256 * leW (l.drop (j + 1)) := by
  rw [List.drop_eq_getElem_cons h]; rfl
set_option maxRecDepth 100000 in
theorem leW_step (l : List UInt8) (hl : l.length ≤ 8) (j : Nat) (h : j < l.length) :
    IntKind.u64.wrap (IntKind.u64.wrap (leW (l.drop (j + 1)) * 256) + IntKind.u64.wrap (l[j].toNat : Int)) = leW (l.drop j) := by
  have h0 := leW_nonneg (l.drop (j + 1))
  have h1 := leW_lt (l.drop (j + 1))
  have hx := l[j].toNat_lt
  have hp := pow_le_of (l.drop (j + 1)).length (by simp; omega)
  rw [leW_drop l j h]
  simp only [IntKind.wrap_u64]
  omega
end Go.Proofs.YtklfpnnnoaaiaabGreatDoor

/- Reading words of eight bytes: the program's word. -/
namespace Go.Proofs.YtklfpnnnoaaiaabGreatDoor
open Go.RowKit

set_option maxHeartbeats 400000 in
set_option maxRecDepth 100000 in
theorem word28 (s : ByteArray) (hs : 8 ≤ s.size) (hm : s.size ≤ 9223372036854775807) (w : World) :
    Calls Tryz.prog 62 #[.string s] w fun e w' => e = .returned (.int .u64 (leW (s.data.toList.take 8))) ∧ w = w' := by
  go_enter Tryz.func62, Tryz.ntmps62
  go_wp2
  go_loop [3, 5] (fun x i => ∃ k : Nat, k ≤ 8 ∧ i = .int .i64 k ∧ x = .int .u64 (leW (s.data.toList.take k))) (fun _ i => 8 - (intOf i).toNat)
  case atStart => exact ⟨0, by decide, rfl, rfl⟩
  case round =>
    obtain ⟨k, hk, rfl, rfl⟩ := hrel
    by_cases hlt : k < 8
    · go_wp2
      go_round
      case rel =>
        refine ⟨k + 1, by omega, by go_num, ?_⟩
        have hl : (s.data.toList.take k).length = k := by simp; omega
        have := or_step (s.data.toList.take k) s[k] (by omega)
        rw [hl] at this
        rw [this, take_snoc s k (by omega)]
      case measure => simp [intOf]; omega
    · obtain rfl : k = 8 := by omega
      go_wp2
      go_ret
      exact ⟨rfl, rfl⟩
set_option maxRecDepth 100000 in
theorem word_list (l : List UInt8) (hl : l.length = 8) (w : World) :
    Calls Tryz.prog 62 #[.string ⟨l.toArray⟩] w fun e w' => e = .returned (.int .u64 (leW l)) ∧ w' = w := by
  have := word28 ⟨l.toArray⟩ (by simp [ByteArray.size, hl]) (by simp [ByteArray.size, hl]) w
  refine this.mono fun e w' ⟨he, hw⟩ => ⟨?_, hw.symm⟩
  rw [he, List.take_of_length_le (by simp [hl])]
end Go.Proofs.YtklfpnnnoaaiaabGreatDoor

namespace Go.Proofs.YtklfpnnnoaaiaabGreatDoor
open Go.RowKit

/-- A key's value. -/
def keyVal (k : Nat → UInt8) : Value :=
  .agg #[.int .u8 (k 0).toNat, .int .u8 (k 1).toNat, .int .u8 (k 2).toNat, .int .u8 (k 3).toNat, .int .u8 (k 4).toNat, .int .u8 (k 5).toNat, .int .u8 (k 6).toNat, .int .u8 (k 7).toNat, .int .u8 (k 8).toNat, .int .u8 (k 9).toNat, .int .u8 (k 10).toNat, .int .u8 (k 11).toNat, .int .u8 (k 12).toNat, .int .u8 (k 13).toNat, .int .u8 (k 14).toNat, .int .u8 (k 15).toNat]

/-- The bytes of a key from one place on. -/
def keyPart (k : Nat → UInt8) (o : Nat) : List UInt8 := [k o, k (o + 1), k (o + 2), k (o + 3), k (o + 4), k (o + 5), k (o + 6), k (o + 7)]
def IsKey (w : World) (b : Nat) (k : Nat → UInt8) : Prop := ∀ i, i < 16 → w.cell? ⟨b, i, none⟩ = some (.int .u8 (k i).toNat)
set_option maxRecDepth 100000 in
theorem key_string {k : Nat → UInt8} {W : World} {b : Nat} (h : IsKey W b k) (o : Nat) (ho : o + 8 ≤ 16) (cap : Nat) (nq : Nat) :
    (convert 51 9 (.slice (some ⟨b, o, none⟩) 8 cap)).run Tryz.prog (W.drewN nq) = .ok (.string ⟨(keyPart k o).toArray⟩) (W.drewN nq) := by
  have := run_convert_bytes_arg (P := Tryz.prog) (W.drewN nq) 51 5 Tryz.underlying51 Tryz.underlying5 b o 8 cap ((keyPart k o).map fun x => (x.toNat : Int)) (by simp [keyPart]) ?_ 9 Tryz.underlying9
  · rw [this]
    simp [strOfNums, keyPart]
  · intro i hi
    have h1 := h (o + i) (by omega)
    show W.cell? _ = _
    rw [h1]
    match i, hi with
    | 0, _ | 1, _ | 2, _ | 3, _ | 4, _ | 5, _ | 6, _ | 7, _ => rfl

set_option maxRecDepth 100000 in
theorem Four.drewN {w : World} {b n : Nat} {v : V4} (h : Four w b v) : Four (w.drewN n) b v := h
theorem below_drewN {B : Nat} {a w : World} (h : Below B a w) (n : Nat) : Below B a (w.drewN n) := ⟨h.os, h.tape, h.output, h.size, h.block⟩
/-- What the program's table holds. -/
structure Ini (w : World) : Prop where
  lt : 0 < w.heap.size
  c0 : w.cell? ⟨0, 0, none⟩ = some (.int .u64 8317987319222330741)
  c1 : w.cell? ⟨0, 1, none⟩ = some (.int .u64 7237128888997146477)
  c2 : w.cell? ⟨0, 2, none⟩ = some (.int .u64 7816392313619706465)
  c3 : w.cell? ⟨0, 3, none⟩ = some (.int .u64 8387220255154660723)
set_option maxRecDepth 100000 in
theorem Ini.below {w w' : World} (h : Ini w) (hb : Below w.heap.size w w') : Ini w' := by
  obtain ⟨hc, _⟩ := bcell hb
  have hz := hb.size
  exact ⟨by have := h.lt; omega, by rw [hc _ _ h.lt]; exact h.c0, by rw [hc _ _ h.lt]; exact h.c1, by rw [hc _ _ h.lt]; exact h.c2, by rw [hc _ _ h.lt]; exact h.c3⟩

/-- The state at the start. -/
def start (k : Nat → UInt8) : V4 :=
  ⟨xo (leW (keyPart k 0)) 8317987319222330741, xo (leW (keyPart k 8)) 7237128888997146477, xo (leW (keyPart k 0)) 7816392313619706465, xo (leW (keyPart k 8)) 8387220255154660723⟩

set_option maxHeartbeats 400000 in
set_option maxRecDepth 100000 in
theorem begin26 (k : Nat → UInt8) (w : World) (hi : Ini w) :
    Calls Tryz.prog 60 #[keyVal k] w fun e w' => e = .returned (.agg #[.int .u64 (start k).a, .int .u64 (start k).b, .int .u64 (start k).c, .int .u64 (start k).d]) ∧ Below w.heap.size w w' := by
  unfold keyVal
  go_enter Tryz.func60, Tryz.ntmps60
  go_wp2_with fail
  generalize hW : World.alloc (World.alloc w _) _ = W
  have hk : IsKey W w.heap.size k := by
    subst hW
    intro i hi
    have h16 : i = 0 ∨ i = 1 ∨ i = 2 ∨ i = 3 ∨ i = 4 ∨ i = 5 ∨ i = 6 ∨ i = 7 ∨ i = 8 ∨ i = 9 ∨ i = 10 ∨ i = 11 ∨ i = 12 ∨ i = 13 ∨ i = 14 ∨ i = 15 := by omega
    rcases h16 with rfl | rfl | rfl | rfl | rfl | rfl | rfl | rfl | rfl | rfl | rfl | rfl | rfl | rfl | rfl | rfl <;> simp
  have hb : Below w.heap.size w W := by subst hW; exact ((Below.refl _ _).alloc (Nat.le_refl _) _).alloc (by simp) _
  have hG : Four W (w.heap.size + 1) ⟨0, 0, 0, 0⟩ := by subst hW; simp [Four]
  have hi' := hi.below hb
  clear hW hi
  have hc1 := fun nq => key_string hk 0 (by decide) 16 nq
  have hc2 := fun nq => key_string hk 8 (by decide) 8 nq
  go_quiet ((go_at_call 62; exact Calls.quiet_of_same (word_list _ rfl _)))
  obtain ⟨hlt, i0, i1, i2, i3⟩ := hi'
  have HG := Lib.hid hG
  obtain ⟨⟨r0, r1, r2, r3⟩, g0, g1, g2, g3⟩ := hG
  clear hc1 hc2
  go_wp2_with fail
  refine bodyPost_ret (v := .agg #[.int .u64 (start k).a, .int .u64 (start k).b, .int .u64 (start k).c, .int .u64 (start k).d]) ?_ rfl ⟨rfl, ?_⟩
  · obtain ⟨⟨d0, d1, d2, d3⟩, _⟩ := (Four.drewN (n := nq) HG.out).put (bits .xor .u64 (leW (keyPart k 0)) 8317987319222330741) (bits .xor .u64 (leW (keyPart k 8)) 7237128888997146477) (bits .xor .u64 (leW (keyPart k 0)) 7816392313619706465) (bits .xor .u64 (leW (keyPart k 8)) 8387220255154660723)
    unfold put4 at d0 d1 d2 d3
    simp [results, Tryz.results60, go_sem, d0, d1, d2, d3]
    exact ⟨rfl, rfl, rfl, rfl⟩
  · exact below_put4 (below_drewN hb nq) (by omega) _ _ _ _
end Go.Proofs.YtklfpnnnoaaiaabGreatDoor

/- The builtin copy of a string into a new array of bytes. -/
namespace Go.Proofs.YtklfpnnnoaaiaabGreatDoor
open Go.RowKit Go.Lib

set_option maxRecDepth 100000 in
theorem size5 : (Tryz.prog.info? 5).map (·.size) = some 1 := by kernel_rfl
def byteAt (l : List UInt8) (i : Nat) : Int := ((l.getD i 0).toNat : Int)
/-- So many bytes of a list, followed by zeros. -/
def padded (l : List UInt8) (n : Nat) : List Value := (List.range n).map fun i => .int .u8 (byteAt l i)

set_option maxRecDepth 100000 in
theorem padded_eq (l : List UInt8) (n : Nat) : byteCells (l.take n) ++ (List.replicate n (Value.int .u8 0)).drop (min l.length n) = padded l n := by
  apply List.ext_getElem
  · simp [padded, byteCells]; omega
  · intro i h1 h2
    simp [padded] at h2
    simp only [padded, List.getElem_map, List.getElem_range, byteAt]
    by_cases h : i < l.length
    · rw [List.getElem_append_left (by simp [byteCells]; omega)]
      simp [byteCells, List.getD, h]
    · rw [List.getElem_append_right (by simp [byteCells]; omega)]
      simp [List.getD, List.getElem?_eq_none (show l.length ≤ i by omega)]

set_option maxRecDepth 100000 in
theorem setRow_alloc (w : World) (z cs : Array Value) (T : TypeId) : (w.alloc (.cells z T)).setRow w.heap.size cs = w.alloc (.cells cs T) := by
  have h : (w.heap.push (.cells z T)).modify w.heap.size (fun | .cells _ elem frozen => .cells cs elem frozen | o => o) = w.heap.push (.cells cs T) := by
    apply Array.ext
    · simp
    · intro i h1 h2
      simp only [Array.getElem_modify, Array.getElem_push]
      by_cases hi : i < w.heap.size
      · simp [hi, show w.heap.size ≠ i by omega]
      · simp at h2
        have : w.heap.size = i := by omega
        simp [this]
  exact congrArg (fun hp => { w with heap := hp }) h
set_option maxRecDepth 100000 in
theorem run_copy_fresh {P : Program} (w : World) (dT sT ty elem T : TypeId) (n : Nat) (s : ByteArray) (z : Array Value) (hz : z.toList = List.replicate n (Value.int .u8 0))
    (hu : P.underlying dT = some (.slice elem)) (hs : (P.info? elem).map (·.size) = some 1) :
    (Builtin.copy_ #[dT, sT] ty #[.slice (some ⟨w.heap.size, 0, none⟩) n n, .string s]).run P (w.alloc (.cells z T)) =
      .ok (goInt (min s.size n : Nat)) (w.alloc (.cells (padded s.data.toList n).toArray T)) := by
  have hg : (w.alloc (.cells z T)).heap[w.heap.size]? = some (.cells z T (0, 0)) := by
    show (w.heap.push _)[w.heap.size]? = _
    simp
  have hlen : (byteCells (s.data.toList.take n)).length = min n s.size := by rw [byteCells_length, List.length_take, ← size_eq]
  have hzs : z.size = n := by rw [← Array.length_toList, hz, List.length_replicate]
  have hst := run_storeCells_at P w.heap.size 0 T (byteCells (s.data.toList.take n)) 0 _ _ hg (by rw [hlen, hzs]; omega) (byteCells_one _)
  have htk : List.take (min s.size n) (List.map (fun b : UInt8 => Value.int IntKind.u8 (b.toNat : Int)) s.data.toList) = byteCells (s.data.toList.take n) := by
    rw [byteCells, List.map_take, Nat.min_comm, show s.size = (List.map (fun b : UInt8 => Value.int IntKind.u8 (b.toNat : Int)) s.data.toList).length by rw [List.length_map, ← size_eq], ← List.take_eq_take_min]
  rw [hlen, setRow_alloc, hz] at hst
  simp only [Nat.add_zero, Nat.zero_add, List.take_zero, List.nil_append] at hst
  have hp := padded_eq s.data.toList n
  rw [← size_eq, Nat.min_comm] at hp
  rw [hp] at hst
  cases hq : P.info? elem with
  | none => simp [hq] at hs
  | some i =>
    have hmin : Nat.min s.size n = min s.size n := rfl
    simp [Builtin.copy_, run_underlying hu, Builtin.lenOf, Builtin.firstCells, sizeOf, typeInfo, hq, hmin]
    rw [htk, hst]
    simp [Result.andThen]
end Go.Proofs.YtklfpnnnoaaiaabGreatDoor

/- siphash.KeyOf and lastWord. -/
namespace Go.Proofs.YtklfpnnnoaaiaabGreatDoor
open Go.RowKit Go.Lib

set_option maxRecDepth 100000 in
theorem padded16 (s : ByteArray) : (padded s.data.toList 16).toArray = #[.int .u8 (byteAt s.data.toList 0), .int .u8 (byteAt s.data.toList 1), .int .u8 (byteAt s.data.toList 2), .int .u8 (byteAt s.data.toList 3), .int .u8 (byteAt s.data.toList 4), .int .u8 (byteAt s.data.toList 5), .int .u8 (byteAt s.data.toList 6), .int .u8 (byteAt s.data.toList 7), .int .u8 (byteAt s.data.toList 8), .int .u8 (byteAt s.data.toList 9), .int .u8 (byteAt s.data.toList 10), .int .u8 (byteAt s.data.toList 11), .int .u8 (byteAt s.data.toList 12), .int .u8 (byteAt s.data.toList 13), .int .u8 (byteAt s.data.toList 14), .int .u8 (byteAt s.data.toList 15)] := rfl
theorem padded8 (s : ByteArray) : (padded s.data.toList 8).toArray = #[.int .u8 (byteAt s.data.toList 0), .int .u8 (byteAt s.data.toList 1), .int .u8 (byteAt s.data.toList 2), .int .u8 (byteAt s.data.toList 3), .int .u8 (byteAt s.data.toList 4), .int .u8 (byteAt s.data.toList 5), .int .u8 (byteAt s.data.toList 6), .int .u8 (byteAt s.data.toList 7)] := rfl

set_option maxHeartbeats 400000 in
set_option maxRecDepth 100000 in
theorem key17 (s : ByteArray) (w : World) :
    Calls Tryz.prog 4 #[.string s] w fun e w' => e = .returned (keyVal fun i => s.data.toList.getD i 0) ∧ Below w.heap.size w w' := by
  have hcp := run_copy_fresh (P := Tryz.prog) (ty := 3) (w.alloc (.cells #[.int .u8 0, .int .u8 0, .int .u8 0, .int .u8 0, .int .u8 0, .int .u8 0, .int .u8 0, .int .u8 0, .int .u8 0, .int .u8 0, .int .u8 0, .int .u8 0, .int .u8 0, .int .u8 0, .int .u8 0, .int .u8 0] 25)) 51 9 5 25 16 s #[.int .u8 0, .int .u8 0, .int .u8 0, .int .u8 0, .int .u8 0, .int .u8 0, .int .u8 0, .int .u8 0, .int .u8 0, .int .u8 0, .int .u8 0, .int .u8 0, .int .u8 0, .int .u8 0, .int .u8 0, .int .u8 0] rfl Tryz.underlying51 size5
  rw [padded16, show (w.alloc (.cells #[.int .u8 0, .int .u8 0, .int .u8 0, .int .u8 0, .int .u8 0, .int .u8 0, .int .u8 0, .int .u8 0, .int .u8 0, .int .u8 0, .int .u8 0, .int .u8 0, .int .u8 0, .int .u8 0, .int .u8 0, .int .u8 0] 25)).heap.size = w.heap.size + 1 by simp] at hcp
  go_enter Tryz.func4, Tryz.ntmps4
  go_wp2_with fail
  refine bodyPost_ret (v := .agg #[.int .u8 (byteAt s.data.toList 0), .int .u8 (byteAt s.data.toList 1), .int .u8 (byteAt s.data.toList 2), .int .u8 (byteAt s.data.toList 3), .int .u8 (byteAt s.data.toList 4), .int .u8 (byteAt s.data.toList 5), .int .u8 (byteAt s.data.toList 6), .int .u8 (byteAt s.data.toList 7), .int .u8 (byteAt s.data.toList 8), .int .u8 (byteAt s.data.toList 9), .int .u8 (byteAt s.data.toList 10), .int .u8 (byteAt s.data.toList 11), .int .u8 (byteAt s.data.toList 12), .int .u8 (byteAt s.data.toList 13), .int .u8 (byteAt s.data.toList 14), .int .u8 (byteAt s.data.toList 15)]) ?_ rfl ⟨rfl, ?_⟩
  · simp [results, Tryz.results4, go_sem]
  · exact ((Below.refl _ _).alloc (Nat.le_refl _) _).alloc (by simp) _

/-- The last word's bytes. -/
def lastBytes (l : List UInt8) (n : Nat) : List UInt8 := [l.getD 0 0, l.getD 1 0, l.getD 2 0, l.getD 3 0, l.getD 4 0, l.getD 5 0, l.getD 6 0, UInt8.ofNat (n % 256)]

set_option maxHeartbeats 400000 in
set_option maxRecDepth 100000 in
theorem last29 (s : ByteArray) (n : Nat) (w : World) :
    Calls Tryz.prog 63 #[.string s, .int .i64 n] w fun e w' => e = .returned (.int .u64 (leW (lastBytes s.data.toList n))) ∧ Below w.heap.size w w' := by
  have hcp := run_copy_fresh (P := Tryz.prog) (ty := 3) w 51 9 5 147 8 s #[.int .u8 0, .int .u8 0, .int .u8 0, .int .u8 0, .int .u8 0, .int .u8 0, .int .u8 0, .int .u8 0] rfl Tryz.underlying51 size5
  rw [padded8] at hcp
  have hcv := run_convert_bytes_arg (P := Tryz.prog) (w.alloc (.cells #[.int .u8 (byteAt s.data.toList 0), .int .u8 (byteAt s.data.toList 1), .int .u8 (byteAt s.data.toList 2), .int .u8 (byteAt s.data.toList 3), .int .u8 (byteAt s.data.toList 4), .int .u8 (byteAt s.data.toList 5), .int .u8 (byteAt s.data.toList 6), .int .u8 ((n : Int) % 256)] 147)) 51 5 Tryz.underlying51 Tryz.underlying5 w.heap.size 0 8 8 [byteAt s.data.toList 0, byteAt s.data.toList 1, byteAt s.data.toList 2, byteAt s.data.toList 3, byteAt s.data.toList 4, byteAt s.data.toList 5, byteAt s.data.toList 6, (n : Int) % 256] rfl (by
    intro i hi
    have h8 : i = 0 ∨ i = 1 ∨ i = 2 ∨ i = 3 ∨ i = 4 ∨ i = 5 ∨ i = 6 ∨ i = 7 := by omega
    rcases h8 with rfl | rfl | rfl | rfl | rfl | rfl | rfl | rfl <;> simp) 9 Tryz.underlying9
  have hst : strOfNums [byteAt s.data.toList 0, byteAt s.data.toList 1, byteAt s.data.toList 2, byteAt s.data.toList 3, byteAt s.data.toList 4, byteAt s.data.toList 5, byteAt s.data.toList 6, (n : Int) % 256] = ⟨(lastBytes s.data.toList n).toArray⟩ := by
    simp [strOfNums, lastBytes, byteAt]
    rw [show ((n : Int) % 256).toNat = n % 256 by omega]
  rw [hst] at hcv
  clear hst
  go_enter Tryz.func63, Tryz.ntmps63
  go_wp2_with (go_at_call 62; refine (word_list _ rfl _).mono ?_; rintro e w' ⟨rfl, rfl⟩)
  go_ret
  exact ⟨rfl, (Below.refl _ _).alloc (Nat.le_refl _) _⟩
end Go.Proofs.YtklfpnnnoaaiaabGreatDoor

/- SipHash, the reference: Sum. -/
namespace Go.Proofs.YtklfpnnnoaaiaabGreatDoor
open Go.RowKit

/-- So many words absorbed. -/
def abs (l : List UInt8) (v : V4) : Nat → V4
  | 0 => v
  | k + 1 => absorb (abs l v k) (leW ((l.drop (8 * k)).take 8))
/-- SipHash-2-4. -/
def sip (k : Nat → UInt8) (l : List UInt8) : Int :=
  finish (absorb (abs l (start k) (l.length / 8)) (leW (lastBytes (l.drop (8 * (l.length / 8))) l.length)))

set_option maxRecDepth 100000 in
theorem extract_list (t : ByteArray) (a b : Nat) : t.extract a b = ⟨((t.data.toList.drop a).take (b - a)).toArray⟩ := by
  have h : (t.extract a b).data = t.data.extract a b := ByteArray.data_extract
  have h2 : (t.data.extract a b).toList = (t.data.toList.drop a).take (b - a) := by simp [Array.toList_extract]
  rw [← h2, ← h]
set_option maxRecDepth 100000 in
theorem last_eq (l : List UInt8) (h : l.length < 8) (n : Nat) : leW (lastBytes l n) = leW l + 72057594037927936 * ((n % 256 : Nat) : Int) := by
  have hn : (UInt8.ofNat (n % 256)).toNat = n % 256 := by simp
  match l, h with
  | [], _ | [_], _ | [_, _], _ | [_, _, _], _ | [_, _, _, _], _ | [_, _, _, _, _], _ | [_, _, _, _, _, _], _ | [_, _, _, _, _, _, _], _ =>
    simp only [lastBytes, List.getD_cons_zero, List.getD_cons_succ, List.getD_nil, leW, hn, show ((0 : UInt8).toNat : Int) = 0 from rfl]
    omega
set_option maxRecDepth 100000 in
theorem last_wrap (l : List UInt8) (h : l.length < 8) (n : Nat) :
    IntKind.u64.wrap (leW l + (n : Int) % 256 * 72057594037927936) = leW (lastBytes l n) := by
  have h0 := leW_nonneg l
  have h1 := leW_lt l
  have h2 : (256 : Int) ^ l.length ≤ 72057594037927936 := by
    match l.length, h with
    | 0, _ | 1, _ | 2, _ | 3, _ | 4, _ | 5, _ | 6, _ | 7, _ => decide
  rw [last_eq l h]
  simp only [IntKind.wrap_u64]
  omega
set_option maxRecDepth 100000 in
theorem Four.set2 {w : World} {b : Nat} {v : V4} (h : Four w b v) (x : Int) : Four (w.setCell ⟨b, 2, none⟩ (.int .u64 x)) b ⟨v.a, v.b, x, v.d⟩ := by
  obtain ⟨⟨c0, c1, c2, c3⟩, f0, f1, f2, f3⟩ := h
  simp [Four, go_sem, c0, c1, c2, c3, f0, f1, f2, f3]
def strLen : Value → Nat
  | .string t => t.size
  | _ => 0

end Go.Proofs.YtklfpnnnoaaiaabGreatDoor

