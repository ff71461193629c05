/- octet's List. -/
import Derived.Test.YtneagccakoakpaaDoorSeqB
import Derived.Test.YtneagccakoakpaaDoorIsS
namespace Go.Proofs.YtneagccakoakpaaDoor
open Go.RowKit

attribute [local go_sem] Oper.semAt_some

theorem infoStr : (Tryd.prog.info? 9).map (fun i => (i.zero, i.size, i.bytes)) = some (some (.string ⟨#[]⟩), 1, 16) := by kernel_rfl
/-- append of one value, in a fence; where the new row lies. -/
theorem in_append {F : Fence} {n : Nat} {P : Program} (w : World) {ops : Array Oper} {rest : List Oper} {o : Oper} {a : Act} {Q : Exit → Act → World → Prop}
    (hg : o.guard = none) (s x : Operand) (t : TypeId) (hop : o.op = Op.call { callee := Callee.builtin Builtin.append, args := #[s, x], argTypes := #[t, t] })
    (base : Nat) (e : TypeId) (i : TypeInfo) (z : Value) (bytes : Nat) (h1 : P.underlying t = some (.slice e)) (h2 : P.info? e = some i) (h3 : i.zero = some z) (h4 : i.size = 1) (h5 : i.bytes = bytes) (h6 : z.cells.size = 1)
    (v : Value) (k : Nat) (xs : List Value) (hs : a.eval s = v) (hown : w.ownsRow base e 1 v k xs) (ad : Addr) (u : Value) (hx : a.eval x = .slice (some ad) 1 1)
    (hc : ∀ j y, [u][j]? = some y → w.cell? (ad.add j) = some y) (h1c : u.oneCell' = true) (b1 : k + 1 ≤ maxLen) (b2 : (k + 1) * bytes ≤ 140737488355328) (b3 : base ≤ w.heap.size)
    (hK : ∀ v' w', w'.ownsRow base e 1 v' (k + 1) (xs ++ [u]) → w.grownBy w' v.ownBlock → (v'.ownBlock = v.ownBlock ∨ v'.ownBlock = some w.heap.size) → wpListIn F n P ops Q rest (a.put o.dst v') w') :
    wpListIn F n P ops Q (o :: rest) a w := by
  refine wpListIn_plain hg fun K hK' => ?_
  obtain ⟨v', w', hrun, r1, r2, _, r4⟩ := run_append_own_at (P := P) w base t o.type e i z 1 bytes h1 h2 h3 h4 h5 h6 (by decide) v k xs hown ad 1 1 [u] rfl hc (by intro y hy; simp at hy; subst hy; exact h1c) b1 b2 b3
  unfold Oper.wpIn
  refine ⟨?_, ?_⟩
  · simp [Oper.about, hop, resolve, Target.leads, Sem.run_pure]
  · rw [Oper.semAt_plain F _ _ (by rw [hop]; intro c hc'; cases hc')]
    simp [execOp, hop, resolve, invoke, builtin, hs, hx, hrun, Result.andThen]
    exact hK' _ _ (hK v' w' r1 r2 r4)

theorem trim_list (y : List UInt8) (hy : y.length ≤ 4611686018427387904) (w : World) :
    Calls Tryd.prog 23 #[.string ⟨y.toArray⟩] w fun e w' => e = .returned (.string ⟨(trimB y).toArray⟩) ∧ Below w.heap.size w w' := by
  have h := trim23 ⟨y.toArray⟩ (by rw [Lib.size_eq]; exact hy) w
  exact h
/-- What is kept of parts. -/
def keepP (ps : List (List UInt8)) : List (List UInt8) := (ps.map trimB).filter fun l => !l.isEmpty
def valsOf (ys : List (List UInt8)) : List Value := ys.map fun l => Value.string ⟨l.toArray⟩
/-- The parts of the first values. -/
def accL (xs : List ByteArray) (j : Nat) : List (List UInt8) := ((xs.take j).map fun x => keepP (parts 44 x.data.toList)).flatten
def listP (xs : List ByteArray) : List (List UInt8) := accL xs xs.length
theorem keepP_length (ps : List (List UInt8)) : (keepP ps).length ≤ ps.length := by
  unfold keepP
  exact Nat.le_trans (List.length_filter_le _ _) (by rw [List.length_map]; exact Nat.le_refl _)
theorem keepP_snoc (ps : List (List UInt8)) (x : List UInt8) : keepP (ps ++ [x]) = keepP ps ++ if (trimB x).isEmpty then [] else [trimB x] := by
  unfold keepP
  rw [List.map_append, List.filter_append]
  congr 1
  by_cases h : (trimB x).isEmpty = true
  · simp [h]
  · simp [h]
theorem accL_succ (xs : List ByteArray) (j : Nat) (h : j < xs.length) : accL xs (j + 1) = accL xs j ++ keepP (parts 44 xs[j].data.toList) := by
  unfold accL
  rw [List.take_add_one, List.getElem?_eq_getElem h, Option.toList_some, List.map_append, List.flatten_append]
  simp
def sumS (xs : List ByteArray) : Nat := (xs.map fun x => x.size + 1).sum
theorem accL_bound (xs : List ByteArray) : ∀ j, (accL xs j).length ≤ sumS (xs.take j)
  | 0 => by simp [accL, sumS]
  | j + 1 => by
    have ih := accL_bound xs j
    by_cases h : j < xs.length
    · rw [accL_succ xs j h, List.length_append]
      have h1 := keepP_length (parts 44 xs[j].data.toList)
      have h2 := parts_length 44 xs[j].data.toList
      rw [← Lib.size_eq] at h2
      have h3 : sumS (xs.take (j + 1)) = sumS (xs.take j) + (xs[j].size + 1) := by
        unfold sumS
        rw [List.take_add_one, List.getElem?_eq_getElem h, Option.toList_some, List.map_append, List.sum_append]
        simp
      omega
    · unfold accL sumS at *
      rw [List.take_of_length_le (by omega)] at ih ⊢
      exact ih
theorem sumS_part (xs : List ByteArray) (j : Nat) (h : j < xs.length) : sumS (xs.take j) + (xs[j].size + 1) ≤ sumS xs := by
  have e : xs = xs.take j ++ (xs[j] :: xs.drop (j + 1)) := by rw [← List.drop_eq_getElem_cons h, List.take_append_drop]
  have h2 : sumS xs = sumS (xs.take j) + ((xs[j].size + 1) + sumS (xs.drop (j + 1))) := by
    have := congrArg sumS e
    rw [this]
    unfold sumS
    rw [List.map_append, List.sum_append, List.map_cons, List.sum_cons]
  omega
theorem sum_len (xs : List ByteArray) : xs.length ≤ sumS xs := by
  unfold sumS
  induction xs with
  | nil => simp
  | cons a r ih => simp only [List.length_cons, List.map_cons, List.sum_cons]; omega
/-- The blocks for deferred calls that loops have laid. -/
def markD (D : Nat) : Deferred := { target := .collected D, args := #[] }
theorem grown_of_below {W W1 : World} (hb : Below W.heap.size W W1) : W.grownBy W1 none := ⟨hb.os, hb.tape, hb.output, hb.size, fun k hk _ => hb.block k hk⟩
/-- What List has collected. -/
structure Acc (w W : World) (Ds : List Nat) (ys : List (List UInt8)) (v : Value) : Prop where
  box : Boxed W w.heap.size 36 v
  row : W.ownsRow w.heap.size 9 1 v ys.length (valsOf ys)
  ds : ∀ D ∈ Ds, W.heap[D]? = some (.deferred (some []))
  bel : Below w.heap.size w W
  dlo : ∀ D ∈ Ds, w.heap.size < D
/-- A row that a slice owns is cells. -/
theorem own_cells {W : World} {base k : Nat} {e : TypeId} {v : Value} {xs : List Value} (h : W.ownsRow base e 1 v k xs) (g : Nat) (hg : v.ownBlock = some g) : ∃ o, W.heap[g]? = some o ∧ o.isCells = true := by
  obtain ⟨_, ⟨rfl, _⟩ | ⟨g', cap, cur, rfl, _, hh, _⟩⟩ := h
  · simp [Value.ownBlock] at hg
  · obtain rfl : g' = g := by simpa [Value.ownBlock] using hg
    exact ⟨_, hh, rfl⟩
theorem Acc.grown {w W W' : World} {Ds : List Nat} {ys : List (List UInt8)} {v : Value} (h : Acc w W Ds ys v) {row : Option Nat} (hg : W.grownBy W' row)
    (hr : ∀ r, row = some r → w.heap.size < r ∧ v.ownBlock ≠ some r ∧ r ∉ Ds) : Acc w W' Ds ys v := by
  refine ⟨h.box.kept hg (fun e => ?_), h.row.kept hg ?_, fun D hD => ?_, h.bel.grown hg h.bel.size (fun k e => Nat.le_of_lt (hr k e).1), h.dlo⟩
  · have := (hr _ e.symm).1; omega
  · cases hv : v.ownBlock with
    | none => exact .inl rfl
    | some g => exact .inr (fun e => (hr g e.symm).2.1 hv)
  · have hd := h.ds D hD
    exact (hg.block D (Array.getElem?_eq_some_iff.1 hd).1 (fun e => (hr D e.symm).2.2 hD)).trans hd

theorem leaves_marks {fn : Func} {n : Nat} {tmps : Array Value} {R : Ending → World → Prop} {v : Value} {P : Program} (hres : ∀ W, (results fn tmps).run P W = .ok v W) {B k : Nat} {e : TypeId} {u : Value} {ys : List Value} {w : World} :
    ∀ (Ds : List Nat) (W : World), Ds.Nodup → (∀ D ∈ Ds, W.heap[D]? = some (.deferred (some []))) → (∀ D ∈ Ds, B ≤ D) → W.ownsRow B e 1 u k ys → Below B w W →
      (∀ W', W'.ownsRow B e 1 u k ys → Below B w W' → R (.returned v) W') → LeavesInM Fence.wide n P fn tmps R (Ds.map markD) .returning W
  | [], W, _, _, _, hr, hb, hR => ⟨v, hres W, hR W hr hb⟩
  | D :: r, W, hnd, hd, hB, hr, hb, hR => by
    have hD := hd D (List.mem_cons_self)
    have hlt := (Array.getElem?_eq_some_iff.1 hD).1
    have hn := List.nodup_cons.1 hnd
    refine ⟨by simp, .inl ⟨D, _, rfl, run_takeDeferred hD, ?_⟩⟩
    refine leaves_marks hres r _ hn.2 (fun E hE => ?_) (fun E hE => hB E (List.mem_cons_of_mem _ hE)) (ownsRow_putObj hr _ hD rfl)
      (hb.grown (grownBy_putObj' W D (.deferred none)) (by have := hB D List.mem_cons_self; omega) (fun q eq => by injection eq with eq; subst eq; exact hB _ List.mem_cons_self)) hR
    rw [World.putObj_heap_other (fun e => hn.1 (by rw [← e]; exact hE))]
    exact hd E (List.mem_cons_of_mem _ hE)
set_option maxRecDepth 1000000 in
set_option maxHeartbeats 4000000 in
theorem list33 (a : Option Addr) (c : Nat) (xs : List ByteArray) (hsum : sumS xs ≤ 1000000000) (w : World) (hx : IsStrs w a c xs) (hM : MaxL w) :
    CallsIn Fence.wide 3 Tryd.prog 33 #[.slice a xs.length c] w fun e w' => ∃ v, e = .returned v ∧ w'.ownsRow w.heap.size 9 1 v (listP xs).length (valsOf (listP xs)) ∧ Below w.heap.size w w' := by
  obtain ⟨i0, hi, hz0, hz1, hz2⟩ := info_parts infoStr
  refine callsIn_of_wp_marks Tryd.func33 rfl trivial ?_ rfl
  simp only [Tryd.ntmps33, List.size_toArray, List.length_cons, List.length_nil, Nat.reduceAdd, Nat.reduceSub, Array.replicate_succ, Array.replicate_zero, List.push_toArray, List.append_toArray, List.nil_append, List.cons_append]
  gi_wp2
  have L0 := below_alloc w (.cells #[.slice none 0 0] 36)
  have A0 : Hid (Acc w (w.alloc (.cells #[.slice none 0 0] 36)) [] (accL xs 0) (.slice none 0 0)) :=
    ⟨Boxed.new w 36 (.slice none 0 0), World.ownsRow_nil _ _ _ _, (fun D hD => by cases hD), L0, (fun D hD => by cases hD)⟩
  have HX := Lib.hid hx
  have HM := Lib.hid hM
  clear hx hM L0
  have n2 : ((0 : Nat) : Int) = 0 := rfl
  refine wpIn_loop (fun (act : Act) (W : World) => ∃ (j : Nat) (Ds : List Nat) (v : Value) (u5 u6 u10 u11 u12 u13 u14 u15 u16 u17 u18 u19 u20 u21 u22 u23 u24 : Value),
      act = { tmps := #[.slice a xs.length c, undef, .slice none 0 0, .pointer (some ⟨w.heap.size, 0, none⟩), undef, u5, u6, .slice a xs.length c, .int .i64 (xs.length : Int), .int .i64 (j : Int), u10, u11, u12, u13, u14, u15, u16, u17, u18, u19, u20, u21, u22, u23, u24, undef], defers := Ds.map markD } ∧
      j ≤ xs.length ∧ Hid (Acc w W Ds (accL xs j) v) ∧ Ds.Nodup) (fun act _ => xs.length - (intOf (act.tmps.getD 9 undef)).toNat) ?start ?round
  case start => exact ⟨0, [], _, undef, undef, undef, undef, undef, undef, undef, undef, undef, undef, undef, undef, undef, undef, undef, undef, undef, rfl, Nat.zero_le _, A0, List.nodup_nil⟩
  case round =>
    clear A0
    rintro act W ⟨j, Ds, v, u5, u6, u10, u11, u12, u13, u14, u15, u16, u17, u18, u19, u20, u21, u22, u23, u24, rfl, hj, hA, hnd⟩
    by_cases hlt : j < xs.length
    · obtain h0 | ⟨bk, o, rfl, hbk, hc, hcell⟩ := HX.out.below hA.out.bel
      · subst h0; simp at hlt
      · have cj := hcell j xs[j] (by simp [hlt])
        clear hcell
        have hb1 : w.heap.size < W.heap.size := hA.out.box.lt
        obtain ⟨x, hxe⟩ : ∃ x, x = xs[j] := ⟨_, rfl⟩
        rw [← hxe] at cj
        have hsx : x.size ≤ 1000000000 := by have := sumS_part xs j hlt; rw [← hxe] at this; omega
        have hpart := sumS_part xs j hlt
        rw [← hxe] at hpart
        have hacc := accL_bound xs j
        have hsucc := accL_succ xs j hlt
        rw [← hxe] at hsucc
        have HPB : Hid ((accL xs j).length + (x.size + 1) ≤ 1000000000) := by show _ ≤ _; omega
        have HSU := Lib.hid hsucc
        clear hpart hacc hsucc hxe
        gi_wp2_with fail
        refine ⟨trivial, ?_⟩
        refine (callsIn_wide.2 (split68 x 44 W)).mono ?_
        rintro e W2 ⟨rfl, hbx, hb2, hsz2⟩
        have A2 : Hid (Acc w W2 Ds (accL xs j) v) := hA.out.grown (grown_of_below hb2) (fun r e => by cases e)
        have hoff : Hid (∀ b, W.heap.size ≤ b → v.ownBlock ≠ some b) := fun b hb e => by
          obtain ⟨o, ho, _⟩ := own_cells hA.out.row _ e
          have := (Array.getElem?_eq_some_iff.1 ho).1
          omega
        have hdl : Hid (∀ D ∈ Ds, D < W.heap.size) := fun D hm => (Array.getElem?_eq_some_iff.1 (hA.out.ds _ hm)).1
        gi_wp2_with fail
        clear cj hA
        refine range_split 3 W.heap.size 44 x (by omega) rfl hbx (by omega)
          (fun pre V => ∃ v', Acc w V Ds (accL xs j ++ keepP pre) v' ∧ (∀ b, W.heap.size ≤ b → b < W.heap.size + 3 → v'.ownBlock ≠ some b)) (fun _ _ => False) ?minds (fun _ _ _ _ h _ _ => h) (fun pre V h => HM.out.below h.choose_spec.1.bel)
          ⟨v, by rw [show keepP [] = [] from rfl, List.append_nil]; exact A2.out, fun b h1 _ => hoff.out b h1⟩
          (fun y => { tmps := #[.slice (some ⟨bk, o, none⟩) xs.length c, undef, .slice none 0 0, .pointer (some ⟨w.heap.size, 0, none⟩), undef, .string x, .string ⟨y.toArray⟩, .slice (some ⟨bk, o, none⟩) xs.length c, .int .i64 (xs.length : Int), .int .i64 (j : Int), .bool true, .pointer (some ⟨bk, o + j, none⟩), .string x, .string x, seqV W.heap.size, .string ⟨y.toArray⟩, u16, u17, u18, u19, u20, u21, u22, u23, u24, undef], defers := [] }) ?assign ?body ?done (fun _ _ h => h.elim)
        case minds =>
          rintro pre A C row ⟨v', hA, ho⟩ hg hr
          refine ⟨v', hA.grown hg (fun r e => ?_), ho⟩
          rcases hr r e with rfl | ⟨h1, o', h2, h3⟩
          · exact ⟨hb1, ho _ (Nat.le_refl _) (by omega), fun hm => by have := hdl.out _ hm; omega⟩
          · refine ⟨by omega, fun e2 => ?_, fun hm => by have := hdl.out _ hm; omega⟩
            obtain ⟨o2, ho2, hc2⟩ := own_cells hA.row _ e2
            rw [h2] at ho2
            cases ho2
            rw [h3] at hc2
            cases hc2
        case assign =>
          intro l y V K hK
          gi_wp2
          exact hK
        case body =>
          rintro l pre y V ⟨v', hA, ho⟩ hVs hpl hyl
          have HT := Lib.hid (trim_list y (by omega) V)
          have hkl : (accL xs j ++ keepP pre).length ≤ 1000000000 := by
            have h1 := HPB.out
            have h2 := keepP_length pre
            have h3 := parts_length 44 x.data.toList
            rw [← Lib.size_eq] at h3
            rw [List.length_append]
            omega
          gi_wp2_with fail
          refine ⟨trivial, ?_⟩
          refine ((callsIn_wide.2 HT.out).inRound l).mono ?_
          rintro e V2 ⟨rfl, hbT⟩
          have hA2 := hA.grown (grown_of_below hbT) (fun r e => by cases e)
          have hzT := hbT.size
          by_cases hemp : trimB y = []
          · have hks : keepP (pre ++ [y]) = keepP pre := by rw [keepP_snoc, hemp]; simp
            have he1 : (⟨(trimB y).toArray⟩ : ByteArray).toList = [] := by rw [hemp, ByteArray.toList_eq]
            have HKS := Lib.hid hks
            obtain ⟨T, hT⟩ : ∃ T : ByteArray, T = ⟨(trimB y).toArray⟩ := ⟨_, rfl⟩
            rw [← hT] at he1 ⊢
            clear hT hks hemp
            gi_wp2_with fail
            refine ⟨⟨hbT.size, fun k o _ hk _ => (hbT.block k (Array.getElem?_eq_some_iff.1 hk).1).trans hk⟩, fun b h1 h2 => hbT.block b (by omega), v', ?_, ho⟩
            rw [HKS.out]
            exact hA2
          · have hks : keepP (pre ++ [y]) = keepP pre ++ [trimB y] := by
              rw [keepP_snoc, if_neg (by simpa using hemp)]
            have he1 : (⟨(trimB y).toArray⟩ : ByteArray).toList.isEmpty = false := by
              rw [ByteArray.toList_eq]
              cases h : trimB y with
              | nil => exact absurd h hemp
              | cons a r => rfl
            have hvv : valsOf (accL xs j ++ keepP pre) ++ [Value.string ⟨(trimB y).toArray⟩] = valsOf (accL xs j ++ keepP (pre ++ [y])) := by
              rw [hks]; unfold valsOf; simp
            have hll : (accL xs j ++ keepP pre).length + 1 = (accL xs j ++ keepP (pre ++ [y])).length := by rw [hks]; simp; omega
            have HVV := Lib.hid hvv
            have HLL := Lib.hid hll
            obtain ⟨T, hT⟩ : ∃ T : ByteArray, T = ⟨(trimB y).toArray⟩ := ⟨_, rfl⟩
            rw [← hT] at he1 HVV ⊢
            have hc2 := hA2.box.cell
            have hrow := hA2.row
            obtain ⟨k, hk⟩ : ∃ k, k = (accL xs j ++ keepP pre).length := ⟨_, rfl⟩
            rw [← hk] at hrow hkl HLL
            have hks' := Lib.hid hks
            clear hT hks hemp hvv hll hk
            gi_wp2_with (gi_at_builtin; refine in_append _ rfl _ _ 36 rfl w.heap.size 9 i0 (.string ⟨#[]⟩) 16 Tryd.underlying36 hi hz0 hz1 hz2 rfl _ _ _ rfl (hrow.alloc _) ⟨V2.heap.size, 0, none⟩ (.string T) rfl (cell_one_new _ _ _) rfl (by unfold maxLen; omega) (by omega) (by have := hA2.box.lt; simp; omega) ?_; intro v2 w1 hown' hgrow hat; obtain ⟨g', cap', rfl⟩ := ownsRow_succ hown'; obtain ⟨hv1, hv2, hr2, hk2, hb2'⟩ := hA2.box.appended (by decide) hrow (Nat.le_of_lt hA2.box.lt) (Nat.le_refl _) hown' hgrow; have hc1 := hv1.cell; have hf1 := hv1.frozen)
            have e2 : (Value.slice (some ⟨g', 0, none⟩) (k + 1) cap').ownBlock = some g' := rfl
            refine ⟨KeepsFrom.trans ⟨hbT.size, fun q o _ hq _ => (hbT.block q (Array.getElem?_eq_some_iff.1 hq).1).trans hq⟩ (hk2.from _), fun b h1 h2 => ?_, _, ⟨hv2, ?_, ?_, hA2.bel.trans hb2', hA2.dlo⟩, fun b h1 h2 e => ?_⟩
            · rw [Below.heap_setCell w1 ⟨w.heap.size, 0, none⟩ _ b (by simp; omega), hgrow.block b (by simp; omega) (fun e => ho b h1 h2 e.symm), Below.heap_alloc V2 _ b (by omega), hbT.block b (by omega)]
            · rw [← HVV.out, ← HLL.out]
              exact hr2
            · intro D hD
              exact hk2.same D _ (hA2.ds D hD) rfl
            · rcases hat with h | h
              · rw [h] at e; exact ho b h1 h2 e
              · rw [h] at e
                injection e with e
                simp at e
                omega
        case done =>
          rintro V ⟨v', hA, ho⟩ hD hVs
          rw [← HSU.out] at hA
          have j1 : (j : Int) < 9223372036854775807 := by
            have := HPB.out
            have := sum_len xs
            omega
          gi_wp2_with fail
          refine ⟨⟨j + 1, W2.heap.size :: Ds, v', _, _, _, _, _, _, _, _, _, _, _, _, _, _, _, _, _, by first | rfl | (rw [show (((j + 1 : Nat)) : Int) = (j : Int) + 1 by omega]; rfl), hlt, ⟨hA.box, hA.row, ?_, hA.bel, ?_⟩, ?_⟩, ?_⟩
          · intro D hDm
            rcases List.mem_cons.1 hDm with rfl | hm
            · exact hD
            · exact hA.ds D hm
          · intro D hDm
            rcases List.mem_cons.1 hDm with rfl | hm
            · omega
            · exact hA.dlo D hm
          · exact List.nodup_cons.2 ⟨fun hm => by have := hdl.out _ hm; omega, hnd⟩
          · simp [intOf]; omega
    · obtain rfl : j = xs.length := by omega
      have hc2 := hA.out.box.cell
      gi_wp2_with fail
      exact leaves_marks (fn := Tryd.f33) (v := v) (fun V => Eq.trans (results_tmp (fn := Tryd.f33) rfl _ _ V) rfl) Ds W (B := w.heap.size) hnd hA.out.ds (fun D hD => Nat.le_of_lt (hA.out.dlo D hD)) hA.out.row hA.out.bel
        (fun W' h1 h2 => ⟨v, rfl, h1, h2⟩)
end Go.Proofs.YtneagccakoakpaaDoor
