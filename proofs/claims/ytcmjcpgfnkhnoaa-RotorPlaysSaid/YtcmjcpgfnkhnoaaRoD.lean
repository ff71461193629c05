/- rotor.counting. -/
import Derived.Test.YtcmjcpgfnkhnoaaRoC
namespace Go.Proofs.Ytcmjcpgfnkhnoaa
open Go.RowKit Go.Maps

theorem run_makeMap_hint {P : Program} {t k e : TypeId} (hu : P.underlying t = some (.map k e)) (q : IntKind) (n : Int) (w : World) : (Instr.makeMap t (some (.int q n))).run P w = .ok (.map (some w.heap.size)) (w.alloc (.map #[] 0)) := by
  simp [Instr.makeMap, run_underlying hu, asInt, asIntOf, Result.andThen]
theorem max_int (x y m : Int) (h : m = max x y) (ts : Array TypeId) (t : TypeId) (w : World) : (Builtin.max_ ts t #[.int .i64 x, .int .i64 y]).run Try.prog w = .ok (.int .i64 m) w := by
  have : m = if y > x then y else x := by subst h; split <;> omega
  simp [Builtin.max_, Builtin.max2, this]
theorem min_int (x y m : Int) (h : m = min x y) (ts : Array TypeId) (t : TypeId) (w : World) : (Builtin.min_ ts t #[.int .i64 x, .int .i64 y]).run Try.prog w = .ok (.int .i64 m) w := by
  have : m = if y < x then y else x := by subst h; split <;> omega
  simp [Builtin.min_, Builtin.min2, this]
/-- What the loop holds. -/
structure CntS (w : World) (es : List Ent) (mb : Nat) (u : Value) (j : Nat) (wr : World) : Prop where
  bel : Below w.heap.size w wr
  own : wr.ownsRow (mb + 1) 57 2 u (cnt (es.take j)).length (cellsE (cnt (es.take j)))
  set : MapS wr mb j (hasE (once (es.take j)))
theorem cnt_hasE (es : List Ent) (s : ByteArray) : hasE (cnt es) s = hasE (once es) s := hasE_map _ lim s
theorem once_nil : once [] = [] := rfl
theorem cnt_step_old {es : List Ent} {j : Nat} (hj : j < es.length) (h : hasE (once (es.take j)) es[j].1 = true) : once (es.take (j + 1)) = once (es.take j) := by
  rw [once_step hj]; unfold onceF; rw [if_pos h]
theorem cnt_step_new {es : List Ent} {j : Nat} (hj : j < es.length) (h : hasE (once (es.take j)) es[j].1 = false) : once (es.take (j + 1)) = once (es.take j) ++ [es[j]] := by
  rw [once_step hj]; unfold onceF; rw [h]; rfl
theorem own_base {w : World} {b b' : Nat} {e : TypeId} {n m : Nat} {v : Value} {xs : List Value} (h : w.ownsRow b e n v m xs) (hb : b' ≤ b) : w.ownsRow b' e n v m xs := by
  obtain ⟨hl, h0 | ⟨g, cap, cur, rfl, hbb, r⟩⟩ := h
  · exact ⟨hl, .inl h0⟩
  · exact ⟨hl, .inr ⟨g, cap, cur, rfl, Nat.le_trans hb hbb, r⟩⟩
set_option maxHeartbeats 4000000 in
set_option maxRecDepth 100000 in
theorem count26 (a : Option Addr) (c : Nat) (es : List Ent) (hl : es.length ≤ 1000000) (hsz : ∀ e ∈ es, e.1.size ≤ maxLen) (w : World) (hf : IsEnts w a c es) :
    Calls Try.prog 26 #[.slice a es.length c] w fun e w' => ∃ u, e = .returned u ∧ w'.ownsRow w.heap.size 57 2 u (cnt es).length (cellsE (cnt es)) ∧ Below w.heap.size w w' := by
  obtain ⟨i0, hi, hz0, hz1, hz2⟩ := info_parts infoEnt
  have HFF := Lib.hid hf
  have HSZ := Lib.hid hsz
  have hmm := run_makeMap_hint Try.underlying78
  have HM0 := Lib.hid (MapS.new w)
  clear hf hsz
  go_enter Try.func26, Try.ntmps26
  go_wp2_with (at_make; refine wpList_make_own _ rfl _ _ 44 rfl (w.heap.size + 1) 57 i0 (.agg #[.string ⟨#[]⟩, .int .i64 0]) 2 Try.underlying44 hi hz0 hz1 _ _ _ es.length rfl rfl rfl (by rw [hz2]; omega) (by unfold maxLen; omega) (by simp) ?_; intro w1 hown1 hg1)
  have HB1 := Lib.hid ((below_alloc w (.map #[] 0)).grown hg1 (by simp) (fun k hk => by cases hk))
  have HS1 := Lib.hid (HM0.out.keep (Keep.grown (G := fun _ => False) hg1 (fun k hk => by cases hk)) (fun h => h))
  simp only [World.size_alloc] at hown1
  have HO1 := Lib.hid hown1
  clear hown1 hg1 HM0
  obtain ⟨mb, hmb⟩ : ∃ mb, mb = w.heap.size := ⟨_, rfl⟩
  have HB0 : Hid (mb = w.heap.size) := hmb
  rw [← hmb] at HS1 HO1 ⊢
  clear hmb
  go_wp2_with fail
  go_loopw [4, 17] (fun u i wr => ∃ j : Nat, j ≤ es.length ∧ i = .int .i64 (j : Int) ∧ CntS w es mb u j wr) (fun _ i _ => es.length - (intOf i).toNat)
  case atStart =>
    refine ⟨0, Nat.zero_le _, rfl, HB1.out, ?_, ?_⟩
    · simpa [once_nil, cnt, cellsE] using HO1.out
    · exact HS1.out
  case round =>
    obtain ⟨j, hj, rfl, HC⟩ := hrel
    by_cases hlt : j < es.length
    · obtain h0 | ⟨bk, o, rfl, hbk, hc, hcell⟩ := HFF.out.below HC.bel
      · subst h0; simp at hlt
      obtain ⟨c1, c2⟩ := hcell j es[j] (by simp [hlt])
      have hss := HSZ.out es[j] (List.getElem_mem hlt)
      have j1 : (j : Int) < es.length := by omega
      have hst1 : Hid (hasE (once (es.take j)) es[j].1 = true → once (es.take (j + 1)) = once (es.take j)) := cnt_step_old hlt
      have hst2 : Hid (hasE (once (es.take j)) es[j].1 = false → once (es.take (j + 1)) = once (es.take j) ++ [es[j]]) := cnt_step_new hlt
      obtain ⟨f, hfe⟩ : ∃ f, f = es[j] := ⟨_, rfl⟩
      rw [← hfe] at c1 c2 hst1 hst2 hss
      clear hcell hfe
      obtain ⟨N, V⟩ := f
      simp only at c1 c2 hst1 hst2 hss
      obtain ⟨R, hR⟩ : ∃ R, R = wr.heap.size := ⟨_, rfl⟩
      have hmR : mb < wr.heap.size := HC.set.lt
      have HS2 := Lib.hid (HC.set.alloc (.cells #[.string N, .int .i64 V] 57))
      have hq : Hid (∀ q, q = hasE (once (es.take j)) N → MapS (wr.alloc (.cells #[.string N, .int .i64 V] 57)) mb j (hasE (once (es.take j)))) := fun _ _ => HS2.out
      obtain ⟨q, hqe⟩ : ∃ q, q = hasE (once (es.take j)) N := ⟨_, rfl⟩
      have HQE : Hid (hasE (once (es.take j)) N = q) := hqe.symm
      clear hq hqe hR R
      cases q
      · have hs2 := hst2.out HQE.out
        have HE := Lib.hid hs2
        clear hst1 hst2 hs2
        go_wp2_with (first
          | (at_lookup; refine wpl_seen _ rfl _ _ rfl mb j _ rfl HS2.out N rfl hss ?_; rw [HQE.out])
          | (at_mapUpdate; refine wpl_mark _ rfl _ _ _ rfl mb j _ rfl (HS2.out.alloc _) (by unfold maxLen; omega) N rfl rfl hss ?_))
        intro w2 m2 g2
        have hsz : ((wr.alloc (.cells #[.string N, .int .i64 V] 57)).alloc (.cells #[] 79)).heap.size = wr.heap.size + 1 + 1 := by rw [World.size_alloc, World.size_alloc]
        have R2 : Row w2 wr.heap.size 57 #[.string N, .int .i64 V] := ((Row.new wr 57 #[.string N, .int .i64 V]).alloc (.cells #[] 79)).grown g2 (by intro e; injection e with e; omega)
        have c3 : w2.cell? ⟨wr.heap.size, 0, none⟩ = some (.string N) := R2.cell 0
        have c4 : w2.cell? ⟨wr.heap.size, 1, none⟩ = some (.int .i64 V) := R2.cell 1
        have f4 : w2.frozen? ⟨wr.heap.size, 1, none⟩ = false := R2.free 1
        have hgs := g2.size
        rw [hsz] at hgs
        obtain ⟨Y, hY⟩ : ∃ Y, Y = max V 1 := ⟨_, rfl⟩
        obtain ⟨X, hX⟩ : ∃ X, X = min Y 65535 := ⟨_, rfl⟩
        have qmx := max_int V 1 Y hY
        have qmn := min_int Y 65535 X hX
        have HX : Hid (X = lim V) := by rw [hX, hY]; rfl
        have O2 : w2.ownsRow (mb + 1) 57 2 u4 (cnt (es.take j)).length (cellsE (cnt (es.take j))) := by
          refine ((HC.own.alloc _).alloc _).kept g2 ?_
          cases hob : u4.ownBlock with
          | none => exact .inl rfl
          | some k => have := (HC.own.lt k hob).1; exact .inr (by intro e; injection e with e; omega)
        have O3 : (w2.setCell ⟨wr.heap.size, 1, none⟩ (.int .i64 X)).ownsRow (mb + 1) 57 2 u4 (cnt (es.take j)).length (cellsE (cnt (es.take j))) := by
          refine O2.kept (row := some wr.heap.size) ⟨rfl, rfl, rfl, by simp [World.setCell], fun i _ hi => Below.heap_setCell _ _ _ _ (fun e => hi (by rw [e]))⟩ ?_
          cases hob : u4.ownBlock with
          | none => exact .inl rfl
          | some k => have := (HC.own.lt k hob).2; exact .inr (by intro e; injection e with e; omega)
        have HO3 := Lib.hid (O3.alloc (.cells #[.string N, .int .i64 X] 57))
        have hsz3 : (w2.setCell ⟨wr.heap.size, 1, none⟩ (.int .i64 X)).heap.size = w2.heap.size := by simp [World.setCell]
        have hnw := cells_ent (w2.setCell ⟨wr.heap.size, 1, none⟩ (.int .i64 X)) N X 57
        rw [hsz3] at hnw
        have HNW := Lib.hid hnw
        have hbw := HC.bel.size
        have hmbw := HB0.out
        have B2 : Below w.heap.size w w2 := ((HC.bel.alloc HC.bel.size (.cells #[.string N, .int .i64 V] 57)).alloc (by rw [World.size_alloc]; omega) (.cells #[] 79)).grown g2 (by rw [hsz]; omega) (fun k hk => by injection hk with hk; omega)
        have B3 : Below w.heap.size w (w2.setCell ⟨wr.heap.size, 1, none⟩ (.int .i64 X)) := B2.setCell (p := ⟨wr.heap.size, 1, none⟩) hbw _
        have HB4 := Lib.hid (B3.alloc (by rw [hsz3]; omega) (.cells #[.string N, .int .i64 X] 57))
        have M3 : MapS (w2.setCell ⟨wr.heap.size, 1, none⟩ (.int .i64 X)) mb (j + 1) (fun y => hasE (once (es.take j)) y || decide (N = y)) := m2.same (Below.heap_setCell _ _ _ _ (by show mb ≠ wr.heap.size; omega))
        have HM4 := Lib.hid (M3.alloc (.cells #[.string N, .int .i64 X] 57))
        have hlen : (cnt (es.take j)).length ≤ es.length := Nat.le_trans (cnt_len _) (by simp; omega)
        clear m2 g2 R2 O2 O3 hnw B2 B3 M3 HS2 hX hY hmbw
        go_wp2_with (at_builtin; (refine wpList_append_own _ rfl _ _ 44 rfl (mb + 1) 57 i0 (.agg #[.string ⟨#[]⟩, .int .i64 0]) 2 24 Try.underlying44 hi hz0 hz1 hz2 rfl (by decide) _ _ _ rfl HO3.out ⟨w2.heap.size, 0, none⟩ 1 1 [.string N, .int .i64 X] rfl rfl HNW.out (ent_one N X) (by unfold maxLen; omega) (by omega) (by simp; omega) ?_))
        intro v' w4 hown' hgrow _
        have hB0 := HB0.out
        have hgs4 := HB4.out.size
        have HB5 : Hid (Below w.heap.size w w4) := HB4.out.grown hgrow hgs4 (fun k hk => by have := (HO3.out.lt k hk).1; omega)
        have hst : cnt (es.take (j + 1)) = cnt (es.take j) ++ [(N, X)] := by unfold cnt; rw [HE.out, HX.out, List.map_append]; rfl
        have hown5 : w4.ownsRow (mb + 1) 57 2 v' (cnt (es.take (j + 1))).length (cellsE (cnt (es.take (j + 1)))) := by
          rw [hst, List.length_append, cellsE_append]; exact hown'
        have HO5 := Lib.hid hown5
        have hm5 : MapS w4 mb (j + 1) (hasE (once (es.take (j + 1)))) := by
          have h5 := HM4.out.keep (G := fun k => u4.ownBlock = some k) (Keep.grown hgrow (fun k hk => hk)) (fun hk => by have := (HO3.out.lt _ hk).1; omega)
          have : (fun y => hasE (once (es.take j)) y || decide (N = y)) = hasE (once (es.take (j + 1))) := by
            funext y; rw [HE.out, hasE_append]; simp [hasE]
          rw [this] at h5; exact h5
        have HM5 := Lib.hid hm5
        clear hown' hgrow hst hown5 hm5 hB0 hgs4 HB4 HO3 HM4 HNW
        go_wp2_with fail
        go_roundw
        case rel => exact ⟨j + 1, hlt, by go_num, HB5.out, HO5.out, HM5.out⟩
        case measure => simp [intOf]; omega
      · have hs2 := hst1.out HQE.out
        have HE := Lib.hid hs2
        clear hst1 hst2 hs2
        go_wp2_with (at_lookup; refine wpl_seen _ rfl _ _ rfl mb j _ rfl HS2.out N rfl hss ?_; rw [HQE.out])
        go_roundw
        case rel =>
          refine ⟨j + 1, hlt, by go_num, ?_⟩
          have B2 : Below w.heap.size w ((wr.alloc (.cells #[.string N, .int .i64 V] 57)).alloc (.cells #[] 79)) := (HC.bel.alloc HC.bel.size _).alloc (by rw [World.size_alloc]; have := HC.bel.size; omega) _
          exact ⟨B2, by unfold cnt; rw [HE.out]; exact (HC.own.alloc _).alloc _, by rw [HE.out]; exact (HS2.out.alloc _).mono (by omega)⟩
        case measure => simp [intOf]; omega
    · obtain rfl : es.length = j := by omega
      have ho := HC.own
      rw [List.take_of_length_le (Nat.le_refl _)] at ho
      have HO := Lib.hid ho
      have HBB := Lib.hid HC.bel
      clear HC ho
      have hne : ¬ ((es.length : Int) < es.length) := by omega
      go_wp2_with fail
      go_ret
      exact ⟨_, rfl, own_base HO.out (by rw [HB0.out]; omega), HBB.out⟩
end Go.Proofs.Ytcmjcpgfnkhnoaa
