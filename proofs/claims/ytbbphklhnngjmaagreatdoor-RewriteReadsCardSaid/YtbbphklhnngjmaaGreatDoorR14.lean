/- Packed: HeC, HeD, HeE, HeF, PaA, PaB. -/
import Derived.Deep.Cut
import Derived.Test.YtbbphklhnngjmaaGreatDoorR07
import Derived.Test.YtbbphklhnngjmaaGreatDoorR09
import Derived.Test.YtbbphklhnngjmaaGreatDoorR10
import Derived.Test.YtbbphklhnngjmaaGreatDoorR13
/- request: a head in memory; a field line. -/
namespace Go.Proofs.YtbbphklhnngjmaaGreatDoor
open Go.RowKit

/-- What holds while a field is put behind the others. -/
structure AddS (G : Nat → Prop) (T : TypeId) (rest : List Value) (w0 : World) (g : Nat) (L H C B st : Int) (f : ByteArray) (fs : List Fld) (sz : Nat) (cur : List UInt8) (cr : Bool) (e : Int) (rv ln : Value) (N V : List UInt8) (S : (Nat → Bool)) (x : Nat → Value) (w : World) : Prop where
  a : S 7 = false → Below w0.heap.size w0 w
  o : S 6 = true → S 5 = true
  b : S 6 = true → S 7 = false → ∃ b, x 6 = .slice (some ⟨b, 0, none⟩) 1 1 ∧ ∀ (k : Nat) u, [Value.string (bs N), .string (bs V)][k]? = some u → w.cell? ((⟨b, 0, none⟩ : Addr).add k) = some u
  d : S 7 = true → (S 4 = true ∧ S 6 = true) ∧ HeAt G T rest (w.setCell ⟨g, 6, none⟩ (x 7)) g L H C B st f (fs ++ [(N, V)]) sz cur cr e (x 7) ln ∧ Row w g T (heCells L H C B st f rv sz ln cr e rest) ∧ Keep G w0 (w.setCell ⟨g, 6, none⟩ (x 7)) ∧ ∃ va vc, x 7 = .slice va (fs.length + 1) vc
theorem AddS.keep {G : Nat → Prop} {T : TypeId} {rest : List Value} {w0 : World} {g : Nat} {L H C B st : Int} {f : ByteArray} {fs : List Fld} {sz : Nat} {cur : List UInt8} {cr : Bool} {e : Int} {rv ln : Value} {N V : List UInt8} {S : (Nat → Bool)} {x : Nat → Value} {w : World} (h : AddS G T rest w0 g L H C B st f fs sz cur cr e rv ln N V S x w) (i : Nat) (u : Value) (h6 : i ≠ 6) (h7 : i ≠ 7) : AddS G T rest w0 g L H C B st f fs sz cur cr e rv ln N V (setL S i) (updV x i u) w := by
  have e6 : setL S i 6 = S 6 := by simp only [setL, if_neg (Ne.symm h6)]
  have e7 : setL S i 7 = S 7 := by simp only [setL, if_neg (Ne.symm h7)]
  have e4 : S 4 = true → setL S i 4 = true := fun h => by simp only [setL]; split; rfl; exact h
  have e5 : S 5 = true → setL S i 5 = true := fun h => by simp only [setL]; split; rfl; exact h
  have x6 : updV x i u 6 = x 6 := by simp only [updV, if_neg (Ne.symm h6)]
  have x7 : updV x i u 7 = x 7 := by simp only [updV, if_neg (Ne.symm h7)]
  refine ⟨by rw [e7]; exact h.a, by rw [e6]; exact fun q => e5 (h.o q), by rw [e6, e7, x6]; exact h.b, ?_⟩
  rw [e6, e7, x7]
  intro q
  exact ⟨⟨e4 (h.d q).1.1, (h.d q).1.2⟩, (h.d q).2⟩
theorem cellsF_snoc (fs : List Fld) (N V : List UInt8) : cellsF fs ++ [.string (bs N), .string (bs V)] = cellsF (fs ++ [(N, V)]) := by simp [cellsF]
theorem infoFldr : (Tryz.prog.info? 62).map (fun i => (i.zero, i.size, i.bytes)) = some (some (.agg #[.string ⟨#[]⟩, .string ⟨#[]⟩]), 2, 32) := by kernel_rfl
set_option maxRecDepth 100000 in
set_option maxHeartbeats 4000000 in
theorem hadd61 (G : Nat → Prop) (T : TypeId) (rest : List Value) (g : Nat) (L H C B st : Int) (f : ByteArray) (fs : List Fld) (sz : Nat) (cur : List UInt8) (cr : Bool) (e : Int) (s : ByteArray) (N V : List UInt8) (e1 E : Int) (he1 : e1 = 0 ∨ e1 = 2) (hp : parseV s.data.toList = .tuple #[fldV (N, V), .int .i64 e1])
    (hE : E = if H < (sz : Int) + ((s.size : Int) + 2) ∨ C < (fs.length : Int) + 1 then 4 else e1) (hsz : sz + s.size ≤ 1000000000) (hfl : fs.length ≤ 1000000000) (w : World) (h : He G T rest w g L H C B st f fs sz cur cr e) (hu : Up G w) (hM : MaxL w) :
    Calls Tryz.prog 166 #[.pointer (some ⟨g, 0, none⟩), .string s] w fun r w' => r = .returned (.tuple #[]) ∧ (if E = 0 then He G T rest w' g L H C B st f (fs ++ [(N, V)]) (sz + (s.size + 2)) cur cr e else He G T rest w' g 0 0 0 0 3 ⟨#[]⟩ [] 0 [] false E) ∧ Keep G w w' := by
  obtain ⟨i0, hi, hz0, hz1, hz2⟩ := info_parts infoFldr
  obtain ⟨rv, ln, h⟩ := h
  have HD := Lib.hid h
  have HU := Lib.hid hu
  have HP := Lib.hid (parse36 s (by omega) w hM)
  rw [hp] at HP
  unfold fldV at HP
  simp only at HP
  clear h hu hM hp
  go_enter Tryz.func166, Tryz.ntmps166
  go_wp2_with fail
  with_reducible refine HP.out.mono ?_
  rintro e9 wA ⟨rfl, hbA⟩
  have cF0 : (wA.alloc (.cells #[.string (bs N), .string (bs V)] 62)).cell? ⟨wA.heap.size, 0, none⟩ = some (.string (bs N)) := by simp
  have cF1 : (wA.alloc (.cells #[.string (bs N), .string (bs V)] 62)).cell? ⟨wA.heap.size, 1, none⟩ = some (.string (bs V)) := by simp
  have hlt : wA.heap.size < (wA.alloc (.cells #[.string (bs N), .string (bs V)] 62)).heap.size := by simp
  have hb0 := hbA.alloc hbA.size (.cells #[.string (bs N), .string (bs V)] 62)
  go_upto_region 1 with fail
  obtain ⟨bF, hbF⟩ : ∃ bF, bF = wA.heap.size := ⟨_, rfl⟩
  rw [← hbF] at cF0 cF1 hlt ⊢
  generalize wA.alloc (.cells #[.string (bs N), .string (bs V)] 62) = w0 at *
  have HD0 := Lib.hid (HD.out.below hb0)
  have HU0 := Lib.hid (HU.out.below hb0)
  have HB0 := Lib.hid (Keep.of_below (G := G) hb0)
  clear hbF hbA hb0 HD HU HP
  refine region_mixt 8 [some (.pointer (some ⟨g, 0, none⟩)), some (.pointer (some ⟨g, 0, none⟩)), some (.pointer (some ⟨g, 0, none⟩)), some (.pointer (some ⟨g, 6, none⟩)), some (rv), some (.agg #[.string (bs N), .string (bs V)]), none, none]
    [[false, false, false, false, false, false, false, false], [false, false, false, false, false, false, false, false], [false, true, false, false, false, false, false, false], [false, false, true, false, false, false, false, false], [false, false, false, true, false, false, false, false], [false, false, false, false, false, false, false, false], [false, false, false, false, false, true, false, false], [false, false, false, false, true, false, true, false]]
    (fun L1 x w1 => AddS G T rest w0 g L H C B st f fs sz cur cr e rv ln N V L1 x w1)
    (by kernel_rfl) (by kernel_rfl) (by kernel_rfl) (by kernel_rfl) (by kernel_rfl) (by decide) ?_ ?_ ?_
  · intro _
    exact ⟨fun _ => ⟨rfl, rfl, rfl, Nat.le_refl _, fun _ _ => rfl⟩, fun h => (by cases h), fun h => (by cases h), fun h => (by cases h)⟩
  · simp only [List.take_succ_cons, List.take_zero]
    refine ⟨?_, ?_, ?_, ?_, ?_, ?_, ?_, ?_, trivial⟩
    all_goals
      intro S x w9 hS hl hp K hK
      have hs : AddS G T rest w0 g L H C B st f fs sz cur cr e rv ln N V S x w9 := hS
      clear hS
      replace hK := hK.out
      simp only [actMix, pickV, List.tail_cons, List.headD_cons, Act.put, List.setIfInBounds_toArray, List.set_cons_zero, List.set_cons_succ] at hK ⊢
    iterate 4
      · clear hp
        go_simp
        with_reducible refine hK _ ?_
        exact hs.keep _ _ (by decide) (by decide)
    · have h7 : S 7 = false := by
        cases h : S 7 with
        | false => rfl
        | true => have := (hs.d h).1.1; rw [hl] at this; cases this
      have c6 := (HD0.out.below (hs.a h7)).c.2.2.2.2.2.2.1
      clear hp
      go_simp
      with_reducible refine hK _ ?_
      exact hs.keep _ _ (by decide) (by decide)
    · have h7 : S 7 = false := by
        cases h : S 7 with
        | false => rfl
        | true => have := hs.o (hs.d h).1.2; rw [hl] at this; cases this
      have r0 : w9.cell? ⟨bF, 0, none⟩ = some (.string (bs N)) := by rw [(bcell (hs.a h7)).1 _ _ hlt]; exact cF0
      have r1 : w9.cell? ⟨bF, 1, none⟩ = some (.string (bs V)) := by rw [(bcell (hs.a h7)).1 _ _ hlt]; exact cF1
      clear hp
      go_simp
      with_reducible refine hK _ ?_
      exact hs.keep _ _ (by decide) (by decide)
    · have h7 : S 7 = false := by
        cases h : S 7 with
        | false => rfl
        | true => have := (hs.d h).1.2; rw [hl] at this; cases this
      have h5 : S 5 = true := allL_mem hp 5 (by decide +kernel)
      clear hp
      go_simp
      with_reducible refine hK _ _ ?_
      have hs9 := (hs.a h7).size
      refine ⟨fun _ => (hs.a h7).alloc hs9 _, fun _ => by simp [setL, h5], fun _ _ => ⟨w9.heap.size, by simp [updV], cells_new1 w9 (bs N) (bs V) _⟩, fun h => ?_⟩
      simp [setL, h7] at h
    · have h4 : S 4 = true := allL_mem hp 4 (by decide +kernel)
      have h6 : S 6 = true := allL_mem hp 6 (by decide +kernel)
      obtain ⟨b9, hx9, hc9⟩ := hs.b h6 hl
      have hd9 := HD0.out.below (hs.a hl)
      have hu9 := HU0.out.below (hs.a hl)
      clear hp
      rw [hx9] at hK ⊢
      rw [if_pos (by rfl)]
      refine wp_append_at w9 _ _ 31 rfl 0 62 i0 (.agg #[.string ⟨#[]⟩, .string ⟨#[]⟩]) 2 32 Tryz.underlying31 hi hz0 hz1 hz2 rfl (by decide) _ _ _ rfl hd9.ro ⟨b9, 0, none⟩ 1 1 [.string (bs N), .string (bs V)] rfl rfl hc9 (by intro u hu; simp at hu; rcases hu with rfl | rfl <;> rfl) (by unfold maxLen; omega) (by omega) (Nat.zero_le _) ?_
      intro v' w1 hown1 hgrow hat
      rw [cellsF_snoc] at hown1
      obtain ⟨va, vc, hv⟩ := own_slice hown1
      have hown2 := own_len hown1 (show fs.length + 1 = (fs ++ [(N, V)]).length by simp)
      obtain ⟨q1, q2, q3, _⟩ := hd9.grewR hgrow rfl hat hu9 hown2
      simp only [Act.put, List.setIfInBounds_toArray, List.set_cons_zero, List.set_cons_succ]
      with_reducible refine hK _ _ ?_
      refine ⟨fun h => ?_, fun _ => ?_, fun _ h => ?_, fun _ => ⟨⟨by simp [setL, h4], by simp [setL, h6]⟩, by simpa [updV] using q1, q2, by simpa [updV] using (Keep.of_below (hs.a hl)).trans q3, va, vc, by simpa [updV] using hv⟩⟩
      · simp [setL] at h
      · have := hs.o h6
        simp [setL, this]
      · simp [setL] at h
  intro S x w9 hS hL
  have hs : AddS G T rest w0 g L H C B st f fs sz cur cr e rv ln N V S x w9 := hS
  obtain ⟨_, q1, q2, q3, va, vc, hv⟩ := hs.d (hL 7 (by decide))
  have c6 : w9.cell? ⟨g, 6, none⟩ = some rv := (q2.cell 6).trans (by simp [heCells, heL])
  have f6 := q2.free 6
  rw [hv] at q1 q3
  have HQ1 := Lib.hid q1
  have HQ3 := Lib.hid (HB0.out.trans q3)
  clear hS hL hs q1 q2 q3 HD0 HU0 HB0 cF0 cF1 hlt hi hz0 hz1 hz2
  simp only [actMix, pickV, List.tail_cons, List.headD_cons, Act.put, List.setIfInBounds_toArray, List.set_cons_zero, List.set_cons_succ, List.replicate_succ, List.replicate_zero, List.drop_succ_cons, List.drop_zero, List.take_succ_cons, List.take_zero]
  rw [hv]
  clear hv
  go_upto_region 2 with fail
  clear c6 f6
  generalize w9.setCell ⟨g, 6, none⟩ (.slice va (fs.length + 1) vc) = w2 at *
  have c7 := HQ1.out.c.2.2.2.2.2.2.2.1
  have f7 := HQ1.out.row.free 7
  have HQ2 : Hid (HeAt G T rest (w2.setCell ⟨g, 7, none⟩ (.int .i64 ((sz + (s.size + 2) : Nat) : Int))) g L H C B st f (fs ++ [(N, V)]) (sz + (s.size + 2)) cur cr e (.slice va (fs.length + 1) vc) ln) := HQ1.out.set7 _
  have HQ4 := Lib.hid (HQ3.out.trans (Keep.setCell w2 (p := ⟨g, 7, none⟩) HQ1.out.gG (.int .i64 ((sz + (s.size + 2) : Nat) : Int))))
  obtain ⟨z, hz⟩ : ∃ z, z = sz + (s.size + 2) := ⟨_, rfl⟩
  have hzi : (sz : Int) + ((s.size : Int) + 2) = (z : Int) := by omega
  rw [hzi] at hE
  rw [← hz] at HQ2 HQ4
  have HZ := Lib.hid hz
  have hzz : z ≤ 1000000002 := by omega
  clear HQ1 HQ3 hz
  go_upto_region 3 with fail
  clear c7 f7
  generalize w2.setCell ⟨g, 7, none⟩ (.int .i64 (z : Int)) = w3 at *
  obtain ⟨c0, c1, c2, c3, c4, c5, c6, c7, c8, c9, c10⟩ := HQ2.out.c
  clear c0 c3 c4 c5 c8 c9 c10
  have HF := Lib.hid (fun (W : World) (x : Int) (h : He G T rest W g L H C B st f (fs ++ [(N, V)]) z cur cr e) => hfail40 G T rest g L H C B st f (fs ++ [(N, V)]) z cur cr e x W h)
  have DN : ∀ k, Below w3.heap.size w3 (w3.drewN k) := fun k => ⟨rfl, rfl, rfl, Nat.le_refl _, fun _ _ => rfl⟩
  have HDN := Lib.hid DN
  clear DN
  have hfl2 : ((fs.length + 1 : Nat) : Int) = (fs.length : Int) + 1 := by omega
  by_cases ha : H < (z : Int)
  · rw [if_pos (.inl ha)] at hE
    subst hE
    have h1 : decide (H < (z : Int)) = true := decide_eq_true ha
    go_quiet (fail)
    go_wp2_with fail
    with_reducible refine (HF.out _ _ (HQ2.out.below (HDN.out _)).he).mono ?_
    rintro e9 w' ⟨rfl, hd, hk⟩
    go_wp2_with fail
    go_end0
    exact ⟨rfl, hd, (HQ4.out.trans (.of_below (HDN.out _))).trans hk⟩
  · by_cases hb : C < (fs.length : Int) + 1
    · rw [if_pos (.inr hb)] at hE
      subst hE
      have h1 : decide (H < (z : Int)) = false := decide_eq_false ha
      have h2 : decide (C < (fs.length : Int) + 1) = true := decide_eq_true hb
      go_quiet (fail)
      go_wp2_with fail
      with_reducible refine (HF.out _ _ (HQ2.out.below (HDN.out _)).he).mono ?_
      rintro e9 w' ⟨rfl, hd, hk⟩
      go_wp2_with fail
      go_end0
      exact ⟨rfl, hd, (HQ4.out.trans (.of_below (HDN.out _))).trans hk⟩
    · rw [if_neg (by rintro (h | h); (· exact ha h); (· exact hb h))] at hE
      subst hE
      have h1 : decide (H < (z : Int)) = false := decide_eq_false ha
      have h2 : decide (C < (fs.length : Int) + 1) = false := decide_eq_false hb
      rcases he1 with rfl | rfl
      · go_quiet (fail)
        go_wp2_with fail
        go_end0
        rw [← HZ.out]
        exact ⟨rfl, (HQ2.out.below (HDN.out _)).he, HQ4.out.trans (.of_below (HDN.out _))⟩
      · skip
        go_quiet (fail)
        go_wp2_with fail
        with_reducible refine (HF.out _ _ (HQ2.out.below (HDN.out _)).he).mono ?_
        rintro e9 w' ⟨rfl, hd, hk⟩
        go_wp2_with fail
        go_end0
        exact ⟨rfl, hd, (HQ4.out.trans (.of_below (HDN.out _))).trans hk⟩
end Go.Proofs.YtbbphklhnngjmaaGreatDoor

/- request: a head in memory; a line's end, a byte. -/
namespace Go.Proofs.YtbbphklhnngjmaaGreatDoor
open Go.RowKit

def EndTo (E : Int) (A B : Prop) : Prop := if E = 0 then A else B
theorem own_anyH (a : Option Addr) (c n m : Nat) : (Value.slice a n c).ownBlock = (Value.slice a m c).ownBlock := by cases a <;> rfl
theorem own_zeroH {w : World} {e : TypeId} {n : Nat} {a : Option Addr} {c : Nat} {xs : List Value} (h : w.ownsRow 0 e 1 (.slice a n c) n xs) : w.ownsRow 0 e 1 (.slice a 0 c) ([] : List UInt8).length (byteVals []) := by
  obtain ⟨hl, ⟨h0, hn⟩ | ⟨g, cap, cur, hv, hb, hc, hn, hm, hs, ht⟩⟩ := h
  · injection h0 with h1 h2 h3
    subst h1 h3
    exact ⟨rfl, .inl ⟨rfl, rfl⟩⟩
  · injection hv with h1 h2 h3
    subst h1 h3
    exact ⟨rfl, .inr ⟨g, _, cur, rfl, hb, hc, Nat.zero_le _, hm, hs, by simp [byteVals]⟩⟩
set_option maxRecDepth 100000 in
set_option maxHeartbeats 2000000 in
/-- The first line's end. -/
theorem hend0 (G : Nat → Prop) (T : TypeId) (rest : List Value) (g : Nat) (L H C B : Int) (f : ByteArray) (fs : List Fld) (sz : Nat) (cur : List UInt8) (cr : Bool) (e : Int) (w : World) (h : He G T rest w g L H C B 0 f fs sz cur cr e) :
    Calls Tryz.prog 147 #[.pointer (some ⟨g, 0, none⟩)] w fun r w' => r = .returned (.tuple #[]) ∧ He G T rest w' g L H C B 1 (bs cur) fs sz [] false e ∧ Keep G w w' := by
  obtain ⟨rv, ln, h⟩ := h
  obtain ⟨c0, c1, c2, c3, c4, c5, c6, c7, c8, c9, c10⟩ := h.c
  have f4 := h.row.free 4
  have f5 := h.row.free 5
  have f8 := h.row.free 8
  have f9 := h.row.free 9
  have hcv := own_string w 0 _ _ h.lo
  obtain ⟨la, lc, rfl⟩ := own_slice h.lo
  have HD := Lib.hid h
  have HD1 : Hid (HeAt G T rest ((w.setCell ⟨g, 8, none⟩ (.slice la 0 lc)).setCell ⟨g, 9, none⟩ (.bool false)) g L H C B 0 f fs sz [] false e rv (.slice la 0 lc)) :=
    (h.set8 (own_zeroH h.lo) (fun j hj => h.lG j ((own_anyH la lc cur.length 0).trans hj))).set9 false
  have K : ∀ (v : World) (i : Nat) (u : Value), Keep G v (v.setCell ⟨g, i, none⟩ u) := fun v i u => Keep.setCell v (p := ⟨g, i, none⟩) HD.out.gG u
  have HK := Lib.hid K
  obtain ⟨x, hx⟩ : ∃ x, x = (⟨cur.toArray⟩ : ByteArray) := ⟨_, rfl⟩
  rw [← hx] at hcv
  have hxb : x = bs cur := hx
  have HX := Lib.hid hxb
  have HR : Hid (HeAt G T rest ((((w.setCell ⟨g, 8, none⟩ (.slice la 0 lc)).setCell ⟨g, 9, none⟩ (.bool false)).setCell ⟨g, 5, none⟩ (.string x)).setCell ⟨g, 4, none⟩ (.int .i64 1)) g L H C B 1 x fs sz [] false e rv (.slice la 0 lc)) := (HD1.out.set5 x).set4 1
  clear h K c0 c1 c2 c3 c6 c7 c10 hx hxb HD1
  go_enter Tryz.func147, Tryz.ntmps147
  go_wp2_with fail
  go_end0
  rw [← HX.out]
  exact ⟨rfl, HR.out.he, (((HK.out _ _ _).trans (HK.out _ _ _)).trans (HK.out _ _ _)).trans (HK.out _ _ _)⟩
set_option maxRecDepth 100000 in
set_option maxHeartbeats 2000000 in
/-- The empty line's end. -/
theorem hend1 (G : Nat → Prop) (T : TypeId) (rest : List Value) (g : Nat) (L H C B : Int) (f : ByteArray) (fs : List Fld) (sz : Nat) (cur : List UInt8) (cr : Bool) (e : Int) (h0 : cur = []) (w : World) (h : He G T rest w g L H C B 1 f fs sz cur cr e) :
    Calls Tryz.prog 147 #[.pointer (some ⟨g, 0, none⟩)] w fun r w' => r = .returned (.tuple #[]) ∧ He G T rest w' g L H C B 2 f fs sz [] false e ∧ Keep G w w' := by
  obtain ⟨rv, ln, h⟩ := h
  obtain ⟨c0, c1, c2, c3, c4, c5, c6, c7, c8, c9, c10⟩ := h.c
  have f4 := h.row.free 4
  have f5 := h.row.free 5
  have f8 := h.row.free 8
  have f9 := h.row.free 9
  have hcv := own_string w 0 _ _ h.lo
  obtain ⟨la, lc, rfl⟩ := own_slice h.lo
  have HD := Lib.hid h
  have HD1 : Hid (HeAt G T rest ((w.setCell ⟨g, 8, none⟩ (.slice la 0 lc)).setCell ⟨g, 9, none⟩ (.bool false)) g L H C B 1 f fs sz [] false e rv (.slice la 0 lc)) :=
    (h.set8 (own_zeroH h.lo) (fun j hj => h.lG j ((own_anyH la lc cur.length 0).trans hj))).set9 false
  have K : ∀ (v : World) (i : Nat) (u : Value), Keep G v (v.setCell ⟨g, i, none⟩ u) := fun v i u => Keep.setCell v (p := ⟨g, i, none⟩) HD.out.gG u
  have HK := Lib.hid K
  obtain ⟨x, hx⟩ : ∃ x, x = (⟨cur.toArray⟩ : ByteArray) := ⟨_, rfl⟩
  rw [← hx] at hcv
  have hxe : x = ⟨#[]⟩ := by rw [hx, h0]
  have HR : Hid (HeAt G T rest (((w.setCell ⟨g, 8, none⟩ (.slice la 0 lc)).setCell ⟨g, 9, none⟩ (.bool false)).setCell ⟨g, 4, none⟩ (.int .i64 2)) g L H C B 2 f fs sz [] false e rv (.slice la 0 lc)) := HD1.out.set4 2
  clear h K c0 c1 c2 c3 c6 c7 c10 HD1
  subst hxe
  clear hx h0
  go_enter Tryz.func147, Tryz.ntmps147
  go_wp2_with fail
  go_end0
  exact ⟨rfl, HR.out.he, ((HK.out _ _ _).trans (HK.out _ _ _)).trans (HK.out _ _ _)⟩
set_option maxRecDepth 100000 in
set_option maxHeartbeats 2000000 in
/-- A field line's end. -/
theorem hend2 (G : Nat → Prop) (T : TypeId) (rest : List Value) (g : Nat) (L H C B : Int) (f : ByteArray) (fs : List Fld) (sz : Nat) (cur : List UInt8) (cr : Bool) (e : Int) (h0 : cur ≠ []) (N V : List UInt8) (e1 E : Int) (he1 : e1 = 0 ∨ e1 = 2) (hp : parseV cur = .tuple #[fldV (N, V), .int .i64 e1])
    (hE : E = if H < (sz : Int) + ((cur.length : Int) + 2) ∨ C < (fs.length : Int) + 1 then 4 else e1) (hsz : sz + cur.length ≤ 1000000000) (hfl : fs.length ≤ 1000000000) (w : World) (h : He G T rest w g L H C B 1 f fs sz cur cr e) (hu : Up G w) (hM : ∀ w', Keep G w w' → MaxL w') :
    Calls Tryz.prog 147 #[.pointer (some ⟨g, 0, none⟩)] w fun r w' => r = .returned (.tuple #[]) ∧ EndTo E (He G T rest w' g L H C B 1 f (fs ++ [(N, V)]) (sz + (cur.length + 2)) [] false e) (He G T rest w' g 0 0 0 0 3 ⟨#[]⟩ [] 0 [] false E) ∧ Keep G w w' := by
  obtain ⟨rv, ln, h⟩ := h
  obtain ⟨c0, c1, c2, c3, c4, c5, c6, c7, c8, c9, c10⟩ := h.c
  have f4 := h.row.free 4
  have f5 := h.row.free 5
  have f8 := h.row.free 8
  have f9 := h.row.free 9
  have hcv := own_string w 0 _ _ h.lo
  obtain ⟨la, lc, rfl⟩ := own_slice h.lo
  have HD := Lib.hid h
  have HD1 : Hid (HeAt G T rest ((w.setCell ⟨g, 8, none⟩ (.slice la 0 lc)).setCell ⟨g, 9, none⟩ (.bool false)) g L H C B 1 f fs sz [] false e rv (.slice la 0 lc)) :=
    (h.set8 (own_zeroH h.lo) (fun j hj => h.lG j ((own_anyH la lc cur.length 0).trans hj))).set9 false
  have K : ∀ (v : World) (i : Nat) (u : Value), Keep G v (v.setCell ⟨g, i, none⟩ u) := fun v i u => Keep.setCell v (p := ⟨g, i, none⟩) HD.out.gG u
  have HK := Lib.hid K
  obtain ⟨x, hx⟩ : ∃ x, x = (⟨cur.toArray⟩ : ByteArray) := ⟨_, rfl⟩
  rw [← hx] at hcv
  have hxb : x = bs cur := hx
  have hxz : x.size = cur.length := by rw [hxb, bs_size]
  have hxl : x.data.toList = cur := by rw [hxb, bs_list]
  have hne : 0 < x.size := by rw [hxz]; exact List.length_pos_iff.2 h0
  have e1' := emp_false x hne
  have hk2 : Keep G w ((w.setCell ⟨g, 8, none⟩ (.slice la 0 lc)).setCell ⟨g, 9, none⟩ (.bool false)) := (K _ _ _).trans (K _ _ _)
  have HA := Lib.hid (hadd61 G T rest g L H C B 1 f fs sz [] false e x N V e1 E he1 (by rw [hxl]; exact hp) (by rw [hxz]; exact hE) (by rw [hxz]; exact hsz) hfl _ HD1.out.he (hu.keep hk2) (hM _ hk2))
  rw [hxz] at HA
  have HK2 := Lib.hid hk2
  clear h K c0 c1 c2 c3 c6 c7 c10 HD1 hx hxb hxz hxl h0 hp hE hu hM hk2 he1 HK HD
  go_enter Tryz.func147, Tryz.ntmps147
  go_wp2_with fail
  with_reducible refine HA.out.mono ?_
  rintro e9 w9 ⟨rfl, hd, hk⟩
  have HD9 : Hid (EndTo E (He G T rest w9 g L H C B 1 f (fs ++ [(N, V)]) (sz + (cur.length + 2)) [] false e) (He G T rest w9 g 0 0 0 0 3 ⟨#[]⟩ [] 0 [] false E)) := hd
  clear hd
  go_wp2_with fail
  go_end0
  exact ⟨rfl, HD9.out, HK2.out.trans hk⟩
end Go.Proofs.YtbbphklhnngjmaaGreatDoor

/- request: a head in memory at a machine's place; take. -/
namespace Go.Proofs.YtbbphklhnngjmaaGreatDoor
open Go.RowKit

/-- A head's fields, for a machine's place. -/
inductive HeRep (M : HdL) (b : Int) : HdS → Int → Int → Int → Int → Int → ByteArray → List Fld → Nat → List UInt8 → Bool → Int → Prop
  | line0 (cur : List UInt8) (cr : Bool) : HeRep M b (.line none [] 0 cur cr) (max 0 M.line) (max 0 M.head) (max 0 M.count) b 0 ⟨#[]⟩ [] 0 cur cr 0
  | line1 (s : List UInt8) (fs : List Fld) (sz : Nat) (cur : List UInt8) (cr : Bool) : HeRep M b (.line (some s) fs sz cur cr) (max 0 M.line) (max 0 M.head) (max 0 M.count) b 1 (bs s) fs sz cur cr 0
  | done (s : List UInt8) (fs : List Fld) (sz : Nat) : HeRep M b (.done s fs) (max 0 M.line) (max 0 M.head) (max 0 M.count) b 2 (bs s) fs sz [] false 0
  | err (e : Int) (h0 : e ≠ 0) : HeRep M b (.err e) 0 0 0 0 3 ⟨#[]⟩ [] 0 [] false e
/-- A head in memory that stands at a machine's place. -/
def HeS (G : Nat → Prop) (T : TypeId) (rest : List Value) (w : World) (g : Nat) (M : HdL) (b : Int) (σ : HdS) : Prop :=
  ∃ L H C b' st f fs sz cur cr e, HeRep M b σ L H C b' st f fs sz cur cr e ∧ He G T rest w g L H C b' st f fs sz cur cr e
section
variable {G : Nat → Prop} {T : TypeId} {rest : List Value} {w w' : World} {g : Nat} {M : HdL} {b : Int} {σ : HdS}
theorem HeS.below (h : HeS G T rest w g M b σ) (hb : Below w.heap.size w w') : HeS G T rest w' g M b σ := by
  obtain ⟨L, H, C, b', st, f, fs, sz, cur, cr, e, hr, hd⟩ := h
  exact ⟨L, H, C, b', st, f, fs, sz, cur, cr, e, hr, hd.below hb⟩
theorem HeS.less (h : HeS G T rest w g M b σ) : HeS (fun j => G j ∧ j < w.heap.size) T rest w g M b σ := by
  obtain ⟨L, H, C, b', st, f, fs, sz, cur, cr, e, hr, hd⟩ := h
  exact ⟨L, H, C, b', st, f, fs, sz, cur, cr, e, hr, hd.less⟩
theorem HeS.more {G' : Nat → Prop} (h : HeS G T rest w g M b σ) (hg : ∀ j, j < w.heap.size → G j → G' j) : HeS G' T rest w g M b σ := by
  obtain ⟨L, H, C, b', st, f, fs, sz, cur, cr, e, hr, hd⟩ := h
  exact ⟨L, H, C, b', st, f, fs, sz, cur, cr, e, hr, hd.more hg⟩
end
def HdS.wt : HdS → Nat
  | .line _ fs sz cur _ => sz + cur.length + fs.length
  | .done _ fs => fs.length
  | .err _ => 0
def anyFirst : List UInt8 → Bool := fun _ => true
theorem wt_step (M : HdL) (σ : HdS) (c : UInt8) : (M.step anyFirst σ c).wt ≤ σ.wt + 4 := by
  cases σ with
  | done f fs => exact Nat.le_add_right _ _
  | err e => exact Nat.zero_le _
  | line fo fs sz cur cr =>
    simp only [HdL.step]
    split
    · split
      · cases fo with
        | none => simp [HdL.close, HdS.wt, anyFirst]
        | some f =>
          simp only [HdL.close]
          split
          · simp only [HdS.wt]; omega
          · split
            · exact Nat.zero_le _
            · split
              · exact Nat.zero_le _
              · simp only [HdS.wt, List.length_nil, List.length_append, List.length_singleton]; omega
      · exact Nat.zero_le _
    · split
      · exact Nat.zero_le _
      · split
        · simp only [HdS.wt]; omega
        · split
          · exact Nat.zero_le _
          · simp only [HdS.wt, List.length_append, List.length_singleton]; omega
section
variable (G : Nat → Prop) (T : TypeId) (rest : List Value) (g : Nat) (L H C B st : Int) (f : ByteArray) (fs : List Fld) (sz : Nat) (cur : List UInt8) (e : Int)
set_option maxHeartbeats 1000000 in
theorem htake_fail (cr : Bool) (c : UInt8) (hc : (cr != decide (c = 10)) = true) (w : World) (h : He G T rest w g L H C B st f fs sz cur cr e) :
    Calls Tryz.prog 128 #[.pointer (some ⟨g, 0, none⟩), .int .u8 (c.toNat : Int)] w fun r w' => r = .returned (.tuple #[]) ∧ He G T rest w' g 0 0 0 0 3 ⟨#[]⟩ [] 0 [] false 2 ∧ Keep G w w' := by
  have HX := Lib.hid (hfail40 G T rest g L H C B st f fs sz cur cr e 2 w h)
  obtain ⟨rv, ln, h⟩ := h
  have c9 := h.c.2.2.2.2.2.2.2.2.2.1
  have hd : ((c.toNat : Int) == 10) = decide (c = 10) := by
    by_cases h : c = 10
    · subst h; rfl
    · rw [decide_eq_false h]
      exact beq_eq_false_iff_ne.2 (fun e => h (UInt8.toNat_inj.1 (by have : (10 : UInt8).toNat = 10 := rfl; omega)))
  obtain ⟨q, hq⟩ : ∃ q, decide (c = 10) = q := ⟨_, rfl⟩
  rw [hq] at hc hd
  clear h hq
  have hq2 : (cr = true ∧ q = false) ∨ (cr = false ∧ q = true) := by cases cr <;> cases q <;> simp at hc ⊢
  clear hc
  rcases hq2 with ⟨rfl, rfl⟩ | ⟨rfl, rfl⟩
  · go_enter Tryz.func128, Tryz.ntmps128
    go_wp2_with fail
    with_reducible refine HX.out.mono ?_
    rintro e9 w9 ⟨rfl, hd9, hk9⟩
    go_wp2_with fail
    go_end0
    exact ⟨rfl, hd9, hk9⟩
  · go_enter Tryz.func128, Tryz.ntmps128
    go_wp2_with fail
    with_reducible refine HX.out.mono ?_
    rintro e9 w9 ⟨rfl, hd9, hk9⟩
    go_wp2_with fail
    go_end0
    exact ⟨rfl, hd9, hk9⟩
set_option maxHeartbeats 1000000 in
theorem htake_end (P : World → Prop) (w : World) (h : He G T rest w g L H C B st f fs sz cur true e) (hc : Calls Tryz.prog 147 #[.pointer (some ⟨g, 0, none⟩)] w fun r w' => r = .returned (.tuple #[]) ∧ P w') :
    Calls Tryz.prog 128 #[.pointer (some ⟨g, 0, none⟩), .int .u8 10] w fun r w' => r = .returned (.tuple #[]) ∧ P w' := by
  have HX := Lib.hid hc
  obtain ⟨rv, ln, h⟩ := h
  have c9 := h.c.2.2.2.2.2.2.2.2.2.1
  clear h hc
  go_enter Tryz.func128, Tryz.ntmps128
  go_wp2_with fail
  with_reducible refine HX.out.mono ?_
  rintro e9 w9 ⟨rfl, hp9⟩
  go_wp2_with fail
  go_end0
  exact ⟨rfl, hp9⟩
set_option maxHeartbeats 1000000 in
theorem htake_cr (w : World) (h : He G T rest w g L H C B st f fs sz cur false e) :
    Calls Tryz.prog 128 #[.pointer (some ⟨g, 0, none⟩), .int .u8 13] w fun r w' => r = .returned (.tuple #[]) ∧ He G T rest w' g L H C B st f fs sz cur true e ∧ Keep G w w' := by
  obtain ⟨rv, ln, h⟩ := h
  have c9 := h.c.2.2.2.2.2.2.2.2.2.1
  have f9 := h.row.free 9
  have HD := Lib.hid h
  clear h
  go_enter Tryz.func128, Tryz.ntmps128
  go_wp2_with fail
  go_end0
  exact ⟨rfl, (HD.out.set9 true).he, Keep.setCell w (p := ⟨g, 9, none⟩) HD.out.gG _⟩
set_option maxHeartbeats 1000000 in
theorem htake_ext (P : World → Prop) (c : UInt8) (h10 : c ≠ 10) (h13 : c ≠ 13) (w : World) (h : He G T rest w g L H C B st f fs sz cur false e) (hc : Calls Tryz.prog 148 #[.pointer (some ⟨g, 0, none⟩), .int .u8 (c.toNat : Int)] w fun r w' => r = .returned (.tuple #[]) ∧ P w') :
    Calls Tryz.prog 128 #[.pointer (some ⟨g, 0, none⟩), .int .u8 (c.toNat : Int)] w fun r w' => r = .returned (.tuple #[]) ∧ P w' := by
  have HX := Lib.hid hc
  obtain ⟨rv, ln, h⟩ := h
  have c9 := h.c.2.2.2.2.2.2.2.2.2.1
  have n10 : ((c.toNat : Int) == 10) = false := beq_eq_false_iff_ne.2 (fun e => h10 (UInt8.toNat_inj.1 (by have : (10 : UInt8).toNat = 10 := rfl; omega)))
  have n13 : ((c.toNat : Int) == 13) = false := beq_eq_false_iff_ne.2 (fun e => h13 (UInt8.toNat_inj.1 (by have : (13 : UInt8).toNat = 13 := rfl; omega)))
  clear h hc h10 h13
  go_enter Tryz.func128, Tryz.ntmps128
  go_wp2_with fail
  with_reducible refine HX.out.mono ?_
  rintro e9 w9 ⟨rfl, hp9⟩
  go_wp2_with fail
  go_end0
  exact ⟨rfl, hp9⟩
end
/-- take, at a place that isn't an end. -/
theorem htake_s (G : Nat → Prop) (T : TypeId) (rest : List Value) (g : Nat) (M : HdL) (b : Int) (σ : HdS) (hh : σ.halt = false) (hwt : σ.wt ≤ 1000000000) (c : UInt8) (w : World) (h : HeS G T rest w g M b σ) (hu : Up G w) (hM : ∀ w', Keep G w w' → MaxL w') :
    Calls Tryz.prog 128 #[.pointer (some ⟨g, 0, none⟩), .int .u8 (c.toNat : Int)] w fun r w' => r = .returned (.tuple #[]) ∧ HeS G T rest w' g M b (M.step anyFirst σ c) ∧ Keep G w w' := by
  have ERR : ∀ e : Int, e ≠ 0 → ∀ w', He G T rest w' g 0 0 0 0 3 ⟨#[]⟩ [] 0 [] false e → HeS G T rest w' g M b (.err e) := fun e he w' h => ⟨_, _, _, _, _, _, _, _, _, _, _, .err e he, h⟩
  obtain ⟨L, H, C, b', st, f, fs, sz, cur, cr, e, hr, hd⟩ := h
  cases hr with
  | done s fs sz => cases hh
  | err e h0 => cases hh
  | line0 cur cr =>
    simp only [HdS.wt, List.length_nil] at hwt
    cases cr with
    | true =>
      by_cases h10 : c = 10
      · subst h10
        have hs : M.step anyFirst (.line none [] 0 cur true) 10 = .line (some cur) [] 0 [] false := rfl
        rw [hs]
        refine (htake_end G T rest g _ _ _ _ _ _ _ _ _ _ _ w hd (hend0 G T rest g _ _ _ _ _ _ _ _ _ _ w hd)).mono ?_
        rintro r w' ⟨rfl, h1, h2⟩
        exact ⟨rfl, ⟨_, _, _, _, _, _, _, _, _, _, _, .line1 cur [] 0 [] false, h1⟩, h2⟩
      · have hs : M.step anyFirst (.line none [] 0 cur true) c = .err 2 := by simp only [HdL.step]; rw [if_pos trivial, if_neg h10]
        rw [hs]
        refine (htake_fail G T rest g _ _ _ _ _ _ _ _ _ _ true c (by simp [h10]) w hd).mono ?_
        rintro r w' ⟨rfl, h1, h2⟩
        exact ⟨rfl, ERR 2 (by decide) _ h1, h2⟩
    | false =>
      by_cases h10 : c = 10
      · subst h10
        have hs : M.step anyFirst (.line none [] 0 cur false) 10 = .err 2 := rfl
        rw [hs]
        refine (htake_fail G T rest g _ _ _ _ _ _ _ _ _ _ false 10 (by simp) w hd).mono ?_
        rintro r w' ⟨rfl, h1, h2⟩
        exact ⟨rfl, ERR 2 (by decide) _ h1, h2⟩
      · by_cases h13 : c = 13
        · subst h13
          have hs : M.step anyFirst (.line none [] 0 cur false) 13 = .line none [] 0 cur true := rfl
          rw [hs]
          refine (htake_cr G T rest g _ _ _ _ _ _ _ _ _ _ w hd).mono ?_
          rintro r w' ⟨rfl, h1, h2⟩
          exact ⟨rfl, ⟨_, _, _, _, _, _, _, _, _, _, _, .line0 cur true, h1⟩, h2⟩
        · by_cases hlong : max 0 M.line ≤ (cur.length : Int)
          · have hs : M.step anyFirst (.line none [] 0 cur false) c = .err 4 := by
              simp only [HdL.step]
              rw [if_neg (by decide), if_neg h10, if_neg h13]
              exact if_pos hlong
            rw [hs]
            refine (htake_ext G T rest g _ _ _ _ _ _ _ _ _ _ _ c h10 h13 w hd (hext42 G T rest g _ _ _ _ _ _ _ _ _ _ _ c true (.inl ⟨rfl, (decide_eq_true (by omega)).symm⟩) (by omega) w hd hu)).mono ?_
            rintro r w' ⟨rfl, h1, h2⟩
            exact ⟨rfl, ERR 4 (by decide) _ h1, h2⟩
          · have hs : M.step anyFirst (.line none [] 0 cur false) c = .line none [] 0 (cur ++ [c]) false := by
              simp only [HdL.step]
              rw [if_neg (by decide), if_neg h10, if_neg h13]
              exact if_neg hlong
            rw [hs]
            refine (htake_ext G T rest g _ _ _ _ _ _ _ _ _ _ _ c h10 h13 w hd (hext42 G T rest g _ _ _ _ _ _ _ _ _ _ _ c false (.inl ⟨rfl, (decide_eq_false (by omega)).symm⟩) (by omega) w hd hu)).mono ?_
            rintro r w' ⟨rfl, h1, h2⟩
            exact ⟨rfl, ⟨_, _, _, _, _, _, _, _, _, _, _, .line0 (cur ++ [c]) false, h1⟩, h2⟩
  | line1 s fs sz cur cr =>
    simp only [HdS.wt] at hwt
    cases cr with
    | true =>
      by_cases h10 : c = 10
      · subst h10
        have hs : M.step anyFirst (.line (some s) fs sz cur true) 10 = M.close anyFirst (some s) fs sz cur := rfl
        rw [hs]
        by_cases h0 : cur = []
        · have hc : M.close anyFirst (some s) fs sz cur = .done s fs := by simp only [HdL.close]; rw [if_pos h0]
          rw [hc]
          refine (htake_end G T rest g _ _ _ _ _ _ _ _ _ _ _ w hd (hend1 G T rest g _ _ _ _ _ _ _ _ _ _ h0 w hd)).mono ?_
          rintro r w' ⟨rfl, h1, h2⟩
          exact ⟨rfl, ⟨_, _, _, _, _, _, _, _, _, _, _, .done s fs sz, h1⟩, h2⟩
        · have hpv : ∃ (N V : List UInt8) (e1 : Int), parseV cur = .tuple #[fldV (N, V), .int .i64 e1] ∧ ((e1 = 0 ∧ parseL cur = some (N, V)) ∨ (e1 = 2 ∧ parseL cur = none)) := by
            unfold parseV
            cases hp : parseL cur with
            | none => exact ⟨[], [], 2, rfl, .inr ⟨rfl, rfl⟩⟩
            | some g => exact ⟨g.1, g.2, 0, rfl, .inl ⟨rfl, rfl⟩⟩
          obtain ⟨N, V, e1, hp, hcase⟩ := hpv
          obtain ⟨E, hE⟩ : ∃ E : Int, E = if max 0 M.head < (sz : Int) + ((cur.length : Int) + 2) ∨ max 0 M.count < (fs.length : Int) + 1 then 4 else e1 := ⟨_, rfl⟩
          refine (htake_end G T rest g _ _ _ _ _ _ _ _ _ _ _ w hd (hend2 G T rest g _ _ _ _ _ _ _ _ _ _ h0 N V e1 E (hcase.imp (·.1) (·.1)) hp hE (by omega) (by omega) w hd hu hM)).mono ?_
          rintro r w' ⟨rfl, h1, h2⟩
          refine ⟨rfl, ?_, h2⟩
          by_cases hbig : max 0 M.head < (sz : Int) + ((cur.length : Int) + 2) ∨ max 0 M.count < (fs.length : Int) + 1
          · have hc : M.close anyFirst (some s) fs sz cur = .err 4 := by
              simp only [HdL.close]
              rw [if_neg h0, if_pos]
              rcases hbig with h | h
              · left; omega
              · right; omega
            rw [hc]
            rw [if_pos hbig] at hE
            subst hE
            exact ERR 4 (by decide) _ h1
          · rw [if_neg hbig] at hE
            subst hE
            have hnb : ¬ (max 0 M.head < ((sz + cur.length + 2 : Nat) : Int) ∨ max 0 M.count ≤ (fs.length : Int)) := by
              rintro (h | h)
              · exact hbig (.inl (by omega))
              · exact hbig (.inr (by omega))
            rcases hcase with ⟨rfl, hl⟩ | ⟨rfl, hl⟩
            · have hc : M.close anyFirst (some s) fs sz cur = .line (some s) (fs ++ [(N, V)]) (sz + cur.length + 2) [] false := by
                simp only [HdL.close]
                rw [if_neg h0, if_neg hnb, hl]
              rw [hc]
              exact ⟨_, _, _, _, _, _, _, _, _, _, _, .line1 s (fs ++ [(N, V)]) (sz + cur.length + 2) [] false, h1⟩
            · have hc : M.close anyFirst (some s) fs sz cur = .err 2 := by
                simp only [HdL.close]
                rw [if_neg h0, if_neg hnb, hl]
              rw [hc]
              exact ERR 2 (by decide) _ h1
      · have hs : M.step anyFirst (.line (some s) fs sz cur true) c = .err 2 := by simp only [HdL.step]; rw [if_pos trivial, if_neg h10]
        rw [hs]
        refine (htake_fail G T rest g _ _ _ _ _ _ _ _ _ _ true c (by simp [h10]) w hd).mono ?_
        rintro r w' ⟨rfl, h1, h2⟩
        exact ⟨rfl, ERR 2 (by decide) _ h1, h2⟩
    | false =>
      by_cases h10 : c = 10
      · subst h10
        have hs : M.step anyFirst (.line (some s) fs sz cur false) 10 = .err 2 := rfl
        rw [hs]
        refine (htake_fail G T rest g _ _ _ _ _ _ _ _ _ _ false 10 (by simp) w hd).mono ?_
        rintro r w' ⟨rfl, h1, h2⟩
        exact ⟨rfl, ERR 2 (by decide) _ h1, h2⟩
      · by_cases h13 : c = 13
        · subst h13
          have hs : M.step anyFirst (.line (some s) fs sz cur false) 13 = .line (some s) fs sz cur true := rfl
          rw [hs]
          refine (htake_cr G T rest g _ _ _ _ _ _ _ _ _ _ w hd).mono ?_
          rintro r w' ⟨rfl, h1, h2⟩
          exact ⟨rfl, ⟨_, _, _, _, _, _, _, _, _, _, _, .line1 s fs sz cur true, h1⟩, h2⟩
        · by_cases hlong : max 0 M.head - sz ≤ (cur.length : Int)
          · have hs : M.step anyFirst (.line (some s) fs sz cur false) c = .err 4 := by
              simp only [HdL.step]
              rw [if_neg (by decide), if_neg h10, if_neg h13]
              exact if_pos hlong
            rw [hs]
            refine (htake_ext G T rest g _ _ _ _ _ _ _ _ _ _ _ c h10 h13 w hd (hext42 G T rest g _ _ _ _ _ _ _ _ _ _ _ c true (.inr ⟨rfl, (decide_eq_true (by omega)).symm⟩) (by omega) w hd hu)).mono ?_
            rintro r w' ⟨rfl, h1, h2⟩
            exact ⟨rfl, ERR 4 (by decide) _ h1, h2⟩
          · have hs : M.step anyFirst (.line (some s) fs sz cur false) c = .line (some s) fs sz (cur ++ [c]) false := by
              simp only [HdL.step]
              rw [if_neg (by decide), if_neg h10, if_neg h13]
              exact if_neg hlong
            rw [hs]
            refine (htake_ext G T rest g _ _ _ _ _ _ _ _ _ _ _ c h10 h13 w hd (hext42 G T rest g _ _ _ _ _ _ _ _ _ _ _ c false (.inr ⟨rfl, (decide_eq_false (by omega)).symm⟩) (by omega) w hd hu)).mono ?_
            rintro r w' ⟨rfl, h1, h2⟩
            exact ⟨rfl, ⟨_, _, _, _, _, _, _, _, _, _, _, .line1 s fs sz (cur ++ [c]) false, h1⟩, h2⟩
end Go.Proofs.YtbbphklhnngjmaaGreatDoor

/- request: Head's Feed, Done, Begun, First, Fields at a machine's place. -/
namespace Go.Proofs.YtbbphklhnngjmaaGreatDoor
open Go.RowKit

section
variable {M : HdL} {b : Int} {σ : HdS} {L H C b' st : Int} {f : ByteArray} {fs : List Fld} {sz : Nat} {cur : List UInt8} {cr : Bool} {e : Int}
def HdS.errOf : HdS → Int
  | .err e => e
  | _ => 0
def HdS.begun : HdS → Bool
  | .line (some _) _ _ _ _ => true
  | .done _ _ => true
  | _ => false
def HdS.firstOf : HdS → List UInt8
  | .line (some s) _ _ _ _ => s
  | .done s _ => s
  | _ => []
def HdS.fldsOf : HdS → List Fld
  | .line (some _) fs _ _ _ => fs
  | .done _ fs => fs
  | _ => []
theorem he_done (h : HeRep M b σ L H C b' st f fs sz cur cr e) : (st == 2) = σ.fin := by cases h <;> rfl
theorem he_begun (h : HeRep M b σ L H C b' st f fs sz cur cr e) : ((st == 1) || (st == 2)) = σ.begun := by cases h <;> rfl
theorem he_first (h : HeRep M b σ L H C b' st f fs sz cur cr e) : f = bs σ.firstOf := by cases h <;> rfl
theorem he_flds (h : HeRep M b σ L H C b' st f fs sz cur cr e) : fs = σ.fldsOf := by cases h <;> rfl
theorem he_fin {s : List UInt8} {fl : List Fld} (h : HeRep M b (.done s fl) L H C b' st f fs sz cur cr e) : st = 2 := by cases h; rfl
theorem he_err {e0 : Int} (h : HeRep M b (.err e0) L H C b' st f fs sz cur cr e) : st = 3 ∧ e = e0 := by cases h; exact ⟨rfl, rfl⟩
theorem he_on (h : HeRep M b σ L H C b' st f fs sz cur cr e) (hh : σ.halt = false) : (st != 2) = true ∧ (st != 3) = true ∧ (st == 3) = false := by
  cases h with
  | done s fs sz => cases hh
  | err e h0 => cases hh
  | _ => exact ⟨rfl, rfl, rfl⟩
end
theorem he_three (σ : HdS) : (∃ s fl, σ = .done s fl) ∨ (∃ e, σ = .err e) ∨ σ.halt = false := by
  cases σ with
  | done s fl => exact .inl ⟨s, fl, rfl⟩
  | err e => exact .inr (.inl ⟨e, rfl⟩)
  | line a b c d e => exact .inr (.inr rfl)
theorem halt_fin {σ : HdS} (h : σ.halt = false) : σ.fin = false := by cases σ <;> first | rfl | cases h
theorem halt_err {σ : HdS} (h : σ.halt = false) : σ.errOf = 0 := by cases σ <;> first | rfl | cases h
abbrev hRun (M : HdL) (σ : HdS) (l : List UInt8) : HdS := hdRun M anyFirst σ l
abbrev hLeft (M : HdL) (σ : HdS) (l : List UInt8) : List UInt8 := hdLeft M anyFirst σ l
def strOfH : Value → ByteArray
  | .string s => s
  | _ => ⟨#[]⟩
section
variable (G : Nat → Prop) (T : TypeId) (rest : List Value) (g : Nat) (M : HdL) (b : Int) (σ : HdS)
theorem hdoneS (w : World) (h : HeS G T rest w g M b σ) :
    Calls Tryz.prog 92 #[.pointer (some ⟨g, 0, none⟩)] w fun x w' => x = .returned (.bool σ.fin) ∧ w = w' := by
  obtain ⟨L, H, C, b', st, f, fs, sz, cur, cr, e, hr, hd⟩ := h
  exact hdone9 G T rest g _ _ _ _ _ _ _ _ _ _ _ _ (he_done hr) w hd
theorem hbegunS (w : World) (h : HeS G T rest w g M b σ) :
    Calls Tryz.prog 90 #[.pointer (some ⟨g, 0, none⟩)] w fun x w' => x = .returned (.bool σ.begun) ∧ w = w' := by
  obtain ⟨L, H, C, b', st, f, fs, sz, cur, cr, e, hr, hd⟩ := h
  rw [← he_begun hr]
  exact hbegun12 G T rest g _ _ _ _ _ _ _ _ _ _ _ _ _ rfl rfl w hd
theorem hfirstS (w : World) (h : HeS G T rest w g M b σ) :
    Calls Tryz.prog 114 #[.pointer (some ⟨g, 0, none⟩)] w fun x w' => x = .returned (.string (bs σ.firstOf)) ∧ w = w' := by
  obtain ⟨L, H, C, b', st, f, fs, sz, cur, cr, e, hr, hd⟩ := h
  rw [← he_first hr]
  exact hfirst13 G T rest g _ _ _ _ _ _ _ _ _ _ _ w hd
/-- What Feed comes to. -/
def HFeedTo (w : World) (l : List UInt8) (r : Ending) (w' : World) : Prop :=
  r = .returned (.tuple #[.string (bs (if (hRun M σ l).errOf = 0 then hLeft M σ l else [])), .int .i64 (hRun M σ l).errOf]) ∧ HeS G T rest w' g M b (hRun M σ l) ∧ Keep G w w'
end
theorem rep_errNe {M : HdL} {b : Int} {e0 : Int} {L H C b' st : Int} {f : ByteArray} {fs : List Fld} {sz : Nat} {cur : List UInt8} {cr : Bool} {e : Int} (h : HeRep M b (.err e0) L H C b' st f fs sz cur cr e) : e0 ≠ 0 := by cases h; assumption
set_option maxRecDepth 100000 in
set_option maxHeartbeats 4000000 in
theorem hfeed10 (G : Nat → Prop) (T : TypeId) (rest : List Value) (g : Nat) (M : HdL) (b : Int) (σ : HdS) (l : List UInt8) (hbd : σ.wt + 4 * l.length ≤ 1000000000) (w : World) (h : HeS G T rest w g M b σ) (hu : Up G w) (hM : ∀ w', Keep G w w' → MaxL w') :
    Calls Tryz.prog 112 #[.pointer (some ⟨g, 0, none⟩), .string (bs l)] w (HFeedTo G T rest g M b σ w l) := by
  have H0 := Lib.hid h
  have HU := Lib.hid hu
  have HY := Lib.hid hM
  have HBD := Lib.hid hbd
  have HK0 := Lib.hid (Keep.refl G w)
  clear h hu hM hbd
  obtain ⟨S, hS⟩ : ∃ S, S = bs l := ⟨_, rfl⟩
  rw [← hS]
  have HS := Lib.hid hS
  clear hS
  go_enter Tryz.func112, Tryz.ntmps112
  go_wp2_with fail
  go_loopw [1] (fun sv wr => ∃ (s : ByteArray) (σ' : HdS), sv = .string s ∧ Hid (HeS G T rest wr g M b σ') ∧ Hid (Keep G w wr) ∧ Hid (hRun M σ l = hRun M σ' s.data.toList ∧ ((hRun M σ l).errOf = 0 → hLeft M σ l = hLeft M σ' s.data.toList) ∧ σ'.wt + 4 * s.data.toList.length ≤ 1000000000)) (fun sv _ => (strOfH sv).size)
  case atStart => exact ⟨S, σ, rfl, H0, HK0, by rw [HS.out]; exact ⟨rfl, fun _ => rfl, HBD.out⟩⟩
  case round =>
    clear H0 HK0 HBD
    obtain ⟨s, σ', rfl, HD, HK, HR⟩ := hrel
    obtain ⟨L, H, C, b', st, f, fs, sz, cur, cr, e, hr, hdc⟩ := HD.out
    obtain ⟨rv, ln, hda⟩ := hdc
    have c4 := hda.c.2.2.2.2.1
    have c10 := hda.c.2.2.2.2.2.2.2.2.2.2
    have HREP := Lib.hid hr
    clear hda
    have FT : ∀ (v : ByteArray) (q : Int), (v = bs (if (hRun M σ' s.data.toList).errOf = 0 then hLeft M σ' s.data.toList else [])) → q = (hRun M σ' s.data.toList).errOf → ∀ wz, HeS G T rest wz g M b (hRun M σ' s.data.toList) → Keep G wr wz → HFeedTo G T rest g M b σ w l (.returned (.tuple #[.string v, .int .i64 q])) wz := by
      rintro v q rfl rfl wz h hk
      obtain ⟨r1, r2, _⟩ := HR.out
      unfold HFeedTo
      rw [r1]
      rw [r1] at r2
      refine ⟨?_, h, HK.out.trans hk⟩
      by_cases he : (hRun M σ' s.data.toList).errOf = 0
      · rw [if_pos he, if_pos he, r2 he]
      · rw [if_neg he, if_neg he]
    have HFT := Lib.hid FT
    clear FT
    have DN : ∀ k, Below wr.heap.size wr (wr.drewN k) := fun k => ⟨rfl, rfl, rfl, Nat.le_refl _, fun _ _ => rfl⟩
    have HDN := Lib.hid DN
    clear DN
    rcases he_three σ' with ⟨s0, fl, rfl⟩ | ⟨e0, rfl⟩ | hh
    · obtain rfl := he_fin hr
      clear hr
      have hrun : hRun M (.done s0 fl) s.data.toList = .done s0 fl := mRun_fin _ _ (hd_fin M anyFirst) _ rfl _
      have FX := Lib.hid (HFT.out s 0 (by rw [hrun]; show _ = bs (if (0 : Int) = 0 then _ else _); rw [if_pos rfl]; show _ = bs (mLeft _ _ _ _); rw [mLeft_fin _ _ _ _ rfl, bs_of]) (by rw [hrun]; rfl) wr (by rw [hrun]; exact HD.out) (Keep.refl G wr))
      clear HFT hrun
      by_cases hne : 0 < s.size
      · have e1 := emp_false s hne
        go_wp2_with fail
        go_ret2
        exact FX.out
      · obtain rfl := empty_of s hne
        go_wp2_with fail
        go_ret2
        exact FX.out
    · have hne0 := rep_errNe hr
      obtain ⟨rfl, rfl⟩ := he_err hr
      clear hr
      have FX := Lib.hid (fun k => HFT.out ⟨#[]⟩ e (by rw [show hRun M (.err e) s.data.toList = .err e from hdRun_err M anyFirst e _]; show _ = bs (if e = 0 then _ else _); rw [if_neg hne0]; rfl) (by rw [show hRun M (.err e) s.data.toList = .err e from hdRun_err M anyFirst e _]; rfl) (wr.drewN k) (by rw [show hRun M (.err e) s.data.toList = .err e from hdRun_err M anyFirst e _]; exact HD.out.below (HDN.out k)) (.of_below (HDN.out k)))
      clear HFT hne0
      by_cases hne : 0 < s.size
      · have e1 := emp_false s hne
        go_wp2_with fail
        go_quiet (fail)
        go_wp2_with fail
        go_ret2
        exact FX.out _
      · obtain rfl := empty_of s hne
        go_wp2_with fail
        go_quiet (fail)
        go_wp2_with fail
        go_ret2
        exact FX.out _
    · obtain ⟨t5, t6, t6'⟩ := he_on hr hh
      by_cases hne : 0 < s.size
      · have e1 := emp_false s hne
        have hcons := list_cons s hne
        obtain ⟨x, hx⟩ : ∃ x, x = s[0] := ⟨_, rfl⟩
        rw [← hx] at hcons
        obtain ⟨s9, hs9⟩ : ∃ s9, s9 = s.extract 1 s.size := ⟨_, rfl⟩
        have hex : s.extract 1 s.size = s9 := hs9.symm
        rw [hex] at hcons
        have hz9 : s9.size + 1 = s.size := by rw [Lib.size_eq, Lib.size_eq s, hcons]; rfl
        obtain ⟨r1, r2, r3⟩ := HR.out
        rw [hcons, List.length_cons] at r3
        have hsx : (s[0].toNat : Int) = x.toNat := by rw [hx]
        have HST := Lib.hid (htake_s G T rest g M b σ' hh (by omega) x wr HD.out (HU.out.keep HK.out) (fun w' hk => HY.out w' (HK.out.trans hk)))
        have HN : Hid (hRun M σ l = hRun M (M.step anyFirst σ' x) s9.data.toList ∧ ((hRun M σ l).errOf = 0 → hLeft M σ l = hLeft M (M.step anyFirst σ' x) s9.data.toList) ∧ (M.step anyFirst σ' x).wt + 4 * s9.data.toList.length ≤ 1000000000) := by
          have hw := wt_step M σ' x
          refine ⟨?_, ?_, by omega⟩
          · rw [r1, hcons]; exact mRun_cons ..
          · intro h0
            rw [r2 h0, hcons]
            exact mLeft_cons _ _ _ _ _ (halt_fin hh)
        clear hr hh hcons hx hs9 r1 r2 r3 HFT t6' HD HREP
        go_wp2_with fail
        refine HST.out.mono ?_
        rintro r9 w9 ⟨rfl, hd9, hk9⟩
        have HD9 := Lib.hid hd9
        have HK9 := Lib.hid (HK.out.trans hk9)
        clear hd9 hk9 HST
        go_wp2_with fail
        go_roundw
        case rel => exact ⟨s9, _, rfl, HD9, HK9, HN⟩
        case measure => show s9.size < s.size; omega
      · obtain rfl := empty_of s hne
        have hrun : hRun M σ' (⟨#[]⟩ : ByteArray).data.toList = σ' := rfl
        have FX := Lib.hid (fun k => HFT.out ⟨#[]⟩ 0 (by rw [hrun, halt_err hh]; show _ = bs (if (0 : Int) = 0 then _ else _); rw [if_pos rfl]; rfl) (by rw [hrun, halt_err hh]) (wr.drewN k) (by rw [hrun]; exact HD.out.below (HDN.out k)) (.of_below (HDN.out k)))
        have FX0 := Lib.hid (HFT.out ⟨#[]⟩ 0 (by rw [hrun, halt_err hh]; show _ = bs (if (0 : Int) = 0 then _ else _); rw [if_pos rfl]; rfl) (by rw [hrun, halt_err hh]) wr (by rw [hrun]; exact HD.out) (Keep.refl G wr))
        clear HFT hr hh hrun
        go_wp2_with fail
        go_ret2
        first | exact FX0.out | exact FX.out _
end Go.Proofs.YtbbphklhnngjmaaGreatDoor

/- request: a parser in memory; New, Waits, complete. -/
namespace Go.Proofs.YtbbphklhnngjmaaGreatDoor
open Go.RowKit

/-- A parser's cells behind its head's: method, target, fields, body, kind, length, body's row, chunks, waits, the error. -/
def paR (m t : ByteArray) (fv : Value) (wt : Bool) (e : Int) : List Value := [.string m, .string t, fv, .string ⟨#[]⟩, .int .i64 0, .int .i64 0, .slice none 0 0, .pointer none, .bool wt, .int .i64 e]
section
variable {G : Nat → Prop} {T : TypeId} {rest : List Value} {w w' : World} {g : Nat} {L H C B st : Int} {f : ByteArray} {fs : List Fld} {sz : Nat} {cur : List UInt8} {cr : Bool} {e : Int} {rv ln : Value} {M : HdL} {b : Int} {σ : HdS}
theorem HeAt.setR (h : HeAt G T rest w g L H C B st f fs sz cur cr e rv ln) (i : Nat) (u : Value) : HeAt G T (rest.set i u) (w.setCell ⟨g, i + 11, none⟩ u) g L H C B st f fs sz cur cr e rv ln :=
  ⟨h.put (i + 11) _, h.t1, h.t2, h.gG, own_set h.ro h.row h.t2 _, own_set h.lo h.row h.t1 _, h.rG, h.lG⟩
theorem HeS.setR (h : HeS G T rest w g M b σ) (i : Nat) (u : Value) : HeS G T (rest.set i u) (w.setCell ⟨g, i + 11, none⟩ u) g M b σ := by
  obtain ⟨L, H, C, b', st, f, fs, sz, cur, cr, e, hr, rv, ln, hd⟩ := h
  exact ⟨L, H, C, b', st, f, fs, sz, cur, cr, e, hr, rv, ln, hd.setR i u⟩
theorem HeS.cellR (h : HeS G T rest w g M b σ) (i : Nat) : w.cell? ⟨g, i + 11, none⟩ = rest[i]? := by
  obtain ⟨L, H, C, b', st, f, fs, sz, cur, cr, e, hr, rv, ln, hd⟩ := h
  exact hd.cell (i + 11)
theorem HeS.free (h : HeS G T rest w g M b σ) (i : Nat) : w.frozen? ⟨g, i, none⟩ = false := by
  obtain ⟨L, H, C, b', st, f, fs, sz, cur, cr, e, hr, rv, ln, hd⟩ := h
  exact hd.row.free i
theorem HeS.lt (h : HeS G T rest w g M b σ) : g < w.heap.size := by
  obtain ⟨L, H, C, b', st, f, fs, sz, cur, cr, e, hr, rv, ln, hd⟩ := h
  exact hd.row.lt
theorem HeS.gG (h : HeS G T rest w g M b σ) : G g := by
  obtain ⟨L, H, C, b', st, f, fs, sz, cur, cr, e, hr, rv, ln, hd⟩ := h
  exact hd.gG
theorem HeS.keep {K : Nat → Prop} (h : HeS G T rest w g M b σ) (hk : Keep K w w') (hn : ∀ j, G j → ¬ K j) : HeS G T rest w' g M b σ := by
  obtain ⟨L, H, C, b', st, f, fs, sz, cur, cr, e, hr, rv, ln, hd⟩ := h
  exact ⟨L, H, C, b', st, f, fs, sz, cur, cr, e, hr, rv, ln, hd.row.keep hk (hn _ hd.gG), hd.t1, hd.t2, hd.gG, own_keep hd.ro hk (fun j hj => hn j (hd.rG j hj)), own_keep hd.lo hk (fun j hj => hn j (hd.lG j hj)), hd.rG, hd.lG⟩
theorem he_lim (h : HeRep M b σ L H C B st f fs sz cur cr e) (hne : ∀ e, σ ≠ .err e) : L = max 0 M.line ∧ H = max 0 M.head ∧ C = max 0 M.count ∧ B = b := by
  cases h with
  | err e h0 => exact absurd rfl (hne e)
  | _ => exact ⟨rfl, rfl, rfl, rfl⟩
end
set_option maxRecDepth 100000 in
set_option maxHeartbeats 2000000 in
theorem newhead7x (l h c b : Int) (w : World) :
    Calls Tryz.prog 57 #[.agg #[.int .i64 l, .int .i64 h, .int .i64 c, .int .i64 b]] w fun x w' => ∃ g, x = .returned (.pointer (some ⟨g, 0, none⟩)) ∧ w.heap.size ≤ g ∧ Row w' g 103 (heCells (max l 0) (max h 0) (max c 0) b 0 ⟨#[]⟩ (.slice none 0 0) 0 (.slice none 0 0) false 0 []) ∧ Below w.heap.size w w' := by
  go_enter Tryz.func57, Tryz.ntmps57
  go_wp2_with fail
  go_ret
  refine ⟨w.heap.size + 1, rfl, Nat.le_succ _, ?_, ((below_alloc w _).alloc (by simp) _)⟩
  have hr := Row.new (w.alloc (.cells #[.int .i64 (max l 0), .int .i64 (max h 0), .int .i64 (max c 0), .int .i64 b] 57)) 103 #[.int .i64 (max l 0), .int .i64 (max h 0), .int .i64 (max c 0), .int .i64 b, .int .i64 0, .string ⟨#[]⟩, .slice none 0 0, .int .i64 0, .slice none 0 0, .bool false, .int .i64 0]
  have hz : (w.alloc (.cells #[.int .i64 (max l 0), .int .i64 (max h 0), .int .i64 (max c 0), .int .i64 b] 57)).heap.size = w.heap.size + 1 := by simp
  rw [hz] at hr
  exact hr
/-- A new parser's cells. -/
def paNew (l h c b : Int) : Array Value := heCells (max l 0) (max h 0) (max c 0) b 0 ⟨#[]⟩ (.slice none 0 0) 0 (.slice none 0 0) false 0 (paR ⟨#[]⟩ ⟨#[]⟩ (.slice none 0 0) false 0)
set_option maxRecDepth 100000 in
set_option maxHeartbeats 2000000 in
theorem new21 (l h c b : Int) (w : World) :
    Calls Tryz.prog 21 #[.agg #[.int .i64 l, .int .i64 h, .int .i64 c, .int .i64 b]] w fun x w' => ∃ g, x = .returned (.pointer (some ⟨g, 0, none⟩)) ∧ w.heap.size ≤ g ∧ Row w' g 108 (paNew l h c b) ∧ Below w.heap.size w w' := by
  have L0 := below_alloc w (.cells #[.int .i64 l, .int .i64 h, .int .i64 c, .int .i64 b] 57)
  have HL0 := Lib.hid L0
  clear L0
  go_enter Tryz.func21, Tryz.ntmps21
  go_wp2_with fail
  with_reducible refine (newhead7x l h c b _).mono ?_
  rintro e w1 ⟨g1, rfl, hg1, hr, hb⟩
  have hc : ∀ i, w1.cell? ⟨g1, i, none⟩ = (heL (max l 0) (max h 0) (max c 0) b 0 ⟨#[]⟩ (.slice none 0 0) 0 (.slice none 0 0) false 0 [])[i]? := fun i => by
    rw [hr.cell i]; unfold heCells; rw [List.getElem?_toArray]
  have c0 := hc 0
  have c1 := hc 1
  have c2 := hc 2
  have c3 := hc 3
  have c4 := hc 4
  have c5 := hc 5
  have c6 := hc 6
  have c7 := hc 7
  have c8 := hc 8
  have c9 := hc 9
  have c10 := hc 10
  simp only [heL, List.getElem?_cons_zero, List.getElem?_cons_succ] at c0 c1 c2 c3 c4 c5 c6 c7 c8 c9 c10
  have hb2 := HL0.out.trans (hb.mono HL0.out.size)
  have HB := Lib.hid hb2
  clear hc hr hb hb2 hg1
  go_wp2_with fail
  go_ret
  exact ⟨w1.heap.size, rfl, HB.out.size, Row.new w1 108 _, HB.out.alloc HB.out.size _⟩
/-- A new parser stands at the machine's begin. -/
theorem paNew_S {w : World} {g : Nat} (l h c b : Int) (hr : Row w g 108 (paNew l h c b)) (G : Nat → Prop) (hg : G g) : HeS G 108 (paR ⟨#[]⟩ ⟨#[]⟩ (.slice none 0 0) false 0) w g ⟨l, h, c⟩ b hd0 := by
  unfold paNew at hr
  rw [Int.max_comm l, Int.max_comm h, Int.max_comm c] at hr
  exact ⟨_, _, _, _, _, _, _, _, _, _, _, .line0 [] false, .slice none 0 0, .slice none 0 0, hr, by decide, by decide, hg, nil_flds _, nil_byt _, (fun j h => by cases h), (fun j h => by cases h)⟩
section
variable (G : Nat → Prop) (g : Nat) (M : HdL) (b : Int) (σ : HdS) (m t : ByteArray) (fv : Value) (wt : Bool) (e : Int)
set_option maxHeartbeats 2000000 in
theorem complete38 (q : Bool) (hq : σ.fin = q) (w : World) (h : HeS G 108 (paR m t fv wt e) w g M b σ) :
    Calls Tryz.prog 59 #[.pointer (some ⟨g, 0, none⟩)] w fun x w' => x = .returned (.bool q) ∧ ∃ n, w' = w.drewN n := by
  have c18 := h.cellR 7
  have c17 := h.cellR 6
  have c16 := h.cellR 5
  simp only [paR, List.getElem?_cons_zero, List.getElem?_cons_succ, Nat.reduceAdd] at c18 c17 c16
  have DN : ∀ k, Below w.heap.size w (w.drewN k) := fun k => ⟨rfl, rfl, rfl, Nat.le_refl _, fun _ _ => rfl⟩
  have HX := Lib.hid (fun k => hdoneS G 108 (paR m t fv wt e) g M b σ (w.drewN k) (h.below (DN k)))
  rw [hq] at HX
  clear h DN hq
  cases q
  · go_enter Tryz.func59, Tryz.ntmps59
    go_wp2_with fail
    go_quiet ((go_at_call 92; exact Calls.quiet_of_same (calls_flip (HX.out _))))
    go_wp2_with fail
    go_ret
    exact ⟨rfl, _, rfl⟩
  · go_enter Tryz.func59, Tryz.ntmps59
    go_wp2_with fail
    go_quiet ((go_at_call 92; exact Calls.quiet_of_same (calls_flip (HX.out _))))
    go_wp2_with fail
    go_ret
    exact ⟨rfl, _, rfl⟩
end
end Go.Proofs.YtbbphklhnngjmaaGreatDoor

/- request: a parser in memory; Head.Fields, framing.Request of neither field, beginBody, finish. -/
namespace Go.Proofs.YtbbphklhnngjmaaGreatDoor
open Go.RowKit

theorem own_nilF {w : World} {e : TypeId} {n m base : Nat} {a : Option Addr} {c k : Nat} {xs : List Value} (h : w.ownsRow base e n (.slice a k c) m xs) (ha : a = none) : c = 0 ∧ m = 0 := by
  obtain ⟨_, ⟨h1, h0⟩ | ⟨g, cap, cur, h1, _⟩⟩ := h
  · injection h1 with _ _ h2
    exact ⟨h2, h0⟩
  · injection h1 with h2
    rw [ha] at h2
    cases h2
set_option maxRecDepth 100000 in
set_option maxHeartbeats 2000000 in
/-- Head's Fields. -/
theorem hfields15 (G : Nat → Prop) (T : TypeId) (rest : List Value) (g : Nat) (M : HdL) (b : Int) (σ : HdS) (hl : σ.fldsOf.length ≤ 1000000000) (w : World) (h : HeS G T rest w g M b σ) :
    Calls Tryz.prog 69 #[.pointer (some ⟨g, 0, none⟩)] w fun x w' => ∃ a c, x = .returned (.slice a σ.fldsOf.length c) ∧ IsFlds w' a c σ.fldsOf ∧ Below w.heap.size w w' := by
  obtain ⟨L, H, C, b', st, f, fs, sz, cur, cr, e, hr, rv, ln, hd⟩ := h
  have he := he_flds hr
  rw [← he] at hl ⊢
  have c6 := hd.c.2.2.2.2.2.2.1
  obtain ⟨a0, c0, hv, hf⟩ := own_isFlds hd.ro
  have hro := hd.ro
  subst hv
  have HX := Lib.hid (clone77 a0 c0 fs hl (fun ha => ⟨(own_nilF hro ha).1, List.eq_nil_of_length_eq_zero (own_nilF hro ha).2⟩) w hf)
  clear hd hr he hf hro
  go_enter Tryz.func69, Tryz.ntmps69
  go_wp2_with fail
  with_reducible refine HX.out.mono ?_
  rintro e9 w1 ⟨v, rfl, ho, hb⟩
  obtain ⟨a1, c1, rfl, hf1⟩ := own_isFlds ho
  have HF := Lib.hid hf1
  have HB := Lib.hid hb
  clear ho hf1 hb HX c6
  go_wp2_with fail
  go_ret
  exact ⟨a1, c1, rfl, HF.out, HB.out⟩
def hostN : ByteArray := ⟨#[72, 111, 115, 116]⟩
def encN : ByteArray := ⟨#[84, 114, 97, 110, 115, 102, 101, 114, 45, 69, 110, 99, 111, 100, 105, 110, 103]⟩
def lenN : ByteArray := ⟨#[67, 111, 110, 116, 101, 110, 116, 45, 76, 101, 110, 103, 116, 104]⟩
theorem own_len0 {w : World} {base : Nat} {e : TypeId} {n : Nat} {v : Value} {xs : List Value} (h : w.ownsRow base e n v 0 xs) : ∃ a c, v = .slice a 0 c := own_slice h
set_option maxRecDepth 100000 in
set_option maxHeartbeats 2000000 in
/-- Neither a Transfer-Encoding nor a Content-Length. -/
theorem frame76 (a : Option Addr) (c : Nat) (fs : List Fld) (most : Int) (hfl : fs.length ≤ 1000000) (hok : ∀ f ∈ fs, FldOk f) (hte : allB encN fs = []) (hcl : allB lenN fs = []) (w : World) (hf : IsFlds w a c fs) :
    Calls Tryz.prog 132 #[.slice a fs.length c, .int .i64 most] w fun x w' => x = .returned (.tuple #[.int .i64 0, .int .i64 0, .int .i64 0]) ∧ Below w.heap.size w w' := by
  have HA := Lib.hid (fun W h => all44 a c fs encN hfl hok W h)
  have HC := Lib.hid (fun W h => all44 a c fs lenN hfl hok W h)
  rw [hte] at HA
  rw [hcl] at HC
  unfold encN at HA
  unfold lenN at HC
  have HF := Lib.hid hf
  clear hf hte hcl hok
  go_enter Tryz.func132, Tryz.ntmps132
  go_wp2_with fail
  with_reducible refine (HA.out w HF.out).mono ?_
  rintro e w1 ⟨u1, rfl, ho1, hb1⟩
  obtain ⟨a1, c1, rfl⟩ := own_len0 ho1
  have F1 := Lib.hid (HF.out.below hb1)
  have B1 := Lib.hid hb1
  clear ho1 hb1 HA HF
  go_wp2_with fail
  with_reducible refine (HC.out w1 F1.out).mono ?_
  rintro e w2 ⟨u2, rfl, ho2, hb2⟩
  obtain ⟨a2, c2, rfl⟩ := own_len0 ho2
  have B2 := Lib.hid (B1.out.trans (hb2.mono B1.out.size))
  clear ho2 hb2 HC F1 B1
  go_wp2_with fail
  refine bodyPost_ret (v := .tuple #[.int .i64 0, .int .i64 0, .int .i64 0]) (by simp [results, Tryz.results132, go_sem]) rfl ⟨rfl, B2.out⟩
set_option maxRecDepth 100000 in
set_option maxHeartbeats 4000000 in
theorem begin67 (G : Nat → Prop) (g : Nat) (M : HdL) (b : Int) (σ : HdS) (m t : ByteArray) (wt : Bool) (a : Option Addr) (c : Nat) (fs : List Fld) (h0 : ByteArray) (hfl : fs.length ≤ 1000000) (hok : ∀ f ∈ fs, FldOk f) (hh : allB hostN fs = [h0]) (hne : 0 < h0.size) (hte : allB encN fs = []) (hcl : allB lenN fs = [])
    (w : World) (h : HeS G 108 (paR m t (.slice none 0 0) wt 0) w g M b σ) (hf : IsFlds w a c fs) :
    Calls Tryz.prog 115 #[.pointer (some ⟨g, 0, none⟩), .slice a fs.length c] w fun x w' => x = .returned (.int .i64 0) ∧ HeS G 108 (paR m t (.slice a fs.length c) wt 0) w' g M b σ ∧ Keep G w w' := by
  have HA := Lib.hid (all44 a c fs hostN hfl hok w hf)
  rw [hh] at HA
  unfold hostN at HA
  have HFR := Lib.hid (fun W most h => frame76 a c fs most hfl hok hte hcl W h)
  have HF := Lib.hid hf
  have HD := Lib.hid h
  have HG := Lib.hid h.gG
  have e1 := emp_false h0 hne
  clear hf h hh hne hte hcl hok
  go_enter Tryz.func115, Tryz.ntmps115
  go_wp2_with fail
  with_reducible refine HA.out.mono ?_
  rintro e w1 ⟨u1, rfl, ho1, hb1⟩
  obtain ⟨a1, c1, rfl⟩ := own_slice ho1
  have hs := isStrs_of_row ho1 rfl
  obtain hs0 | ⟨bk, o, rfl, hbk, hcc, hcell⟩ := hs
  · cases hs0
  have cj : w1.cell? ⟨bk, o, none⟩ = some (.string h0) := hcell 0 h0 rfl
  have F1 := Lib.hid (HF.out.below hb1)
  have D1 := Lib.hid (HD.out.below hb1)
  have B1 := Lib.hid hb1
  have hcc2 : 1 ≤ c1 := by simpa using hcc
  clear ho1 hb1 HA HF hcell hbk hcc HD
  obtain ⟨L, H, C, b', st, f, fs', sz, cur, cr, e', hr, rv, ln, hd⟩ := D1.out
  have c3 := hd.c.2.2.2.1
  clear hd hr
  go_wp2_with fail
  with_reducible refine (HFR.out w1 b' F1.out).mono ?_
  rintro e w2 ⟨rfl, hb2⟩
  have D2 := Lib.hid (D1.out.below hb2)
  have B2 := Lib.hid (B1.out.trans (hb2.mono B1.out.size))
  have f13 := D2.out.free 13
  have f15 := D2.out.free 15
  have f16 := D2.out.free 16
  have k13 := D2.out.cellR 2
  have k15 := D2.out.cellR 4
  have k16 := D2.out.cellR 5
  simp only [paR, List.getElem?_cons_zero, List.getElem?_cons_succ, Nat.reduceAdd] at k13 k15 k16
  have HR : Hid (HeS G 108 (paR m t (.slice a fs.length c) wt 0) (((w2.setCell ⟨g, 13, none⟩ (.slice a fs.length c)).setCell ⟨g, 15, none⟩ (.int .i64 0)).setCell ⟨g, 16, none⟩ (.int .i64 0)) g M b σ) :=
    ((D2.out.setR 2 (.slice a fs.length c)).setR 4 (.int .i64 0)).setR 5 (.int .i64 0)
  have K : ∀ (v : World) (i : Nat) (u : Value), Keep G v (v.setCell ⟨g, i, none⟩ u) := fun v i u => Keep.setCell v (p := ⟨g, i, none⟩) HG.out u
  have HK : Hid (Keep G w (((w2.setCell ⟨g, 13, none⟩ (.slice a fs.length c)).setCell ⟨g, 15, none⟩ (.int .i64 0)).setCell ⟨g, 16, none⟩ (.int .i64 0))) :=
    (((Keep.of_below B2.out).trans (K _ _ _)).trans (K _ _ _)).trans (K _ _ _)
  clear hb2 B1 F1 D1 c3 K cj e1 D2 B2 HFR
  go_wp2_with fail
  go_ret
  exact ⟨rfl, HR.out, HK.out⟩
end Go.Proofs.YtbbphklhnngjmaaGreatDoor

