/- stewardlaw24.do (written by genplw.py). -/
import Derived.Test.YtoikgphbicnhaabPlV
namespace Go.Proofs.Ytoikgphbicnhaab
open Go.RowKit Go.Maps Go.Shelf Go.Sort

/-- The reference's Add. -/
theorem radd24 (a : Option Addr) (c : Nat) (l : List Bk) (hl : l.length ≤ 1100) (s : ByteArray) (hs1 : s.size ≤ 4611686018427387904) (wt cp : Int) (w : World) (h : IsBksN w a c l) :
    Calls Try.prog 24 #[.slice a l.length c, .string s, .int .i64 wt, .int .i64 cp] w (RetB w a (addL (nameB s.data.toList) l s wt cp) (pairE (addE (nameB s.data.toList) l s wt cp))) := by
  by_cases q1 : nameB s.data.toList = true
  · by_cases q2 : wt < 1
    · have e0 : addE (nameB s.data.toList) l s wt cp = 1 := by unfold addE; rw [if_pos (.inr (.inl (by omega)))]
      unfold addL; rw [e0, if_neg (by decide)]
      exact radd_b2 a c l hl s hs1 wt cp w h q1 (decide_eq_true q2)
    · by_cases q3 : 65535 < wt
      · have e0 : addE (nameB s.data.toList) l s wt cp = 1 := by unfold addE; rw [if_pos (.inr (.inl (by omega)))]
        unfold addL; rw [e0, if_neg (by decide)]
        exact radd_b3 a c l hl s hs1 wt cp w h q1 (decide_eq_false q2) (decide_eq_true q3)
      · by_cases q4 : cp < 1
        · have e0 : addE (nameB s.data.toList) l s wt cp = 1 := by unfold addE; rw [if_pos (.inr (.inr (by omega)))]
          unfold addL; rw [e0, if_neg (by decide)]
          exact radd_b4 a c l hl s hs1 wt cp w h q1 (decide_eq_false q2) (decide_eq_false q3) (decide_eq_true q4)
        · by_cases q5 : 65535 < cp
          · have e0 : addE (nameB s.data.toList) l s wt cp = 1 := by unfold addE; rw [if_pos (.inr (.inr (by omega)))]
            unfold addL; rw [e0, if_neg (by decide)]
            exact radd_b5 a c l hl s hs1 wt cp w h q1 (decide_eq_false q2) (decide_eq_false q3) (decide_eq_false q4) (decide_eq_true q5)
          · have e0 : addE (nameB s.data.toList) l s wt cp = if (fndB l s).isSome = true then 7 else if 1024 ≤ l.length then 8 else 0 := by
              unfold addE
              rw [if_neg]
              rw [q1]; simp; omega
            unfold addL; rw [e0]
            cases hf : fndB l s with
            | some b =>
              simp only [Option.isSome_some, if_true]
              rw [if_neg (by decide)]
              exact radd_there a c l hl s hs1 wt cp w h q1 (decide_eq_false q2) (decide_eq_false q3) (decide_eq_false q4) (decide_eq_false q5) b hf
            | none =>
              simp only [Option.isSome_none, Bool.false_eq_true, if_false]
              by_cases q6 : 1024 ≤ l.length
              · rw [if_pos q6, if_neg (by decide)]
                exact radd_full a c l hl s hs1 wt cp w h q1 (decide_eq_false q2) (decide_eq_false q3) (decide_eq_false q4) (decide_eq_false q5) hf q6
              · rw [if_neg q6, if_pos rfl]
                exact radd_ok a c l hl s hs1 wt cp w h q1 (decide_eq_false q2) (decide_eq_false q3) (decide_eq_false q4) (decide_eq_false q5) hf (by omega)
  · have q0 : nameB s.data.toList = false := by simpa using q1
    have e0 : addE (nameB s.data.toList) l s wt cp = 1 := by unfold addE; rw [if_pos (.inl q0)]
    unfold addL; rw [e0, if_neg (by decide)]
    exact radd_b1 a c l hl s hs1 wt cp w h q0
/-- An act, as lists. -/
def actL (k u v : Int) (s : ByteArray) (l : List Bk) : List Bk :=
  if k = 0 then addL (nameB s.data.toList) l s u v else if k = 1 then chL l s (rw2 u) else if k = 2 then chL l s (tn1 1) else if k = 3 then chL l s (tn1 0) else if k = 4 then chL l s (tn1 2) else if k = 5 then chL l s tk1 else chL l s gv1
/-- The slice's own block beside others. -/
def OA (O : Nat → Prop) (a : Option Addr) : Nat → Prop := fun k => O k ∨ ∃ p, a = some p ∧ p.block = k
/-- What an act leaves. -/
def DoP (W : World) (B pb n : Nat) (O : Nat → Prop) (a : Option Addr) (l' x' : List Bk) (same : Prop) (w : World) (e : Ending) (w' : World) : Prop :=
  ∃ a' c' q, e = .returned (.tuple #[.slice a' x'.length c', .bool q]) ∧ IsBksN w' a' c' x' ∧ (same → q = true) ∧ PoolB W B pb (n + 1) l' (OA O a') w' ∧ Keep (fun k => ¬ O k) w w' ∧ (a' = a ∨ ∀ p, a' = some p → w.heap.size ≤ p.block)
theorem oa_other {W w w1 : World} {B pb n c' : Nat} {l x' : List Bk} {O : Nat → Prop} {a a' : Option Addr} (hp : PoolB W B pb n l O w) (hO : ∀ k, O k → k < w.heap.size) (hxo : ∀ p, a = some p → O p.block) (hx' : IsBksN w1 a' c' x') (ha : a' = a ∨ ∀ p, a' = some p → w.heap.size ≤ p.block) (hb : Below w.heap.size w w1) : PoolB W B pb n l (OA O a') w1 ∧ (∀ k, OA O a' k → k < w1.heap.size) := by
  refine ⟨(hp.other (fun k hk => ?_)).below hb, fun k hk => ?_⟩
  · rcases hk with e | ⟨p, e1, e2⟩
    · exact .inl e
    · rcases ha with rfl | e
      · exact .inl (by rw [← e2]; exact hxo p e1)
      · exact .inr (by rw [← e2]; exact e p e1)
  · rcases hk with e | ⟨p, e1, e2⟩
    · exact Nat.lt_of_lt_of_le (hO k e) hb.size
    · rw [← e2]; exact hx'.blk p e1
theorem doP_mk {W w w1 w2 : World} {B pb n c' : Nat} {l' x' : List Bk} {O : Nat → Prop} {a a' : Option Addr} {same : Prop} {q : Bool} (hq : same → q = true) (hx' : IsBksN w1 a' c' x') (ha : a' = a ∨ ∀ p, a' = some p → w.heap.size ≤ p.block) (hb : Below w.heap.size w w1) (hp : PoolB W B pb (n + 1) l' (OA O a') w2) (hk : Keep (fun k => ¬ OA O a' k) w1 w2) : DoP W B pb n O a l' x' same w (.returned (.tuple #[.slice a' x'.length c', .bool q])) w2 :=
  ⟨a', c', q, rfl, hx'.keep hk (fun p hp2 hn => hn (.inr ⟨p, hp2, rfl⟩)), hq, hp, (Keep.of_below hb).trans (hk.more (fun _ _ hn ho => hn (.inl ho))), ha⟩
set_option maxRecDepth 100000 in
set_option maxHeartbeats 4000000 in
theorem do9_0 (W : World) (B pb n : Nat) (hn : n + 1 < maxLen) (l : List Bk) (O : Nat → Prop) (x : List Bk) (hx1 : Good x) (hx2 : x.length ≤ 1100) (a : Option Addr) (c : Nat) (u v : Int) (N : ByteArray) (w : World) (hp : PoolB W B pb n l O w) (hO : ∀ k, O k → k < w.heap.size) (hx : IsBksN w a c x) (hxo : ∀ p, a = some p → O p.block) :
    Calls Try.prog 9 #[.pointer (some ⟨pb, 0, none⟩), .slice a x.length c, .agg #[.int .i64 0, .int .i64 u, .int .i64 v, .string N]] w (DoP W B pb n O a (addL (nameB (cutS N 40).data.toList) l (cutS N 40) u v) (addL (nameB (cutS N 40).data.toList) x (cutS N 40) u v) (x = l) w) := by
  have HP := Lib.hid hp
  have HO := Lib.hid hO
  have HX := Lib.hid hx
  have HXO := Lib.hid hxo
  have HG := Lib.hid hx1
  have HNN := Lib.hid hn
  have HB1 := Lib.hid (below_alloc w (.cells #[.int .i64 0, .int .i64 u, .int .i64 v, .string N] 30))
  have HR1 := Lib.hid (Row.new w 30 #[.int .i64 0, .int .i64 u, .int .i64 v, .string N])
  obtain ⟨ab, hab⟩ : ∃ ab, ab = w.heap.size := ⟨_, rfl⟩
  obtain ⟨w1, hw1⟩ : ∃ w1, w1 = w.alloc (.cells #[.int .i64 0, .int .i64 u, .int .i64 v, .string N] 30) := ⟨_, rfl⟩
  rw [← hw1] at HB1 HR1
  rw [← hab] at HR1
  clear hp hO hx hxo hx1 hn
  have hs40 := cutS_size N 40
  have hc11 := cut11 N 40 w1
  have HCUT := Lib.hid hc11
  clear hc11
  go_enter Try.func9, Try.ntmps9
  go_upto_region 1 with fail
  rw [← hw1, ← hab]
  clear hw1 hab
  have x0 : w1.cell? ⟨ab, 0, none⟩ = some (.int .i64 0) := HR1.out.cell 0
  have x1 : w1.cell? ⟨ab, 1, none⟩ = some (.int .i64 u) := HR1.out.cell 1
  have x2 : w1.cell? ⟨ab, 2, none⟩ = some (.int .i64 v) := HR1.out.cell 2
  have x3 : w1.cell? ⟨ab, 3, none⟩ = some (.string N) := HR1.out.cell 3
  go_wp2_with fail
  refine HCUT.out.mono ?_
  rintro e w9 ⟨rfl, hw9⟩
  subst w9
  clear HCUT
  generalize cutS N 40 = s at *
  go_wp2_with fail
  refine (radd24 a c x hx2 s (by omega) u v w1 (HX.out.below HB1.out)).mono ?_
  rintro e w2 ⟨a', c', rfl, hx', ha', hb2⟩
  have hb02 := HB1.out.trans (hb2.mono HB1.out.size)
  have ha2 : a' = a ∨ ∀ p, a' = some p → w.heap.size ≤ p.block := ha'.imp id (fun h p hp => Nat.le_trans HB1.out.size (h p hp))
  have hpp := oa_other HP.out HO.out HXO.out hx' ha2 hb02
  have HPP := Lib.hid hpp
  have HX' := Lib.hid hx'
  have HA2 := Lib.hid ha2
  have HB2 := Lib.hid hb02
  have hr2 := HR1.out.below hb2
  have y1 : w2.cell? ⟨ab, 1, none⟩ = some (.int .i64 u) := hr2.cell 1
  have y2 : w2.cell? ⟨ab, 2, none⟩ = some (.int .i64 v) := hr2.cell 2
  clear hx' ha' hb2 hb02 ha2 hpp hr2 x0 x1 x2 x3
  simp only [pairE]
  have hq : x = l → (addE (nameB s.data.toList) l s u v == addE (nameB s.data.toList) x s u v) = true := by intro e; rw [e]; simp
  have HQ := Lib.hid hq
  clear hq
  go_wp2_with fail
  refine (addB W B pb n HNN.out l (OA O a') s hs40 w2 HPP.out.1 HPP.out.2 u v).mono ?_
  rintro e w3 ⟨rfl, hp3, hk3⟩
  have HP3 := Lib.hid hp3
  have HK3 := Lib.hid hk3
  clear hp3 hk3
  go_wp2_with fail
  refine bodyPost_ret (v := .tuple #[.slice a' (addL (nameB s.data.toList) x s u v).length c', .bool (addE (nameB s.data.toList) l s u v == addE (nameB s.data.toList) x s u v)]) (by simp [results, Try.results9, go_sem]) rfl ?_
  exact doP_mk HQ.out HX'.out HA2.out HB2.out HP3.out HK3.out
set_option maxRecDepth 100000 in
set_option maxHeartbeats 4000000 in
theorem do9_1 (W : World) (B pb n : Nat) (hn : n + 1 < maxLen) (l : List Bk) (O : Nat → Prop) (x : List Bk) (hx1 : Good x) (hx2 : x.length ≤ 1100) (a : Option Addr) (c : Nat) (u v : Int) (N : ByteArray) (w : World) (hp : PoolB W B pb n l O w) (hO : ∀ k, O k → k < w.heap.size) (hx : IsBksN w a c x) (hxo : ∀ p, a = some p → O p.block) :
    Calls Try.prog 9 #[.pointer (some ⟨pb, 0, none⟩), .slice a x.length c, .agg #[.int .i64 1, .int .i64 u, .int .i64 v, .string N]] w (DoP W B pb n O a (chL l (cutS N 40) (rw2 u)) (chL x (cutS N 40) (rw2 u)) (x = l) w) := by
  have HP := Lib.hid hp
  have HO := Lib.hid hO
  have HX := Lib.hid hx
  have HXO := Lib.hid hxo
  have HG := Lib.hid hx1
  have HNN := Lib.hid hn
  have HB1 := Lib.hid (below_alloc w (.cells #[.int .i64 1, .int .i64 u, .int .i64 v, .string N] 30))
  have HR1 := Lib.hid (Row.new w 30 #[.int .i64 1, .int .i64 u, .int .i64 v, .string N])
  obtain ⟨ab, hab⟩ : ∃ ab, ab = w.heap.size := ⟨_, rfl⟩
  obtain ⟨w1, hw1⟩ : ∃ w1, w1 = w.alloc (.cells #[.int .i64 1, .int .i64 u, .int .i64 v, .string N] 30) := ⟨_, rfl⟩
  rw [← hw1] at HB1 HR1
  rw [← hab] at HR1
  clear hp hO hx hxo hx1 hn
  have hs40 := cutS_size N 40
  have hc11 := cut11 N 40 w1
  have HCUT := Lib.hid hc11
  clear hc11
  go_enter Try.func9, Try.ntmps9
  go_upto_region 1 with fail
  rw [← hw1, ← hab]
  clear hw1 hab
  have x0 : w1.cell? ⟨ab, 0, none⟩ = some (.int .i64 1) := HR1.out.cell 0
  have x1 : w1.cell? ⟨ab, 1, none⟩ = some (.int .i64 u) := HR1.out.cell 1
  have x2 : w1.cell? ⟨ab, 2, none⟩ = some (.int .i64 v) := HR1.out.cell 2
  have x3 : w1.cell? ⟨ab, 3, none⟩ = some (.string N) := HR1.out.cell 3
  go_wp2_with fail
  refine HCUT.out.mono ?_
  rintro e w9 ⟨rfl, hw9⟩
  subst w9
  clear HCUT
  generalize cutS N 40 = s at *
  go_wp2_with fail
  refine (rchg25_0 a c x HG.out hx2 s u w1 (HX.out.below HB1.out)).mono ?_
  rintro e w2 ⟨a', c', rfl, hx', ha', hb2⟩
  have hb02 := HB1.out.trans (hb2.mono HB1.out.size)
  have ha2 : a' = a ∨ ∀ p, a' = some p → w.heap.size ≤ p.block := ha'.imp id (fun h p hp => Nat.le_trans HB1.out.size (h p hp))
  have hpp := oa_other HP.out HO.out HXO.out hx' ha2 hb02
  have HPP := Lib.hid hpp
  have HX' := Lib.hid hx'
  have HA2 := Lib.hid ha2
  have HB2 := Lib.hid hb02
  have hr2 := HR1.out.below hb2
  have y1 : w2.cell? ⟨ab, 1, none⟩ = some (.int .i64 u) := hr2.cell 1
  have y2 : w2.cell? ⟨ab, 2, none⟩ = some (.int .i64 v) := hr2.cell 2
  clear hx' ha' hb2 hb02 ha2 hpp hr2 x0 x1 x2 x3
  simp only [pairE]
  have hq : x = l → (chE l s (rw2E u) == chE x s (rw2E u)) = true := by intro e; rw [e]; simp
  have HQ := Lib.hid hq
  clear hq
  go_wp2_with fail
  refine (rewB W B pb n HNN.out l (OA O a') s hs40 w2 HPP.out.1 HPP.out.2 u).mono ?_
  rintro e w3 ⟨rfl, hp3, hk3⟩
  have HP3 := Lib.hid hp3
  have HK3 := Lib.hid hk3
  clear hp3 hk3
  go_wp2_with fail
  refine bodyPost_ret (v := .tuple #[.slice a' (chL x s (rw2 u)).length c', .bool (chE l s (rw2E u) == chE x s (rw2E u))]) (by simp [results, Try.results9, go_sem]) rfl ?_
  exact doP_mk HQ.out HX'.out HA2.out HB2.out HP3.out HK3.out
set_option maxRecDepth 100000 in
set_option maxHeartbeats 4000000 in
theorem do9_2 (W : World) (B pb n : Nat) (hn : n + 1 < maxLen) (l : List Bk) (O : Nat → Prop) (x : List Bk) (hx1 : Good x) (hx2 : x.length ≤ 1100) (a : Option Addr) (c : Nat) (u v : Int) (N : ByteArray) (w : World) (hp : PoolB W B pb n l O w) (hO : ∀ k, O k → k < w.heap.size) (hx : IsBksN w a c x) (hxo : ∀ p, a = some p → O p.block) :
    Calls Try.prog 9 #[.pointer (some ⟨pb, 0, none⟩), .slice a x.length c, .agg #[.int .i64 2, .int .i64 u, .int .i64 v, .string N]] w (DoP W B pb n O a (chL l (cutS N 40) (tn1 1)) (chL x (cutS N 40) (tn1 1)) (x = l) w) := by
  have HP := Lib.hid hp
  have HO := Lib.hid hO
  have HX := Lib.hid hx
  have HXO := Lib.hid hxo
  have HG := Lib.hid hx1
  have HNN := Lib.hid hn
  have HB1 := Lib.hid (below_alloc w (.cells #[.int .i64 2, .int .i64 u, .int .i64 v, .string N] 30))
  have HR1 := Lib.hid (Row.new w 30 #[.int .i64 2, .int .i64 u, .int .i64 v, .string N])
  obtain ⟨ab, hab⟩ : ∃ ab, ab = w.heap.size := ⟨_, rfl⟩
  obtain ⟨w1, hw1⟩ : ∃ w1, w1 = w.alloc (.cells #[.int .i64 2, .int .i64 u, .int .i64 v, .string N] 30) := ⟨_, rfl⟩
  rw [← hw1] at HB1 HR1
  rw [← hab] at HR1
  clear hp hO hx hxo hx1 hn
  have hs40 := cutS_size N 40
  have hc11 := cut11 N 40 w1
  have HCUT := Lib.hid hc11
  clear hc11
  go_enter Try.func9, Try.ntmps9
  go_upto_region 1 with fail
  rw [← hw1, ← hab]
  clear hw1 hab
  have x0 : w1.cell? ⟨ab, 0, none⟩ = some (.int .i64 2) := HR1.out.cell 0
  have x1 : w1.cell? ⟨ab, 1, none⟩ = some (.int .i64 u) := HR1.out.cell 1
  have x2 : w1.cell? ⟨ab, 2, none⟩ = some (.int .i64 v) := HR1.out.cell 2
  have x3 : w1.cell? ⟨ab, 3, none⟩ = some (.string N) := HR1.out.cell 3
  go_wp2_with fail
  refine HCUT.out.mono ?_
  rintro e w9 ⟨rfl, hw9⟩
  subst w9
  clear HCUT
  generalize cutS N 40 = s at *
  go_wp2_with fail
  refine (rchg25_1 a c x HG.out hx2 s w1 (HX.out.below HB1.out)).mono ?_
  rintro e w2 ⟨a', c', rfl, hx', ha', hb2⟩
  have hb02 := HB1.out.trans (hb2.mono HB1.out.size)
  have ha2 : a' = a ∨ ∀ p, a' = some p → w.heap.size ≤ p.block := ha'.imp id (fun h p hp => Nat.le_trans HB1.out.size (h p hp))
  have hpp := oa_other HP.out HO.out HXO.out hx' ha2 hb02
  have HPP := Lib.hid hpp
  have HX' := Lib.hid hx'
  have HA2 := Lib.hid ha2
  have HB2 := Lib.hid hb02
  have hr2 := HR1.out.below hb2
  have y1 : w2.cell? ⟨ab, 1, none⟩ = some (.int .i64 u) := hr2.cell 1
  have y2 : w2.cell? ⟨ab, 2, none⟩ = some (.int .i64 v) := hr2.cell 2
  clear hx' ha' hb2 hb02 ha2 hpp hr2 x0 x1 x2 x3
  simp only [pairE]
  have hq : x = l → (chE l s tn1E == chE x s tn1E) = true := by intro e; rw [e]; simp
  have HQ := Lib.hid hq
  clear hq
  go_wp2_with fail
  refine (drainB W B pb n HNN.out l (OA O a') s hs40 w2 HPP.out.1 HPP.out.2).mono ?_
  rintro e w3 ⟨rfl, hp3, hk3⟩
  have HP3 := Lib.hid hp3
  have HK3 := Lib.hid hk3
  clear hp3 hk3
  go_wp2_with fail
  refine bodyPost_ret (v := .tuple #[.slice a' (chL x s (tn1 1)).length c', .bool (chE l s tn1E == chE x s tn1E)]) (by simp [results, Try.results9, go_sem]) rfl ?_
  exact doP_mk HQ.out HX'.out HA2.out HB2.out HP3.out HK3.out
set_option maxRecDepth 100000 in
set_option maxHeartbeats 4000000 in
theorem do9_3 (W : World) (B pb n : Nat) (hn : n + 1 < maxLen) (l : List Bk) (O : Nat → Prop) (x : List Bk) (hx1 : Good x) (hx2 : x.length ≤ 1100) (a : Option Addr) (c : Nat) (u v : Int) (N : ByteArray) (w : World) (hp : PoolB W B pb n l O w) (hO : ∀ k, O k → k < w.heap.size) (hx : IsBksN w a c x) (hxo : ∀ p, a = some p → O p.block) :
    Calls Try.prog 9 #[.pointer (some ⟨pb, 0, none⟩), .slice a x.length c, .agg #[.int .i64 3, .int .i64 u, .int .i64 v, .string N]] w (DoP W B pb n O a (chL l (cutS N 40) (tn1 0)) (chL x (cutS N 40) (tn1 0)) (x = l) w) := by
  have HP := Lib.hid hp
  have HO := Lib.hid hO
  have HX := Lib.hid hx
  have HXO := Lib.hid hxo
  have HG := Lib.hid hx1
  have HNN := Lib.hid hn
  have HB1 := Lib.hid (below_alloc w (.cells #[.int .i64 3, .int .i64 u, .int .i64 v, .string N] 30))
  have HR1 := Lib.hid (Row.new w 30 #[.int .i64 3, .int .i64 u, .int .i64 v, .string N])
  obtain ⟨ab, hab⟩ : ∃ ab, ab = w.heap.size := ⟨_, rfl⟩
  obtain ⟨w1, hw1⟩ : ∃ w1, w1 = w.alloc (.cells #[.int .i64 3, .int .i64 u, .int .i64 v, .string N] 30) := ⟨_, rfl⟩
  rw [← hw1] at HB1 HR1
  rw [← hab] at HR1
  clear hp hO hx hxo hx1 hn
  have hs40 := cutS_size N 40
  have hc11 := cut11 N 40 w1
  have HCUT := Lib.hid hc11
  clear hc11
  go_enter Try.func9, Try.ntmps9
  go_upto_region 1 with fail
  rw [← hw1, ← hab]
  clear hw1 hab
  have x0 : w1.cell? ⟨ab, 0, none⟩ = some (.int .i64 3) := HR1.out.cell 0
  have x1 : w1.cell? ⟨ab, 1, none⟩ = some (.int .i64 u) := HR1.out.cell 1
  have x2 : w1.cell? ⟨ab, 2, none⟩ = some (.int .i64 v) := HR1.out.cell 2
  have x3 : w1.cell? ⟨ab, 3, none⟩ = some (.string N) := HR1.out.cell 3
  go_wp2_with fail
  refine HCUT.out.mono ?_
  rintro e w9 ⟨rfl, hw9⟩
  subst w9
  clear HCUT
  generalize cutS N 40 = s at *
  go_wp2_with fail
  refine (rchg25_2 a c x HG.out hx2 s w1 (HX.out.below HB1.out)).mono ?_
  rintro e w2 ⟨a', c', rfl, hx', ha', hb2⟩
  have hb02 := HB1.out.trans (hb2.mono HB1.out.size)
  have ha2 : a' = a ∨ ∀ p, a' = some p → w.heap.size ≤ p.block := ha'.imp id (fun h p hp => Nat.le_trans HB1.out.size (h p hp))
  have hpp := oa_other HP.out HO.out HXO.out hx' ha2 hb02
  have HPP := Lib.hid hpp
  have HX' := Lib.hid hx'
  have HA2 := Lib.hid ha2
  have HB2 := Lib.hid hb02
  have hr2 := HR1.out.below hb2
  have y1 : w2.cell? ⟨ab, 1, none⟩ = some (.int .i64 u) := hr2.cell 1
  have y2 : w2.cell? ⟨ab, 2, none⟩ = some (.int .i64 v) := hr2.cell 2
  clear hx' ha' hb2 hb02 ha2 hpp hr2 x0 x1 x2 x3
  simp only [pairE]
  have hq : x = l → (chE l s tn1E == chE x s tn1E) = true := by intro e; rw [e]; simp
  have HQ := Lib.hid hq
  clear hq
  go_wp2_with fail
  refine (undrainB W B pb n HNN.out l (OA O a') s hs40 w2 HPP.out.1 HPP.out.2).mono ?_
  rintro e w3 ⟨rfl, hp3, hk3⟩
  have HP3 := Lib.hid hp3
  have HK3 := Lib.hid hk3
  clear hp3 hk3
  go_wp2_with fail
  refine bodyPost_ret (v := .tuple #[.slice a' (chL x s (tn1 0)).length c', .bool (chE l s tn1E == chE x s tn1E)]) (by simp [results, Try.results9, go_sem]) rfl ?_
  exact doP_mk HQ.out HX'.out HA2.out HB2.out HP3.out HK3.out
set_option maxRecDepth 100000 in
set_option maxHeartbeats 4000000 in
theorem do9_4 (W : World) (B pb n : Nat) (hn : n + 1 < maxLen) (l : List Bk) (O : Nat → Prop) (x : List Bk) (hx1 : Good x) (hx2 : x.length ≤ 1100) (a : Option Addr) (c : Nat) (u v : Int) (N : ByteArray) (w : World) (hp : PoolB W B pb n l O w) (hO : ∀ k, O k → k < w.heap.size) (hx : IsBksN w a c x) (hxo : ∀ p, a = some p → O p.block) :
    Calls Try.prog 9 #[.pointer (some ⟨pb, 0, none⟩), .slice a x.length c, .agg #[.int .i64 4, .int .i64 u, .int .i64 v, .string N]] w (DoP W B pb n O a (chL l (cutS N 40) (tn1 2)) (chL x (cutS N 40) (tn1 2)) (x = l) w) := by
  have HP := Lib.hid hp
  have HO := Lib.hid hO
  have HX := Lib.hid hx
  have HXO := Lib.hid hxo
  have HG := Lib.hid hx1
  have HNN := Lib.hid hn
  have HB1 := Lib.hid (below_alloc w (.cells #[.int .i64 4, .int .i64 u, .int .i64 v, .string N] 30))
  have HR1 := Lib.hid (Row.new w 30 #[.int .i64 4, .int .i64 u, .int .i64 v, .string N])
  obtain ⟨ab, hab⟩ : ∃ ab, ab = w.heap.size := ⟨_, rfl⟩
  obtain ⟨w1, hw1⟩ : ∃ w1, w1 = w.alloc (.cells #[.int .i64 4, .int .i64 u, .int .i64 v, .string N] 30) := ⟨_, rfl⟩
  rw [← hw1] at HB1 HR1
  rw [← hab] at HR1
  clear hp hO hx hxo hx1 hn
  have hs40 := cutS_size N 40
  have hc11 := cut11 N 40 w1
  have HCUT := Lib.hid hc11
  clear hc11
  go_enter Try.func9, Try.ntmps9
  go_upto_region 1 with fail
  rw [← hw1, ← hab]
  clear hw1 hab
  have x0 : w1.cell? ⟨ab, 0, none⟩ = some (.int .i64 4) := HR1.out.cell 0
  have x1 : w1.cell? ⟨ab, 1, none⟩ = some (.int .i64 u) := HR1.out.cell 1
  have x2 : w1.cell? ⟨ab, 2, none⟩ = some (.int .i64 v) := HR1.out.cell 2
  have x3 : w1.cell? ⟨ab, 3, none⟩ = some (.string N) := HR1.out.cell 3
  go_wp2_with fail
  refine HCUT.out.mono ?_
  rintro e w9 ⟨rfl, hw9⟩
  subst w9
  clear HCUT
  generalize cutS N 40 = s at *
  go_wp2_with fail
  refine (rchg25_3 a c x HG.out hx2 s w1 (HX.out.below HB1.out)).mono ?_
  rintro e w2 ⟨a', c', rfl, hx', ha', hb2⟩
  have hb02 := HB1.out.trans (hb2.mono HB1.out.size)
  have ha2 : a' = a ∨ ∀ p, a' = some p → w.heap.size ≤ p.block := ha'.imp id (fun h p hp => Nat.le_trans HB1.out.size (h p hp))
  have hpp := oa_other HP.out HO.out HXO.out hx' ha2 hb02
  have HPP := Lib.hid hpp
  have HX' := Lib.hid hx'
  have HA2 := Lib.hid ha2
  have HB2 := Lib.hid hb02
  have hr2 := HR1.out.below hb2
  have y1 : w2.cell? ⟨ab, 1, none⟩ = some (.int .i64 u) := hr2.cell 1
  have y2 : w2.cell? ⟨ab, 2, none⟩ = some (.int .i64 v) := hr2.cell 2
  clear hx' ha' hb2 hb02 ha2 hpp hr2 x0 x1 x2 x3
  simp only [pairE]
  have hq : x = l → (chE l s tn1E == chE x s tn1E) = true := by intro e; rw [e]; simp
  have HQ := Lib.hid hq
  clear hq
  go_wp2_with fail
  refine (removeB W B pb n HNN.out l (OA O a') s hs40 w2 HPP.out.1 HPP.out.2).mono ?_
  rintro e w3 ⟨rfl, hp3, hk3⟩
  have HP3 := Lib.hid hp3
  have HK3 := Lib.hid hk3
  clear hp3 hk3
  go_wp2_with fail
  refine bodyPost_ret (v := .tuple #[.slice a' (chL x s (tn1 2)).length c', .bool (chE l s tn1E == chE x s tn1E)]) (by simp [results, Try.results9, go_sem]) rfl ?_
  exact doP_mk HQ.out HX'.out HA2.out HB2.out HP3.out HK3.out
set_option maxRecDepth 100000 in
set_option maxHeartbeats 4000000 in
theorem do9_5 (W : World) (B pb n : Nat) (hn : n + 1 < maxLen) (l : List Bk) (O : Nat → Prop) (x : List Bk) (hx1 : Good x) (hx2 : x.length ≤ 1100) (a : Option Addr) (c : Nat) (u v : Int) (N : ByteArray) (w : World) (hp : PoolB W B pb n l O w) (hO : ∀ k, O k → k < w.heap.size) (hx : IsBksN w a c x) (hxo : ∀ p, a = some p → O p.block) :
    Calls Try.prog 9 #[.pointer (some ⟨pb, 0, none⟩), .slice a x.length c, .agg #[.int .i64 5, .int .i64 u, .int .i64 v, .string N]] w (DoP W B pb n O a (chL l (cutS N 40) tk1) (chL x (cutS N 40) tk1) (x = l) w) := by
  have HP := Lib.hid hp
  have HO := Lib.hid hO
  have HX := Lib.hid hx
  have HXO := Lib.hid hxo
  have HG := Lib.hid hx1
  have HNN := Lib.hid hn
  have HB1 := Lib.hid (below_alloc w (.cells #[.int .i64 5, .int .i64 u, .int .i64 v, .string N] 30))
  have HR1 := Lib.hid (Row.new w 30 #[.int .i64 5, .int .i64 u, .int .i64 v, .string N])
  obtain ⟨ab, hab⟩ : ∃ ab, ab = w.heap.size := ⟨_, rfl⟩
  obtain ⟨w1, hw1⟩ : ∃ w1, w1 = w.alloc (.cells #[.int .i64 5, .int .i64 u, .int .i64 v, .string N] 30) := ⟨_, rfl⟩
  rw [← hw1] at HB1 HR1
  rw [← hab] at HR1
  clear hp hO hx hxo hx1 hn
  have hs40 := cutS_size N 40
  have hc11 := cut11 N 40 w1
  have HCUT := Lib.hid hc11
  clear hc11
  go_enter Try.func9, Try.ntmps9
  go_upto_region 1 with fail
  rw [← hw1, ← hab]
  clear hw1 hab
  have x0 : w1.cell? ⟨ab, 0, none⟩ = some (.int .i64 5) := HR1.out.cell 0
  have x1 : w1.cell? ⟨ab, 1, none⟩ = some (.int .i64 u) := HR1.out.cell 1
  have x2 : w1.cell? ⟨ab, 2, none⟩ = some (.int .i64 v) := HR1.out.cell 2
  have x3 : w1.cell? ⟨ab, 3, none⟩ = some (.string N) := HR1.out.cell 3
  go_wp2_with fail
  refine HCUT.out.mono ?_
  rintro e w9 ⟨rfl, hw9⟩
  subst w9
  clear HCUT
  generalize cutS N 40 = s at *
  go_wp2_with fail
  refine (rtake26 a c x HG.out hx2 s w1 (HX.out.below HB1.out)).mono ?_
  rintro e w2 ⟨a', c', rfl, hx', ha', hb2⟩
  have hb02 := HB1.out.trans (hb2.mono HB1.out.size)
  have ha2 : a' = a ∨ ∀ p, a' = some p → w.heap.size ≤ p.block := ha'.imp id (fun h p hp => Nat.le_trans HB1.out.size (h p hp))
  have hpp := oa_other HP.out HO.out HXO.out hx' ha2 hb02
  have HPP := Lib.hid hpp
  have HX' := Lib.hid hx'
  have HA2 := Lib.hid ha2
  have HB2 := Lib.hid hb02
  have hr2 := HR1.out.below hb2
  have y1 : w2.cell? ⟨ab, 1, none⟩ = some (.int .i64 u) := hr2.cell 1
  have y2 : w2.cell? ⟨ab, 2, none⟩ = some (.int .i64 v) := hr2.cell 2
  clear hx' ha' hb2 hb02 ha2 hpp hr2 x0 x1 x2 x3
  simp only [pairE]
  have hq : x = l → (chE l s tk1E == chE x s tk1E) = true := by intro e; rw [e]; simp
  have HQ := Lib.hid hq
  clear hq
  go_wp2_with fail
  refine (takeB W B pb n HNN.out l (OA O a') s hs40 w2 HPP.out.1 HPP.out.2).mono ?_
  rintro e w3 ⟨rfl, hp3, hk3⟩
  have HP3 := Lib.hid hp3
  have HK3 := Lib.hid hk3
  clear hp3 hk3
  go_wp2_with fail
  refine bodyPost_ret (v := .tuple #[.slice a' (chL x s tk1).length c', .bool (chE l s tk1E == chE x s tk1E)]) (by simp [results, Try.results9, go_sem]) rfl ?_
  exact doP_mk HQ.out HX'.out HA2.out HB2.out HP3.out HK3.out
set_option maxRecDepth 100000 in
set_option maxHeartbeats 4000000 in
theorem do9_e (W : World) (B pb n : Nat) (hn : n + 1 < maxLen) (l : List Bk) (O : Nat → Prop) (x : List Bk) (hx1 : Good x) (hx2 : x.length ≤ 1100) (a : Option Addr) (c : Nat) (k : Int) (hk : k ≠ 0 ∧ k ≠ 1 ∧ k ≠ 2 ∧ k ≠ 3 ∧ k ≠ 4 ∧ k ≠ 5) (u v : Int) (N : ByteArray) (w : World) (hp : PoolB W B pb n l O w) (hO : ∀ k, O k → k < w.heap.size) (hx : IsBksN w a c x) (hxo : ∀ p, a = some p → O p.block) :
    Calls Try.prog 9 #[.pointer (some ⟨pb, 0, none⟩), .slice a x.length c, .agg #[.int .i64 k, .int .i64 u, .int .i64 v, .string N]] w (DoP W B pb n O a (chL l (cutS N 40) gv1) (chL x (cutS N 40) gv1) (x = l) w) := by
  have HP := Lib.hid hp
  have HO := Lib.hid hO
  have HX := Lib.hid hx
  have HXO := Lib.hid hxo
  have HG := Lib.hid hx1
  have HNN := Lib.hid hn
  have HB1 := Lib.hid (below_alloc w (.cells #[.int .i64 k, .int .i64 u, .int .i64 v, .string N] 30))
  have HR1 := Lib.hid (Row.new w 30 #[.int .i64 k, .int .i64 u, .int .i64 v, .string N])
  obtain ⟨ab, hab⟩ : ∃ ab, ab = w.heap.size := ⟨_, rfl⟩
  obtain ⟨w1, hw1⟩ : ∃ w1, w1 = w.alloc (.cells #[.int .i64 k, .int .i64 u, .int .i64 v, .string N] 30) := ⟨_, rfl⟩
  rw [← hw1] at HB1 HR1
  rw [← hab] at HR1
  clear hp hO hx hxo hx1 hn
  have hs40 := cutS_size N 40
  have hc11 := cut11 N 40 w1
  have HCUT := Lib.hid hc11
  clear hc11
  go_enter Try.func9, Try.ntmps9
  go_upto_region 1 with fail
  rw [← hw1, ← hab]
  clear hw1 hab
  have x0 : w1.cell? ⟨ab, 0, none⟩ = some (.int .i64 k) := HR1.out.cell 0
  have x1 : w1.cell? ⟨ab, 1, none⟩ = some (.int .i64 u) := HR1.out.cell 1
  have x2 : w1.cell? ⟨ab, 2, none⟩ = some (.int .i64 v) := HR1.out.cell 2
  have x3 : w1.cell? ⟨ab, 3, none⟩ = some (.string N) := HR1.out.cell 3
  go_wp2_with fail
  refine HCUT.out.mono ?_
  rintro e w9 ⟨rfl, hw9⟩
  subst w9
  clear HCUT
  generalize cutS N 40 = s at *
  have k0 : ((k : Int) == 0) = false := by simp; omega
  have k1 : ((k : Int) == 1) = false := by simp; omega
  have k2 : ((k : Int) == 2) = false := by simp; omega
  have k3 : ((k : Int) == 3) = false := by simp; omega
  have k4 : ((k : Int) == 4) = false := by simp; omega
  have k5 : ((k : Int) == 5) = false := by simp; omega
  go_wp2_with fail
  refine (rgive27 a c x HG.out hx2 s w1 (HX.out.below HB1.out)).mono ?_
  rintro e w2 ⟨a', c', rfl, hx', ha', hb2⟩
  have hb02 := HB1.out.trans (hb2.mono HB1.out.size)
  have ha2 : a' = a ∨ ∀ p, a' = some p → w.heap.size ≤ p.block := ha'.imp id (fun h p hp => Nat.le_trans HB1.out.size (h p hp))
  have hpp := oa_other HP.out HO.out HXO.out hx' ha2 hb02
  have HPP := Lib.hid hpp
  have HX' := Lib.hid hx'
  have HA2 := Lib.hid ha2
  have HB2 := Lib.hid hb02
  have hr2 := HR1.out.below hb2
  have y1 : w2.cell? ⟨ab, 1, none⟩ = some (.int .i64 u) := hr2.cell 1
  have y2 : w2.cell? ⟨ab, 2, none⟩ = some (.int .i64 v) := hr2.cell 2
  clear hx' ha' hb2 hb02 ha2 hpp hr2 x0 x1 x2 x3
  simp only [tripE]
  have hq : x = l → ((chD l s == chD x s) && (chE l s gv1E == chE x s gv1E)) = true := by intro e; rw [e]; simp
  have HQ := Lib.hid hq
  clear hq
  go_wp2_with fail
  refine (giveB W B pb n HNN.out l (OA O a') s hs40 w2 HPP.out.1 HPP.out.2).mono ?_
  rintro e w3 ⟨rfl, hp3, hk3⟩
  have HP3 := Lib.hid hp3
  have HK3 := Lib.hid hk3
  clear hp3 hk3
  cases hq1 : (chD l s == chD x s) with
  | true =>
    go_wp2_with fail
    refine bodyPost_ret (v := .tuple #[.slice a' (chL x s gv1).length c', .bool (chE l s gv1E == chE x s gv1E)]) (by simp [results, Try.results9, go_sem]) rfl ?_
    exact doP_mk (fun e => by have := HQ.out e; rw [hq1, Bool.true_and] at this; exact this) HX'.out HA2.out HB2.out HP3.out HK3.out
  | false =>
    go_wp2_with fail
    refine bodyPost_ret (v := .tuple #[.slice a' (chL x s gv1).length c', .bool false]) (by simp [results, Try.results9, go_sem]) rfl ?_
    exact doP_mk (fun e => by have := HQ.out e; rw [hq1] at this; simp at this) HX'.out HA2.out HB2.out HP3.out HK3.out
/-- An act, of both. -/
theorem do9 (W : World) (B pb n : Nat) (hn : n + 1 < maxLen) (l : List Bk) (O : Nat → Prop) (x : List Bk) (hx1 : Good x) (hx2 : x.length ≤ 1100) (a : Option Addr) (c : Nat) (k u v : Int) (N : ByteArray) (w : World) (hp : PoolB W B pb n l O w) (hO : ∀ k, O k → k < w.heap.size) (hx : IsBksN w a c x) (hxo : ∀ p, a = some p → O p.block) :
    Calls Try.prog 9 #[.pointer (some ⟨pb, 0, none⟩), .slice a x.length c, .agg #[.int .i64 k, .int .i64 u, .int .i64 v, .string N]] w (DoP W B pb n O a (actL k u v (cutS N 40) l) (actL k u v (cutS N 40) x) (x = l) w) := by
  unfold actL
  by_cases h0 : k = 0
  · subst h0; simpa using do9_0 W B pb n hn l O x hx1 hx2 a c u v N w hp hO hx hxo
  by_cases h1 : k = 1
  · subst h1; simpa using do9_1 W B pb n hn l O x hx1 hx2 a c u v N w hp hO hx hxo
  by_cases h2 : k = 2
  · subst h2; simpa using do9_2 W B pb n hn l O x hx1 hx2 a c u v N w hp hO hx hxo
  by_cases h3 : k = 3
  · subst h3; simpa using do9_3 W B pb n hn l O x hx1 hx2 a c u v N w hp hO hx hxo
  by_cases h4 : k = 4
  · subst h4; simpa using do9_4 W B pb n hn l O x hx1 hx2 a c u v N w hp hO hx hxo
  by_cases h5 : k = 5
  · subst h5; simpa using do9_5 W B pb n hn l O x hx1 hx2 a c u v N w hp hO hx hxo
  simp only [h0, h1, h2, h3, h4, h5, if_false]
  exact do9_e W B pb n hn l O x hx1 hx2 a c k ⟨h0, h1, h2, h3, h4, h5⟩ u v N w hp hO hx hxo
end Go.Proofs.Ytoikgphbicnhaab
