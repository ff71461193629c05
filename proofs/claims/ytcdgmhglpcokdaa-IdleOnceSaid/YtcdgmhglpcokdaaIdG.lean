/- Idle connections: New, Len, Of, insert, Take. -/
import Derived.Test.YtcdgmhglpcokdaaIdF
import Derived.Test.YtcdgmhglpcokdaaShelfI
namespace Go.Proofs.Ytcdgmhglpcokdaa
open Go.RowKit Go.Maps

theorem iinsert (W : World) (X : Nat → Prop) (ab : Nat) (a b : Int) (N : Nat) (sets : Int) (LA L : List Cn) (w : World) (h : IdS W X ab a b N sets LA L w) (hl : L.length ≤ 100000) (hN : N ≤ 100000) (c ti tu : Int) (nm : ByteArray) (hc : ∀ e ∈ L, e.cn ≠ c) (hcw : KN.ok c) (hnm : KS.ok nm) :
    Calls Try.prog 23 #[.pointer (some ⟨ab, 0, none⟩), .string nm, .int .i64 c] w fun o w' => o = .returned (.tuple #[]) ∧ IdS W X ab a b (N + 1) sets LA (L ++ [⟨nm, c, ti, tu⟩]) w' ∧ Keep (fun k => ¬ X k) w w' := by
  obtain ⟨wmv, bmv, F, G, ho, hm, hown⟩ := h.ex
  rcases hm.mp with ⟨rfl, rfl, rfl⟩ | ⟨wb, bk, rfl, rfl, _⟩
  · have hG : G = fun _ => none := by
      funext x
      cases hg : G x with
      | none => rfl
      | some z =>
        obtain ⟨_, _, _, _, q, _⟩ := hm.yes x z hg
        simp [ofI] at q
    subst hG
    exact iinsN W X ab a b N sets LA w ho hN c ti tu nm hcw hnm
  · exact iins W X ab a b N sets LA L w F G wb bk ho hm hown hl hN c ti tu nm hc hcw hnm
def clI (x lo hi : Int) : Int := if x < lo then lo else if hi < x then hi else x
set_option maxRecDepth 100000 in
set_option maxHeartbeats 1000000 in
set_option maxRecDepth 100000 in
theorem inew (W : World) (X : Nat → Prop) (m l : Int) (w : World) (hW : Below W.heap.size W w) (hX : ∀ k, X k → k < w.heap.size) :
    Calls Try.prog 6 #[.int .i64 m, .int .i64 l] w fun o w' => ∃ ab, o = .returned (.pointer (some ⟨ab, 0, none⟩)) ∧ IdS W X ab (clI m 0 1024) (clI l 1 1048576) 0 0 [] [] w' ∧ Below w.heap.size w w' := by
  obtain ⟨M, hM⟩ : ∃ M, clI m 0 1024 = M := ⟨_, rfl⟩
  obtain ⟨T, hT⟩ : ∃ T, clI l 1 1048576 = T := ⟨_, rfl⟩
  rw [hM, hT]
  obtain ⟨q1, hq1⟩ : ∃ q1 : Int, q1 = max m 0 := ⟨_, rfl⟩
  obtain ⟨q2, hq2⟩ : ∃ q2 : Int, q2 = max l 1 := ⟨_, rfl⟩
  have e1 : (if m < 0 then 0 else m) = q1 := by split <;> omega
  have e2 : (if q1 < 1024 then q1 else 1024) = M := by rw [← hM]; unfold clI; split <;> (try split) <;> (try split) <;> omega
  have e3 : (if l < 1 then 1 else l) = q2 := by split <;> omega
  have e4 : (if q2 < 1048576 then q2 else 1048576) = T := by rw [← hT]; unfold clI; split <;> (try split) <;> (try split) <;> omega
  have e5 : min (max m 0) 1024 = M := by rw [← hM]; unfold clI; split <;> (try split) <;> omega
  have e6 : min (max l 1) 1048576 = T := by rw [← hT]; unfold clI; split <;> (try split) <;> omega
  have HR := Lib.hid (Row.new w 68 #[.int .i64 M, .int .i64 T, .map none, .map none, .slice none 0 0, .map none, .int .i64 0])
  have HB := Lib.hid (below_alloc w (.cells #[.int .i64 M, .int .i64 T, .map none, .map none, .slice none 0 0, .map none, .int .i64 0] 68))
  have HW := Lib.hid hW
  have HX := Lib.hid hX
  clear hM hT hq1 hq2 hW hX
  go_enter Try.func6, Try.ntmps6
  go_wp2_with fail
  go_ret
  refine ⟨_, rfl, ⟨.map none, .map none, fun _ => none, fun _ => none, ⟨⟨.slice none 0 0, .map none, fun _ => ⟨0, .int .i64 0, 0, 0⟩, fun _ => none, fun k => k = w.heap.size, ⟨⟨HR.out, ⟨[], World.ownsRow_nil _ _ _ _, fun i hi => absurd hi (Nat.not_lt_zero i)⟩, fun i hi => absurd hi (Nat.not_lt_zero i), fun i hi => absurd hi (Nat.not_lt_zero i)⟩, fun i _ hi => absurd hi (Nat.not_lt_zero i), .inl ⟨rfl, rfl⟩, fun k b e => (by cases e), fun i hi => absurd hi (Nat.not_lt_zero i), fun k hk => ?_⟩, fun k hk => ?_, fun x => ⟨fun ⟨i, hi, _⟩ => absurd hi (Nat.not_lt_zero i), fun ⟨e, he, _⟩ => by cases he⟩⟩, HW.out.trans (HB.out.mono HW.out.size), fun k hk => ?_⟩, ⟨.inl ⟨rfl, rfl, rfl⟩, fun c nm => ⟨(fun h => by cases h), fun ⟨_, h, _⟩ => by cases h⟩, fun _ _ => rfl, fun _ _ h => (by cases h), fun _ _ _ _ _ _ _ h => (by cases h)⟩, fun k hk => ?_⟩, HB.out⟩
  · rcases hk with hk | hk | ⟨i, hi, _⟩
    · exact hk
    · cases hk
    · exact absurd hi (Nat.not_lt_zero i)
  · subst hk
    refine ⟨HW.out.size, HR.out.lt, fun h => ?_⟩
    rcases h with h | h | h | ⟨_, _, _, h⟩
    · have := HX.out _ h; omega
    · cases h
    · cases h
    · cases h
  · rcases hk with hk | hk | hk | ⟨_, _, _, hk⟩
    · exact Nat.lt_of_lt_of_le (HX.out k hk) HB.out.size
    · cases hk
    · cases hk
    · cases hk
  · rcases hk with hk | hk | ⟨_, _, _, hk⟩
    · cases hk
    · cases hk
    · cases hk
set_option maxRecDepth 100000 in
set_option maxHeartbeats 1000000 in
theorem ilen (W : World) (X : Nat → Prop) (ab : Nat) (a b : Int) (N : Nat) (sets : Int) (LA L : List Cn) (w : World) (h : IdS W X ab a b N sets LA L w) :
    Calls Try.prog 11 #[.pointer (some ⟨ab, 0, none⟩)] w fun o w' => o = .returned (.int .i64 (L.length : Int)) ∧ w' = w := by
  obtain ⟨wmv, bmv, F, G, ho, hm, hown⟩ := h.ex
  have c3 : w.cell? ⟨ab, 3, none⟩ = some bmv := (ho.preCell 3 (by show 3 < 4; omega)).1
  rcases hm.mp with ⟨rfl, rfl, rfl⟩ | ⟨wb, bk, rfl, rfl, _, _, m2⟩
  · clear ho hm hown h
    go_enter Try.func11, Try.ntmps11
    go_wp2_with fail
    go_ret
    exact ⟨rfl, rfl⟩
  · have hln := fun ty => m2.len ty
    have hln2 : ∀ ty, (Builtin.len_ #[26] ty #[.map (some bk)]).run Try.prog w = .ok (.int .i64 (L.length : Int)) w := hln
    clear ho hm hown h m2 hln
    go_enter Try.func11, Try.ntmps11
    go_wp2_with fail
    go_ret
    exact ⟨rfl, rfl⟩
theorem getD_at {l : List Int} {j : Nat} (h : j < l.length) : l.getD j 0 = l[j] := by simp [List.getD, h]
set_option maxRecDepth 100000 in
set_option maxHeartbeats 1000000 in
theorem iof (W : World) (X : Nat → Prop) (ab : Nat) (a b : Int) (N : Nat) (sets : Int) (LA L : List Cn) (w : World) (h : IdS W X ab a b N sets LA L w) (hl : L.length ≤ 100000) (nm : ByteArray) (hnm : KS.ok nm) :
    Calls Try.prog 12 #[.pointer (some ⟨ab, 0, none⟩), .string nm] w fun o w' => ∃ v, o = .returned v ∧ w'.ownsRow w.heap.size 3 1 v (ofI L nm).length ((ofI L nm).map (Value.int .i64)) ∧ Below w.heap.size w w' := by
  obtain ⟨wmv, bmv, F, G, ho, hm, hown⟩ := h.ex
  have c2 : w.cell? ⟨ab, 2, none⟩ = some wmv := (ho.preCell 2 (by show 2 < 4; omega)).1
  obtain ⟨z, lz, hz⟩ := hm.look (nm := nm) hnm
  have hle : (ofI L nm).length ≤ 100000 := by
    have : (ofI L nm).length ≤ L.length := by unfold ofI; rw [List.length_map]; exact List.length_filter_le _ _
    omega
  have HC : Hid (Calls Try.prog 27 #[slV z] w fun o w' => ∃ v, o = .returned v ∧ w'.ownsRow w.heap.size 3 1 v (ofI L nm).length ((ofI L nm).map (Value.int .i64)) ∧ Below w.heap.size w w') := by
    rcases hz with ⟨rfl, h0⟩ | ⟨b1, c1, cs1, rfl, hG1, _, q1, q2, q3, q4⟩
    · refine (Try.slices_Clone_int_nil 0 0 w).mono ?_
      rintro o w' ⟨rfl, rfl⟩
      rw [h0]
      exact ⟨_, rfl, World.ownsRow_nil _ _ _ _, Below.refl _ _⟩
    · refine (Try.slices_Clone_int b1 0 (ofI L nm).length c1 (ofI L nm) w (Nat.le_refl _) (by omega) (fun j hj => by rw [Nat.zero_add, q1.cell, q4.at hj, getD_at hj])).mono ?_
      rintro o w' ⟨v, rfl, h1, _, h2⟩
      rw [List.take_of_length_le (Nat.le_refl _)] at h1
      exact ⟨v, rfl, h1, h2⟩
  clear ho hm hown h hz
  go_enter Try.func12, Try.ntmps12
  go_wp2_with fail
  refine HC.out.mono ?_
  rintro o w1 ⟨v, rfl, h1, h2⟩
  have H1 := Lib.hid h1
  have H2 := Lib.hid h2
  clear h1 h2 HC
  go_wp2_with fail
  go_ret
  exact ⟨_, rfl, H1.out, H2.out⟩
set_option maxRecDepth 100000 in
set_option maxHeartbeats 1000000 in
/-- Take, where none waits. -/
theorem itakeN (W : World) (X : Nat → Prop) (ab : Nat) (a b : Int) (N : Nat) (sets : Int) (LA L : List Cn) (w : World) (h : IdS W X ab a b N sets LA L w) (nm : ByteArray) (hnm : KS.ok nm) (h0 : ofI L nm = []) :
    Calls Try.prog 9 #[.pointer (some ⟨ab, 0, none⟩), .string nm] w fun o w' => o = .returned (.tuple #[.int .i64 0, .bool false]) ∧ w' = w := by
  obtain ⟨wmv, bmv, F, G, ho, hm, hown⟩ := h.ex
  have c2 : w.cell? ⟨ab, 2, none⟩ = some wmv := (ho.preCell 2 (by show 2 < 4; omega)).1
  obtain ⟨z, lz, hz⟩ := hm.look (nm := nm) hnm
  obtain rfl : z = none := by
    rcases hz with ⟨rfl, _⟩ | ⟨_, _, _, _, _, q, _⟩
    · rfl
    · rw [h0] at q; simp at q
  have lz2 : (Instr.lookup 61 wmv (.string nm) false).run Try.prog w = .ok (.slice none 0 0) w := lz
  clear ho hm hown h hz lz
  go_enter Try.func9, Try.ntmps9
  go_wp2_with fail
  go_ret2
  exact ⟨rfl, rfl⟩
set_option maxRecDepth 100000 in
set_option maxHeartbeats 1000000 in
/-- Take, where some wait: the newest. -/
theorem itakeS (W : World) (X : Nat → Prop) (ab : Nat) (a b : Int) (N : Nat) (sets : Int) (L : List Cn) (w : World) (h : IdS W X ab a b N sets L L w) {gs : Int} (hg : GoodI gs L) (hl : L.length ≤ 800) (hN : N ≤ 100000) (nm : ByteArray) (hnm : KS.ok nm) (r : List Int) (x : Int) (h0 : ofI L nm = r ++ [x]) :
    Calls Try.prog 9 #[.pointer (some ⟨ab, 0, none⟩), .string nm] w fun o w' => o = .returned (.tuple #[.int .i64 x, .bool true]) ∧ IdS W X ab a b (N + 1) sets (dropI L x) (dropI L x) w' ∧ Keep (fun k => ¬ X k) w w' := by
  have hxm : x ∈ ofI L nm := by rw [h0]; simp
  obtain ⟨e, he, _, hex⟩ := mem_ofI.1 hxm
  have hwt : waits L x = true := waits_iff.2 ⟨e, he, hex⟩
  have hcw : KN.ok x := by rw [← hex]; exact hg.cok e he
  have hdr := idrop W X ab a b N sets L w h hg hl hN x hcw
  rw [hwt] at hdr
  have HDR := Lib.hid hdr
  have hle : (ofI L nm).length ≤ 100000 := by
    have : (ofI L nm).length ≤ L.length := by unfold ofI; rw [List.length_map]; exact List.length_filter_le _ _
    omega
  obtain ⟨wmv, bmv, F, G, ho, hm, hown⟩ := h.ex
  have c2 : w.cell? ⟨ab, 2, none⟩ = some wmv := (ho.preCell 2 (by show 2 < 4; omega)).1
  obtain ⟨z, lz, hz⟩ := hm.look (nm := nm) hnm
  rcases hz with ⟨rfl, h9⟩ | ⟨b1, c1, cs1, rfl, hG1, q0, q1, q2, q3, q4⟩
  · rw [h9] at h0; simp at h0
  obtain ⟨n, hn⟩ : ∃ n, r.length = n := ⟨_, rfl⟩
  have hln : (ofI L nm).length = n + 1 := by rw [h0, List.length_append, hn]; rfl
  have cx : w.cell? ⟨b1, n, none⟩ = some (.int .i64 x) := by
    rw [q1.cell]
    refine q4 n x ?_
    rw [h0, List.getElem?_append_right (by omega), hn, Nat.sub_self]; rfl
  have lz2 : (Instr.lookup 61 wmv (.string nm) false).run Try.prog w = .ok (.slice (some ⟨b1, 0, none⟩) (n + 1) c1) w := by rw [← hln]; exact lz
  have hnb : n ≤ 100000 := by omega
  have hne : (((n + 1 : Nat) : Int) == 0) = false := by simp; omega
  have hs1 : ((n : Int) + 1 - 1) = n := by omega
  have hs2 : (n : Int) < (n : Int) + 1 := by omega
  clear ho hm hown h lz h0 hdr q1 q2 q3 q4 hG1 hln q0 hwt hxm hex he hcw hg hn hle
  go_enter Try.func9, Try.ntmps9
  go_wp2_with fail
  refine HDR.out.mono ?_
  rintro o w1 ⟨rfl, h1, h2⟩
  have H1 := Lib.hid h1
  have H2 := Lib.hid h2
  clear h1 h2 HDR
  go_wp2_with fail
  go_ret2
  exact ⟨rfl, H1.out, H2.out⟩
end Go.Proofs.Ytcdgmhglpcokdaa
