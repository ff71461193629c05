/- A pool beside other things; the fixed fact. -/
import Derived.Test.YtoikgphbicnhaabPlH
namespace Go.Proofs.Ytoikgphbicnhaab
open Go.RowKit Go.Maps Go.Shelf Go.Sort

/-- The program's pool in a law: B is where the law's own memory begins, O what else lies there. -/
def PoolB (W : World) (B pb n : Nat) (l : List Bk) (O : Nat → Prop) (w : World) : Prop :=
  ∃ F, PoolM w pb n F l ∧ (∀ k, F k → B ≤ k ∧ ¬ O k) ∧ Below B W w ∧ B ≤ W.heap.size
section
variable {W w w' : World} {B pb n m : Nat} {l l' : List Bk} {O O' : Nat → Prop}
theorem PoolB.bel (h : PoolB W B pb n l O w) : Below B W w := by obtain ⟨F, _, _, h, _⟩ := h; exact h
theorem PoolB.good (h : PoolB W B pb n l O w) : Good l ∧ l.length ≤ 1024 := by obtain ⟨F, h, _⟩ := h; exact ⟨h.1, h.2.1⟩
theorem PoolB.le (h : PoolB W B pb n l O w) : B ≤ w.heap.size := by obtain ⟨F, _, _, h, h2⟩ := h; exact Nat.le_trans h2 h.size
theorem PoolB.mono (h : PoolB W B pb n l O w) (hm : n ≤ m) : PoolB W B pb m l O w := by
  obtain ⟨F, h1, h2⟩ := h
  exact ⟨F, h1.mono hm, h2⟩
theorem PoolB.below (h : PoolB W B pb n l O w) (hb : Below w.heap.size w w') : PoolB W B pb n l O w' := by
  have hl := h.le
  obtain ⟨F, h1, h2, h3, h4⟩ := h
  exact ⟨F, h1.below hb, h2, h3.trans (hb.mono hl), h4⟩
/-- Something else is written, that the pool doesn't have. -/
theorem PoolB.keep (h : PoolB W B pb n l O w) {G : Nat → Prop} (hk : Keep G w w') (hG : ∀ k, G k → O k) (hf : ∀ k, k < B → ¬ G k) : PoolB W B pb n l O w' := by
  have hl := h.le
  obtain ⟨F, h1, h2, h3, h4⟩ := h
  refine ⟨F, h1.keep hk (fun k hk2 hg => (h2 k hk2).2 (hG k hg)), h2, h3.trans (hk.bel (fun k hg => ?_) hl), h4⟩
  rcases Nat.lt_or_ge k B with e | e
  · exact absurd hg (hf k e)
  · exact e
/-- Another set of other things: new blocks may come in. -/
theorem PoolB.other (h : PoolB W B pb n l O w) (ho : ∀ k, O' k → O k ∨ w.heap.size ≤ k) : PoolB W B pb n l O' w := by
  obtain ⟨F, h1, h2, h3, h4⟩ := h
  refine ⟨F, h1, fun k hk => ⟨(h2 k hk).1, fun hh => ?_⟩, h3, h4⟩
  rcases ho k hh with e | e
  · exact (h2 k hk).2 e
  · have := h1.lt hk; omega
theorem poolB_step {F : Nat → Prop} (_h1 : PoolM w pb n F l) (h2 : ∀ k, F k → B ≤ k ∧ ¬ O k) (h3 : Below B W w) (h4 : B ≤ W.heap.size) (hO : ∀ k, O k → k < w.heap.size) (ht : PoolTo w pb m F l' w') : PoolB W B pb m l' O w' ∧ Keep (fun k => ¬ O k) w w' := by
  obtain ⟨F', a1, a2, a3⟩ := ht
  have hl : B ≤ w.heap.size := Nat.le_trans h4 h3.size
  refine ⟨⟨F', a1, fun k hk => ?_, h3.trans (a2.bel (fun k hk => (h2 k hk).1) hl), h4⟩, a2.more (fun k _ hk => (h2 k hk).2)⟩
  rcases a3 k hk with e | e
  · exact h2 k e
  · exact ⟨by omega, fun ho => by have := hO k ho; omega⟩
end
section
variable (W : World) (B pb n : Nat) (hn : n + 1 < maxLen) (l : List Bk) (O : Nat → Prop) (s : ByteArray) (hs1 : s.size ≤ 40) (w : World) (h : PoolB W B pb n l O w) (hO : ∀ k, O k → k < w.heap.size)
include hn hs1 h hO
theorem takeB : Calls Try.prog 14 #[.pointer (some ⟨pb, 0, none⟩), .string s] w fun e w' => e = .returned (.int .i64 (chE l s tk1E)) ∧ PoolB W B pb (n + 1) (chL l s tk1) O w' ∧ Keep (fun k => ¬ O k) w w' := by
  obtain ⟨F, h1, h2, h3, h4⟩ := h
  refine (take14 pb n (by omega) F l s (by unfold maxLen; omega) w h1).mono ?_
  rintro e w' ⟨rfl, ht⟩
  exact ⟨rfl, poolB_step h1 h2 h3 h4 hO ht⟩
theorem giveB : Calls Try.prog 15 #[.pointer (some ⟨pb, 0, none⟩), .string s] w fun e w' => e = .returned (.tuple #[.bool (chD l s), .int .i64 (chE l s gv1E)]) ∧ PoolB W B pb (n + 1) (chL l s gv1) O w' ∧ Keep (fun k => ¬ O k) w w' := by
  obtain ⟨F, h1, h2, h3, h4⟩ := h
  refine (give15 pb n (by omega) F l s (by unfold maxLen; omega) w h1).mono ?_
  rintro e w' ⟨rfl, ht⟩
  exact ⟨rfl, poolB_step h1 h2 h3 h4 hO ht⟩
theorem drainB : Calls Try.prog 19 #[.pointer (some ⟨pb, 0, none⟩), .string s] w fun e w' => e = .returned (.int .i64 (chE l s tn1E)) ∧ PoolB W B pb (n + 1) (chL l s (tn1 1)) O w' ∧ Keep (fun k => ¬ O k) w w' := by
  obtain ⟨F, h1, h2, h3, h4⟩ := h
  refine (drain19 pb n (by omega) F l s (by unfold maxLen; omega) w h1).mono ?_
  rintro e w' ⟨rfl, ht⟩
  exact ⟨rfl, poolB_step h1 h2 h3 h4 hO ht⟩
theorem undrainB : Calls Try.prog 20 #[.pointer (some ⟨pb, 0, none⟩), .string s] w fun e w' => e = .returned (.int .i64 (chE l s tn1E)) ∧ PoolB W B pb (n + 1) (chL l s (tn1 0)) O w' ∧ Keep (fun k => ¬ O k) w w' := by
  obtain ⟨F, h1, h2, h3, h4⟩ := h
  refine (undrain20 pb n (by omega) F l s (by unfold maxLen; omega) w h1).mono ?_
  rintro e w' ⟨rfl, ht⟩
  exact ⟨rfl, poolB_step h1 h2 h3 h4 hO ht⟩
theorem removeB : Calls Try.prog 21 #[.pointer (some ⟨pb, 0, none⟩), .string s] w fun e w' => e = .returned (.int .i64 (chE l s tn1E)) ∧ PoolB W B pb (n + 1) (chL l s (tn1 2)) O w' ∧ Keep (fun k => ¬ O k) w w' := by
  obtain ⟨F, h1, h2, h3, h4⟩ := h
  refine (remove21 pb n (by omega) F l s (by unfold maxLen; omega) w h1).mono ?_
  rintro e w' ⟨rfl, ht⟩
  exact ⟨rfl, poolB_step h1 h2 h3 h4 hO ht⟩
theorem rewB (u : Int) : Calls Try.prog 18 #[.pointer (some ⟨pb, 0, none⟩), .string s, .int .i64 u] w fun e w' => e = .returned (.int .i64 (chE l s (rw2E u))) ∧ PoolB W B pb (n + 1) (chL l s (rw2 u)) O w' ∧ Keep (fun k => ¬ O k) w w' := by
  obtain ⟨F, h1, h2, h3, h4⟩ := h
  refine (rew18 u pb n (by omega) F l s (by unfold maxLen; omega) w h1).mono ?_
  rintro e w' ⟨rfl, ht⟩
  exact ⟨rfl, poolB_step h1 h2 h3 h4 hO ht⟩
theorem addB (u v : Int) : Calls Try.prog 17 #[.pointer (some ⟨pb, 0, none⟩), .string s, .int .i64 u, .int .i64 v] w fun e w' => e = .returned (.int .i64 (addE (nameB s.data.toList) l s u v)) ∧ PoolB W B pb (n + 1) (addL (nameB s.data.toList) l s u v) O w' ∧ Keep (fun k => ¬ O k) w w' := by
  obtain ⟨F, h1, h2, h3, h4⟩ := h
  refine (padd17 pb n hn F l s hs1 u v w h1).mono ?_
  rintro e w' ⟨rfl, ht⟩
  exact ⟨rfl, poolB_step h1 h2 h3 h4 hO ht⟩
omit hn hO
theorem getB : Calls Try.prog 12 #[.pointer (some ⟨pb, 0, none⟩), .string s] w fun e w' => e = .returned (.tuple #[bkV ((fndB l s).getD bk0), .bool (fndB l s).isSome]) ∧ Below w.heap.size w w' := by
  obtain ⟨F, h1, h2, h3, h4⟩ := h
  exact get12 pb n F l s (by unfold maxLen; omega) w h1
theorem drainedB : Calls Try.prog 23 #[.pointer (some ⟨pb, 0, none⟩), .string s] w fun e w' => e = .returned (.bool (drB ((fndB l s).getD bk0))) ∧ Below w.heap.size w w' := by
  obtain ⟨F, h1, h2, h3, h4⟩ := h
  exact drained23 pb n F l s (by unfold maxLen; omega) w h1
omit hs1
theorem listB : Calls Try.prog 16 #[.pointer (some ⟨pb, 0, none⟩)] w fun e w' => ∃ v, e = .returned v ∧ w'.ownsRow w.heap.size 33 5 v l.length (cellsB l) ∧ Below w.heap.size w w' := by
  obtain ⟨F, h1, h2, h3, h4⟩ := h
  exact list16 pb n F l w h1
theorem busyB : Calls Try.prog 22 #[.pointer (some ⟨pb, 0, none⟩)] w fun e w' => e = .returned (.int .i64 (sumB l)) ∧ Below w.heap.size w w' := by
  obtain ⟨F, h1, h2, h3, h4⟩ := h
  exact busy22 pb n F l w h1
end
/-- The name a. -/
def nA : ByteArray := ⟨#[97]⟩
theorem nA_size : nA.size ≤ 40 := by decide
theorem no_O (w : World) : ∀ k, (fun _ : Nat => False) k → k < w.heap.size := fun _ h => h.elim
set_option maxHeartbeats 1000000 in
theorem awake7 (W : World) : Calls Try.prog 7 #[] W fun e w' => e = .returned (.bool true) ∧ Below W.heap.size W w' := by
  have l1 : addL (nameB nA.data.toList) [] nA 1 1 = [⟨nA, 1, 1, 0, 0⟩] := by kernel_rfl
  have e0 : addE (nameB nA.data.toList) [] nA 1 1 = 0 := by kernel_rfl
  have e1 : chE [⟨nA, 1, 1, 0, 0⟩] nA tk1E = 0 := by simp [chE, fndB, tk1E]
  have l2 : chL [⟨nA, 1, 1, 0, 0⟩] nA tk1 = [⟨nA, 1, 1, 0, 1⟩] := by simp [chL, fndB, tk1, putB, setB, live]
  have e3 : chE [⟨nA, 1, 1, 0, 1⟩] nA tk1E = 8 := by simp [chE, fndB, tk1E]
  have l3 : chL [⟨nA, 1, 1, 0, 1⟩] nA tk1 = [⟨nA, 1, 1, 0, 1⟩] := by simp [chL, fndB, tk1, putB, setB, live]
  have e4 : chE [⟨nA, 1, 1, 0, 1⟩] nA tn1E = 0 := by simp [chE, fndB, tn1E]
  have l4 : chL [⟨nA, 1, 1, 0, 1⟩] nA (tn1 1) = [⟨nA, 1, 1, 1, 1⟩] := by simp [chL, fndB, tn1, putB, setB, live]
  have e5 : chE [⟨nA, 1, 1, 1, 1⟩] nA tk1E = 9 := by simp [chE, fndB, tk1E]
  have l5 : chL [⟨nA, 1, 1, 1, 1⟩] nA tk1 = [⟨nA, 1, 1, 1, 1⟩] := by simp [chL, fndB, tk1, putB, setB, live]
  have e6 : chE [⟨nA, 1, 1, 1, 1⟩] nA gv1E = 0 := by simp [chE, fndB, gv1E]
  have d6 : chD [⟨nA, 1, 1, 1, 1⟩] nA = true := by simp [chD, fndB, gv1D]
  have l6 : chL [⟨nA, 1, 1, 1, 1⟩] nA gv1 = [⟨nA, 1, 1, 1, 0⟩] := by simp [chL, fndB, gv1, putB, setB, live]
  have e7 : drB ((fndB [⟨nA, 1, 1, 1, 0⟩] nA).getD bk0) = true := by simp [fndB, drB]
  have Hl1 := Lib.hid l1
  have He0 := Lib.hid e0
  have He1 := Lib.hid e1
  have Hl2 := Lib.hid l2
  have He3 := Lib.hid e3
  have Hl3 := Lib.hid l3
  have He4 := Lib.hid e4
  have Hl4 := Lib.hid l4
  have He5 := Lib.hid e5
  have Hl5 := Lib.hid l5
  have He6 := Lib.hid e6
  have Hd6 := Lib.hid d6
  have Hl6 := Lib.hid l6
  have He7 := Lib.hid e7
  clear l1 e0 e1 l2 e3 l3 e4 l4 e5 l5 e6 d6 l6 e7
  go_enter Try.func7, Try.ntmps7
  go_wp2_with fail
  refine (pnew8 W).mono ?_
  rintro e w1 ⟨rfl, hp, hb⟩
  have HP1 : Hid (PoolB W W.heap.size W.heap.size 0 [] (fun _ => False) w1) := ⟨_, hp, fun k hk => ⟨by rw [hk]; exact Nat.le_refl _, fun h => h⟩, hb, Nat.le_refl _⟩
  obtain ⟨pb, hpb⟩ : ∃ pb, pb = W.heap.size := ⟨_, rfl⟩
  have HP2 : Hid (PoolB W W.heap.size pb 0 [] (fun _ => False) w1) := by rw [hpb]; exact HP1.out
  rw [← hpb]
  clear HP1 hpb hp hb
  go_wp2_with fail
  have hc := addB W W.heap.size pb 0 (by decide) [] _ nA nA_size w1 HP2.out (no_O w1) 1 1
  rw [He0.out, Hl1.out] at hc
  refine hc.mono ?_
  clear hc
  rintro e w2 ⟨rfl, hp, _⟩
  have HP3 := Lib.hid hp
  clear hp HP2
  go_wp2_with fail
  have hc := takeB W W.heap.size pb 1 (by decide) _ _ nA nA_size w2 HP3.out (no_O w2)
  rw [He1.out, Hl2.out] at hc
  refine hc.mono ?_
  clear hc
  rintro e w3 ⟨rfl, hp, _⟩
  have HP4 := Lib.hid hp
  clear hp HP3
  go_wp2_with fail
  have hc := takeB W W.heap.size pb 2 (by decide) _ _ nA nA_size w3 HP4.out (no_O w3)
  rw [He3.out, Hl3.out] at hc
  refine hc.mono ?_
  clear hc
  rintro e w4 ⟨rfl, hp, _⟩
  have HP5 := Lib.hid hp
  clear hp HP4
  go_wp2_with fail
  have hc := drainB W W.heap.size pb 3 (by decide) _ _ nA nA_size w4 HP5.out (no_O w4)
  rw [He4.out, Hl4.out] at hc
  refine hc.mono ?_
  clear hc
  rintro e w5 ⟨rfl, hp, _⟩
  have HP6 := Lib.hid hp
  clear hp HP5
  go_wp2_with fail
  have hc := takeB W W.heap.size pb 4 (by decide) _ _ nA nA_size w5 HP6.out (no_O w5)
  rw [He5.out, Hl5.out] at hc
  refine hc.mono ?_
  clear hc
  rintro e w6 ⟨rfl, hp, _⟩
  have HP7 := Lib.hid hp
  clear hp HP6
  go_wp2_with fail
  have hc := giveB W W.heap.size pb 5 (by decide) _ _ nA nA_size w6 HP7.out (no_O w6)
  rw [Hd6.out, He6.out, Hl6.out] at hc
  refine hc.mono ?_
  clear hc
  rintro e w7 ⟨rfl, hp, _⟩
  have HP8 := Lib.hid hp
  clear hp HP7
  go_wp2_with fail
  have hc := drainedB W W.heap.size pb 6 [⟨nA, 1, 1, 1, 0⟩] _ nA nA_size w7 HP8.out
  rw [He7.out] at hc
  refine hc.mono ?_
  clear hc
  rintro e w8 ⟨rfl, hb⟩
  have HB := Lib.hid (HP8.out.below hb).bel
  clear hb
  go_wp2_with fail
  go_ret
  exact ⟨rfl, HB.out⟩
end Go.Proofs.Ytoikgphbicnhaab
