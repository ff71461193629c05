/- agenda's queue: Swap, at both kinds of keys (written by genage.py). -/
import Derived.Test.YtcdgmhglpcokdaaAgD
namespace Go.Proofs.Ytcdgmhglpcokdaa
open Go.RowKit

/-- A region that stores two cells, B1 behind its loads l1 and l2, B2 behind B1: what the memory is. -/
structure SwS (W : World) (p1 : Addr) (v1 : Value) (p2 : Addr) (v2 : Value) (B1 l1 l2 B2 : Nat) (L : Nat → Bool) (x : Nat → Value) (w : World) : Prop where
  eq : w = if L B2 = true then (W.setCell p1 v1).setCell p2 v2 else if L B1 = true then W.setCell p1 v1 else W
  o1 : L B1 = true → L l1 = true ∧ L l2 = true
  o2 : L B2 = true → L B1 = true
theorem setC_same {w : World} {a : Addr} {v u : Value} (h : w.cell? a = some u) : (w.setCell a v).cell? a = some v := World.cell?_setCell_same _ _ _ h
theorem setC_far {w : World} {g q i o : Nat} {v : Value} (h : g ≠ q) : (w.setCell ⟨g, i, none⟩ v).cell? ⟨q, o, none⟩ = w.cell? ⟨q, o, none⟩ := World.cell?_setCell_other _ _ _ _ (fun e => h (by injection e))
theorem setC_off {w : World} {g i o : Nat} {v : Value} (h : i ≠ o) : (w.setCell ⟨g, i, none⟩ v).cell? ⟨g, o, none⟩ = w.cell? ⟨g, o, none⟩ := World.cell?_setCell_other _ _ _ _ (fun e => h (by injection e))
theorem setW2 {A W1 : World} {p q : Addr} {u v : Value} (h : W1 = A) : (W1.drew.drew.setCell p u).setCell q v = ((A.setCell p u).setCell q v).drew.drew := by subst h; rfl
section SwapTwo
variable {W : World} {p1 p2 : Addr} {v1 v2 : Value} {B1 l1 l2 B2 : Nat} {L : Nat → Bool} {x : Nat → Value} {w w' : World}
theorem setL_more {i j : Nat} (h : L j = true) : setL L i j = true := by simp [setL, h]
theorem SwS.next (h : SwS W p1 v1 p2 v2 B1 l1 l2 B2 L x w) (i : Nat) (u : Value) (h1 : B1 ≠ i) (h2 : B2 ≠ i) : SwS W p1 v1 p2 v2 B1 l1 l2 B2 (setL L i) (updV x i u) w := by
  refine ⟨?_, fun e => ?_, fun e => ?_⟩
  · rw [setL_ne h1, setL_ne h2]; exact h.eq
  · rw [setL_ne h1] at e
    exact ⟨setL_more (h.o1 e).1, setL_more (h.o1 e).2⟩
  · rw [setL_ne h2] at e
    exact setL_more (h.o2 e)
theorem SwS.w1 (h : SwS W p1 v1 p2 v2 B1 l1 l2 B2 L x w) (hl : L B1 = false) : w = W := by
  have h2 : L B2 = false := by
    cases e : L B2 with
    | false => rfl
    | true => rw [h.o2 e] at hl; cases hl
  have := h.eq
  rw [hl, h2] at this
  simpa using this
theorem SwS.e1 (h : SwS W p1 v1 p2 v2 B1 l1 l2 B2 L x w) (hl : L l1 = false) : w = W := h.w1 (by
  cases e : L B1 with
  | false => rfl
  | true => rw [(h.o1 e).1] at hl; cases hl)
theorem SwS.e2 (h : SwS W p1 v1 p2 v2 B1 l1 l2 B2 L x w) (hl : L l2 = false) : w = W := h.w1 (by
  cases e : L B1 with
  | false => rfl
  | true => rw [(h.o1 e).2] at hl; cases hl)
theorem SwS.w2 (h : SwS W p1 v1 p2 v2 B1 l1 l2 B2 L x w) (h1 : L B1 = true) (hl : L B2 = false) : w = W.setCell p1 v1 := by
  have := h.eq
  rw [hl, h1] at this
  simpa using this
theorem SwS.st1 (h : SwS W p1 v1 p2 v2 B1 l1 l2 B2 L x w) (h1 : L l1 = true) (h2 : L l2 = true) (hl : L B1 = false) (hb : B1 ≠ B2) (u : Value) : SwS W p1 v1 p2 v2 B1 l1 l2 B2 (setL L B1) (updV x B1 u) (W.setCell p1 v1) := by
  have h3 : L B2 = false := by
    cases e : L B2 with
    | false => rfl
    | true => rw [h.o2 e] at hl; cases hl
  refine ⟨?_, fun _ => ⟨setL_more h1, setL_more h2⟩, fun _ => setL_eq _⟩
  rw [setL_eq, setL_ne (Ne.symm hb), h3]; simp
theorem SwS.st2 (h : SwS W p1 v1 p2 v2 B1 l1 l2 B2 L x w) (h1 : L B1 = true) (u : Value) : SwS W p1 v1 p2 v2 B1 l1 l2 B2 (setL L B2) (updV x B2 u) ((W.setCell p1 v1).setCell p2 v2) := by
  refine ⟨?_, fun _ => ⟨setL_more (h.o1 h1).1, setL_more (h.o1 h1).2⟩, fun _ => setL_more h1⟩
  rw [setL_eq]; simp
theorem SwS.done (h : SwS W p1 v1 p2 v2 B1 l1 l2 B2 L x w) (hl : L B2 = true) : w = (W.setCell p1 v1).setCell p2 v2 := by
  have := h.eq
  rw [hl] at this
  simpa using this
end SwapTwo
set_option maxRecDepth 100000 in
set_option maxHeartbeats 1000000 in
/-- Two elements change places, seen as four stores. -/
theorem swapS (g n c i j p q : Nat) (w : World) (hi : i < n) (hj : j < n) (f1 : w.frozen? ⟨g, i, none⟩ = false) (f2 : w.frozen? ⟨g, j, none⟩ = false)
    (ci : w.cell? ⟨g, i, none⟩ = some (.pointer (some ⟨p, 0, none⟩))) (cj : w.cell? ⟨g, j, none⟩ = some (.pointer (some ⟨q, 0, none⟩)))
    (cp : ∃ y, w.cell? ⟨p, 3, none⟩ = some y) (cq : ∃ y, w.cell? ⟨q, 3, none⟩ = some y) (f3 : w.frozen? ⟨p, 3, none⟩ = false) (f4 : w.frozen? ⟨q, 3, none⟩ = false) (hgp : g ≠ p) (hgq : g ≠ q) :
    Calls Try.prog 90 #[.slice (some ⟨g, 0, none⟩) n c, .int .i64 (i : Int), .int .i64 (j : Int)] w fun e w' => e = .returned (.tuple #[]) ∧ w' = ((((w.setCell ⟨g, i, none⟩ (.pointer (some ⟨q, 0, none⟩))).setCell ⟨g, j, none⟩ (.pointer (some ⟨p, 0, none⟩))).setCell ⟨q, 3, none⟩ (.int .i64 (i : Int))).setCell ⟨p, 3, none⟩ (.int .i64 (j : Int))).drew.drew := by
  have i1 : (i : Int) < n := by omega
  have j1 : (j : Int) < n := by omega
  have HCI := Lib.hid ci
  have HCJ := Lib.hid cj
  have HF1 := Lib.hid f1
  have HF2 := Lib.hid f2
  have hcj1 : ∃ y, (w.setCell ⟨g, i, none⟩ (.pointer (some ⟨q, 0, none⟩))).cell? ⟨g, j, none⟩ = some y := cell?_setCell_some cj
  obtain ⟨y1, hy1⟩ := hcj1
  have HY1 := Lib.hid hy1
  obtain ⟨W1, hW1⟩ : ∃ W1, W1 = (w.setCell ⟨g, i, none⟩ (.pointer (some ⟨q, 0, none⟩))).setCell ⟨g, j, none⟩ (.pointer (some ⟨p, 0, none⟩)) := ⟨_, rfl⟩
  have hpq : i = j → p = q := fun e => by
    subst e
    have h := ci.symm.trans cj
    simpa using h
  have h1 : W1.cell? ⟨g, j, none⟩ = some (.pointer (some ⟨p, 0, none⟩)) := by rw [hW1]; exact setC_same hy1
  have h2 : W1.cell? ⟨g, i, none⟩ = some (.pointer (some ⟨q, 0, none⟩)) := by
    by_cases e : i = j
    · have := hpq e
      subst e
      subst this
      exact h1
    · rw [hW1, setC_off (fun h => e h.symm)]
      exact setC_same ci
  obtain ⟨yq, hyq⟩ := cq
  obtain ⟨yp, hyp⟩ := cp
  have h3 : W1.cell? ⟨q, 3, none⟩ = some yq := by
    rw [hW1, setC_far hgq, setC_far hgq]; exact hyq
  have h4 : W1.cell? ⟨p, 3, none⟩ = some yp := by
    rw [hW1, setC_far hgp, setC_far hgp]; exact hyp
  have h5 : W1.frozen? ⟨q, 3, none⟩ = false := by rw [hW1, World.frozen?_setCell, World.frozen?_setCell]; exact f4
  have h6 : W1.frozen? ⟨p, 3, none⟩ = false := by rw [hW1, World.frozen?_setCell, World.frozen?_setCell]; exact f3
  obtain ⟨y2, hy2⟩ : ∃ y, (W1.setCell ⟨q, 3, none⟩ (.int .i64 (i : Int))).cell? ⟨p, 3, none⟩ = some y := cell?_setCell_some h4
  have HH1 := Lib.hid h1
  have HH2 := Lib.hid h2
  have HH3 := Lib.hid h3
  have HH5 := Lib.hid h5
  have HH6 := Lib.hid h6
  have HY2 := Lib.hid hy2
  have HW1 := Lib.hid hW1
  have HE : Hid ((w.drew.setCell ⟨g, i, none⟩ (.pointer (some ⟨q, 0, none⟩))).setCell ⟨g, j, none⟩ (.pointer (some ⟨p, 0, none⟩)) = W1.drew) := by show _ = _; rw [hW1]; rfl
  clear ci cj f1 f2 hy1 hpq h1 h2 h3 h4 h5 h6 hy2 hW1 hyq hyp f3 f4 hgp hgq
  go_enter Try.func90, Try.ntmps90
  go_wp2_with fail
  refine region_mixt 16 [some (.slice (some ⟨g, 0, none⟩) n c), some (.int .i64 (i : Int)), some (.slice (some ⟨g, 0, none⟩) n c), some (.int .i64 (j : Int)), some (.slice (some ⟨g, 0, none⟩) n c), some (.int .i64 (j : Int)), some (.pointer (some ⟨g, j, none⟩)), some (.pointer (some ⟨q, 0, none⟩)), some (.slice (some ⟨g, 0, none⟩) n c), some (.int .i64 (i : Int)), some (.pointer (some ⟨g, i, none⟩)), some (.pointer (some ⟨p, 0, none⟩)), some (.pointer (some ⟨g, i, none⟩)), none, some (.pointer (some ⟨g, j, none⟩)), none]
    [[false, false, false, false, false, false, false, false, false, false, false, false, false, false, false, false], [false, false, false, false, false, false, false, false, false, false, false, false, false, false, false, false], [false, false, false, false, false, false, false, false, false, false, false, false, false, false, false, false], [false, false, false, false, false, false, false, false, false, false, false, false, false, false, false, false], [false, false, false, false, false, false, false, false, false, false, false, false, false, false, false, false], [false, false, false, false, false, false, false, false, false, false, false, false, false, false, false, false], [false, false, false, false, true, true, false, false, false, false, false, false, false, false, false, false], [false, false, false, false, false, false, true, false, false, false, false, false, false, false, false, false], [false, false, false, false, false, false, false, false, false, false, false, false, false, false, false, false], [false, false, false, false, false, false, false, false, false, false, false, false, false, false, false, false], [false, false, false, false, false, false, false, false, true, true, false, false, false, false, false, false], [false, false, false, false, false, false, false, false, false, false, true, false, false, false, false, false], [true, true, false, false, true, true, true, true, false, false, false, true, false, false, false, false], [true, true, false, false, true, true, true, true, false, false, false, true, true, false, false, false], [true, true, true, true, true, true, true, true, true, true, true, true, true, true, false, false], [true, true, true, true, true, true, true, true, true, true, true, true, true, true, true, false]]
    (fun LL xx w9 => SwS w.drew ⟨g, i, none⟩ (.pointer (some ⟨q, 0, none⟩)) ⟨g, j, none⟩ (.pointer (some ⟨p, 0, none⟩)) 13 7 11 15 LL xx w9)
    (by kernel_rfl) (by kernel_rfl) (by kernel_rfl) (by kernel_rfl) (by kernel_rfl) (by decide) ?_ ?_ ?_
  · intro x
    exact ⟨rfl, (fun h => by cases h), (fun h => by cases h)⟩
  · simp only [List.take_succ_cons, List.take_zero]
    refine ⟨?_, ?_, ?_, ?_, ?_, ?_, ?_, ?_, ?_, ?_, ?_, ?_, ?_, ?_, ?_, ?_, trivial⟩
    all_goals
      intro L x w9 hS hl hp K9 hK9
      have hs : SwS w.drew ⟨g, i, none⟩ (.pointer (some ⟨q, 0, none⟩)) ⟨g, j, none⟩ (.pointer (some ⟨p, 0, none⟩)) 13 7 11 15 L x w9 := hS
      clear hS
      replace hK9 := hK9.out
      simp only [actMix, pickV, List.tail_cons, List.headD_cons, Act.put, List.setIfInBounds_toArray, List.set_cons_zero, List.set_cons_succ] at hK9 ⊢
    · clear hp
      go_simp
      with_reducible refine hK9 _ ?_
      exact hs.next 0 _ (by decide) (by decide)
    · clear hp
      go_simp
      with_reducible refine hK9 _ ?_
      exact hs.next 1 _ (by decide) (by decide)
    · clear hp
      go_simp
      with_reducible refine hK9 _ ?_
      exact hs.next 2 _ (by decide) (by decide)
    · clear hp
      go_simp
      with_reducible refine hK9 _ ?_
      exact hs.next 3 _ (by decide) (by decide)
    · clear hp
      go_simp
      with_reducible refine hK9 _ ?_
      exact hs.next 4 _ (by decide) (by decide)
    · clear hp
      go_simp
      with_reducible refine hK9 _ ?_
      exact hs.next 5 _ (by decide) (by decide)
    · clear hp
      go_simp
      with_reducible refine hK9 _ ?_
      exact hs.next 6 _ (by decide) (by decide)
    · obtain rfl := hs.e1 hl
      clear hp
      have c1 := HCJ.out
      go_simp
      with_reducible refine hK9 _ ?_
      exact hs.next 7 _ (by decide) (by decide)
    · clear hp
      go_simp
      with_reducible refine hK9 _ ?_
      exact hs.next 8 _ (by decide) (by decide)
    · clear hp
      go_simp
      with_reducible refine hK9 _ ?_
      exact hs.next 9 _ (by decide) (by decide)
    · clear hp
      go_simp
      with_reducible refine hK9 _ ?_
      exact hs.next 10 _ (by decide) (by decide)
    · obtain rfl := hs.e2 hl
      clear hp
      have c1 := HCI.out
      go_simp
      with_reducible refine hK9 _ ?_
      exact hs.next 11 _ (by decide) (by decide)
    · clear hp
      go_simp
      with_reducible refine hK9 _ ?_
      exact hs.next 12 _ (by decide) (by decide)
    · have h1 := allL_mem hp 7 (by decide +kernel)
      have h2 := allL_mem hp 11 (by decide +kernel)
      obtain rfl := hs.w1 hl
      clear hp
      have c1 := HCI.out
      have c2 := HF1.out
      go_simp
      with_reducible refine hK9 undef _ ?_
      exact hs.st1 h1 h2 hl (by decide) _
    · clear hp
      go_simp
      with_reducible refine hK9 _ ?_
      exact hs.next 14 _ (by decide) (by decide)
    · have h1 := allL_mem hp 13 (by decide +kernel)
      obtain rfl := hs.w2 h1 hl
      clear hp
      have c1 := HY1.out
      have c2 := HF2.out
      go_simp
      with_reducible refine hK9 undef _ ?_
      exact hs.st2 h1 _
  intro L x w9 hS hL
  obtain rfl := SwS.done (hS : SwS w.drew ⟨g, i, none⟩ (.pointer (some ⟨q, 0, none⟩)) ⟨g, j, none⟩ (.pointer (some ⟨p, 0, none⟩)) 13 7 11 15 L x w9) (hL 15 (by decide))
  clear hS hL
  simp only [actMix, pickV, List.tail_cons, List.headD_cons, Act.put, List.setIfInBounds_toArray, List.set_cons_zero, List.set_cons_succ, List.replicate_succ, List.replicate_zero, List.drop_succ_cons, List.drop_zero, List.take_succ_cons, List.take_zero]
  rw [HE.out]
  go_wp2_with fail
  refine region_mixt 16 [some (.slice (some ⟨g, 0, none⟩) n c), some (.int .i64 (i : Int)), some (.pointer (some ⟨g, i, none⟩)), some (.pointer (some ⟨q, 0, none⟩)), some (.slice (some ⟨g, 0, none⟩) n c), some (.int .i64 (j : Int)), some (.pointer (some ⟨g, j, none⟩)), some (.pointer (some ⟨p, 0, none⟩)), some (.int .i64 (i : Int)), some (.int .i64 (j : Int)), some (.pointer (some ⟨q, 0, none⟩)), some (.pointer (some ⟨q, 3, none⟩)), none, some (.pointer (some ⟨p, 0, none⟩)), some (.pointer (some ⟨p, 3, none⟩)), none]
    [[false, false, false, false, false, false, false, false, false, false, false, false, false, false, false, false], [false, false, false, false, false, false, false, false, false, false, false, false, false, false, false, false], [true, true, false, false, false, false, false, false, false, false, false, false, false, false, false, false], [false, false, true, false, false, false, false, false, false, false, false, false, false, false, false, false], [false, false, false, false, false, false, false, false, false, false, false, false, false, false, false, false], [false, false, false, false, false, false, false, false, false, false, false, false, false, false, false, false], [false, false, false, false, true, true, false, false, false, false, false, false, false, false, false, false], [false, false, false, false, false, false, true, false, false, false, false, false, false, false, false, false], [false, false, false, false, false, false, false, false, false, false, false, false, false, false, false, false], [false, false, false, false, false, false, false, false, false, false, false, false, false, false, false, false], [true, true, true, true, false, false, false, true, true, false, false, false, false, false, false, false], [true, true, true, true, false, false, false, true, true, false, true, false, false, false, false, false], [true, true, true, true, false, false, false, true, true, false, false, true, false, false, false, false], [true, true, true, true, true, true, true, true, true, true, true, true, true, false, false, false], [true, true, true, true, true, true, true, true, true, true, true, true, true, true, false, false], [true, true, true, true, true, true, true, true, true, true, true, true, true, false, true, false]]
    (fun LL xx w9 => SwS W1.drew.drew ⟨q, 3, none⟩ (.int .i64 (i : Int)) ⟨p, 3, none⟩ (.int .i64 (j : Int)) 12 3 7 15 LL xx w9)
    (by kernel_rfl) (by kernel_rfl) (by kernel_rfl) (by kernel_rfl) (by kernel_rfl) (by decide) ?_ ?_ ?_
  · intro x
    exact ⟨rfl, (fun h => by cases h), (fun h => by cases h)⟩
  · simp only [List.take_succ_cons, List.take_zero]
    refine ⟨?_, ?_, ?_, ?_, ?_, ?_, ?_, ?_, ?_, ?_, ?_, ?_, ?_, ?_, ?_, ?_, trivial⟩
    all_goals
      intro L x w9 hS hl hp K9 hK9
      have hs : SwS W1.drew.drew ⟨q, 3, none⟩ (.int .i64 (i : Int)) ⟨p, 3, none⟩ (.int .i64 (j : Int)) 12 3 7 15 L x w9 := hS
      clear hS
      replace hK9 := hK9.out
      simp only [actMix, pickV, List.tail_cons, List.headD_cons, Act.put, List.setIfInBounds_toArray, List.set_cons_zero, List.set_cons_succ] at hK9 ⊢
    · clear hp
      go_simp
      with_reducible refine hK9 _ ?_
      exact hs.next 0 _ (by decide) (by decide)
    · clear hp
      go_simp
      with_reducible refine hK9 _ ?_
      exact hs.next 1 _ (by decide) (by decide)
    · clear hp
      go_simp
      with_reducible refine hK9 _ ?_
      exact hs.next 2 _ (by decide) (by decide)
    · obtain rfl := hs.e1 hl
      clear hp
      have c1 := HH2.out
      go_simp
      with_reducible refine hK9 _ ?_
      exact hs.next 3 _ (by decide) (by decide)
    · clear hp
      go_simp
      with_reducible refine hK9 _ ?_
      exact hs.next 4 _ (by decide) (by decide)
    · clear hp
      go_simp
      with_reducible refine hK9 _ ?_
      exact hs.next 5 _ (by decide) (by decide)
    · clear hp
      go_simp
      with_reducible refine hK9 _ ?_
      exact hs.next 6 _ (by decide) (by decide)
    · obtain rfl := hs.e2 hl
      clear hp
      have c1 := HH1.out
      go_simp
      with_reducible refine hK9 _ ?_
      exact hs.next 7 _ (by decide) (by decide)
    · clear hp
      go_simp
      with_reducible refine hK9 _ ?_
      exact hs.next 8 _ (by decide) (by decide)
    · clear hp
      go_simp
      with_reducible refine hK9 _ ?_
      exact hs.next 9 _ (by decide) (by decide)
    · clear hp
      go_simp
      with_reducible refine hK9 _ ?_
      exact hs.next 10 _ (by decide) (by decide)
    · clear hp
      go_simp
      with_reducible refine hK9 _ ?_
      exact hs.next 11 _ (by decide) (by decide)
    · have h1 := allL_mem hp 3 (by decide +kernel)
      have h2 := allL_mem hp 7 (by decide +kernel)
      obtain rfl := hs.w1 hl
      clear hp
      have c1 := HH3.out
      have c2 := HH5.out
      go_simp
      with_reducible refine hK9 undef _ ?_
      exact hs.st1 h1 h2 hl (by decide) _
    · clear hp
      go_simp
      with_reducible refine hK9 _ ?_
      exact hs.next 13 _ (by decide) (by decide)
    · clear hp
      go_simp
      with_reducible refine hK9 _ ?_
      exact hs.next 14 _ (by decide) (by decide)
    · have h1 := allL_mem hp 12 (by decide +kernel)
      obtain rfl := hs.w2 h1 hl
      clear hp
      have c1 := HY2.out
      have c2 := HH6.out
      go_simp
      with_reducible refine hK9 undef _ ?_
      exact hs.st2 h1 _
  intro L x w9 hS hL
  obtain rfl := SwS.done (hS : SwS W1.drew.drew ⟨q, 3, none⟩ (.int .i64 (i : Int)) ⟨p, 3, none⟩ (.int .i64 (j : Int)) 12 3 7 15 L x w9) (hL 15 (by decide))
  clear hS hL
  simp only [actMix, pickV, List.tail_cons, List.headD_cons, Act.put, List.setIfInBounds_toArray, List.set_cons_zero, List.set_cons_succ, List.replicate_succ, List.replicate_zero, List.drop_succ_cons, List.drop_zero, List.take_succ_cons, List.take_zero]
  go_wp2_with fail
  show bodyPost _ _ _ _ _ _
  rw [setW2 HW1.out]
  simp [bodyPost, results, Try.results90]
set_option maxRecDepth 100000 in
set_option maxHeartbeats 1000000 in
/-- Two elements change places, seen as four stores. -/
theorem swapN (g n c i j p q : Nat) (w : World) (hi : i < n) (hj : j < n) (f1 : w.frozen? ⟨g, i, none⟩ = false) (f2 : w.frozen? ⟨g, j, none⟩ = false)
    (ci : w.cell? ⟨g, i, none⟩ = some (.pointer (some ⟨p, 0, none⟩))) (cj : w.cell? ⟨g, j, none⟩ = some (.pointer (some ⟨q, 0, none⟩)))
    (cp : ∃ y, w.cell? ⟨p, 3, none⟩ = some y) (cq : ∃ y, w.cell? ⟨q, 3, none⟩ = some y) (f3 : w.frozen? ⟨p, 3, none⟩ = false) (f4 : w.frozen? ⟨q, 3, none⟩ = false) (hgp : g ≠ p) (hgq : g ≠ q) :
    Calls Try.prog 83 #[.slice (some ⟨g, 0, none⟩) n c, .int .i64 (i : Int), .int .i64 (j : Int)] w fun e w' => e = .returned (.tuple #[]) ∧ w' = ((((w.setCell ⟨g, i, none⟩ (.pointer (some ⟨q, 0, none⟩))).setCell ⟨g, j, none⟩ (.pointer (some ⟨p, 0, none⟩))).setCell ⟨q, 3, none⟩ (.int .i64 (i : Int))).setCell ⟨p, 3, none⟩ (.int .i64 (j : Int))).drew.drew := by
  have i1 : (i : Int) < n := by omega
  have j1 : (j : Int) < n := by omega
  have HCI := Lib.hid ci
  have HCJ := Lib.hid cj
  have HF1 := Lib.hid f1
  have HF2 := Lib.hid f2
  have hcj1 : ∃ y, (w.setCell ⟨g, i, none⟩ (.pointer (some ⟨q, 0, none⟩))).cell? ⟨g, j, none⟩ = some y := cell?_setCell_some cj
  obtain ⟨y1, hy1⟩ := hcj1
  have HY1 := Lib.hid hy1
  obtain ⟨W1, hW1⟩ : ∃ W1, W1 = (w.setCell ⟨g, i, none⟩ (.pointer (some ⟨q, 0, none⟩))).setCell ⟨g, j, none⟩ (.pointer (some ⟨p, 0, none⟩)) := ⟨_, rfl⟩
  have hpq : i = j → p = q := fun e => by
    subst e
    have h := ci.symm.trans cj
    simpa using h
  have h1 : W1.cell? ⟨g, j, none⟩ = some (.pointer (some ⟨p, 0, none⟩)) := by rw [hW1]; exact setC_same hy1
  have h2 : W1.cell? ⟨g, i, none⟩ = some (.pointer (some ⟨q, 0, none⟩)) := by
    by_cases e : i = j
    · have := hpq e
      subst e
      subst this
      exact h1
    · rw [hW1, setC_off (fun h => e h.symm)]
      exact setC_same ci
  obtain ⟨yq, hyq⟩ := cq
  obtain ⟨yp, hyp⟩ := cp
  have h3 : W1.cell? ⟨q, 3, none⟩ = some yq := by
    rw [hW1, setC_far hgq, setC_far hgq]; exact hyq
  have h4 : W1.cell? ⟨p, 3, none⟩ = some yp := by
    rw [hW1, setC_far hgp, setC_far hgp]; exact hyp
  have h5 : W1.frozen? ⟨q, 3, none⟩ = false := by rw [hW1, World.frozen?_setCell, World.frozen?_setCell]; exact f4
  have h6 : W1.frozen? ⟨p, 3, none⟩ = false := by rw [hW1, World.frozen?_setCell, World.frozen?_setCell]; exact f3
  obtain ⟨y2, hy2⟩ : ∃ y, (W1.setCell ⟨q, 3, none⟩ (.int .i64 (i : Int))).cell? ⟨p, 3, none⟩ = some y := cell?_setCell_some h4
  have HH1 := Lib.hid h1
  have HH2 := Lib.hid h2
  have HH3 := Lib.hid h3
  have HH5 := Lib.hid h5
  have HH6 := Lib.hid h6
  have HY2 := Lib.hid hy2
  have HW1 := Lib.hid hW1
  have HE : Hid ((w.drew.setCell ⟨g, i, none⟩ (.pointer (some ⟨q, 0, none⟩))).setCell ⟨g, j, none⟩ (.pointer (some ⟨p, 0, none⟩)) = W1.drew) := by show _ = _; rw [hW1]; rfl
  clear ci cj f1 f2 hy1 hpq h1 h2 h3 h4 h5 h6 hy2 hW1 hyq hyp f3 f4 hgp hgq
  go_enter Try.func83, Try.ntmps83
  go_wp2_with fail
  refine region_mixt 16 [some (.slice (some ⟨g, 0, none⟩) n c), some (.int .i64 (i : Int)), some (.slice (some ⟨g, 0, none⟩) n c), some (.int .i64 (j : Int)), some (.slice (some ⟨g, 0, none⟩) n c), some (.int .i64 (j : Int)), some (.pointer (some ⟨g, j, none⟩)), some (.pointer (some ⟨q, 0, none⟩)), some (.slice (some ⟨g, 0, none⟩) n c), some (.int .i64 (i : Int)), some (.pointer (some ⟨g, i, none⟩)), some (.pointer (some ⟨p, 0, none⟩)), some (.pointer (some ⟨g, i, none⟩)), none, some (.pointer (some ⟨g, j, none⟩)), none]
    [[false, false, false, false, false, false, false, false, false, false, false, false, false, false, false, false], [false, false, false, false, false, false, false, false, false, false, false, false, false, false, false, false], [false, false, false, false, false, false, false, false, false, false, false, false, false, false, false, false], [false, false, false, false, false, false, false, false, false, false, false, false, false, false, false, false], [false, false, false, false, false, false, false, false, false, false, false, false, false, false, false, false], [false, false, false, false, false, false, false, false, false, false, false, false, false, false, false, false], [false, false, false, false, true, true, false, false, false, false, false, false, false, false, false, false], [false, false, false, false, false, false, true, false, false, false, false, false, false, false, false, false], [false, false, false, false, false, false, false, false, false, false, false, false, false, false, false, false], [false, false, false, false, false, false, false, false, false, false, false, false, false, false, false, false], [false, false, false, false, false, false, false, false, true, true, false, false, false, false, false, false], [false, false, false, false, false, false, false, false, false, false, true, false, false, false, false, false], [true, true, false, false, true, true, true, true, false, false, false, true, false, false, false, false], [true, true, false, false, true, true, true, true, false, false, false, true, true, false, false, false], [true, true, true, true, true, true, true, true, true, true, true, true, true, true, false, false], [true, true, true, true, true, true, true, true, true, true, true, true, true, true, true, false]]
    (fun LL xx w9 => SwS w.drew ⟨g, i, none⟩ (.pointer (some ⟨q, 0, none⟩)) ⟨g, j, none⟩ (.pointer (some ⟨p, 0, none⟩)) 13 7 11 15 LL xx w9)
    (by kernel_rfl) (by kernel_rfl) (by kernel_rfl) (by kernel_rfl) (by kernel_rfl) (by decide) ?_ ?_ ?_
  · intro x
    exact ⟨rfl, (fun h => by cases h), (fun h => by cases h)⟩
  · simp only [List.take_succ_cons, List.take_zero]
    refine ⟨?_, ?_, ?_, ?_, ?_, ?_, ?_, ?_, ?_, ?_, ?_, ?_, ?_, ?_, ?_, ?_, trivial⟩
    all_goals
      intro L x w9 hS hl hp K9 hK9
      have hs : SwS w.drew ⟨g, i, none⟩ (.pointer (some ⟨q, 0, none⟩)) ⟨g, j, none⟩ (.pointer (some ⟨p, 0, none⟩)) 13 7 11 15 L x w9 := hS
      clear hS
      replace hK9 := hK9.out
      simp only [actMix, pickV, List.tail_cons, List.headD_cons, Act.put, List.setIfInBounds_toArray, List.set_cons_zero, List.set_cons_succ] at hK9 ⊢
    · clear hp
      go_simp
      with_reducible refine hK9 _ ?_
      exact hs.next 0 _ (by decide) (by decide)
    · clear hp
      go_simp
      with_reducible refine hK9 _ ?_
      exact hs.next 1 _ (by decide) (by decide)
    · clear hp
      go_simp
      with_reducible refine hK9 _ ?_
      exact hs.next 2 _ (by decide) (by decide)
    · clear hp
      go_simp
      with_reducible refine hK9 _ ?_
      exact hs.next 3 _ (by decide) (by decide)
    · clear hp
      go_simp
      with_reducible refine hK9 _ ?_
      exact hs.next 4 _ (by decide) (by decide)
    · clear hp
      go_simp
      with_reducible refine hK9 _ ?_
      exact hs.next 5 _ (by decide) (by decide)
    · clear hp
      go_simp
      with_reducible refine hK9 _ ?_
      exact hs.next 6 _ (by decide) (by decide)
    · obtain rfl := hs.e1 hl
      clear hp
      have c1 := HCJ.out
      go_simp
      with_reducible refine hK9 _ ?_
      exact hs.next 7 _ (by decide) (by decide)
    · clear hp
      go_simp
      with_reducible refine hK9 _ ?_
      exact hs.next 8 _ (by decide) (by decide)
    · clear hp
      go_simp
      with_reducible refine hK9 _ ?_
      exact hs.next 9 _ (by decide) (by decide)
    · clear hp
      go_simp
      with_reducible refine hK9 _ ?_
      exact hs.next 10 _ (by decide) (by decide)
    · obtain rfl := hs.e2 hl
      clear hp
      have c1 := HCI.out
      go_simp
      with_reducible refine hK9 _ ?_
      exact hs.next 11 _ (by decide) (by decide)
    · clear hp
      go_simp
      with_reducible refine hK9 _ ?_
      exact hs.next 12 _ (by decide) (by decide)
    · have h1 := allL_mem hp 7 (by decide +kernel)
      have h2 := allL_mem hp 11 (by decide +kernel)
      obtain rfl := hs.w1 hl
      clear hp
      have c1 := HCI.out
      have c2 := HF1.out
      go_simp
      with_reducible refine hK9 undef _ ?_
      exact hs.st1 h1 h2 hl (by decide) _
    · clear hp
      go_simp
      with_reducible refine hK9 _ ?_
      exact hs.next 14 _ (by decide) (by decide)
    · have h1 := allL_mem hp 13 (by decide +kernel)
      obtain rfl := hs.w2 h1 hl
      clear hp
      have c1 := HY1.out
      have c2 := HF2.out
      go_simp
      with_reducible refine hK9 undef _ ?_
      exact hs.st2 h1 _
  intro L x w9 hS hL
  obtain rfl := SwS.done (hS : SwS w.drew ⟨g, i, none⟩ (.pointer (some ⟨q, 0, none⟩)) ⟨g, j, none⟩ (.pointer (some ⟨p, 0, none⟩)) 13 7 11 15 L x w9) (hL 15 (by decide))
  clear hS hL
  simp only [actMix, pickV, List.tail_cons, List.headD_cons, Act.put, List.setIfInBounds_toArray, List.set_cons_zero, List.set_cons_succ, List.replicate_succ, List.replicate_zero, List.drop_succ_cons, List.drop_zero, List.take_succ_cons, List.take_zero]
  rw [HE.out]
  go_wp2_with fail
  refine region_mixt 16 [some (.slice (some ⟨g, 0, none⟩) n c), some (.int .i64 (i : Int)), some (.pointer (some ⟨g, i, none⟩)), some (.pointer (some ⟨q, 0, none⟩)), some (.slice (some ⟨g, 0, none⟩) n c), some (.int .i64 (j : Int)), some (.pointer (some ⟨g, j, none⟩)), some (.pointer (some ⟨p, 0, none⟩)), some (.int .i64 (i : Int)), some (.int .i64 (j : Int)), some (.pointer (some ⟨q, 0, none⟩)), some (.pointer (some ⟨q, 3, none⟩)), none, some (.pointer (some ⟨p, 0, none⟩)), some (.pointer (some ⟨p, 3, none⟩)), none]
    [[false, false, false, false, false, false, false, false, false, false, false, false, false, false, false, false], [false, false, false, false, false, false, false, false, false, false, false, false, false, false, false, false], [true, true, false, false, false, false, false, false, false, false, false, false, false, false, false, false], [false, false, true, false, false, false, false, false, false, false, false, false, false, false, false, false], [false, false, false, false, false, false, false, false, false, false, false, false, false, false, false, false], [false, false, false, false, false, false, false, false, false, false, false, false, false, false, false, false], [false, false, false, false, true, true, false, false, false, false, false, false, false, false, false, false], [false, false, false, false, false, false, true, false, false, false, false, false, false, false, false, false], [false, false, false, false, false, false, false, false, false, false, false, false, false, false, false, false], [false, false, false, false, false, false, false, false, false, false, false, false, false, false, false, false], [true, true, true, true, false, false, false, true, true, false, false, false, false, false, false, false], [true, true, true, true, false, false, false, true, true, false, true, false, false, false, false, false], [true, true, true, true, false, false, false, true, true, false, false, true, false, false, false, false], [true, true, true, true, true, true, true, true, true, true, true, true, true, false, false, false], [true, true, true, true, true, true, true, true, true, true, true, true, true, true, false, false], [true, true, true, true, true, true, true, true, true, true, true, true, true, false, true, false]]
    (fun LL xx w9 => SwS W1.drew.drew ⟨q, 3, none⟩ (.int .i64 (i : Int)) ⟨p, 3, none⟩ (.int .i64 (j : Int)) 12 3 7 15 LL xx w9)
    (by kernel_rfl) (by kernel_rfl) (by kernel_rfl) (by kernel_rfl) (by kernel_rfl) (by decide) ?_ ?_ ?_
  · intro x
    exact ⟨rfl, (fun h => by cases h), (fun h => by cases h)⟩
  · simp only [List.take_succ_cons, List.take_zero]
    refine ⟨?_, ?_, ?_, ?_, ?_, ?_, ?_, ?_, ?_, ?_, ?_, ?_, ?_, ?_, ?_, ?_, trivial⟩
    all_goals
      intro L x w9 hS hl hp K9 hK9
      have hs : SwS W1.drew.drew ⟨q, 3, none⟩ (.int .i64 (i : Int)) ⟨p, 3, none⟩ (.int .i64 (j : Int)) 12 3 7 15 L x w9 := hS
      clear hS
      replace hK9 := hK9.out
      simp only [actMix, pickV, List.tail_cons, List.headD_cons, Act.put, List.setIfInBounds_toArray, List.set_cons_zero, List.set_cons_succ] at hK9 ⊢
    · clear hp
      go_simp
      with_reducible refine hK9 _ ?_
      exact hs.next 0 _ (by decide) (by decide)
    · clear hp
      go_simp
      with_reducible refine hK9 _ ?_
      exact hs.next 1 _ (by decide) (by decide)
    · clear hp
      go_simp
      with_reducible refine hK9 _ ?_
      exact hs.next 2 _ (by decide) (by decide)
    · obtain rfl := hs.e1 hl
      clear hp
      have c1 := HH2.out
      go_simp
      with_reducible refine hK9 _ ?_
      exact hs.next 3 _ (by decide) (by decide)
    · clear hp
      go_simp
      with_reducible refine hK9 _ ?_
      exact hs.next 4 _ (by decide) (by decide)
    · clear hp
      go_simp
      with_reducible refine hK9 _ ?_
      exact hs.next 5 _ (by decide) (by decide)
    · clear hp
      go_simp
      with_reducible refine hK9 _ ?_
      exact hs.next 6 _ (by decide) (by decide)
    · obtain rfl := hs.e2 hl
      clear hp
      have c1 := HH1.out
      go_simp
      with_reducible refine hK9 _ ?_
      exact hs.next 7 _ (by decide) (by decide)
    · clear hp
      go_simp
      with_reducible refine hK9 _ ?_
      exact hs.next 8 _ (by decide) (by decide)
    · clear hp
      go_simp
      with_reducible refine hK9 _ ?_
      exact hs.next 9 _ (by decide) (by decide)
    · clear hp
      go_simp
      with_reducible refine hK9 _ ?_
      exact hs.next 10 _ (by decide) (by decide)
    · clear hp
      go_simp
      with_reducible refine hK9 _ ?_
      exact hs.next 11 _ (by decide) (by decide)
    · have h1 := allL_mem hp 3 (by decide +kernel)
      have h2 := allL_mem hp 7 (by decide +kernel)
      obtain rfl := hs.w1 hl
      clear hp
      have c1 := HH3.out
      have c2 := HH5.out
      go_simp
      with_reducible refine hK9 undef _ ?_
      exact hs.st1 h1 h2 hl (by decide) _
    · clear hp
      go_simp
      with_reducible refine hK9 _ ?_
      exact hs.next 13 _ (by decide) (by decide)
    · clear hp
      go_simp
      with_reducible refine hK9 _ ?_
      exact hs.next 14 _ (by decide) (by decide)
    · have h1 := allL_mem hp 12 (by decide +kernel)
      obtain rfl := hs.w2 h1 hl
      clear hp
      have c1 := HY2.out
      have c2 := HH6.out
      go_simp
      with_reducible refine hK9 undef _ ?_
      exact hs.st2 h1 _
  intro L x w9 hS hL
  obtain rfl := SwS.done (hS : SwS W1.drew.drew ⟨q, 3, none⟩ (.int .i64 (i : Int)) ⟨p, 3, none⟩ (.int .i64 (j : Int)) 12 3 7 15 L x w9) (hL 15 (by decide))
  clear hS hL
  simp only [actMix, pickV, List.tail_cons, List.headD_cons, Act.put, List.setIfInBounds_toArray, List.set_cons_zero, List.set_cons_succ, List.replicate_succ, List.replicate_zero, List.drop_succ_cons, List.drop_zero, List.take_succ_cons, List.take_zero]
  go_wp2_with fail
  show bodyPost _ _ _ _ _ _
  rw [setW2 HW1.out]
  simp [bodyPost, results, Try.results83]
end Go.Proofs.Ytcdgmhglpcokdaa
