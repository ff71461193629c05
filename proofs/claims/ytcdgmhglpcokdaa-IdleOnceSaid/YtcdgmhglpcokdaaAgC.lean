/- agenda's items: compare, at both kinds of keys (written by genagc.py). -/
import Derived.Test.YtcdgmhglpcokdaaAgB
import Derived.Test.YtcdgmhglpcokdaaRegT
namespace Go.Proofs.Ytcdgmhglpcokdaa
open Go.RowKit

/-- How two items compare. -/
def cmpIt (a t b u : Int) : Int := orI (cmpI a b) (cmpI t u)
/-- What is there while the comparison is evaluated. -/
structure CmS (W : World) (c1 c2 : Int) (L : Nat → Bool) (x : Nat → Value) (w : World) : Prop where
  bel : Below W.heap.size W w
  z18 : L 18 = true → ∃ b T, x 18 = .slice (some ⟨b, 0, none⟩) 2 2 ∧ Row w b T #[.int .i64 c1, .int .i64 c2]
section CmpItems
variable {W : World} {c1 c2 : Int} {L : Nat → Bool} {x : Nat → Value} {w w' : World}
theorem CmS.next (h : CmS W c1 c2 L x w) (i : Nat) (u : Value) (hi : i ≠ 18) : CmS W c1 c2 (setL L i) (updV x i u) w := by
  refine ⟨h.bel, fun e => ?_⟩
  have e2 : L 18 = true := by simpa [setL, Ne.symm hi] using e
  have e3 : updV x i u 18 = x 18 := by simp [updV, Ne.symm hi]
  rw [e3]
  exact h.z18 e2
theorem CmS.put18 (h : CmS W c1 c2 L x w) (T : TypeId) : CmS W c1 c2 (setL L 18) (updV x 18 (.slice (some ⟨w.heap.size, 0, none⟩) 2 2)) (w.alloc (.cells #[.int .i64 c1, .int .i64 c2] T)) :=
  ⟨h.bel.alloc h.bel.size _, fun _ => ⟨w.heap.size, T, by simp [updV], Row.new _ _ _⟩⟩
end CmpItems
set_option maxRecDepth 100000 in
set_option maxHeartbeats 1000000 in
theorem compareS (p q : Nat) (k l : Value) (a t m b u n : Int) (w : World) (hp : Row w p 106 #[k, .int .i64 a, .int .i64 t, .int .i64 m]) (hq : Row w q 106 #[l, .int .i64 b, .int .i64 u, .int .i64 n]) :
    Calls Try.prog 91 #[.pointer (some ⟨p, 0, none⟩), .pointer (some ⟨q, 0, none⟩)] w fun e w' => e = .returned (.int .i64 (cmpIt a t b u)) ∧ Below w.heap.size w w' := by
  have HP := Lib.hid hp
  have HQ := Lib.hid hq
  have h1 := fun W => cmp60 a b W
  have h2 := fun W => cmp60 t u W
  unfold cmpIt
  generalize cmpI a b = c1 at *
  generalize cmpI t u = c2 at *
  have hr := fun B T W h => or59 B T c1 c2 W h
  generalize orI c1 c2 = r at *
  have H1 := Lib.hid h1
  have H2 := Lib.hid h2
  have HR := Lib.hid hr
  clear hp hq h1 h2 hr
  obtain ⟨W, hW⟩ : ∃ W, W = w := ⟨w, rfl⟩
  rw [← hW]
  rw [← hW] at HP HQ
  clear hW w
  go_enter Try.func91, Try.ntmps91
  go_wp2_with fail
  refine region_mixt 20 [some (.pointer (some ⟨p, 0, none⟩)), some (.pointer (some ⟨p, 0, none⟩)), some (.pointer (some ⟨p, 1, none⟩)), some (.int .i64 a), some (.pointer (some ⟨q, 0, none⟩)), some (.pointer (some ⟨q, 0, none⟩)), some (.pointer (some ⟨q, 1, none⟩)), some (.int .i64 b), some (.int .i64 c1), some (.pointer (some ⟨p, 0, none⟩)), some (.pointer (some ⟨p, 0, none⟩)), some (.pointer (some ⟨p, 2, none⟩)), some (.int .i64 t), some (.pointer (some ⟨q, 0, none⟩)), some (.pointer (some ⟨q, 0, none⟩)), some (.pointer (some ⟨q, 2, none⟩)), some (.int .i64 u), some (.int .i64 c2), none, some (.int .i64 r)]
    [[false, false, false, false, false, false, false, false, false, false, false, false, false, false, false, false, false, false, false, false], [true, false, false, false, false, false, false, false, false, false, false, false, false, false, false, false, false, false, false, false], [false, true, false, false, false, false, false, false, false, false, false, false, false, false, false, false, false, false, false, false], [false, false, true, false, false, false, false, false, false, false, false, false, false, false, false, false, false, false, false, false], [false, false, false, false, false, false, false, false, false, false, false, false, false, false, false, false, false, false, false, false], [false, false, false, false, true, false, false, false, false, false, false, false, false, false, false, false, false, false, false, false], [false, false, false, false, false, true, false, false, false, false, false, false, false, false, false, false, false, false, false, false], [false, false, false, false, false, false, true, false, false, false, false, false, false, false, false, false, false, false, false, false], [false, false, false, true, false, false, false, true, false, false, false, false, false, false, false, false, false, false, false, false], [false, false, false, false, false, false, false, false, false, false, false, false, false, false, false, false, false, false, false, false], [false, false, false, false, false, false, false, false, false, true, false, false, false, false, false, false, false, false, false, false], [false, false, false, false, false, false, false, false, false, false, true, false, false, false, false, false, false, false, false, false], [false, false, false, false, false, false, false, false, false, false, false, true, false, false, false, false, false, false, false, false], [false, false, false, false, false, false, false, false, false, false, false, false, false, false, false, false, false, false, false, false], [false, false, false, false, false, false, false, false, false, false, false, false, false, true, false, false, false, false, false, false], [false, false, false, false, false, false, false, false, false, false, false, false, false, false, true, false, false, false, false, false], [false, false, false, false, false, false, false, false, false, false, false, false, false, false, false, true, false, false, false, false], [false, false, false, false, false, false, false, false, true, false, false, false, true, false, false, false, true, false, false, false], [false, false, false, false, false, false, false, false, true, false, false, false, false, false, false, false, false, true, false, false], [false, false, false, false, false, false, false, false, false, false, false, false, false, false, false, false, false, true, true, false]]
    (fun LL xx w9 => CmS W c1 c2 LL xx w9)
    (by kernel_rfl) (by kernel_rfl) (by kernel_rfl) (by kernel_rfl) (by kernel_rfl) (by decide) ?_ ?_ ?_
  · intro x
    exact ⟨(Below.refl _ _).drew, fun h => by cases h⟩
  · simp only [List.take_succ_cons, List.take_zero]
    refine ⟨?_, ?_, ?_, ?_, ?_, ?_, ?_, ?_, ?_, ?_, ?_, ?_, ?_, ?_, ?_, ?_, ?_, ?_, ?_, ?_, trivial⟩
    all_goals
      intro L x w9 hS hl hp K9 hK9
      have hs : CmS W c1 c2 L x w9 := hS
      clear hS
      replace hK9 := hK9.out
      simp only [actMix, pickV, List.tail_cons, List.headD_cons, Act.put, List.setIfInBounds_toArray, List.set_cons_zero, List.set_cons_succ] at hK9 ⊢
    · clear hp
      go_simp
      with_reducible refine hK9 _ ?_
      exact hs.next 0 _ (by decide)
    · clear hp
      go_simp
      with_reducible refine hK9 _ ?_
      exact hs.next 1 _ (by decide)
    · clear hp
      go_simp
      with_reducible refine hK9 _ ?_
      exact hs.next 2 _ (by decide)
    · clear hp
      have c0 : w9.cell? ⟨p, 1, none⟩ = some (.int .i64 a) := by rw [((HP.out.below hs.bel)).cell]; rfl
      go_simp
      with_reducible refine hK9 _ ?_
      exact hs.next 3 _ (by decide)
    · clear hp
      go_simp
      with_reducible refine hK9 _ ?_
      exact hs.next 4 _ (by decide)
    · clear hp
      go_simp
      with_reducible refine hK9 _ ?_
      exact hs.next 5 _ (by decide)
    · clear hp
      go_simp
      with_reducible refine hK9 _ ?_
      exact hs.next 6 _ (by decide)
    · clear hp
      have c0 : w9.cell? ⟨q, 1, none⟩ = some (.int .i64 b) := by rw [((HQ.out.below hs.bel)).cell]; rfl
      go_simp
      with_reducible refine hK9 _ ?_
      exact hs.next 7 _ (by decide)
    · clear hp
      go_simp
      refine (H1.out w9).mono ?_
      rintro e w8 ⟨rfl, hB8⟩
      subst w8
      go_simp
      with_reducible refine hK9 _ ?_
      exact hs.next 8 _ (by decide)
    · clear hp
      go_simp
      with_reducible refine hK9 _ ?_
      exact hs.next 9 _ (by decide)
    · clear hp
      go_simp
      with_reducible refine hK9 _ ?_
      exact hs.next 10 _ (by decide)
    · clear hp
      go_simp
      with_reducible refine hK9 _ ?_
      exact hs.next 11 _ (by decide)
    · clear hp
      have c0 : w9.cell? ⟨p, 2, none⟩ = some (.int .i64 t) := by rw [((HP.out.below hs.bel)).cell]; rfl
      go_simp
      with_reducible refine hK9 _ ?_
      exact hs.next 12 _ (by decide)
    · clear hp
      go_simp
      with_reducible refine hK9 _ ?_
      exact hs.next 13 _ (by decide)
    · clear hp
      go_simp
      with_reducible refine hK9 _ ?_
      exact hs.next 14 _ (by decide)
    · clear hp
      go_simp
      with_reducible refine hK9 _ ?_
      exact hs.next 15 _ (by decide)
    · clear hp
      have c0 : w9.cell? ⟨q, 2, none⟩ = some (.int .i64 u) := by rw [((HQ.out.below hs.bel)).cell]; rfl
      go_simp
      with_reducible refine hK9 _ ?_
      exact hs.next 16 _ (by decide)
    · clear hp
      go_simp
      refine (H2.out w9).mono ?_
      rintro e w8 ⟨rfl, hB8⟩
      subst w8
      go_simp
      with_reducible refine hK9 _ ?_
      exact hs.next 17 _ (by decide)
    · clear hp
      go_simp
      with_reducible refine hK9 _ _ ?_
      exact hs.put18 _
    · obtain ⟨b8, T8, hx8, hr8⟩ := hs.z18 (allL_mem hp 18 (by decide +kernel))
      clear hp
      rw [hx8] at hK9 ⊢
      go_simp
      refine (HR.out b8 T8 w9 hr8).mono ?_
      rintro e w8 ⟨rfl, hB8⟩
      subst w8
      go_simp
      with_reducible refine hK9 _ ?_
      exact hs.next 19 _ (by decide)
  intro L x w9 hS hL
  have hs : CmS W c1 c2 L x w9 := hS
  simp only [actMix, pickV, List.tail_cons, List.headD_cons, Act.put, List.setIfInBounds_toArray, List.set_cons_zero, List.set_cons_succ, List.replicate_succ, List.replicate_zero, List.drop_succ_cons, List.drop_zero, List.take_succ_cons, List.take_zero]
  generalize x 18 = x18
  have HB9 := Lib.hid hs.bel
  clear hS hs hL
  go_wp2_with fail
  go_ret
  exact ⟨rfl, HB9.out⟩
set_option maxRecDepth 100000 in
set_option maxHeartbeats 1000000 in
theorem compareN (p q : Nat) (k l : Value) (a t m b u n : Int) (w : World) (hp : Row w p 99 #[k, .int .i64 a, .int .i64 t, .int .i64 m]) (hq : Row w q 99 #[l, .int .i64 b, .int .i64 u, .int .i64 n]) :
    Calls Try.prog 84 #[.pointer (some ⟨p, 0, none⟩), .pointer (some ⟨q, 0, none⟩)] w fun e w' => e = .returned (.int .i64 (cmpIt a t b u)) ∧ Below w.heap.size w w' := by
  have HP := Lib.hid hp
  have HQ := Lib.hid hq
  have h1 := fun W => cmp60 a b W
  have h2 := fun W => cmp60 t u W
  unfold cmpIt
  generalize cmpI a b = c1 at *
  generalize cmpI t u = c2 at *
  have hr := fun B T W h => or59 B T c1 c2 W h
  generalize orI c1 c2 = r at *
  have H1 := Lib.hid h1
  have H2 := Lib.hid h2
  have HR := Lib.hid hr
  clear hp hq h1 h2 hr
  obtain ⟨W, hW⟩ : ∃ W, W = w := ⟨w, rfl⟩
  rw [← hW]
  rw [← hW] at HP HQ
  clear hW w
  go_enter Try.func84, Try.ntmps84
  go_wp2_with fail
  refine region_mixt 20 [some (.pointer (some ⟨p, 0, none⟩)), some (.pointer (some ⟨p, 0, none⟩)), some (.pointer (some ⟨p, 1, none⟩)), some (.int .i64 a), some (.pointer (some ⟨q, 0, none⟩)), some (.pointer (some ⟨q, 0, none⟩)), some (.pointer (some ⟨q, 1, none⟩)), some (.int .i64 b), some (.int .i64 c1), some (.pointer (some ⟨p, 0, none⟩)), some (.pointer (some ⟨p, 0, none⟩)), some (.pointer (some ⟨p, 2, none⟩)), some (.int .i64 t), some (.pointer (some ⟨q, 0, none⟩)), some (.pointer (some ⟨q, 0, none⟩)), some (.pointer (some ⟨q, 2, none⟩)), some (.int .i64 u), some (.int .i64 c2), none, some (.int .i64 r)]
    [[false, false, false, false, false, false, false, false, false, false, false, false, false, false, false, false, false, false, false, false], [true, false, false, false, false, false, false, false, false, false, false, false, false, false, false, false, false, false, false, false], [false, true, false, false, false, false, false, false, false, false, false, false, false, false, false, false, false, false, false, false], [false, false, true, false, false, false, false, false, false, false, false, false, false, false, false, false, false, false, false, false], [false, false, false, false, false, false, false, false, false, false, false, false, false, false, false, false, false, false, false, false], [false, false, false, false, true, false, false, false, false, false, false, false, false, false, false, false, false, false, false, false], [false, false, false, false, false, true, false, false, false, false, false, false, false, false, false, false, false, false, false, false], [false, false, false, false, false, false, true, false, false, false, false, false, false, false, false, false, false, false, false, false], [false, false, false, true, false, false, false, true, false, false, false, false, false, false, false, false, false, false, false, false], [false, false, false, false, false, false, false, false, false, false, false, false, false, false, false, false, false, false, false, false], [false, false, false, false, false, false, false, false, false, true, false, false, false, false, false, false, false, false, false, false], [false, false, false, false, false, false, false, false, false, false, true, false, false, false, false, false, false, false, false, false], [false, false, false, false, false, false, false, false, false, false, false, true, false, false, false, false, false, false, false, false], [false, false, false, false, false, false, false, false, false, false, false, false, false, false, false, false, false, false, false, false], [false, false, false, false, false, false, false, false, false, false, false, false, false, true, false, false, false, false, false, false], [false, false, false, false, false, false, false, false, false, false, false, false, false, false, true, false, false, false, false, false], [false, false, false, false, false, false, false, false, false, false, false, false, false, false, false, true, false, false, false, false], [false, false, false, false, false, false, false, false, true, false, false, false, true, false, false, false, true, false, false, false], [false, false, false, false, false, false, false, false, true, false, false, false, false, false, false, false, false, true, false, false], [false, false, false, false, false, false, false, false, false, false, false, false, false, false, false, false, false, true, true, false]]
    (fun LL xx w9 => CmS W c1 c2 LL xx w9)
    (by kernel_rfl) (by kernel_rfl) (by kernel_rfl) (by kernel_rfl) (by kernel_rfl) (by decide) ?_ ?_ ?_
  · intro x
    exact ⟨(Below.refl _ _).drew, fun h => by cases h⟩
  · simp only [List.take_succ_cons, List.take_zero]
    refine ⟨?_, ?_, ?_, ?_, ?_, ?_, ?_, ?_, ?_, ?_, ?_, ?_, ?_, ?_, ?_, ?_, ?_, ?_, ?_, ?_, trivial⟩
    all_goals
      intro L x w9 hS hl hp K9 hK9
      have hs : CmS W c1 c2 L x w9 := hS
      clear hS
      replace hK9 := hK9.out
      simp only [actMix, pickV, List.tail_cons, List.headD_cons, Act.put, List.setIfInBounds_toArray, List.set_cons_zero, List.set_cons_succ] at hK9 ⊢
    · clear hp
      go_simp
      with_reducible refine hK9 _ ?_
      exact hs.next 0 _ (by decide)
    · clear hp
      go_simp
      with_reducible refine hK9 _ ?_
      exact hs.next 1 _ (by decide)
    · clear hp
      go_simp
      with_reducible refine hK9 _ ?_
      exact hs.next 2 _ (by decide)
    · clear hp
      have c0 : w9.cell? ⟨p, 1, none⟩ = some (.int .i64 a) := by rw [((HP.out.below hs.bel)).cell]; rfl
      go_simp
      with_reducible refine hK9 _ ?_
      exact hs.next 3 _ (by decide)
    · clear hp
      go_simp
      with_reducible refine hK9 _ ?_
      exact hs.next 4 _ (by decide)
    · clear hp
      go_simp
      with_reducible refine hK9 _ ?_
      exact hs.next 5 _ (by decide)
    · clear hp
      go_simp
      with_reducible refine hK9 _ ?_
      exact hs.next 6 _ (by decide)
    · clear hp
      have c0 : w9.cell? ⟨q, 1, none⟩ = some (.int .i64 b) := by rw [((HQ.out.below hs.bel)).cell]; rfl
      go_simp
      with_reducible refine hK9 _ ?_
      exact hs.next 7 _ (by decide)
    · clear hp
      go_simp
      refine (H1.out w9).mono ?_
      rintro e w8 ⟨rfl, hB8⟩
      subst w8
      go_simp
      with_reducible refine hK9 _ ?_
      exact hs.next 8 _ (by decide)
    · clear hp
      go_simp
      with_reducible refine hK9 _ ?_
      exact hs.next 9 _ (by decide)
    · clear hp
      go_simp
      with_reducible refine hK9 _ ?_
      exact hs.next 10 _ (by decide)
    · clear hp
      go_simp
      with_reducible refine hK9 _ ?_
      exact hs.next 11 _ (by decide)
    · clear hp
      have c0 : w9.cell? ⟨p, 2, none⟩ = some (.int .i64 t) := by rw [((HP.out.below hs.bel)).cell]; rfl
      go_simp
      with_reducible refine hK9 _ ?_
      exact hs.next 12 _ (by decide)
    · clear hp
      go_simp
      with_reducible refine hK9 _ ?_
      exact hs.next 13 _ (by decide)
    · clear hp
      go_simp
      with_reducible refine hK9 _ ?_
      exact hs.next 14 _ (by decide)
    · clear hp
      go_simp
      with_reducible refine hK9 _ ?_
      exact hs.next 15 _ (by decide)
    · clear hp
      have c0 : w9.cell? ⟨q, 2, none⟩ = some (.int .i64 u) := by rw [((HQ.out.below hs.bel)).cell]; rfl
      go_simp
      with_reducible refine hK9 _ ?_
      exact hs.next 16 _ (by decide)
    · clear hp
      go_simp
      refine (H2.out w9).mono ?_
      rintro e w8 ⟨rfl, hB8⟩
      subst w8
      go_simp
      with_reducible refine hK9 _ ?_
      exact hs.next 17 _ (by decide)
    · clear hp
      go_simp
      with_reducible refine hK9 _ _ ?_
      exact hs.put18 _
    · obtain ⟨b8, T8, hx8, hr8⟩ := hs.z18 (allL_mem hp 18 (by decide +kernel))
      clear hp
      rw [hx8] at hK9 ⊢
      go_simp
      refine (HR.out b8 T8 w9 hr8).mono ?_
      rintro e w8 ⟨rfl, hB8⟩
      subst w8
      go_simp
      with_reducible refine hK9 _ ?_
      exact hs.next 19 _ (by decide)
  intro L x w9 hS hL
  have hs : CmS W c1 c2 L x w9 := hS
  simp only [actMix, pickV, List.tail_cons, List.headD_cons, Act.put, List.setIfInBounds_toArray, List.set_cons_zero, List.set_cons_succ, List.replicate_succ, List.replicate_zero, List.drop_succ_cons, List.drop_zero, List.take_succ_cons, List.take_zero]
  generalize x 18 = x18
  have HB9 := Lib.hid hs.bel
  clear hS hs hL
  go_wp2_with fail
  go_ret
  exact ⟨rfl, HB9.out⟩
end Go.Proofs.Ytcdgmhglpcokdaa
