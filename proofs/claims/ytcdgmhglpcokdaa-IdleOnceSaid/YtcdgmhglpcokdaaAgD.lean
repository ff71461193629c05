/- agenda's queue: Len and Less, at both kinds of keys (written by genagd.py). -/
import Derived.Test.YtcdgmhglpcokdaaAgC
import Derived.Test.YtcdgmhglpcokdaaMx
namespace Go.Proofs.Ytcdgmhglpcokdaa
open Go.RowKit

/-- Does one item go ahead of another? -/
def ltIt (a t b u : Int) : Bool := decide (cmpIt a t b u < 0)
theorem lenS (g n c : Nat) (w : World) : Calls Try.prog 88 #[.slice (some ⟨g, 0, none⟩) n c] w fun e w' => e = .returned (.int .i64 (n : Int)) ∧ w' = w := by
  go_enter Try.func88, Try.ntmps88
  go_wp2_with fail
  go_ret
  exact ⟨rfl, rfl⟩
set_option maxRecDepth 100000 in
set_option maxHeartbeats 1000000 in
theorem lessS (g n c i j p q : Nat) (k l : Value) (a t m b u o : Int) (w : World) (hg : g < w.heap.size) (hi : i < n) (hj : j < n)
    (ci : w.cell? ⟨g, i, none⟩ = some (.pointer (some ⟨p, 0, none⟩))) (cj : w.cell? ⟨g, j, none⟩ = some (.pointer (some ⟨q, 0, none⟩)))
    (hp : Row w p 106 #[k, .int .i64 a, .int .i64 t, .int .i64 m]) (hq : Row w q 106 #[l, .int .i64 b, .int .i64 u, .int .i64 o]) :
    Calls Try.prog 89 #[.slice (some ⟨g, 0, none⟩) n c, .int .i64 (i : Int), .int .i64 (j : Int)] w fun e w' => e = .returned (.bool (ltIt a t b u)) ∧ Below w.heap.size w w' := by
  have HP := Lib.hid hp
  have HQ := Lib.hid hq
  have HG := Lib.hid hg
  have HI := Lib.hid ci
  have HJ := Lib.hid cj
  have hc := fun W h1 h2 => compareS p q k l a t m b u o W h1 h2
  have i1 : (i : Int) < n := by omega
  have j1 : (j : Int) < n := by omega
  unfold ltIt
  generalize cmpIt a t b u = r at *
  have hlb : ∃ lb, lb = decide (r < 0) := ⟨_, rfl⟩
  obtain ⟨lb, hlb⟩ := hlb
  rw [← hlb]
  have HLB := Lib.hid hlb.symm
  have HC := Lib.hid hc
  clear hp hq hc hg ci cj hlb
  obtain ⟨W, hW⟩ : ∃ W, W = w := ⟨w, rfl⟩
  rw [← hW]
  rw [← hW] at HP HQ HG HI HJ
  clear hW w
  go_enter Try.func89, Try.ntmps89
  go_wp2_with fail
  refine region_mixt 10 [some (.slice (some ⟨g, 0, none⟩) n c), some (.int .i64 (i : Int)), some (.pointer (some ⟨g, i, none⟩)), some (.pointer (some ⟨p, 0, none⟩)), some (.slice (some ⟨g, 0, none⟩) n c), some (.int .i64 (j : Int)), some (.pointer (some ⟨g, j, none⟩)), some (.pointer (some ⟨q, 0, none⟩)), some (.int .i64 r), some (.bool lb)]
    [[false, false, false, false, false, false, false, false, false, false], [false, false, false, false, false, false, false, false, false, false], [true, true, false, false, false, false, false, false, false, false], [false, false, true, false, false, false, false, false, false, false], [false, false, false, false, false, false, false, false, false, false], [false, false, false, false, false, false, false, false, false, false], [false, false, false, false, true, true, false, false, false, false], [false, false, false, false, false, false, true, false, false, false], [false, false, false, true, false, false, false, true, false, false], [false, false, false, false, false, false, false, false, true, false]]
    (fun LL xx w9 => MxS W [] [] LL xx w9)
    (by kernel_rfl) (by kernel_rfl) (by kernel_rfl) (by kernel_rfl) (by kernel_rfl) (by decide) ?_ ?_ ?_
  · intro x
    exact MxS.start (by simp)
  · simp only [List.take_succ_cons, List.take_zero]
    refine ⟨?_, ?_, ?_, ?_, ?_, ?_, ?_, ?_, ?_, ?_, trivial⟩
    all_goals
      intro L x w9 hS hl hp K9 hK9
      have hs : MxS W [] [] L x w9 := hS
      clear hS
      replace hK9 := hK9.out
      simp only [actMix, pickV, List.tail_cons, List.headD_cons, Act.put, List.setIfInBounds_toArray, List.set_cons_zero, List.set_cons_succ] at hK9 ⊢
    · clear hp
      go_simp
      with_reducible refine hK9 _ ?_
      exact hs.next 0 _ (by simp [MxI])
    · clear hp
      go_simp
      with_reducible refine hK9 _ ?_
      exact hs.next 1 _ (by simp [MxI])
    · clear hp
      go_simp
      with_reducible refine hK9 _ ?_
      exact hs.next 2 _ (by simp [MxI])
    · clear hp
      have c0 : w9.cell? ⟨g, i, none⟩ = some (.pointer (some ⟨p, 0, none⟩)) := by rw [(bcell hs.bel0).1 _ _ HG.out]; exact HI.out
      go_simp
      with_reducible refine hK9 _ ?_
      exact hs.next 3 _ (by simp [MxI])
    · clear hp
      go_simp
      with_reducible refine hK9 _ ?_
      exact hs.next 4 _ (by simp [MxI])
    · clear hp
      go_simp
      with_reducible refine hK9 _ ?_
      exact hs.next 5 _ (by simp [MxI])
    · clear hp
      go_simp
      with_reducible refine hK9 _ ?_
      exact hs.next 6 _ (by simp [MxI])
    · clear hp
      have c0 : w9.cell? ⟨g, j, none⟩ = some (.pointer (some ⟨q, 0, none⟩)) := by rw [(bcell hs.bel0).1 _ _ HG.out]; exact HJ.out
      go_simp
      with_reducible refine hK9 _ ?_
      exact hs.next 7 _ (by simp [MxI])
    · clear hp
      go_simp
      refine (HC.out w9 (HP.out.below hs.bel0) (HQ.out.below hs.bel0)).mono ?_
      rintro e w8 ⟨rfl, hB8⟩
      go_simp
      with_reducible refine hK9 _ ?_
      exact (hs.below hB8).next 8 _ (by simp [MxI])
    · clear hp
      have hlb := HLB.out
      go_simp
      with_reducible refine hK9 _ ?_
      exact hs.next 9 _ (by simp [MxI])
  intro L x w9 hS hL
  have hs : MxS W [] [] L x w9 := hS
  clear hS
  simp only [actMix, pickV, List.tail_cons, List.headD_cons, Act.put, List.setIfInBounds_toArray, List.set_cons_zero, List.set_cons_succ, List.replicate_succ, List.replicate_zero, List.drop_succ_cons, List.drop_zero, List.take_succ_cons, List.take_zero]
  have HB9 := Lib.hid (hs.bel0)
  clear hs hL
  go_wp2_with fail
  go_ret
  exact ⟨rfl, HB9.out⟩
theorem lenN (g n c : Nat) (w : World) : Calls Try.prog 81 #[.slice (some ⟨g, 0, none⟩) n c] w fun e w' => e = .returned (.int .i64 (n : Int)) ∧ w' = w := by
  go_enter Try.func81, Try.ntmps81
  go_wp2_with fail
  go_ret
  exact ⟨rfl, rfl⟩
set_option maxRecDepth 100000 in
set_option maxHeartbeats 1000000 in
theorem lessN (g n c i j p q : Nat) (k l : Value) (a t m b u o : Int) (w : World) (hg : g < w.heap.size) (hi : i < n) (hj : j < n)
    (ci : w.cell? ⟨g, i, none⟩ = some (.pointer (some ⟨p, 0, none⟩))) (cj : w.cell? ⟨g, j, none⟩ = some (.pointer (some ⟨q, 0, none⟩)))
    (hp : Row w p 99 #[k, .int .i64 a, .int .i64 t, .int .i64 m]) (hq : Row w q 99 #[l, .int .i64 b, .int .i64 u, .int .i64 o]) :
    Calls Try.prog 82 #[.slice (some ⟨g, 0, none⟩) n c, .int .i64 (i : Int), .int .i64 (j : Int)] w fun e w' => e = .returned (.bool (ltIt a t b u)) ∧ Below w.heap.size w w' := by
  have HP := Lib.hid hp
  have HQ := Lib.hid hq
  have HG := Lib.hid hg
  have HI := Lib.hid ci
  have HJ := Lib.hid cj
  have hc := fun W h1 h2 => compareN p q k l a t m b u o W h1 h2
  have i1 : (i : Int) < n := by omega
  have j1 : (j : Int) < n := by omega
  unfold ltIt
  generalize cmpIt a t b u = r at *
  have hlb : ∃ lb, lb = decide (r < 0) := ⟨_, rfl⟩
  obtain ⟨lb, hlb⟩ := hlb
  rw [← hlb]
  have HLB := Lib.hid hlb.symm
  have HC := Lib.hid hc
  clear hp hq hc hg ci cj hlb
  obtain ⟨W, hW⟩ : ∃ W, W = w := ⟨w, rfl⟩
  rw [← hW]
  rw [← hW] at HP HQ HG HI HJ
  clear hW w
  go_enter Try.func82, Try.ntmps82
  go_wp2_with fail
  refine region_mixt 10 [some (.slice (some ⟨g, 0, none⟩) n c), some (.int .i64 (i : Int)), some (.pointer (some ⟨g, i, none⟩)), some (.pointer (some ⟨p, 0, none⟩)), some (.slice (some ⟨g, 0, none⟩) n c), some (.int .i64 (j : Int)), some (.pointer (some ⟨g, j, none⟩)), some (.pointer (some ⟨q, 0, none⟩)), some (.int .i64 r), some (.bool lb)]
    [[false, false, false, false, false, false, false, false, false, false], [false, false, false, false, false, false, false, false, false, false], [true, true, false, false, false, false, false, false, false, false], [false, false, true, false, false, false, false, false, false, false], [false, false, false, false, false, false, false, false, false, false], [false, false, false, false, false, false, false, false, false, false], [false, false, false, false, true, true, false, false, false, false], [false, false, false, false, false, false, true, false, false, false], [false, false, false, true, false, false, false, true, false, false], [false, false, false, false, false, false, false, false, true, false]]
    (fun LL xx w9 => MxS W [] [] LL xx w9)
    (by kernel_rfl) (by kernel_rfl) (by kernel_rfl) (by kernel_rfl) (by kernel_rfl) (by decide) ?_ ?_ ?_
  · intro x
    exact MxS.start (by simp)
  · simp only [List.take_succ_cons, List.take_zero]
    refine ⟨?_, ?_, ?_, ?_, ?_, ?_, ?_, ?_, ?_, ?_, trivial⟩
    all_goals
      intro L x w9 hS hl hp K9 hK9
      have hs : MxS W [] [] L x w9 := hS
      clear hS
      replace hK9 := hK9.out
      simp only [actMix, pickV, List.tail_cons, List.headD_cons, Act.put, List.setIfInBounds_toArray, List.set_cons_zero, List.set_cons_succ] at hK9 ⊢
    · clear hp
      go_simp
      with_reducible refine hK9 _ ?_
      exact hs.next 0 _ (by simp [MxI])
    · clear hp
      go_simp
      with_reducible refine hK9 _ ?_
      exact hs.next 1 _ (by simp [MxI])
    · clear hp
      go_simp
      with_reducible refine hK9 _ ?_
      exact hs.next 2 _ (by simp [MxI])
    · clear hp
      have c0 : w9.cell? ⟨g, i, none⟩ = some (.pointer (some ⟨p, 0, none⟩)) := by rw [(bcell hs.bel0).1 _ _ HG.out]; exact HI.out
      go_simp
      with_reducible refine hK9 _ ?_
      exact hs.next 3 _ (by simp [MxI])
    · clear hp
      go_simp
      with_reducible refine hK9 _ ?_
      exact hs.next 4 _ (by simp [MxI])
    · clear hp
      go_simp
      with_reducible refine hK9 _ ?_
      exact hs.next 5 _ (by simp [MxI])
    · clear hp
      go_simp
      with_reducible refine hK9 _ ?_
      exact hs.next 6 _ (by simp [MxI])
    · clear hp
      have c0 : w9.cell? ⟨g, j, none⟩ = some (.pointer (some ⟨q, 0, none⟩)) := by rw [(bcell hs.bel0).1 _ _ HG.out]; exact HJ.out
      go_simp
      with_reducible refine hK9 _ ?_
      exact hs.next 7 _ (by simp [MxI])
    · clear hp
      go_simp
      refine (HC.out w9 (HP.out.below hs.bel0) (HQ.out.below hs.bel0)).mono ?_
      rintro e w8 ⟨rfl, hB8⟩
      go_simp
      with_reducible refine hK9 _ ?_
      exact (hs.below hB8).next 8 _ (by simp [MxI])
    · clear hp
      have hlb := HLB.out
      go_simp
      with_reducible refine hK9 _ ?_
      exact hs.next 9 _ (by simp [MxI])
  intro L x w9 hS hL
  have hs : MxS W [] [] L x w9 := hS
  clear hS
  simp only [actMix, pickV, List.tail_cons, List.headD_cons, Act.put, List.setIfInBounds_toArray, List.set_cons_zero, List.set_cons_succ, List.replicate_succ, List.replicate_zero, List.drop_succ_cons, List.drop_zero, List.take_succ_cons, List.take_zero]
  have HB9 := Lib.hid (hs.bel0)
  clear hs hL
  go_wp2_with fail
  go_ret
  exact ⟨rfl, HB9.out⟩
end Go.Proofs.Ytcdgmhglpcokdaa
