/- The reference's agenda: Pop, Set (written by genagrb.py). -/
import Derived.Test.YtichkfbpmhpnaaaAhRa
namespace Go.Proofs.Ytichkfbpmhpnaaa
open Go.RowKit Go.Maps

set_option maxHeartbeats 1000000 in
theorem rpop20a (a : Option Addr) (c : Nat) (l : List RI) (hl : l.length ≤ 1100) (now : Int) (w : World) (h : IsRis w a c l) (hlt : ∀ x, l[0]? = some x → now < x.2) :
    Calls Try.prog 41 #[.slice a l.length c, .int .i64 now] w fun e w' => e = .returned (.tuple #[.slice a l.length c, .agg #[.string ⟨#[]⟩, .int .i64 0], .bool false]) ∧ Below w.heap.size w w' := by
  have HR := Lib.hid (Row.new w 94 #[.string ⟨#[]⟩, .int .i64 0])
  have HB := Lib.hid (below_alloc w (.cells #[.string ⟨#[]⟩, .int .i64 0] 94))
  by_cases h0 : l.length = 0
  · have hz : ((l.length : Int) == 0) = true := by simp [h0]
    obtain ⟨L, hL⟩ : ∃ L : Nat, l.length = L := ⟨_, rfl⟩
    rw [hL] at hz ⊢
    clear h h0 hL hlt hl
    go_enter Try.func41, Try.ntmps41
    go_wp2_with fail
    refine bodyPost_ret (v := .tuple #[.slice a L c, .agg #[.string ⟨#[]⟩, .int .i64 0], .bool false]) (by simp [results, Try.results41, go_sem]) rfl ?_
    exact ⟨rfl, HB.out⟩
  · have hz : ((l.length : Int) == 0) = false := beq_eq_false_iff_ne.2 (by omega)
    obtain hn | ⟨bk, oo, rfl, hbk, hcc, hcell⟩ := (h.below (below_alloc w (.cells #[.string ⟨#[]⟩, .int .i64 0] 94))).ris
    · subst hn; simp at h0
    have hg : l[0]? = some l[0] := by simp [show 0 < l.length by omega]
    obtain ⟨_, x1⟩ := hcell 0 l[0] hg
    have hd : decide (now < l[0].2) = true := decide_eq_true (hlt _ hg)
    obtain ⟨A, hA⟩ : ∃ A, l[0].2 = A := ⟨_, rfl⟩
    rw [hA] at x1 hd
    have hpo : (0 : Int) < (l.length : Int) := by omega
    simp only [Nat.zero_mul, Nat.add_zero] at x1
    obtain ⟨L, hL⟩ : ∃ L : Nat, l.length = L := ⟨_, rfl⟩
    rw [hL] at hz hpo ⊢
    clear h hL hlt hg hA hcell
    go_enter Try.func41, Try.ntmps41
    go_wp2_with fail
    refine bodyPost_ret (v := .tuple #[.slice (some ⟨bk, oo, none⟩) L c, .agg #[.string ⟨#[]⟩, .int .i64 0], .bool false]) (by simp [results, Try.results41, go_sem]) rfl ?_
    exact ⟨rfl, HB.out⟩
set_option maxHeartbeats 1000000 in
set_option maxRecDepth 100000 in
theorem rpop20b (a : Option Addr) (c : Nat) (x : RI) (l : List RI) (hl : l.length ≤ 1100) (now : Int) (w : World) (h : IsRis w a c (x :: l)) (hlt : x.2 ≤ now) :
    Calls Try.prog 41 #[.slice a (l.length + 1) c, .int .i64 now] w fun e w' => ∃ a' c', e = .returned (.tuple #[.slice a' l.length c', .agg #[.string x.1, .int .i64 x.2], .bool true]) ∧ IsRis w' a' c' l ∧ (∀ p, a' = some p → ∃ q, a = some q ∧ p.block = q.block) ∧ Below w.heap.size w w' := by
  obtain ⟨w1, hw1⟩ : ∃ w1, w.alloc (.cells #[.string ⟨#[]⟩, .int .i64 0] 94) = w1 := ⟨_, rfl⟩
  obtain ⟨rb, hrb⟩ : ∃ rb, w.heap.size = rb := ⟨_, rfl⟩
  have hb1 : Below w.heap.size w w1 := by rw [← hw1]; exact below_alloc _ _
  have hr1 : Row w1 rb 94 #[.string ⟨#[]⟩, .int .i64 0] := by rw [← hw1, ← hrb]; exact Row.new _ _ _
  have h1 := h.below hb1
  obtain hn | ⟨bk, oo, rfl, hbk, hcc, hcell⟩ := h1.ris
  · cases hn
  obtain ⟨x0, x1⟩ := hcell 0 x rfl
  have hz : ((l.length : Int) + 1 == 0) = false := beq_eq_false_iff_ne.2 (by omega)
  have hd : decide (now < x.2) = false := decide_eq_false (by omega)
  have hpo : (0 : Int) < (l.length : Int) + 1 := by omega
  have hc1 : l.length + 1 ≤ c := by simpa using hcc
  have q0 : w1.cell? ⟨rb, 0, none⟩ = some (.string ⟨#[]⟩) := hr1.cell 0
  have q1 : w1.cell? ⟨rb, 1, none⟩ = some (.int .i64 0) := hr1.cell 1
  have p0 := hr1.free 0
  have p1 := hr1.free 1
  obtain ⟨kx, ax⟩ := x
  simp only [Nat.zero_mul, Nat.add_zero] at x0 x1 hd ⊢
  have HCELL := Lib.hid hcell
  have HBK := Lib.hid (show bk < rb by rw [← hrb]; exact h.blk _ rfl)
  have HR1 := Lib.hid hr1
  have HB1 := Lib.hid hb1
  have HC1 := Lib.hid hc1
  obtain ⟨L, hL⟩ : ∃ L : Nat, l.length = L := ⟨_, rfl⟩
  have HL := Lib.hid hL
  rw [hL] at hz hpo hc1 ⊢
  have k1 : (1 : Int) ≤ (L : Int) + 1 := by omega
  have k2 : (L : Int) + 1 ≤ (c : Int) := by omega
  have k3 : (1 : Int) ≤ (c : Int) := by omega
  have k4 : (L : Int) + 1 - 1 = (L : Int) := by omega
  have k5 : ((c : Int) - 1).toNat = c - 1 := by omega
  clear h hb1 hr1 h1 hcell hcc hlt hL
  go_enter Try.func41, Try.ntmps41
  go_wp2_with fail
  refine region_tail 6 (by kernel_rfl) (by kernel_rfl) ?_
  simp only [List.take_succ_cons, List.take_zero, List.drop_succ_cons, List.drop_zero]
  repeat still_step
  refine still_tail_nil ?_
  go_wp2_with fail
  all_goals
    have hr5 := ((HR1.out.put 0 (.string kx)).put 1 (.int .i64 ax)).drew
    have hk5 : Keep (fun k => k = rb) w1 ((w1.setCell ⟨rb, 0, none⟩ (.string kx)).setCell ⟨rb, 1, none⟩ (.int .i64 ax)).drew := ((Keep.setCell (G := fun k => k = rb) w1 (p := ⟨rb, 0, none⟩) rfl _).trans (Keep.setCell (G := fun k => k = rb) _ (p := ⟨rb, 1, none⟩) rfl _)).trans (Keep.drew _)
    generalize ((w1.setCell ⟨rb, 0, none⟩ (.string kx)).setCell ⟨rb, 1, none⟩ (.int .i64 ax)).drew = w5 at hr5 hk5 ⊢
    have c0 : w5.cell? ⟨rb, 0, none⟩ = some (.string kx) := hr5.cell 0
    have c1 : w5.cell? ⟨rb, 1, none⟩ = some (.int .i64 ax) := hr5.cell 1
    have hbl : Below rb w w5 := by
      have h1 := HB1.out
      rw [hrb] at h1
      exact h1.trans (hk5.bel (fun k e => by rw [e]; exact Nat.le_refl _) (by rw [← hrb]; exact h1.size))
  · refine bodyPost_ret (v := .tuple #[_, .agg #[.string kx, .int .i64 ax], .bool true]) (by simp [results, Try.results41, go_sem, c0, c1]; rfl) rfl ?_
    have hl0 : l = [] := List.eq_nil_of_length_eq_zero (by have := HL.out; omega)
    subst hl0
    exact ⟨_, _, rfl, ⟨.inl rfl, fun e => (by cases e), fun p hp => by injection hp with hp; subst hp; exact Nat.lt_of_lt_of_le hbk hk5.size⟩, fun p hp => by injection hp with hp; subst hp; rfl, hbl⟩
  · refine bodyPost_ret (v := .tuple #[.slice (some ⟨bk, oo + 2, none⟩) L (c - 1), .agg #[.string kx, .int .i64 ax], .bool true]) (by simp [results, Try.results41, go_sem, c0, c1]) rfl ?_
    refine ⟨_, _, rfl, ⟨.inr ⟨bk, oo + 2, rfl, Nat.lt_of_lt_of_le hbk hk5.size, by have := HL.out; omega, fun j b hj => ?_⟩, fun e => (by cases e), fun p hp => by injection hp with hp; subst hp; exact Nat.lt_of_lt_of_le hbk hk5.size⟩, fun p hp => by injection hp with hp; subst hp; rfl, hbl⟩
    obtain ⟨y0, y1⟩ := HCELL.out (j + 1) b (by simpa using hj)
    have hne : ¬ bk = rb := by have := HBK.out; omega
    rw [keep_cellA hk5 hbk hne, keep_cellA hk5 hbk hne]
    rw [show oo + 2 + j * 2 = oo + (j + 1) * 2 by omega]
    exact ⟨y0, y1⟩
end Go.Proofs.Ytichkfbpmhpnaaa
