/- probe: limited, oneMore, New, good, bad, Clip, Result; the reference's Clip and Result. -/
import Derived.Test.YtklfpnnnoaaiaaaPoM
import Derived.Test.YtklfpnnnoaaiaaaMx
import Derived.IntWalk
import Derived.OwnWalk
import Derived.Deep.MidRow
import Derived.BigQuiet
namespace Go.Proofs.Ytklfpnnnoaaiaaa
open Go.RowKit

theorem limitedC (x m : Int) (w : World) : Calls Try.prog 42 #[.int .i64 x, .int .i64 m] w fun e w' => e = .returned (.int .i64 (limN x m)) ∧ w' = w := by
  unfold limN
  obtain ⟨u, hu⟩ : ∃ u, u = max x 1 := ⟨_, rfl⟩
  rw [← hu]
  obtain ⟨v, hv⟩ : ∃ v, v = min u m := ⟨_, rfl⟩
  rw [← hv]
  have p1 : (if x < (1 : Int) then 1 else x) = u := by split <;> omega
  have p2 : (if m < u then m else u) = v := by split <;> omega
  clear hu hv
  go_enter Try.func42, Try.ntmps42
  go_wp2_with fail
  go_ret
  exact ⟨rfl, rfl⟩
theorem oneMoreC (x : Int) (w : World) : Calls Try.prog 53 #[.int .i64 x] w fun e w' => e = .returned (.int .i64 (min (max x 0) 1000 + 1)) ∧ w' = w := by
  obtain ⟨u, hu⟩ : ∃ u, u = max x 0 := ⟨_, rfl⟩
  rw [← hu]
  obtain ⟨v, hv⟩ : ∃ v, v = min u 1000 := ⟨_, rfl⟩
  rw [← hv]
  have p1 : (if x < (0 : Int) then 0 else x) = u := by split <;> omega
  have p2 : (if (1000 : Int) < u then 1000 else u) = v := by split <;> omega
  have b1 : 0 ≤ v := by omega
  have b2 : v ≤ 1000 := by omega
  clear hu hv
  go_enter Try.func53, Try.ntmps53
  go_wp2_with fail
  go_ret
  exact ⟨rfl, rfl⟩
theorem below_a2 (w : World) (a b : Obj) : Below w.heap.size w ((w.alloc a).alloc b) := (below_alloc w a).alloc (by simp) b
theorem below_a3 (w : World) (a b c : Obj) : Below w.heap.size w (((w.alloc a).alloc b).alloc c) := (below_a2 w a b).alloc (by simp; omega) c
theorem newC (up : Bool) (now : Int) (w : World) : Calls Try.prog 22 #[.bool up, .int .i64 now] w fun e w' => e = .returned (.agg #[.bool up, .int .i64 0, .int .i64 0, .int .i64 now]) ∧ w' = w.alloc (.cells #[.bool up, .int .i64 0, .int .i64 0, .int .i64 now] 45) := by
  go_enter Try.func22, Try.ntmps22
  go_wp2_with fail
  refine bodyPost_ret (v := .agg #[.bool up, .int .i64 0, .int .i64 0, .int .i64 now]) (by simp [results, Try.results22, go_sem]) rfl ⟨rfl, rfl⟩
/-- The value of a probe and of whether it has changed. -/
def prbV (p : Prb) : Value := .agg #[.bool p.up, .int .i64 p.g, .int .i64 p.b, .int .i64 p.s]
def resV (r : Prb × Bool) : Value := .tuple #[.agg #[.bool r.1.up, .int .i64 r.1.g, .int .i64 r.1.b, .int .i64 r.1.s], .bool r.2]
theorem one1_lt {x m : Int} (hm : m ≤ 1000) : (min (max x 0) 1000 + 1 < m ↔ one1 x < m) ∧ (one1 x < m → min (max x 0) 1000 + 1 = one1 x) := by unfold one1; omega
set_option maxHeartbeats 1000000 in
theorem goodC (p : Prb) (rise now : Int) (hr : rise ≤ 1000) (w : World) : Calls Try.prog 40 #[prbV p, .int .i64 rise, .int .i64 now] w fun e w' => e = .returned (resV (resG p rise now)) ∧ Below w.heap.size w w' := by
  obtain ⟨up, g, b, s⟩ := p
  unfold prbV resG resV
  cases up with
  | true =>
    simp only [if_true]
    go_enter Try.func40, Try.ntmps40
    go_wp2_with fail
    refine bodyPost_ret (v := .tuple #[.agg #[.bool true, .int .i64 g, .int .i64 0, .int .i64 s], .bool false]) (by simp [results, Try.results40, go_sem]) rfl ⟨rfl, below_a2 _ _ _⟩
  | false =>
    have h1 := one1_lt (x := g) hr
    have hO := oneMoreC g
    generalize min (max g 0) 1000 + 1 = m at *
    simp only [Bool.false_eq_true, if_false]
    by_cases hl : one1 g < rise
    · rw [if_pos hl]
      obtain rfl : m = one1 g := h1.2 hl
      generalize one1 g = m at *
      clear h1
      go_enter Try.func40, Try.ntmps40
      go_wp2_with fail
      refine (hO _).mono ?_
      rintro e w' ⟨rfl, hw⟩
      subst w'
      go_wp2_with fail
      refine bodyPost_ret (v := .tuple #[.agg #[.bool false, .int .i64 m, .int .i64 0, .int .i64 s], .bool false]) (by simp [results, Try.results40, go_sem]) rfl ⟨rfl, below_a2 _ _ _⟩
    · rw [if_neg hl]
      have hl2 : ¬ m < rise := fun h => hl (h1.1.1 h)
      clear h1 hl
      go_enter Try.func40, Try.ntmps40
      go_wp2_with fail
      refine (hO _).mono ?_
      rintro e w' ⟨rfl, hw⟩
      subst w'
      go_wp2_with fail
      refine (newC true now _).mono ?_
      rintro e w' ⟨rfl, hw⟩
      subst w'
      go_wp2_with fail
      refine bodyPost_ret (v := .tuple #[.agg #[.bool true, .int .i64 0, .int .i64 0, .int .i64 now], .bool true]) (by simp [results, Try.results40, go_sem]) rfl ⟨rfl, ?_⟩
      first
        | exact below_a3 _ _ _ _
        | exact ((below_a3 _ _ _ _).setCell (by simp) _)
set_option maxHeartbeats 1000000 in
theorem badC (p : Prb) (fall now : Int) (hr : fall ≤ 1000) (w : World) : Calls Try.prog 41 #[prbV p, .int .i64 fall, .int .i64 now] w fun e w' => e = .returned (resV (resB p fall now)) ∧ Below w.heap.size w w' := by
  obtain ⟨up, g, b, s⟩ := p
  unfold prbV resB resV
  cases up with
  | false =>
    simp only [Bool.false_eq_true, if_false]
    go_enter Try.func41, Try.ntmps41
    go_wp2_with fail
    refine bodyPost_ret (v := .tuple #[.agg #[.bool false, .int .i64 0, .int .i64 b, .int .i64 s], .bool false]) (by simp [results, Try.results41, go_sem]) rfl ⟨rfl, below_a2 _ _ _⟩
  | true =>
    have h1 := one1_lt (x := b) hr
    have hO := oneMoreC b
    generalize min (max b 0) 1000 + 1 = m at *
    simp only [if_true]
    by_cases hl : one1 b < fall
    · rw [if_pos hl]
      obtain rfl : m = one1 b := h1.2 hl
      generalize one1 b = m at *
      clear h1
      go_enter Try.func41, Try.ntmps41
      go_wp2_with fail
      refine (hO _).mono ?_
      rintro e w' ⟨rfl, hw⟩
      subst w'
      go_wp2_with fail
      refine bodyPost_ret (v := .tuple #[.agg #[.bool true, .int .i64 0, .int .i64 m, .int .i64 s], .bool false]) (by simp [results, Try.results41, go_sem]) rfl ⟨rfl, below_a2 _ _ _⟩
    · rw [if_neg hl]
      have hl2 : ¬ m < fall := fun h => hl (h1.1.1 h)
      clear h1 hl
      go_enter Try.func41, Try.ntmps41
      go_wp2_with fail
      refine (hO _).mono ?_
      rintro e w' ⟨rfl, hw⟩
      subst w'
      go_wp2_with fail
      refine (newC false now _).mono ?_
      rintro e w' ⟨rfl, hw⟩
      subst w'
      go_wp2_with fail
      refine bodyPost_ret (v := .tuple #[.agg #[.bool false, .int .i64 0, .int .i64 0, .int .i64 now], .bool true]) (by simp [results, Try.results41, go_sem]) rfl ⟨rfl, ?_⟩
      first
        | exact below_a3 _ _ _ _
        | exact ((below_a3 _ _ _ _).setCell (by simp) _)
/-- A configuration, and as it counts. -/
structure Cfg where
  e : Int
  w : Int
  r : Int
  f : Int
def cfgV (c : Cfg) : Value := .agg #[.int .i64 c.e, .int .i64 c.w, .int .i64 c.r, .int .i64 c.f]
def clipC (c : Cfg) : Cfg := ⟨limN c.e 1048576, limN c.w 1048576, limN c.r 1000, limN c.f 1000⟩
theorem infoCf : (Try.prog.info? 48).map (·.size) = some 4 := by kernel_rfl
theorem infoPb : (Try.prog.info? 45).map (·.size) = some 4 := by kernel_rfl
set_option maxRecDepth 100000 in
set_option maxHeartbeats 1000000 in
theorem clipP (c : Cfg) (w : World) : Calls Try.prog 20 #[cfgV c] w fun e w' => e = .returned (cfgV (clipC c)) ∧ Below w.heap.size w w' := by
  obtain ⟨e, wt, r, f⟩ := c
  unfold cfgV clipC
  have h1 := limitedC e 1048576
  have h2 := limitedC wt 1048576
  have h3 := limitedC r 1000
  have h4 := limitedC f 1000
  simp only
  generalize limN e 1048576 = e' at *
  generalize limN wt 1048576 = w' at *
  generalize limN r 1000 = r' at *
  generalize limN f 1000 = f' at *
  have HB := Lib.hid (below_a2 w (.cells #[.int .i64 e, .int .i64 wt, .int .i64 r, .int .i64 f] 48) (.cells #[.int .i64 0, .int .i64 0, .int .i64 0, .int .i64 0] 48))
  have HR1 := Lib.hid ((Row.new w 48 #[.int .i64 e, .int .i64 wt, .int .i64 r, .int .i64 f]).alloc (.cells #[.int .i64 0, .int .i64 0, .int .i64 0, .int .i64 0] 48))
  have hr2 := Row.new (w.alloc (.cells #[.int .i64 e, .int .i64 wt, .int .i64 r, .int .i64 f] 48)) 48 #[.int .i64 0, .int .i64 0, .int .i64 0, .int .i64 0]
  rw [World.size_alloc] at hr2
  have HR2 := Lib.hid hr2
  clear hr2
  go_enter Try.func20, Try.ntmps20
  go_wp2_with fail
  generalize (w.alloc (.cells #[.int .i64 e, .int .i64 wt, .int .i64 r, .int .i64 f] 48)).alloc (.cells #[.int .i64 0, .int .i64 0, .int .i64 0, .int .i64 0] 48) = W at *
  refine region_mixt 13 [some (.pointer (some ⟨w.heap.size, 0, none⟩)), some (.int .i64 e), some (.int .i64 e'), some (.pointer (some ⟨w.heap.size, 1, none⟩)), some (.int .i64 wt), some (.int .i64 w'), some (.pointer (some ⟨w.heap.size, 2, none⟩)), some (.int .i64 r), some (.int .i64 r'), some (.pointer (some ⟨w.heap.size, 3, none⟩)), some (.int .i64 f), some (.int .i64 f'), some (.agg #[.int .i64 e', .int .i64 w', .int .i64 r', .int .i64 f'])]
    [[false, false, false, false, false, false, false, false, false, false, false, false, false], [true, false, false, false, false, false, false, false, false, false, false, false, false], [false, true, false, false, false, false, false, false, false, false, false, false, false], [false, false, false, false, false, false, false, false, false, false, false, false, false], [false, false, false, true, false, false, false, false, false, false, false, false, false], [false, false, true, false, true, false, false, false, false, false, false, false, false], [false, false, false, false, false, false, false, false, false, false, false, false, false], [false, false, false, false, false, false, true, false, false, false, false, false, false], [false, false, false, false, false, true, false, true, false, false, false, false, false], [false, false, false, false, false, false, false, false, false, false, false, false, false], [false, false, false, false, false, false, false, false, false, true, false, false, false], [false, false, false, false, false, false, false, false, true, false, true, false, false], [false, false, true, false, false, true, false, false, true, false, false, true, false]]
    (fun LL xx w9 => MxS W [] [] LL xx w9)
    (by kernel_rfl) (by kernel_rfl) (by kernel_rfl) (by kernel_rfl) (by kernel_rfl) (by decide) ?_ ?_ ?_
  · intro x
    exact MxS.start (by simp)
  · simp only [List.take_succ_cons, List.take_zero]
    refine ⟨?_, ?_, ?_, ?_, ?_, ?_, ?_, ?_, ?_, ?_, ?_, ?_, ?_, trivial⟩
    all_goals
      intro L x w9 hS hl hp K9 hK9
      have hs : MxS W [] [] L x w9 := hS
      clear hS
      replace hK9 := hK9.out
      simp only [actMix, pickV, List.tail_cons, List.headD_cons, Act.put, List.setIfInBounds_toArray, List.set_cons_zero, List.set_cons_succ] at hK9 ⊢
    · clear hp
      go_simp
      with_reducible refine hK9 _ ?_
      exact hs.next 0 _ (by simp [MxI])
    · clear hp
      have c0 : w9.cell? ⟨w.heap.size, 0, none⟩ = some (.int .i64 e) := by rw [(hs.row HR1.out (by simp)).cell]; rfl
      go_simp
      with_reducible refine hK9 _ ?_
      exact hs.next 1 _ (by simp [MxI])
    · clear hp
      go_simp
      refine (h1 _).mono ?_
      rintro e w8 ⟨rfl, hB8⟩
      subst w8
      go_simp
      with_reducible refine hK9 _ ?_
      exact hs.next 2 _ (by simp [MxI])
    · clear hp
      go_simp
      with_reducible refine hK9 _ ?_
      exact hs.next 3 _ (by simp [MxI])
    · clear hp
      have c0 : w9.cell? ⟨w.heap.size, 1, none⟩ = some (.int .i64 wt) := by rw [(hs.row HR1.out (by simp)).cell]; rfl
      go_simp
      with_reducible refine hK9 _ ?_
      exact hs.next 4 _ (by simp [MxI])
    · clear hp
      go_simp
      refine (h2 _).mono ?_
      rintro e w8 ⟨rfl, hB8⟩
      subst w8
      go_simp
      with_reducible refine hK9 _ ?_
      exact hs.next 5 _ (by simp [MxI])
    · clear hp
      go_simp
      with_reducible refine hK9 _ ?_
      exact hs.next 6 _ (by simp [MxI])
    · clear hp
      have c0 : w9.cell? ⟨w.heap.size, 2, none⟩ = some (.int .i64 r) := by rw [(hs.row HR1.out (by simp)).cell]; rfl
      go_simp
      with_reducible refine hK9 _ ?_
      exact hs.next 7 _ (by simp [MxI])
    · clear hp
      go_simp
      refine (h3 _).mono ?_
      rintro e w8 ⟨rfl, hB8⟩
      subst w8
      go_simp
      with_reducible refine hK9 _ ?_
      exact hs.next 8 _ (by simp [MxI])
    · clear hp
      go_simp
      with_reducible refine hK9 _ ?_
      exact hs.next 9 _ (by simp [MxI])
    · clear hp
      have c0 : w9.cell? ⟨w.heap.size, 3, none⟩ = some (.int .i64 f) := by rw [(hs.row HR1.out (by simp)).cell]; rfl
      go_simp
      with_reducible refine hK9 _ ?_
      exact hs.next 10 _ (by simp [MxI])
    · clear hp
      go_simp
      refine (h4 _).mono ?_
      rintro e w8 ⟨rfl, hB8⟩
      subst w8
      go_simp
      with_reducible refine hK9 _ ?_
      exact hs.next 11 _ (by simp [MxI])
    · clear hp
      go_simp
      with_reducible refine hK9 _ ?_
      exact hs.next 12 _ (by simp [MxI])
  intro L x w9 hS hL
  have hs : MxS W [] [] L x w9 := hS
  clear hS
  simp only [actMix, pickV, List.tail_cons, List.headD_cons, Act.put, List.setIfInBounds_toArray, List.set_cons_zero, List.set_cons_succ, List.replicate_succ, List.replicate_zero, List.drop_succ_cons, List.drop_zero, List.take_succ_cons, List.take_zero]
  have HB9 := Lib.hid (HB.out.trans (hs.bel0.mono HB.out.size))
  have HR9 := Lib.hid (hs.row HR2.out (by simp))
  clear hs hL HR1 HR2 HB h1 h2 h3 h4
  refine wpList_store_row rfl 48 _ _ rfl (w.heap.size + 1) #[.int .i64 e', .int .i64 w', .int .i64 r', .int .i64 f'] rfl rfl 48 #[.int .i64 0, .int .i64 0, .int .i64 0, .int .i64 0] HR9.out infoCf rfl (by simp [Value.oneCell']) ?_
  go_wp2_with fail
  have hq := HR9.out.over2 (cs' := #[.int .i64 e', .int .i64 w', .int .i64 r', .int .i64 f'])
  have q0 : (w9.setRow (w.heap.size + 1) #[.int .i64 e', .int .i64 w', .int .i64 r', .int .i64 f']).cell? ⟨w.heap.size + 1, 0, none⟩ = some (.int .i64 e') := by rw [hq.cell]; rfl
  have q1 : (w9.setRow (w.heap.size + 1) #[.int .i64 e', .int .i64 w', .int .i64 r', .int .i64 f']).cell? ⟨w.heap.size + 1, 1, none⟩ = some (.int .i64 w') := by rw [hq.cell]; rfl
  have q2 : (w9.setRow (w.heap.size + 1) #[.int .i64 e', .int .i64 w', .int .i64 r', .int .i64 f']).cell? ⟨w.heap.size + 1, 2, none⟩ = some (.int .i64 r') := by rw [hq.cell]; rfl
  have q3 : (w9.setRow (w.heap.size + 1) #[.int .i64 e', .int .i64 w', .int .i64 r', .int .i64 f']).cell? ⟨w.heap.size + 1, 3, none⟩ = some (.int .i64 f') := by rw [hq.cell]; rfl
  refine bodyPost_ret (v := .agg #[.int .i64 e', .int .i64 w', .int .i64 r', .int .i64 f']) (by simp [results, Try.results20, go_sem, q0, q1, q2, q3]) rfl ⟨rfl, ?_⟩
  exact HB9.out.trans ⟨rfl, rfl, rfl, by simp, fun k hk => setRow_other _ _ _ _ (by omega)⟩
end Go.Proofs.Ytklfpnnnoaaiaaa
