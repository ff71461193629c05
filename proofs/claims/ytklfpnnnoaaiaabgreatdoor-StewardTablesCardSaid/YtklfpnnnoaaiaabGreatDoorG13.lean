/- ring: around, Pick. -/
import Derived.Test.YtklfpnnnoaaiaabGreatDoorG12
namespace Go.Proofs.YtklfpnnnoaaiaabGreatDoor
open Go.RowKit Go.Shelf

attribute [local go_sem] Oper.semAt_some

/-- (*Ring).around: the ring and the number are boxed; the function value captures the boxes. -/
theorem around55 (p : Option Addr) (x : Nat) (n : Nat) (w : World) :
    CallsIn Fence.wide n Tryz.prog 37 #[.pointer p, .int .u64 (x : Nat)] w fun e w' => e = .returned (.func (.func 53) #[] #[.pointer (some ⟨w.heap.size, 0, none⟩), .pointer (some ⟨w.heap.size + 1, 0, none⟩)]) ∧ w' = (w.alloc (.cells #[.pointer p] 40)).alloc (.cells #[.int .u64 (x : Nat)] 23) := by
  refine callsIn_of_wp Tryz.func37 rfl trivial ?_ rfl
  simp only [Tryz.ntmps37, List.size_toArray, List.length_cons, List.length_nil, Nat.reduceAdd, Nat.reduceSub, Array.replicate_succ, Array.replicate_zero, List.push_toArray, List.append_toArray, List.nil_append, List.cons_append]
  gi_wp2
  go_ret
  exact ⟨rfl, rfl⟩
theorem around_stops (n : Nat) (hn : 1 ≤ n) (B1 B2 rb nn : Nat) (ps : List Pt) (hl : ps.length ≤ 100000) (hr : Rise ps) (x : Nat) (w0 : World) (hRg : RingAt w0 rb ps nn) (w : World) (hw : Below w0.heap.size w0 w) (hb1 : B1 < w.heap.size) (hb2 : B2 < w.heap.size)
    (hB1 : w.cell? ⟨B1, 0, none⟩ = some (.pointer (some ⟨rb, 0, none⟩))) (hB2 : w.cell? ⟨B2, 0, none⟩ = some (.int .u64 (x : Nat))) :
    SeqStopsK Fence.wide n Tryz.prog 53 #[.pointer (some ⟨B1, 0, none⟩), .pointer (some ⟨B2, 0, none⟩)] (fun p : Pt => #[ptVal p]) (KpR w0.heap.size B1) (fun ys => ∃ st, LowAt ps x st ∧ ys = arL ps st) (fun pre => ∃ st k, LowAt ps x st ∧ k ≤ ps.length ∧ pre = (arL ps st).take k) ps.length w := fun l J Jx W hW hJ _ hY h0 => by
  refine (around1_in n hn l B1 B2 rb nn ps hl hr x w0 hRg J Jx (fun pre p W h1 h2 _ => hY pre p W h1 h2) W (hw.trans (hW.mono hw.size)) hJ ((hW.cell (p := ⟨B1, 0, none⟩) hb1).trans hB1) ((hW.cell (p := ⟨B2, 0, none⟩) hb2).trans hB2) (Nat.lt_of_lt_of_le hb1 hW.size) h0).mono ?_
  rintro e W' ⟨he, st, hst, hj | ⟨k, hk, hj⟩⟩
  · exact ⟨he, .inl ⟨_, ⟨st, hst, rfl⟩, hj⟩⟩
  · exact ⟨he, .inr ⟨_, ⟨st, k, hst, hk, rfl⟩, hj⟩⟩
/-- The same, where it is known that each point is one of the ring's. -/
theorem around_stopsS (n : Nat) (hn : 1 ≤ n) (B1 B2 rb nn : Nat) (ps : List Pt) (hl : ps.length ≤ 100000) (hr : Rise ps) (x : Nat) (w0 : World) (hRg : RingAt w0 rb ps nn) (w : World) (hw : Below w0.heap.size w0 w) (hb1 : B1 < w.heap.size) (hb2 : B2 < w.heap.size)
    (hB1 : w.cell? ⟨B1, 0, none⟩ = some (.pointer (some ⟨rb, 0, none⟩))) (hB2 : w.cell? ⟨B2, 0, none⟩ = some (.int .u64 (x : Nat))) :
    SeqStopsK Fence.wide n Tryz.prog 53 #[.pointer (some ⟨B1, 0, none⟩), .pointer (some ⟨B2, 0, none⟩)] (fun p : { p : Pt // p ∈ ps } => #[ptVal p.1]) (KpR w0.heap.size B1) (fun ys => ∃ st, LowAt ps x st ∧ ys.map (·.1) = arL ps st) (fun pre => ∃ st k, LowAt ps x st ∧ k ≤ ps.length ∧ pre.map (·.1) = (arL ps st).take k) ps.length w := fun l J Jx W hW hJ hJx hY h0 => by
  refine (around1_in n hn l B1 B2 rb nn ps hl hr x w0 hRg (fun m W => ∃ m' : List { p : Pt // p ∈ ps }, m'.map (·.1) = m ∧ J m' W) (fun m W => ∃ m' : List { p : Pt // p ∈ ps }, m'.map (·.1) = m ∧ Jx m' W) ?_ W (hw.trans (hW.mono hw.size)) ?_ ((hW.cell (p := ⟨B1, 0, none⟩) hb1).trans hB1) ((hW.cell (p := ⟨B2, 0, none⟩) hb2).trans hB2) (Nat.lt_of_lt_of_le hb1 hW.size) ⟨[], rfl, h0⟩).mono ?_
  · rintro pre p W1 ⟨m', rfl, hj⟩ hlt hmem
    obtain ⟨fn, tmps, assign, body, hy, hR⟩ := hY m' ⟨p, hmem⟩ W1 hj (by simpa using hlt)
    refine ⟨fn, tmps, assign, body, hy, hR.mono ?_⟩
    rintro e W' (⟨h1, h2, h3⟩ | ⟨h1, h2⟩)
    · exact .inl ⟨h1, ⟨_, by simp, h2⟩, h3⟩
    · exact .inr ⟨h1, ⟨_, by simp, h2⟩⟩
  · rintro s A B row ⟨m', h1, h2⟩ hg hrr
    exact ⟨m', h1, hJ m' A B row h2 hg hrr⟩
  · rintro e W' ⟨he, st, hst, ⟨m', h1, hj⟩ | ⟨k, hk, m', h1, hj⟩⟩
    · exact ⟨he, .inl ⟨m', ⟨st, hst, h1⟩, hj⟩⟩
    · exact ⟨he, .inr ⟨m', ⟨st, k, hst, hk, h1⟩, hj⟩⟩
theorem kpR_b {n0 B1 : Nat} {w : World} (hn : n0 ≤ w.heap.size) (hb : B1 < w.heap.size) (W : World) (l : Nat) (o o' : Obj) (hl : w.heap.size ≤ l) (h : W.heap[l]? = some o) (hc : o.isCells = false) (hk : o.isWalk = false) : KpR n0 B1 W (W.putObj l o') := by
  refine ⟨belowK_b hn W l o o' hl h hc hk, ?_⟩
  exact (grownBy_putObj' W l o').block B1 (by have := (Array.getElem?_eq_some_iff.1 h).1; omega) (by intro e; injection e with e; omega)
/-- The name for a number. -/
def pickP (ps : List Pt) (st : Nat) : ByteArray := ((arL ps st).head?.map (·.2)).getD ⟨#[]⟩
set_option maxRecDepth 100000 in
set_option maxHeartbeats 4000000 in
theorem pick34_in (n : Nat) (hn : 3 ≤ n) (rb nn : Nat) (ps : List Pt) (hl : ps.length ≤ 100000) (hr : Rise ps) (x : Nat) (w : World) (hRg : RingAt w rb ps nn) :
    CallsIn Fence.wide n Tryz.prog 20 #[.pointer (some ⟨rb, 0, none⟩), .int .u64 (x : Nat)] w fun e w' => ∃ st, LowAt ps x st ∧ e = .returned (.string (pickP ps st)) ∧ Below w.heap.size w w' := by
  have h1 : 1 ≤ n := by omega
  refine callsIn_of_wp_marks Tryz.func20 rfl trivial ?_ rfl
  simp only [Tryz.ntmps20, List.size_toArray, List.length_cons, List.length_nil, Nat.reduceAdd, Nat.reduceSub, Array.replicate_succ, Array.replicate_zero, List.push_toArray, List.append_toArray, List.nil_append, List.cons_append]
  gi_wp2_with fail
  refine ⟨trivial, (around55 _ _ _ _).mono ?_⟩
  rintro e w' ⟨rfl, rfl⟩
  gi_wp2_with fail
  have bR := Boxed.new w 9 (.string ⟨#[]⟩)
  have bA := Boxed.new (w.alloc (.cells #[.string ⟨#[]⟩] 9)) 40 (.pointer (some ⟨rb, 0, none⟩))
  have bB := Boxed.new ((w.alloc (.cells #[.string ⟨#[]⟩] 9)).alloc (.cells #[.pointer (some ⟨rb, 0, none⟩)] 40)) 23 (.int .u64 (x : Nat))
  rw [World.size_alloc] at bA
  rw [World.size_alloc, World.size_alloc] at bB
  have hB0 : Below w.heap.size w (((w.alloc (.cells #[.string ⟨#[]⟩] 9)).alloc (.cells #[.pointer (some ⟨rb, 0, none⟩)] 40)).alloc (.cells #[.int .u64 (x : Nat)] 23)) := (((Below.refl _ w).alloc (Nat.le_refl _) _).alloc (by simp) _).alloc (by simp; omega) _
  have bR3 := (bR.alloc (.cells #[.pointer (some ⟨rb, 0, none⟩)] 40)).alloc (.cells #[.int .u64 (x : Nat)] 23)
  have bA3 := bA.alloc (.cells #[.int .u64 (x : Nat)] 23)
  refine wpIn_rangeFunc_ownH rfl h1 (gf := 53) (lb := #[.pointer (some ⟨w.heap.size + 1, 0, none⟩), .pointer (some ⟨w.heap.size + 1 + 1, 0, none⟩)]) rfl trivial (enters_of Tryz.func53 (by kernel_rfl) rfl)
    (around_stops (n - 1) (by omega) (w.heap.size + 1) (w.heap.size + 1 + 1) rb nn ps hl hr x w hRg _ hB0 (by simp) (by simp) bA3.cell bB.cell) KpR.trans (kpR_b (by simp; omega) (by simp)) (Below.refl _ _) (fun _ => rfl)
    (fun pre W => (pre = [] ∧ Boxed W w.heap.size 9 (.string ⟨#[]⟩) ∧ Boxed W (w.heap.size + 1) 40 (.pointer (some ⟨rb, 0, none⟩))) ∧ Below w.heap.size w W)
    (fun c pre W => (c = .ret ∧ ∃ p : Pt, pre = [p] ∧ Boxed W w.heap.size 9 (.string p.2)) ∧ Below w.heap.size w W)
    (OwnFrom.and (Own.from (fun s A B row hs hg hr => ⟨hs.1, (boxed_own (β := Unit) w.heap.size 9 (fun _ => .string ⟨#[]⟩)) () A B row hs.2.1 hg hr, (boxed_own (β := Unit) (w.heap.size + 1) 40 (fun _ => .pointer (some ⟨rb, 0, none⟩))) () A B row hs.2.2 hg hr⟩) _) (ownFrom_below (Nat.le_refl _) (by simp; omega)))
    (fun c => OwnFrom.and (Own.from (fun s A B row hs hg hr => by obtain ⟨hc, p, e1, e2⟩ := hs; exact ⟨hc, p, e1, (boxed_own (β := Unit) w.heap.size 9 (fun _ => .string p.2)) () A B row e2 hg hr⟩) _) (ownFrom_below (Nat.le_refl _) (by simp; omega)))
    ⟨⟨rfl, bR3, bA3⟩, hB0⟩
    (fun p a' W => ∃ Bx, w.heap.size < Bx ∧ W.heap[Bx]? = some (.cells #[.int .u64 (p.1 : Nat), .string p.2] 75 (0, 0)) ∧ a' = { tmps := #[.pointer (some ⟨rb, 0, none⟩), .int .u64 (x : Nat), undef, undef, .pointer (some ⟨w.heap.size, 0, none⟩), .pointer (some ⟨Bx, 0, none⟩), .pointer (some ⟨rb, 0, none⟩), .int .u64 (x : Nat), .func (.func 53) #[] #[.pointer (some ⟨w.heap.size + 1, 0, none⟩), .pointer (some ⟨w.heap.size + 1 + 1, 0, none⟩)], ptVal p, undef, undef], defers := [] })
    (fun p a' => fun s A B row hs hg hr => by
      obtain ⟨Bx, h1, h2, h3⟩ := hs
      exact ⟨Bx, h1, (cells_own (β := Unit) Bx _ _).from _ () A B row h2 hg hr, h3⟩) ?assign ?body ?done ?stop
  case assign =>
    rintro l pre ⟨v, N⟩ W K ⟨⟨hp, hbx, hba⟩, hB⟩ hK
    dsimp only [ptVal]
    gi_wp2
    exact hK _ _ ((KeepsOthers.alloc _ _).from _) (KpR.of_below (below_alloc W _) hB.size hba.lt) ⟨⟨hp, hbx.alloc _, hba.alloc _⟩, hB.alloc hB.size _⟩ ⟨W.heap.size, hbx.lt, heap_alloc_new W _, rfl⟩
  case body =>
    rintro l pre ⟨v, N⟩ a' W hl2 ⟨r, hr2⟩ ⟨⟨rfl, hbx, hba⟩, hB⟩ ⟨Bx, hBx, hbX, rfl⟩ hlt
    have cx1 : W.cell? ⟨Bx, 1, none⟩ = some (.string N) := by rw [cell_of_row W Bx 1 _ _ _ hbX]; rfl
    have hvc := hbx.cell
    have hvf := hbx.frozen
    gi_wp2
    exact ⟨(KeepsOthers.setCell _ _ _).from _, ⟨rfl, v, N, rfl, hbx.set _⟩, hB.setCell (p := ⟨w.heap.size, 0, none⟩) (Nat.le_refl _) _⟩
  case done =>
    rintro D ys W hD ⟨st, hst, rfl⟩ ⟨⟨hne, hbx, hba⟩, hB⟩ hK
    have hvc := hbx.cell
    have hvf := hbx.frozen
    gi_wp2
    have hK' := (KeepsOthers.setCell W ⟨w.heap.size, 0, none⟩ (.string ⟨#[]⟩)).same D _ hK rfl
    refine ⟨by simp, .inl ⟨_, _, rfl, run_takeDeferred hK', ?_⟩⟩
    have hc5 := cell_kept (World.cell?_setCell_same' W ⟨w.heap.size, 0, none⟩ (.string ⟨#[]⟩) (by rw [hvc]; rfl)) (grownBy_putObj' _ D (.deferred none)) (fun r e => by cases e; exact ⟨_, hK', rfl⟩)
    have hpk : pickP ps st = ⟨#[]⟩ := by unfold pickP; rw [hne]; rfl
    refine ⟨.string ⟨#[]⟩, ?_, st, hst, by rw [hpk], (hB.setCell (p := ⟨w.heap.size, 0, none⟩) (Nat.le_refl _) _).trans (belowK_b (w := w) (Nat.le_refl _) _ D _ _ (by simp at hD; omega) hK' rfl rfl)⟩
    simp [results, Tryz.f20, go_sem, hc5]
  case stop =>
    rintro D c pre W hD ⟨st, k, hst, hk, rfl⟩ ⟨⟨rfl, p, e1, hbx⟩, hB⟩ hK
    have hpk : pickP ps st = p.2 := by
      unfold pickP
      cases h : arL ps st with
      | nil => rw [h] at e1; simp at e1
      | cons y l =>
        rw [h] at e1
        cases k with
        | zero => simp at e1
        | succ k => rw [List.take_succ_cons] at e1; injection e1 with e2 e3; rw [e2]; rfl
    have hvc := hbx.cell
    clear e1
    gi_wp2
    refine ⟨by simp, .inl ⟨_, _, rfl, run_takeDeferred hK, ?_⟩⟩
    have hc5 := cell_kept hvc (grownBy_putObj' _ D (.deferred none)) (fun r e => by cases e; exact ⟨_, hK, rfl⟩)
    refine ⟨.string p.2, ?_, st, hst, by rw [hpk], hB.trans (belowK_b (w := w) (Nat.le_refl _) _ D _ _ (by simp at hD; omega) hK rfl rfl)⟩
    simp [results, Tryz.f20, go_sem, hc5]
theorem pick34 (rb nn : Nat) (ps : List Pt) (hl : ps.length ≤ 100000) (hr : Rise ps) (x : Nat) (w : World) (hRg : RingAt w rb ps nn) :
    Calls Tryz.prog 20 #[.pointer (some ⟨rb, 0, none⟩), .int .u64 (x : Nat)] w fun e w' => ∃ st, LowAt ps x st ∧ e = .returned (.string (pickP ps st)) ∧ Below w.heap.size w w' := callsIn_wide.1 (pick34_in 3 (by decide) rb nn ps hl hr x w hRg)
end Go.Proofs.YtklfpnnnoaaiaabGreatDoor

