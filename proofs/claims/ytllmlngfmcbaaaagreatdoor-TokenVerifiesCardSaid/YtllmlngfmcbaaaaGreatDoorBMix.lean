/- BLAKE2s, the program's own: mix. -/
import Derived.Test.YtllmlngfmcbaaaaGreatDoorBRot
namespace Go.Proofs.YtllmlngfmcbaaaaGreatDoor
open Go.RowKit

/-- Only this block has changed. -/
structure Only (bk : Nat) (w w' : World) : Prop where
  os : w'.os = w.os
  tape : w'.tape = w.tape
  output : w'.output = w.output
  size : w'.heap.size = w.heap.size
  block : ∀ k, k ≠ bk → w'.heap[k]? = w.heap[k]?
theorem Only.refl (bk : Nat) (w : World) : Only bk w w := ⟨rfl, rfl, rfl, rfl, fun _ _ => rfl⟩
theorem Only.put {bk : Nat} {w w' : World} (h : Only bk w w') (i : Nat) (v : Value) : Only bk w (w'.setCell ⟨bk, i, none⟩ v) :=
  ⟨h.os, h.tape, h.output, by rw [← h.size]; simp, fun k hk => (Below.heap_setCell _ _ _ _ (fun e => hk e)).trans (h.block k hk)⟩
theorem Only.drew {bk : Nat} {w w' : World} (h : Only bk w w') : Only bk w w'.drew := ⟨h.os, h.tape, h.output, h.size, h.block⟩
theorem Only.below {bk B : Nat} {w0 w w' : World} (h : Only bk w w') (hb : Below B w0 w) (hB : B ≤ bk) : Below B w0 w' :=
  hb.trans ⟨h.os, h.tape, h.output, Nat.le_of_eq h.size.symm, fun k hk => h.block k (by omega)⟩

set_option maxRecDepth 100000 in
set_option maxHeartbeats 1000000 in
theorem mix54 (bk : Nat) (f : Nat → Int) (a b c d : Nat) (x y : Int) (ha : (a : Int) < 16) (hb : (b : Int) < 16) (hc : (c : Int) < 16) (hd : (d : Int) < 16)
    (w : World) (h : Words 16 w bk f) :
    Calls Tryz.prog 112 #[.pointer (some ⟨bk, 0, none⟩), .int .i64 a, .int .i64 b, .int .i64 c, .int .i64 d, .int .u32 x, .int .u32 y] w fun e w' => e = .returned (.tuple #[]) ∧ Words 16 w' bk (mixF f a b c d x y) ∧ Only bk w w' := by
  have ha0 : (0 : Int) ≤ a := by omega
  have hb0 : (0 : Int) ≤ b := by omega
  have hc0 : (0 : Int) ≤ c := by omega
  have hd0 : (0 : Int) ≤ d := by omega
  have H0 := Lib.hid h
  have G0 := Only.refl bk w
  clear h
  go_enter Tryz.func112, Tryz.ntmps112
  have ca := (H0.out a (by omega)).1
  have cb := (H0.out b (by omega)).1
  have fz := (H0.out a (by omega)).2
  go_wp2_with fail
  refine region_tail 15 (by kernel_rfl) (by kernel_rfl) ?_
  simp only [List.take_succ_cons, List.take_zero, List.drop_succ_cons, List.drop_zero]
  still_step
  still_step
  still_step
  still_step
  still_step
  still_step
  still_step
  still_step
  still_step
  still_step
  still_step
  still_step
  still_step
  still_step
  still_step
  refine still_tail_nil ?_
  go_wp2_with fail
  generalize hW : World.drew _ = w1
  have h1 : Words 16 w1 bk (upd f a (a32 (f a) (a32 (f b) x))) := by subst hW; exact (H0.out.put a _).drew
  have G1 : Only bk w w1 := by subst hW; exact (G0.put a _).drew
  obtain ⟨f1, e1⟩ : ∃ f1, f1 = upd f a (a32 (f a) (a32 (f b) x)) := ⟨_, rfl⟩
  rw [← e1] at h1
  have E1 := Lib.hid e1
  have H1 := Lib.hid h1
  clear hW e1 h1 G0 ca cb fz
  have cd := (H1.out d (by omega)).1
  have ca := (H1.out a (by omega)).1
  have fz := (H1.out d (by omega)).2
  go_wp2_with fail
  refine region_tail 16 (by kernel_rfl) (by kernel_rfl) ?_
  simp only [List.take_succ_cons, List.take_zero, List.drop_succ_cons, List.drop_zero]
  still_step
  still_step
  still_step
  still_step
  still_step
  still_step
  still_step
  still_step
  still_step
  still_step
  still_step
  still_step
  still_step
  still_call (calls_flip (rot32 _ 16 (by decide) (by decide) _))
  still_step
  still_step
  refine still_tail_nil ?_
  go_wp2_with fail
  generalize hW : World.drew _ = w2
  have h2 : Words 16 w2 bk (upd f1 d (ror (x32 (f1 d) (f1 a)) 16)) := by subst hW; exact (H1.out.put d _).drew
  have G2 : Only bk w w2 := by subst hW; exact (G1.put d _).drew
  obtain ⟨f2, e2⟩ : ∃ f2, f2 = upd f1 d (ror (x32 (f1 d) (f1 a)) 16) := ⟨_, rfl⟩
  rw [← e2] at h2
  have E2 := Lib.hid e2
  have H2 := Lib.hid h2
  clear hW e2 h2 G1 cd ca fz
  have cc := (H2.out c (by omega)).1
  have cd := (H2.out d (by omega)).1
  have fz := (H2.out c (by omega)).2
  go_wp2_with fail
  refine region_tail 13 (by kernel_rfl) (by kernel_rfl) ?_
  simp only [List.take_succ_cons, List.take_zero, List.drop_succ_cons, List.drop_zero]
  still_step
  still_step
  still_step
  still_step
  still_step
  still_step
  still_step
  still_step
  still_step
  still_step
  still_step
  still_step
  still_step
  refine still_tail_nil ?_
  go_wp2_with fail
  generalize hW : World.drew _ = w3
  have h3 : Words 16 w3 bk (upd f2 c (a32 (f2 c) (f2 d))) := by subst hW; exact (H2.out.put c _).drew
  have G3 : Only bk w w3 := by subst hW; exact (G2.put c _).drew
  obtain ⟨f3, e3⟩ : ∃ f3, f3 = upd f2 c (a32 (f2 c) (f2 d)) := ⟨_, rfl⟩
  rw [← e3] at h3
  have E3 := Lib.hid e3
  have H3 := Lib.hid h3
  clear hW e3 h3 G2 cc cd fz
  have cb := (H3.out b (by omega)).1
  have cc := (H3.out c (by omega)).1
  have fz := (H3.out b (by omega)).2
  go_wp2_with fail
  refine region_tail 16 (by kernel_rfl) (by kernel_rfl) ?_
  simp only [List.take_succ_cons, List.take_zero, List.drop_succ_cons, List.drop_zero]
  still_step
  still_step
  still_step
  still_step
  still_step
  still_step
  still_step
  still_step
  still_step
  still_step
  still_step
  still_step
  still_step
  still_call (calls_flip (rot32 _ 12 (by decide) (by decide) _))
  still_step
  still_step
  refine still_tail_nil ?_
  go_wp2_with fail
  generalize hW : World.drew _ = w4
  have h4 : Words 16 w4 bk (upd f3 b (ror (x32 (f3 b) (f3 c)) 12)) := by subst hW; exact (H3.out.put b _).drew
  have G4 : Only bk w w4 := by subst hW; exact (G3.put b _).drew
  obtain ⟨f4, e4⟩ : ∃ f4, f4 = upd f3 b (ror (x32 (f3 b) (f3 c)) 12) := ⟨_, rfl⟩
  rw [← e4] at h4
  have E4 := Lib.hid e4
  have H4 := Lib.hid h4
  clear hW e4 h4 G3 cb cc fz
  have ca := (H4.out a (by omega)).1
  have cb := (H4.out b (by omega)).1
  have fz := (H4.out a (by omega)).2
  go_wp2_with fail
  refine region_tail 15 (by kernel_rfl) (by kernel_rfl) ?_
  simp only [List.take_succ_cons, List.take_zero, List.drop_succ_cons, List.drop_zero]
  still_step
  still_step
  still_step
  still_step
  still_step
  still_step
  still_step
  still_step
  still_step
  still_step
  still_step
  still_step
  still_step
  still_step
  still_step
  refine still_tail_nil ?_
  go_wp2_with fail
  generalize hW : World.drew _ = w5
  have h5 : Words 16 w5 bk (upd f4 a (a32 (f4 a) (a32 (f4 b) y))) := by subst hW; exact (H4.out.put a _).drew
  have G5 : Only bk w w5 := by subst hW; exact (G4.put a _).drew
  obtain ⟨f5, e5⟩ : ∃ f5, f5 = upd f4 a (a32 (f4 a) (a32 (f4 b) y)) := ⟨_, rfl⟩
  rw [← e5] at h5
  have E5 := Lib.hid e5
  have H5 := Lib.hid h5
  clear hW e5 h5 G4 ca cb fz
  have cd := (H5.out d (by omega)).1
  have ca := (H5.out a (by omega)).1
  have fz := (H5.out d (by omega)).2
  go_wp2_with fail
  refine region_tail 16 (by kernel_rfl) (by kernel_rfl) ?_
  simp only [List.take_succ_cons, List.take_zero, List.drop_succ_cons, List.drop_zero]
  still_step
  still_step
  still_step
  still_step
  still_step
  still_step
  still_step
  still_step
  still_step
  still_step
  still_step
  still_step
  still_step
  still_call (calls_flip (rot32 _ 8 (by decide) (by decide) _))
  still_step
  still_step
  refine still_tail_nil ?_
  go_wp2_with fail
  generalize hW : World.drew _ = w6
  have h6 : Words 16 w6 bk (upd f5 d (ror (x32 (f5 d) (f5 a)) 8)) := by subst hW; exact (H5.out.put d _).drew
  have G6 : Only bk w w6 := by subst hW; exact (G5.put d _).drew
  obtain ⟨f6, e6⟩ : ∃ f6, f6 = upd f5 d (ror (x32 (f5 d) (f5 a)) 8) := ⟨_, rfl⟩
  rw [← e6] at h6
  have E6 := Lib.hid e6
  have H6 := Lib.hid h6
  clear hW e6 h6 G5 cd ca fz
  have cc := (H6.out c (by omega)).1
  have cd := (H6.out d (by omega)).1
  have fz := (H6.out c (by omega)).2
  go_wp2_with fail
  refine region_tail 13 (by kernel_rfl) (by kernel_rfl) ?_
  simp only [List.take_succ_cons, List.take_zero, List.drop_succ_cons, List.drop_zero]
  still_step
  still_step
  still_step
  still_step
  still_step
  still_step
  still_step
  still_step
  still_step
  still_step
  still_step
  still_step
  still_step
  refine still_tail_nil ?_
  go_wp2_with fail
  generalize hW : World.drew _ = w7
  have h7 : Words 16 w7 bk (upd f6 c (a32 (f6 c) (f6 d))) := by subst hW; exact (H6.out.put c _).drew
  have G7 : Only bk w w7 := by subst hW; exact (G6.put c _).drew
  obtain ⟨f7, e7⟩ : ∃ f7, f7 = upd f6 c (a32 (f6 c) (f6 d)) := ⟨_, rfl⟩
  rw [← e7] at h7
  have E7 := Lib.hid e7
  have H7 := Lib.hid h7
  clear hW e7 h7 G6 cc cd fz
  have cb := (H7.out b (by omega)).1
  have cc := (H7.out c (by omega)).1
  have fz := (H7.out b (by omega)).2
  go_wp2_with fail
  refine region_tail 16 (by kernel_rfl) (by kernel_rfl) ?_
  simp only [List.take_succ_cons, List.take_zero, List.drop_succ_cons, List.drop_zero]
  still_step
  still_step
  still_step
  still_step
  still_step
  still_step
  still_step
  still_step
  still_step
  still_step
  still_step
  still_step
  still_step
  still_call (calls_flip (rot32 _ 7 (by decide) (by decide) _))
  still_step
  still_step
  refine still_tail_nil ?_
  go_wp2_with fail
  generalize hW : World.drew _ = w8
  have h8 : Words 16 w8 bk (upd f7 b (ror (x32 (f7 b) (f7 c)) 7)) := by subst hW; exact (H7.out.put b _).drew
  have G8 : Only bk w w8 := by subst hW; exact (G7.put b _).drew
  obtain ⟨f8, e8⟩ : ∃ f8, f8 = upd f7 b (ror (x32 (f7 b) (f7 c)) 7) := ⟨_, rfl⟩
  rw [← e8] at h8
  have E8 := Lib.hid e8
  have H8 := Lib.hid h8
  clear hW e8 h8 G7 cb cc fz
  have hfin : mixF f a b c d x y = f8 := by
    obtain rfl := E8.out
    obtain rfl := E7.out
    obtain rfl := E6.out
    obtain rfl := E5.out
    obtain rfl := E4.out
    obtain rfl := E3.out
    obtain rfl := E2.out
    obtain rfl := E1.out
    rfl
  rw [hfin]
  go_end0
  exact ⟨rfl, H8.out, G8⟩
end Go.Proofs.YtllmlngfmcbaaaaGreatDoor
