/- strconv: uscale. -/
import Derived.Test.YtbgppkjcmgljnaaDoorFmA
import Derived.Test.YtbgppkjcmgljnaaDoorRegT
namespace Go.Proofs.YtbgppkjcmgljnaaDoor
open Go.RowKit

theorem and63 (x : Int) : ∃ k : Nat, k ≤ 63 ∧ bits .and .i64 x 63 = (k : Int) := by
  have e : bits .and .i64 x 63 = IntKind.i64.wrap (((BitVec.ofInt 64 x &&& BitVec.ofInt 64 63).toNat : Nat) : Int) := rfl
  have h : (BitVec.ofInt 64 x &&& BitVec.ofInt 64 63).toNat ≤ 63 := by
    rw [BitVec.toNat_and]
    exact Nat.and_le_right
  refine ⟨_, h, ?_⟩
  rw [e, IntKind.wrap_i64]
  omega
/-- What uscale reads. -/
structure PreAt (w : World) (g hi lo : Nat) (s : Int) : Prop where
  lt : g < w.heap.size
  c0 : w.cell? ⟨g, 0, none⟩ = some (.int .u64 (hi : Int))
  c1 : w.cell? ⟨g, 1, none⟩ = some (.int .u64 (lo : Int))
  c2 : w.cell? ⟨g, 2, none⟩ = some (.int .i64 s)
theorem PreAt.below {w w' : World} {g hi lo : Nat} {s : Int} (h : PreAt w g hi lo s) (hb : Below w.heap.size w w') : PreAt w' g hi lo s :=
  ⟨Nat.lt_of_lt_of_le h.lt hb.size, by rw [(bcell hb).1 _ _ h.lt]; exact h.c0, by rw [(bcell hb).1 _ _ h.lt]; exact h.c1, by rw [(bcell hb).1 _ _ h.lt]; exact h.c2⟩
def Still (W w : World) : Prop := w = W
/-- What uscale gives. -/
def uscI (H M M2 : Int) (k : Nat) : Int :=
  if (IntKind.u64.wrap (H / 2 ^ k * 2 ^ k) != H) = true then bits .or .u64 (H / 2 ^ k) 1
  else bits .or .u64 (IntKind.u64.wrap (H - if decide (M < M2) then 1 else 0) / 2 ^ k) (if decide (IntKind.u64.wrap (M - M2) > 1) then 1 else 0)
def uscF (x hi lo : Nat) (s : Int) : Int := uscI ((x * hi / 18446744073709551616 : Nat) : Int) ((x * hi % 18446744073709551616 : Nat) : Int) ((x * lo / 18446744073709551616 : Nat) : Int) (bits .and .i64 s 63).toNat
set_option maxHeartbeats 2000000 in
set_option maxRecDepth 100000 in
theorem usc60 (x hi lo : Nat) (s : Int) (hx : x < 18446744073709551616) (hh : hi < 18446744073709551616) (hl : lo < 18446744073709551616) (g : Nat) (w : World) (hp : PreAt w g hi lo s) :
    Calls Tryd.prog 60 #[.int .u64 x, .pointer (some ⟨g, 0, none⟩)] w fun e w' => e = .returned (.int .u64 (uscF x hi lo s)) ∧ Below w.heap.size w w' := by
  obtain ⟨k, hk, hk2⟩ := and63 s
  obtain ⟨_, c0, c1, c2⟩ := hp
  have m1 := Tryd.bits_Mul64 x hi hx hh
  have m2 := Tryd.bits_Mul64 x lo hx hl
  unfold uscF
  rw [hk2, Int.toNat_natCast]
  generalize ((x * hi / 18446744073709551616 : Nat) : Int) = H at *
  generalize ((x * hi % 18446744073709551616 : Nat) : Int) = M at *
  generalize ((x * lo / 18446744073709551616 : Nat) : Int) = M2 at *
  generalize ((x * lo % 18446744073709551616 : Nat) : Int) = M3 at *
  have M1' := Lib.hid m1
  have M2' := Lib.hid m2
  clear m1 m2 hx hh hl
  have hb0 : Below w.heap.size w w.drew := (Below.refl _ _).drew
  have HB := Lib.hid hb0
  clear hb0
  obtain ⟨R, hR⟩ : ∃ R, R = uscI H M M2 k := ⟨_, rfl⟩
  rw [← hR]
  unfold uscI at hR
  generalize hq1 : (IntKind.u64.wrap (H / 2 ^ k * 2 ^ k) != H) = q1 at *
  cases q1
  · simp only [Bool.false_eq_true, if_false] at hR
    obtain ⟨d2, hd2⟩ : ∃ d2 : Int, d2 = if decide (M < M2) then 1 else 0 := ⟨_, rfl⟩
    obtain ⟨d3, hd3⟩ : ∃ d3 : Int, d3 = if decide (IntKind.u64.wrap (M - M2) > 1) then 1 else 0 := ⟨_, rfl⟩
    rw [← hd2, ← hd3] at hR
    have B3 := Lib.hid (fun w => hd3 ▸ b2u78 (decide (IntKind.u64.wrap (M - M2) > 1)) w)
    have B2 := Lib.hid (fun w => hd2 ▸ b2u78 (decide (M < M2)) w)
    have HR := Lib.hid hR
    clear hR hd2 hd3
    go_enter Tryd.func60, Tryd.ntmps60
    go_wp2_with fail
    refine (calls_flop (M1'.out _)).mono ?_
    rintro e w' ⟨rfl, rfl⟩
    go_wp2_with fail
    refine (calls_flop (M2'.out _)).mono ?_
    rintro e w' ⟨rfl, rfl⟩
    go_wp2_with fail
    refine (calls_flop (B2.out _)).mono ?_
    rintro e w' ⟨rfl, rfl⟩
    go_wp2_with fail
    obtain ⟨W9, hW9⟩ : ∃ W9, W9 = w.drew := ⟨_, rfl⟩
    have HW9 := Lib.hid hW9
    have HB9 : Hid (Below w.heap.size w W9) := by rw [hW9]; exact HB.out
    clear hW9 HB
    refine region_mixt 10 [some (.int .u64 (IntKind.u64.wrap (H - d2))), some (.int .i64 (k : Int)), some (.int .u64 (IntKind.u64.wrap (H - d2) / 2 ^ k)), some (.int .u64 M), some (.int .u64 M2), some (.int .u64 (IntKind.u64.wrap (M - M2))), some (.bool (decide (IntKind.u64.wrap (M - M2) > 1))), some (.int .u64 d3), some (.int .u64 (bits .or .u64 (IntKind.u64.wrap (H - d2) / 2 ^ k) d3)), some (.int .u64 (bits .or .u64 (IntKind.u64.wrap (H - d2) / 2 ^ k) d3))]
      [[false, false, false, false, false, false, false, false, false, false], [false, false, false, false, false, false, false, false, false, false], [true, true, false, false, false, false, false, false, false, false], [false, false, false, false, false, false, false, false, false, false], [false, false, false, false, false, false, false, false, false, false], [false, false, false, true, true, false, false, false, false, false], [false, false, false, false, false, true, false, false, false, false], [false, false, false, false, false, false, true, false, false, false], [false, false, true, false, false, false, false, true, false, false], [true, true, true, true, true, true, true, true, true, false]]
      (fun L x w1 => Still W9 w1)
      (by kernel_rfl) (by kernel_rfl) (by kernel_rfl) (by kernel_rfl) (by kernel_rfl) (by decide) ?_ ?_ ?_
    · intro _
      exact HW9.out.symm
    · simp only [List.take_succ_cons, List.take_zero]
      refine ⟨?_, ?_, ?_, ?_, ?_, ?_, ?_, ?_, ?_, ?_, trivial⟩
      all_goals
        intro L x9 w9 hS hl9 hp K hK
        have hs9 : Still W9 w9 := hS
        clear hS
        replace hK := hK.out
        clear hp hl9
        simp only [actMix, pickV, List.tail_cons, List.headD_cons, Act.put, List.setIfInBounds_toArray, List.set_cons_zero, List.set_cons_succ] at hK ⊢
      iterate 7
        · go_simp
          with_reducible refine hK _ ?_
          exact hs9
      · go_simp
        with_reducible refine (calls_flop (B3.out _)).mono ?_
        rintro e w' ⟨rfl, rfl⟩
        go_simp
        with_reducible refine hK _ ?_
        exact hs9
      iterate 2
        · go_simp
          with_reducible refine hK _ ?_
          exact hs9
    · intro L x9 w9 hS hall
      have hs9 : Still W9 w9 := hS
      obtain rfl : w9 = W9 := hs9
      clear hall hS
      simp only [actMix, pickV, List.tail_cons, List.headD_cons, Act.put, List.setIfInBounds_toArray, List.set_cons_zero, List.set_cons_succ, List.replicate_succ, List.replicate_zero, List.drop_succ_cons, List.drop_zero, List.take_succ_cons, List.take_zero]
      go_wp2_with fail
      go_ret
      exact ⟨by rw [HR.out]; rfl, HB9.out⟩
  · simp only [if_true] at hR
    have HR := Lib.hid hR
    clear hR
    go_enter Tryd.func60, Tryd.ntmps60
    go_wp2_with fail
    refine (calls_flop (M1'.out _)).mono ?_
    rintro e w' ⟨rfl, rfl⟩
    go_wp2_with fail
    go_ret
    exact ⟨by rw [HR.out]; rfl, Below.refl _ _⟩
end Go.Proofs.YtbgppkjcmgljnaaDoor
