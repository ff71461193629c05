/- strconv: shortFloat. -/
import Derived.Test.YtbgppkjcmgljnaaDoorFmC
import Derived.Test.YtbgppkjcmgljnaaDoorTabsZ
namespace Go.Proofs.YtbgppkjcmgljnaaDoor
open Go.RowKit

theorem usc60z (z : Int) (h0 : 0 ≤ z ∧ z < 18446744073709551616) (hi lo : Nat) (s : Int) (hh : hi < 18446744073709551616) (hl : lo < 18446744073709551616) (g : Nat) (w : World) (hp : PreAt w g hi lo s) :
    Calls Tryd.prog 60 #[.int .u64 z, .pointer (some ⟨g, 0, none⟩)] w fun e w' => e = .returned (.int .u64 (uscF z.toNat hi lo s)) ∧ Below w.heap.size w w' := by
  obtain ⟨n, rfl⟩ := Int.eq_ofNat_of_zero_le h0.1
  exact usc60 n hi lo s (by omega) hh hl g w hp
theorem wrap_in (z : Int) : 0 ≤ IntKind.u64.wrap z ∧ IntKind.u64.wrap z < 18446744073709551616 := by rw [IntKind.wrap_u64]; omega
/-- What shortFloat gives. -/
def dminF (x : Nat × Nat) (s mn od : Int) : Int := IntKind.u64.wrap (IntKind.u64.wrap (uscF mn.toNat x.1 x.2 s + IntKind.u64.wrap od) + 3) / 4
def dmaxF (x : Nat × Nat) (s mx od : Int) : Int := IntKind.u64.wrap (IntKind.u64.wrap (uscF mx.toNat x.1 x.2 s + IntKind.u64.wrap (wrap64 (-od)))) / 4
def rndF (x : Nat × Nat) (s m : Int) : Int := IntKind.u64.wrap (IntKind.u64.wrap (uscF m.toNat x.1 x.2 s + 1) + bits .and .u64 (uscF m.toNat x.1 x.2 s / 4) 1) / 4
def rowF (p : Int) : Nat × Nat := Go.Pinned.pow10Rows.getD (p + 348).toNat (0, 0)
def shRF (m e mn mx od p : Int) : Int × Int :=
  let s := -(e + p * 108853 / 32768 + 3)
  let dmin := dminF (rowF p) s mn od
  let dmax := dmaxF (rowF p) s mx od
  let d := IntKind.u64.wrap (dmax.tdiv 10)
  if IntKind.u64.wrap (d * 10) ≥ dmin then (d, wrap64 (-wrap64 (p - 1))) else if dmin < dmax then (rndF (rowF p) s m, wrap64 (-p)) else (dmin, wrap64 (-p))
theorem rowF_at (p : Int) (h0 : -348 ≤ p) (h1 : p ≤ 347) : ∃ j : Nat, j < 696 ∧ p = (j : Int) - 348 ∧ Go.Pinned.pow10Rows[j]? = some (rowF p) ∧ (rowF p).1 < 18446744073709551616 ∧ (rowF p).2 < 18446744073709551616 := by
  have hlen := pmLen
  have hwf := pmWf
  rw [List.all_eq_true] at hwf
  unfold rowF
  generalize Go.Pinned.pow10Rows = rows at *
  have hj : (p + 348).toNat < rows.length := by omega
  have hx : rows[(p + 348).toNat]? = some (rows[(p + 348).toNat]'hj) := by simp [hj]
  have e : rows.getD (p + 348).toNat (0, 0) = rows[(p + 348).toNat]'hj := by simp [List.getD, hx]
  have hw := hwf _ (List.getElem_mem hj)
  simp only [Bool.and_eq_true, decide_eq_true_eq] at hw
  rw [e]
  exact ⟨(p + 348).toNat, by omega, by omega, hx, hw.1, hw.2⟩
theorem newSc (w : World) (T : TypeId) (u v z : Value) : ScAt (w.alloc (.cells #[u, v, z] T)) w.heap.size :=
  ⟨by simp, ⟨u, by simp⟩, ⟨v, by simp⟩, ⟨z, by simp⟩, by simp, by simp, by simp⟩
set_option maxHeartbeats 2000000 in
set_option maxRecDepth 100000 in
theorem shf53A (e : Int) (he : -1137 ≤ e) (he1 : e ≤ 960) (hc : -1085 < e) (w : World) (hw : PmAt w) :
    Calls Tryd.prog 53 #[.int .u64 9223372036854775808, .int .i64 e] w fun r w' => r = .returned (.tuple #[.int .u64 (shRF ((9223372036854775808 : Int)) e ((9223372036854775296 : Int)) ((9223372036854776832 : Int)) (bits BinOp.and IntKind.i64 4503599627370496 1) (-(((e + 11) * 631305 - 261663) / 2097152))).1, .int .i64 (shRF ((9223372036854775808 : Int)) e ((9223372036854775296 : Int)) ((9223372036854776832 : Int)) (bits BinOp.and IntKind.i64 4503599627370496 1) (-(((e + 11) * 631305 - 261663) / 2097152))).2]) ∧ Below w.heap.size w w' := by
  skip
  have p0 : -348 ≤ -(((e + 11) * 631305 - 261663) / 2097152) ∧ -(((e + 11) * 631305 - 261663) / 2097152) ≤ 347 := by omega
  have n0 : (0 : Int) ≤ (9223372036854775296 : Int) ∧ (9223372036854775296 : Int) < 18446744073709551616 := by omega
  have x0 : (0 : Int) ≤ (9223372036854776832 : Int) ∧ (9223372036854776832 : Int) < 18446744073709551616 := by omega
  have HW := Lib.hid hw
  have P0 := Lib.hid p0
  have N0 := Lib.hid n0
  have X0 := Lib.hid x0
  have MM : Hid ((0 : Int) ≤ (9223372036854775808 : Int) ∧ (9223372036854775808 : Int) < 18446744073709551616) := by show (0 : Int) ≤ _ ∧ _; omega
  skip
  clear p0 n0 x0 hw
  obtain ⟨R, hR⟩ : ∃ R, R = shRF ((9223372036854775808 : Int)) e ((9223372036854775296 : Int)) ((9223372036854776832 : Int)) (bits BinOp.and IntKind.i64 4503599627370496 1) (-(((e + 11) * 631305 - 261663) / 2097152)) := ⟨_, rfl⟩
  rw [← hR]
  have HR := Lib.hid hR
  clear hR
  go_enter Tryd.func53, Tryd.ntmps53
  go_wp2_with (first
    | (go_at_call 57; with_reducible refine (calls_flop (skew57 _ (by omega) (by omega) _)).mono ?_; rintro r w' ⟨rfl, rfl⟩)
    | (go_at_call 48; with_reducible refine (calls_flop (l10_48 _ (by omega) (by omega) _)).mono ?_; rintro r w' ⟨rfl, rfl⟩))
  generalize hp : -(((e + 11) * 631305 - 261663) / 2097152) = p at *
  generalize hmn : (9223372036854775296 : Int) = mn at *
  generalize hmx : (9223372036854776832 : Int) = mx at *
  generalize hod : bits BinOp.and IntKind.i64 4503599627370496 1 = od at *
  clear hp hmn hmx hod 
  have p0 := P0.out
  have hb1 : ∀ v, Below w.heap.size w (w.alloc v) := fun v => (Below.refl _ _).alloc (Nat.le_refl _) _
  obtain ⟨j, hj, hpj, hrow, hrow1, hrow2⟩ := rowF_at p p0.1 p0.2
  have hlt3 := HW.out.1
  have HS := Lib.hid (fun T u v z => pre58 w.heap.size j (rowF p) hj hrow e p (p * 108853 / 32768) (by omega) (by omega) hpj (by omega) (by omega) (w.alloc (.cells #[u, v, z] T)) (HW.out.below ((Below.refl _ _).alloc (Nat.le_refl _) _)) (newSc w T u v z) (by omega))
  clear hrow hj hpj
  refine (calls_flop (l2_59 p (by omega) (by omega) _)).mono ?_
  rintro r w' ⟨rfl, rfl⟩
  go_wp2_with fail
  with_reducible refine (HS.out _ _ _ _).mono ?_
  rintro r w2 ⟨rfl, hpre, hbel⟩
  have hb2 := (hb1 _).trans (hbel w.heap.size (Nat.le_refl _))
  have hgl := hpre.lt
  have HP := Lib.hid hpre
  have HB2 := Lib.hid hb2
  clear hpre hbel hb1 hb2 HS p0 P0
  unfold shRF at HR
  generalize hs : -(e + p * 108853 / 32768 + 3) = s at *
  generalize hx : rowF p = x at *
  clear hs hx
  go_wp2_with fail
  with_reducible refine (usc60z mn N0.out x.1 x.2 s hrow1 hrow2 _ w2 HP.out).mono ?_
  rintro r w3 ⟨rfl, hb3⟩
  have HP3 := Lib.hid (HP.out.below hb3)
  go_wp2_with (first
    | (go_at_call 61; with_reducible refine (calls_flop (nudge61 _ _ _)).mono ?_; rintro r w' ⟨rfl, rfl⟩)
    | (go_at_call 62; with_reducible refine (calls_flop (ceil62 _ _)).mono ?_; rintro r w' ⟨rfl, rfl⟩))
  with_reducible refine (usc60z mx X0.out x.1 x.2 s hrow1 hrow2 _ w3 HP3.out).mono ?_
  rintro r w4 ⟨rfl, hb4⟩
  have HP4 := Lib.hid (HP3.out.below hb4)
  go_wp2_with (first
    | (go_at_call 61; with_reducible refine (calls_flop (nudge61 _ _ _)).mono ?_; rintro r w' ⟨rfl, rfl⟩)
    | (go_at_call 63; with_reducible refine (calls_flop (floor63 _ _)).mono ?_; rintro r w' ⟨rfl, rfl⟩))
  · rename_i h1
    have hR := HR.out.trans (if_pos h1)
    go_ret2
    exact ⟨by rw [hR]; rfl, HB2.out.trans ((hb3.trans (hb4.mono hb3.size)).mono HB2.out.size)⟩
  · rename_i h1 _ _ h2 _ _
    with_reducible refine (usc60z _ MM.out x.1 x.2 s hrow1 hrow2 _ w4 HP4.out).mono ?_
    rintro r w5 ⟨rfl, hb5⟩
    go_wp2_with (go_at_call 64; with_reducible refine (calls_flop (round64 _ _)).mono ?_; rintro r w' ⟨rfl, rfl⟩)
    have hR := HR.out.trans ((if_neg (Int.not_le.2 h1)).trans (if_pos h2))
    go_ret2
    exact ⟨by rw [hR]; rfl, HB2.out.trans (((hb3.trans (hb4.mono hb3.size)).trans (hb5.mono (Nat.le_trans hb3.size hb4.size))).mono HB2.out.size)⟩
  · rename_i h1 h2
    have hR := HR.out.trans ((if_neg (Int.not_le.2 h1)).trans (if_neg (Int.not_lt.2 h2)))
    go_ret2
    exact ⟨by rw [hR]; rfl, HB2.out.trans ((hb3.trans (hb4.mono hb3.size)).mono HB2.out.size)⟩
set_option maxHeartbeats 2000000 in
set_option maxRecDepth 100000 in
theorem shf53B (e : Int) (he : -1137 ≤ e) (he1 : e ≤ 960) (hc : -1085 ≤ e ∧ e ≤ -1085) (w : World) (hw : PmAt w) :
    Calls Tryd.prog 53 #[.int .u64 9223372036854775808, .int .i64 e] w fun r w' => r = .returned (.tuple #[.int .u64 (shRF ((9223372036854775808 : Int)) e ((9223372036854774784 : Int)) ((9223372036854776832 : Int)) (bits BinOp.and IntKind.i64 4503599627370496 1) (-((e + 11) * 78913 / 262144))).1, .int .i64 (shRF ((9223372036854775808 : Int)) e ((9223372036854774784 : Int)) ((9223372036854776832 : Int)) (bits BinOp.and IntKind.i64 4503599627370496 1) (-((e + 11) * 78913 / 262144))).2]) ∧ Below w.heap.size w w' := by
  obtain ⟨hc1, hc2⟩ := hc
  have p0 : -348 ≤ -((e + 11) * 78913 / 262144) ∧ -((e + 11) * 78913 / 262144) ≤ 347 := by omega
  have n0 : (0 : Int) ≤ (9223372036854774784 : Int) ∧ (9223372036854774784 : Int) < 18446744073709551616 := by omega
  have x0 : (0 : Int) ≤ (9223372036854776832 : Int) ∧ (9223372036854776832 : Int) < 18446744073709551616 := by omega
  have HW := Lib.hid hw
  have P0 := Lib.hid p0
  have N0 := Lib.hid n0
  have X0 := Lib.hid x0
  have MM : Hid ((0 : Int) ≤ (9223372036854775808 : Int) ∧ (9223372036854775808 : Int) < 18446744073709551616) := by show (0 : Int) ≤ _ ∧ _; omega
  skip
  clear p0 n0 x0 hw
  obtain ⟨R, hR⟩ : ∃ R, R = shRF ((9223372036854775808 : Int)) e ((9223372036854774784 : Int)) ((9223372036854776832 : Int)) (bits BinOp.and IntKind.i64 4503599627370496 1) (-((e + 11) * 78913 / 262144)) := ⟨_, rfl⟩
  rw [← hR]
  have HR := Lib.hid hR
  clear hR
  go_enter Tryd.func53, Tryd.ntmps53
  go_wp2_with (first
    | (go_at_call 57; with_reducible refine (calls_flop (skew57 _ (by omega) (by omega) _)).mono ?_; rintro r w' ⟨rfl, rfl⟩)
    | (go_at_call 48; with_reducible refine (calls_flop (l10_48 _ (by omega) (by omega) _)).mono ?_; rintro r w' ⟨rfl, rfl⟩))
  generalize hp : -((e + 11) * 78913 / 262144) = p at *
  generalize hmn : (9223372036854774784 : Int) = mn at *
  generalize hmx : (9223372036854776832 : Int) = mx at *
  generalize hod : bits BinOp.and IntKind.i64 4503599627370496 1 = od at *
  clear hp hmn hmx hod 
  have p0 := P0.out
  have hb1 : ∀ v, Below w.heap.size w (w.alloc v) := fun v => (Below.refl _ _).alloc (Nat.le_refl _) _
  obtain ⟨j, hj, hpj, hrow, hrow1, hrow2⟩ := rowF_at p p0.1 p0.2
  have hlt3 := HW.out.1
  have HS := Lib.hid (fun T u v z => pre58 w.heap.size j (rowF p) hj hrow e p (p * 108853 / 32768) (by omega) (by omega) hpj (by omega) (by omega) (w.alloc (.cells #[u, v, z] T)) (HW.out.below ((Below.refl _ _).alloc (Nat.le_refl _) _)) (newSc w T u v z) (by omega))
  clear hrow hj hpj
  refine (calls_flop (l2_59 p (by omega) (by omega) _)).mono ?_
  rintro r w' ⟨rfl, rfl⟩
  go_wp2_with fail
  with_reducible refine (HS.out _ _ _ _).mono ?_
  rintro r w2 ⟨rfl, hpre, hbel⟩
  have hb2 := (hb1 _).trans (hbel w.heap.size (Nat.le_refl _))
  have hgl := hpre.lt
  have HP := Lib.hid hpre
  have HB2 := Lib.hid hb2
  clear hpre hbel hb1 hb2 HS p0 P0
  unfold shRF at HR
  generalize hs : -(e + p * 108853 / 32768 + 3) = s at *
  generalize hx : rowF p = x at *
  clear hs hx
  go_wp2_with fail
  with_reducible refine (usc60z mn N0.out x.1 x.2 s hrow1 hrow2 _ w2 HP.out).mono ?_
  rintro r w3 ⟨rfl, hb3⟩
  have HP3 := Lib.hid (HP.out.below hb3)
  go_wp2_with (first
    | (go_at_call 61; with_reducible refine (calls_flop (nudge61 _ _ _)).mono ?_; rintro r w' ⟨rfl, rfl⟩)
    | (go_at_call 62; with_reducible refine (calls_flop (ceil62 _ _)).mono ?_; rintro r w' ⟨rfl, rfl⟩))
  with_reducible refine (usc60z mx X0.out x.1 x.2 s hrow1 hrow2 _ w3 HP3.out).mono ?_
  rintro r w4 ⟨rfl, hb4⟩
  have HP4 := Lib.hid (HP3.out.below hb4)
  go_wp2_with (first
    | (go_at_call 61; with_reducible refine (calls_flop (nudge61 _ _ _)).mono ?_; rintro r w' ⟨rfl, rfl⟩)
    | (go_at_call 63; with_reducible refine (calls_flop (floor63 _ _)).mono ?_; rintro r w' ⟨rfl, rfl⟩))
  · rename_i h1
    have hR := HR.out.trans (if_pos h1)
    go_ret2
    exact ⟨by rw [hR]; rfl, HB2.out.trans ((hb3.trans (hb4.mono hb3.size)).mono HB2.out.size)⟩
  · rename_i h1 _ _ h2 _ _
    with_reducible refine (usc60z _ MM.out x.1 x.2 s hrow1 hrow2 _ w4 HP4.out).mono ?_
    rintro r w5 ⟨rfl, hb5⟩
    go_wp2_with (go_at_call 64; with_reducible refine (calls_flop (round64 _ _)).mono ?_; rintro r w' ⟨rfl, rfl⟩)
    have hR := HR.out.trans ((if_neg (Int.not_le.2 h1)).trans (if_pos h2))
    go_ret2
    exact ⟨by rw [hR]; rfl, HB2.out.trans (((hb3.trans (hb4.mono hb3.size)).trans (hb5.mono (Nat.le_trans hb3.size hb4.size))).mono HB2.out.size)⟩
  · rename_i h1 h2
    have hR := HR.out.trans ((if_neg (Int.not_le.2 h1)).trans (if_neg (Int.not_lt.2 h2)))
    go_ret2
    exact ⟨by rw [hR]; rfl, HB2.out.trans ((hb3.trans (hb4.mono hb3.size)).mono HB2.out.size)⟩
set_option maxHeartbeats 2000000 in
set_option maxRecDepth 100000 in
theorem shf53C (e : Int) (he : -1137 ≤ e) (he1 : e ≤ 960) (hc : e < -1085) (w : World) (hw : PmAt w) :
    Calls Tryd.prog 53 #[.int .u64 9223372036854775808, .int .i64 e] w fun r w' => r = .returned (.tuple #[.int .u64 (shRF ((9223372036854775808 : Int)) e (IntKind.u64.wrap (9223372036854775808 - IntKind.u64.wrap (2 ^ ((11 + (-1085 - e)).toNat - 1)))) (IntKind.u64.wrap (9223372036854775808 + IntKind.u64.wrap (2 ^ ((11 + (-1085 - e)).toNat - 1)))) (bits BinOp.and IntKind.i64 (wrap64 (9223372036854775808 / 2 ^ (11 + (-1085 - e)).toNat)) 1) (-((e + (11 + (-1085 - e))) * 78913 / 262144))).1, .int .i64 (shRF ((9223372036854775808 : Int)) e (IntKind.u64.wrap (9223372036854775808 - IntKind.u64.wrap (2 ^ ((11 + (-1085 - e)).toNat - 1)))) (IntKind.u64.wrap (9223372036854775808 + IntKind.u64.wrap (2 ^ ((11 + (-1085 - e)).toNat - 1)))) (bits BinOp.and IntKind.i64 (wrap64 (9223372036854775808 / 2 ^ (11 + (-1085 - e)).toNat)) 1) (-((e + (11 + (-1085 - e))) * 78913 / 262144))).2]) ∧ Below w.heap.size w w' := by
  skip
  have p0 : -348 ≤ -((e + (11 + (-1085 - e))) * 78913 / 262144) ∧ -((e + (11 + (-1085 - e))) * 78913 / 262144) ≤ 347 := by omega
  have n0 : (0 : Int) ≤ IntKind.u64.wrap (9223372036854775808 - IntKind.u64.wrap (2 ^ ((11 + (-1085 - e)).toNat - 1))) ∧ IntKind.u64.wrap (9223372036854775808 - IntKind.u64.wrap (2 ^ ((11 + (-1085 - e)).toNat - 1))) < 18446744073709551616 := wrap_in _
  have x0 : (0 : Int) ≤ IntKind.u64.wrap (9223372036854775808 + IntKind.u64.wrap (2 ^ ((11 + (-1085 - e)).toNat - 1))) ∧ IntKind.u64.wrap (9223372036854775808 + IntKind.u64.wrap (2 ^ ((11 + (-1085 - e)).toNat - 1))) < 18446744073709551616 := wrap_in _
  have HW := Lib.hid hw
  have P0 := Lib.hid p0
  have N0 := Lib.hid n0
  have X0 := Lib.hid x0
  have MM : Hid ((0 : Int) ≤ (9223372036854775808 : Int) ∧ (9223372036854775808 : Int) < 18446744073709551616) := by show (0 : Int) ≤ _ ∧ _; omega
  skip
  clear p0 n0 x0 hw
  obtain ⟨R, hR⟩ : ∃ R, R = shRF ((9223372036854775808 : Int)) e (IntKind.u64.wrap (9223372036854775808 - IntKind.u64.wrap (2 ^ ((11 + (-1085 - e)).toNat - 1)))) (IntKind.u64.wrap (9223372036854775808 + IntKind.u64.wrap (2 ^ ((11 + (-1085 - e)).toNat - 1)))) (bits BinOp.and IntKind.i64 (wrap64 (9223372036854775808 / 2 ^ (11 + (-1085 - e)).toNat)) 1) (-((e + (11 + (-1085 - e))) * 78913 / 262144)) := ⟨_, rfl⟩
  rw [← hR]
  have HR := Lib.hid hR
  clear hR
  go_enter Tryd.func53, Tryd.ntmps53
  go_wp2_with (first
    | (go_at_call 57; with_reducible refine (calls_flop (skew57 _ (by omega) (by omega) _)).mono ?_; rintro r w' ⟨rfl, rfl⟩)
    | (go_at_call 48; with_reducible refine (calls_flop (l10_48 _ (by omega) (by omega) _)).mono ?_; rintro r w' ⟨rfl, rfl⟩))
  generalize hp : -((e + (11 + (-1085 - e))) * 78913 / 262144) = p at *
  generalize hmn : IntKind.u64.wrap (9223372036854775808 - IntKind.u64.wrap (2 ^ ((11 + (-1085 - e)).toNat - 1))) = mn at *
  generalize hmx : IntKind.u64.wrap (9223372036854775808 + IntKind.u64.wrap (2 ^ ((11 + (-1085 - e)).toNat - 1))) = mx at *
  generalize hod : bits BinOp.and IntKind.i64 (wrap64 (9223372036854775808 / 2 ^ (11 + (-1085 - e)).toNat)) 1 = od at *
  clear hp hmn hmx hod 
  have p0 := P0.out
  have hb1 : ∀ v, Below w.heap.size w (w.alloc v) := fun v => (Below.refl _ _).alloc (Nat.le_refl _) _
  obtain ⟨j, hj, hpj, hrow, hrow1, hrow2⟩ := rowF_at p p0.1 p0.2
  have hlt3 := HW.out.1
  have HS := Lib.hid (fun T u v z => pre58 w.heap.size j (rowF p) hj hrow e p (p * 108853 / 32768) (by omega) (by omega) hpj (by omega) (by omega) (w.alloc (.cells #[u, v, z] T)) (HW.out.below ((Below.refl _ _).alloc (Nat.le_refl _) _)) (newSc w T u v z) (by omega))
  clear hrow hj hpj
  refine (calls_flop (l2_59 p (by omega) (by omega) _)).mono ?_
  rintro r w' ⟨rfl, rfl⟩
  go_wp2_with fail
  with_reducible refine (HS.out _ _ _ _).mono ?_
  rintro r w2 ⟨rfl, hpre, hbel⟩
  have hb2 := (hb1 _).trans (hbel w.heap.size (Nat.le_refl _))
  have hgl := hpre.lt
  have HP := Lib.hid hpre
  have HB2 := Lib.hid hb2
  clear hpre hbel hb1 hb2 HS p0 P0
  unfold shRF at HR
  generalize hs : -(e + p * 108853 / 32768 + 3) = s at *
  generalize hx : rowF p = x at *
  clear hs hx
  go_wp2_with fail
  with_reducible refine (usc60z mn N0.out x.1 x.2 s hrow1 hrow2 _ w2 HP.out).mono ?_
  rintro r w3 ⟨rfl, hb3⟩
  have HP3 := Lib.hid (HP.out.below hb3)
  go_wp2_with (first
    | (go_at_call 61; with_reducible refine (calls_flop (nudge61 _ _ _)).mono ?_; rintro r w' ⟨rfl, rfl⟩)
    | (go_at_call 62; with_reducible refine (calls_flop (ceil62 _ _)).mono ?_; rintro r w' ⟨rfl, rfl⟩))
  with_reducible refine (usc60z mx X0.out x.1 x.2 s hrow1 hrow2 _ w3 HP3.out).mono ?_
  rintro r w4 ⟨rfl, hb4⟩
  have HP4 := Lib.hid (HP3.out.below hb4)
  go_wp2_with (first
    | (go_at_call 61; with_reducible refine (calls_flop (nudge61 _ _ _)).mono ?_; rintro r w' ⟨rfl, rfl⟩)
    | (go_at_call 63; with_reducible refine (calls_flop (floor63 _ _)).mono ?_; rintro r w' ⟨rfl, rfl⟩))
  · rename_i h1
    have hR := HR.out.trans (if_pos h1)
    go_ret2
    exact ⟨by rw [hR]; rfl, HB2.out.trans ((hb3.trans (hb4.mono hb3.size)).mono HB2.out.size)⟩
  · rename_i h1 _ _ h2 _ _
    with_reducible refine (usc60z _ MM.out x.1 x.2 s hrow1 hrow2 _ w4 HP4.out).mono ?_
    rintro r w5 ⟨rfl, hb5⟩
    go_wp2_with (go_at_call 64; with_reducible refine (calls_flop (round64 _ _)).mono ?_; rintro r w' ⟨rfl, rfl⟩)
    have hR := HR.out.trans ((if_neg (Int.not_le.2 h1)).trans (if_pos h2))
    go_ret2
    exact ⟨by rw [hR]; rfl, HB2.out.trans (((hb3.trans (hb4.mono hb3.size)).trans (hb5.mono (Nat.le_trans hb3.size hb4.size))).mono HB2.out.size)⟩
  · rename_i h1 h2
    have hR := HR.out.trans ((if_neg (Int.not_le.2 h1)).trans (if_neg (Int.not_lt.2 h2)))
    go_ret2
    exact ⟨by rw [hR]; rfl, HB2.out.trans ((hb3.trans (hb4.mono hb3.size)).mono HB2.out.size)⟩
set_option maxHeartbeats 2000000 in
set_option maxRecDepth 100000 in
theorem shf53D (m : Nat) (e : Int) (hm0 : 9223372036854775808 < m) (hm1 : m < 18446744073709551616) (he : -1137 ≤ e) (he1 : e ≤ 960) (hc : -1085 ≤ e) (w : World) (hw : PmAt w) :
    Calls Tryd.prog 53 #[.int .u64 (m : Int), .int .i64 e] w fun r w' => r = .returned (.tuple #[.int .u64 (shRF ((m : Int)) e ((m : Int) - 1024) (IntKind.u64.wrap ((m : Int) + 1024)) (bits BinOp.and IntKind.i64 ((m : Int) / 2048) 1) (-((e + 11) * 78913 / 262144))).1, .int .i64 (shRF ((m : Int)) e ((m : Int) - 1024) (IntKind.u64.wrap ((m : Int) + 1024)) (bits BinOp.and IntKind.i64 ((m : Int) / 2048) 1) (-((e + 11) * 78913 / 262144))).2]) ∧ Below w.heap.size w w' := by
  skip
  have p0 : -348 ≤ -((e + 11) * 78913 / 262144) ∧ -((e + 11) * 78913 / 262144) ≤ 347 := by omega
  have n0 : (0 : Int) ≤ (m : Int) - 1024 ∧ (m : Int) - 1024 < 18446744073709551616 := by omega
  have x0 : (0 : Int) ≤ IntKind.u64.wrap ((m : Int) + 1024) ∧ IntKind.u64.wrap ((m : Int) + 1024) < 18446744073709551616 := wrap_in _
  have HW := Lib.hid hw
  have P0 := Lib.hid p0
  have N0 := Lib.hid n0
  have X0 := Lib.hid x0
  have MM : Hid ((0 : Int) ≤ (m : Int) ∧ (m : Int) < 18446744073709551616) := by show (0 : Int) ≤ _ ∧ _; omega
  have hmne : ((m : Int) == 9223372036854775808) = false := by rw [beq_eq_false_iff_ne]; omega
  clear p0 n0 x0 hw
  obtain ⟨R, hR⟩ : ∃ R, R = shRF ((m : Int)) e ((m : Int) - 1024) (IntKind.u64.wrap ((m : Int) + 1024)) (bits BinOp.and IntKind.i64 ((m : Int) / 2048) 1) (-((e + 11) * 78913 / 262144)) := ⟨_, rfl⟩
  rw [← hR]
  have HR := Lib.hid hR
  clear hR
  go_enter Tryd.func53, Tryd.ntmps53
  go_wp2_with (first
    | (go_at_call 57; with_reducible refine (calls_flop (skew57 _ (by omega) (by omega) _)).mono ?_; rintro r w' ⟨rfl, rfl⟩)
    | (go_at_call 48; with_reducible refine (calls_flop (l10_48 _ (by omega) (by omega) _)).mono ?_; rintro r w' ⟨rfl, rfl⟩))
  generalize hp : -((e + 11) * 78913 / 262144) = p at *
  generalize hmn : (m : Int) - 1024 = mn at *
  generalize hmx : IntKind.u64.wrap ((m : Int) + 1024) = mx at *
  generalize hod : bits BinOp.and IntKind.i64 ((m : Int) / 2048) 1 = od at *
  clear hp hmn hmx hod hmne
  have p0 := P0.out
  have hb1 : ∀ v, Below w.heap.size w (w.alloc v) := fun v => (Below.refl _ _).alloc (Nat.le_refl _) _
  obtain ⟨j, hj, hpj, hrow, hrow1, hrow2⟩ := rowF_at p p0.1 p0.2
  have hlt3 := HW.out.1
  have HS := Lib.hid (fun T u v z => pre58 w.heap.size j (rowF p) hj hrow e p (p * 108853 / 32768) (by omega) (by omega) hpj (by omega) (by omega) (w.alloc (.cells #[u, v, z] T)) (HW.out.below ((Below.refl _ _).alloc (Nat.le_refl _) _)) (newSc w T u v z) (by omega))
  clear hrow hj hpj
  refine (calls_flop (l2_59 p (by omega) (by omega) _)).mono ?_
  rintro r w' ⟨rfl, rfl⟩
  go_wp2_with fail
  with_reducible refine (HS.out _ _ _ _).mono ?_
  rintro r w2 ⟨rfl, hpre, hbel⟩
  have hb2 := (hb1 _).trans (hbel w.heap.size (Nat.le_refl _))
  have hgl := hpre.lt
  have HP := Lib.hid hpre
  have HB2 := Lib.hid hb2
  clear hpre hbel hb1 hb2 HS p0 P0
  unfold shRF at HR
  generalize hs : -(e + p * 108853 / 32768 + 3) = s at *
  generalize hx : rowF p = x at *
  clear hs hx
  go_wp2_with fail
  with_reducible refine (usc60z mn N0.out x.1 x.2 s hrow1 hrow2 _ w2 HP.out).mono ?_
  rintro r w3 ⟨rfl, hb3⟩
  have HP3 := Lib.hid (HP.out.below hb3)
  go_wp2_with (first
    | (go_at_call 61; with_reducible refine (calls_flop (nudge61 _ _ _)).mono ?_; rintro r w' ⟨rfl, rfl⟩)
    | (go_at_call 62; with_reducible refine (calls_flop (ceil62 _ _)).mono ?_; rintro r w' ⟨rfl, rfl⟩))
  with_reducible refine (usc60z mx X0.out x.1 x.2 s hrow1 hrow2 _ w3 HP3.out).mono ?_
  rintro r w4 ⟨rfl, hb4⟩
  have HP4 := Lib.hid (HP3.out.below hb4)
  go_wp2_with (first
    | (go_at_call 61; with_reducible refine (calls_flop (nudge61 _ _ _)).mono ?_; rintro r w' ⟨rfl, rfl⟩)
    | (go_at_call 63; with_reducible refine (calls_flop (floor63 _ _)).mono ?_; rintro r w' ⟨rfl, rfl⟩))
  · rename_i h1
    have hR := HR.out.trans (if_pos h1)
    go_ret2
    exact ⟨by rw [hR]; rfl, HB2.out.trans ((hb3.trans (hb4.mono hb3.size)).mono HB2.out.size)⟩
  · rename_i h1 _ _ h2 _ _
    with_reducible refine (usc60z _ MM.out x.1 x.2 s hrow1 hrow2 _ w4 HP4.out).mono ?_
    rintro r w5 ⟨rfl, hb5⟩
    go_wp2_with (go_at_call 64; with_reducible refine (calls_flop (round64 _ _)).mono ?_; rintro r w' ⟨rfl, rfl⟩)
    have hR := HR.out.trans ((if_neg (Int.not_le.2 h1)).trans (if_pos h2))
    go_ret2
    exact ⟨by rw [hR]; rfl, HB2.out.trans (((hb3.trans (hb4.mono hb3.size)).trans (hb5.mono (Nat.le_trans hb3.size hb4.size))).mono HB2.out.size)⟩
  · rename_i h1 h2
    have hR := HR.out.trans ((if_neg (Int.not_le.2 h1)).trans (if_neg (Int.not_lt.2 h2)))
    go_ret2
    exact ⟨by rw [hR]; rfl, HB2.out.trans ((hb3.trans (hb4.mono hb3.size)).mono HB2.out.size)⟩
set_option maxHeartbeats 2000000 in
set_option maxRecDepth 100000 in
theorem shf53E (m : Nat) (e : Int) (hm0 : 9223372036854775808 < m) (hm1 : m < 18446744073709551616) (he : -1137 ≤ e) (he1 : e ≤ 960) (hc : e < -1085) (w : World) (hw : PmAt w) :
    Calls Tryd.prog 53 #[.int .u64 (m : Int), .int .i64 e] w fun r w' => r = .returned (.tuple #[.int .u64 (shRF ((m : Int)) e (IntKind.u64.wrap ((m : Int) - IntKind.u64.wrap (2 ^ ((11 + (-1085 - e)).toNat - 1)))) (IntKind.u64.wrap ((m : Int) + IntKind.u64.wrap (2 ^ ((11 + (-1085 - e)).toNat - 1)))) (bits BinOp.and IntKind.i64 (wrap64 ((m : Int) / 2 ^ (11 + (-1085 - e)).toNat)) 1) (-((e + (11 + (-1085 - e))) * 78913 / 262144))).1, .int .i64 (shRF ((m : Int)) e (IntKind.u64.wrap ((m : Int) - IntKind.u64.wrap (2 ^ ((11 + (-1085 - e)).toNat - 1)))) (IntKind.u64.wrap ((m : Int) + IntKind.u64.wrap (2 ^ ((11 + (-1085 - e)).toNat - 1)))) (bits BinOp.and IntKind.i64 (wrap64 ((m : Int) / 2 ^ (11 + (-1085 - e)).toNat)) 1) (-((e + (11 + (-1085 - e))) * 78913 / 262144))).2]) ∧ Below w.heap.size w w' := by
  skip
  have p0 : -348 ≤ -((e + (11 + (-1085 - e))) * 78913 / 262144) ∧ -((e + (11 + (-1085 - e))) * 78913 / 262144) ≤ 347 := by omega
  have n0 : (0 : Int) ≤ IntKind.u64.wrap ((m : Int) - IntKind.u64.wrap (2 ^ ((11 + (-1085 - e)).toNat - 1))) ∧ IntKind.u64.wrap ((m : Int) - IntKind.u64.wrap (2 ^ ((11 + (-1085 - e)).toNat - 1))) < 18446744073709551616 := wrap_in _
  have x0 : (0 : Int) ≤ IntKind.u64.wrap ((m : Int) + IntKind.u64.wrap (2 ^ ((11 + (-1085 - e)).toNat - 1))) ∧ IntKind.u64.wrap ((m : Int) + IntKind.u64.wrap (2 ^ ((11 + (-1085 - e)).toNat - 1))) < 18446744073709551616 := wrap_in _
  have HW := Lib.hid hw
  have P0 := Lib.hid p0
  have N0 := Lib.hid n0
  have X0 := Lib.hid x0
  have MM : Hid ((0 : Int) ≤ (m : Int) ∧ (m : Int) < 18446744073709551616) := by show (0 : Int) ≤ _ ∧ _; omega
  have hmne : ((m : Int) == 9223372036854775808) = false := by rw [beq_eq_false_iff_ne]; omega
  clear p0 n0 x0 hw
  obtain ⟨R, hR⟩ : ∃ R, R = shRF ((m : Int)) e (IntKind.u64.wrap ((m : Int) - IntKind.u64.wrap (2 ^ ((11 + (-1085 - e)).toNat - 1)))) (IntKind.u64.wrap ((m : Int) + IntKind.u64.wrap (2 ^ ((11 + (-1085 - e)).toNat - 1)))) (bits BinOp.and IntKind.i64 (wrap64 ((m : Int) / 2 ^ (11 + (-1085 - e)).toNat)) 1) (-((e + (11 + (-1085 - e))) * 78913 / 262144)) := ⟨_, rfl⟩
  rw [← hR]
  have HR := Lib.hid hR
  clear hR
  go_enter Tryd.func53, Tryd.ntmps53
  go_wp2_with (first
    | (go_at_call 57; with_reducible refine (calls_flop (skew57 _ (by omega) (by omega) _)).mono ?_; rintro r w' ⟨rfl, rfl⟩)
    | (go_at_call 48; with_reducible refine (calls_flop (l10_48 _ (by omega) (by omega) _)).mono ?_; rintro r w' ⟨rfl, rfl⟩))
  generalize hp : -((e + (11 + (-1085 - e))) * 78913 / 262144) = p at *
  generalize hmn : IntKind.u64.wrap ((m : Int) - IntKind.u64.wrap (2 ^ ((11 + (-1085 - e)).toNat - 1))) = mn at *
  generalize hmx : IntKind.u64.wrap ((m : Int) + IntKind.u64.wrap (2 ^ ((11 + (-1085 - e)).toNat - 1))) = mx at *
  generalize hod : bits BinOp.and IntKind.i64 (wrap64 ((m : Int) / 2 ^ (11 + (-1085 - e)).toNat)) 1 = od at *
  clear hp hmn hmx hod hmne
  have p0 := P0.out
  have hb1 : ∀ v, Below w.heap.size w (w.alloc v) := fun v => (Below.refl _ _).alloc (Nat.le_refl _) _
  obtain ⟨j, hj, hpj, hrow, hrow1, hrow2⟩ := rowF_at p p0.1 p0.2
  have hlt3 := HW.out.1
  have HS := Lib.hid (fun T u v z => pre58 w.heap.size j (rowF p) hj hrow e p (p * 108853 / 32768) (by omega) (by omega) hpj (by omega) (by omega) (w.alloc (.cells #[u, v, z] T)) (HW.out.below ((Below.refl _ _).alloc (Nat.le_refl _) _)) (newSc w T u v z) (by omega))
  clear hrow hj hpj
  refine (calls_flop (l2_59 p (by omega) (by omega) _)).mono ?_
  rintro r w' ⟨rfl, rfl⟩
  go_wp2_with fail
  with_reducible refine (HS.out _ _ _ _).mono ?_
  rintro r w2 ⟨rfl, hpre, hbel⟩
  have hb2 := (hb1 _).trans (hbel w.heap.size (Nat.le_refl _))
  have hgl := hpre.lt
  have HP := Lib.hid hpre
  have HB2 := Lib.hid hb2
  clear hpre hbel hb1 hb2 HS p0 P0
  unfold shRF at HR
  generalize hs : -(e + p * 108853 / 32768 + 3) = s at *
  generalize hx : rowF p = x at *
  clear hs hx
  go_wp2_with fail
  with_reducible refine (usc60z mn N0.out x.1 x.2 s hrow1 hrow2 _ w2 HP.out).mono ?_
  rintro r w3 ⟨rfl, hb3⟩
  have HP3 := Lib.hid (HP.out.below hb3)
  go_wp2_with (first
    | (go_at_call 61; with_reducible refine (calls_flop (nudge61 _ _ _)).mono ?_; rintro r w' ⟨rfl, rfl⟩)
    | (go_at_call 62; with_reducible refine (calls_flop (ceil62 _ _)).mono ?_; rintro r w' ⟨rfl, rfl⟩))
  with_reducible refine (usc60z mx X0.out x.1 x.2 s hrow1 hrow2 _ w3 HP3.out).mono ?_
  rintro r w4 ⟨rfl, hb4⟩
  have HP4 := Lib.hid (HP3.out.below hb4)
  go_wp2_with (first
    | (go_at_call 61; with_reducible refine (calls_flop (nudge61 _ _ _)).mono ?_; rintro r w' ⟨rfl, rfl⟩)
    | (go_at_call 63; with_reducible refine (calls_flop (floor63 _ _)).mono ?_; rintro r w' ⟨rfl, rfl⟩))
  · rename_i h1
    have hR := HR.out.trans (if_pos h1)
    go_ret2
    exact ⟨by rw [hR]; rfl, HB2.out.trans ((hb3.trans (hb4.mono hb3.size)).mono HB2.out.size)⟩
  · rename_i h1 _ _ h2 _ _
    with_reducible refine (usc60z _ MM.out x.1 x.2 s hrow1 hrow2 _ w4 HP4.out).mono ?_
    rintro r w5 ⟨rfl, hb5⟩
    go_wp2_with (go_at_call 64; with_reducible refine (calls_flop (round64 _ _)).mono ?_; rintro r w' ⟨rfl, rfl⟩)
    have hR := HR.out.trans ((if_neg (Int.not_le.2 h1)).trans (if_pos h2))
    go_ret2
    exact ⟨by rw [hR]; rfl, HB2.out.trans (((hb3.trans (hb4.mono hb3.size)).trans (hb5.mono (Nat.le_trans hb3.size hb4.size))).mono HB2.out.size)⟩
  · rename_i h1 h2
    have hR := HR.out.trans ((if_neg (Int.not_le.2 h1)).trans (if_neg (Int.not_lt.2 h2)))
    go_ret2
    exact ⟨by rw [hR]; rfl, HB2.out.trans ((hb3.trans (hb4.mono hb3.size)).mono HB2.out.size)⟩
end Go.Proofs.YtbgppkjcmgljnaaDoor
