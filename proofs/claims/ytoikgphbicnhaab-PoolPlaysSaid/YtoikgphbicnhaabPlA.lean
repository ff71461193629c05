/- Backends in memory; the closures that change them. -/
import Derived.Test.YtoikgphbicnhaabPlM
import Derived.Shelf.SlicesE.Kit
namespace Go.Proofs.Ytoikgphbicnhaab
open Go.RowKit Go.Maps

def bkC (b : Bk) : Array Value := #[.string b.nm, .int .i64 b.wt, .int .i64 b.cp, .int .i64 b.st, .int .i64 b.bz]
def bkV (b : Bk) : Value := .agg (bkC b)
def bkD (b : Bk) : DataW Unit := .agg [.lit (.string b.nm.data.toList), .lit (.int .i64 b.wt), .lit (.int .i64 b.cp), .lit (.int .i64 b.st), .lit (.int .i64 b.bz)]
def bk0 : Bk := ⟨⟨#[]⟩, 0, 0, 0, 0⟩
def bkR : Value → Option (DataW Unit × List MemPlace)
  | .agg ⟨[.string s, .int .i64 a, .int .i64 b, .int .i64 c, .int .i64 d]⟩ => some (bkD ⟨s, a, b, c, d⟩, [])
  | _ => none
/-- Maps of backends. -/
def MB : MTy Bk where
  R := bkR
  mv := bkV
  md := bkD
  z0 := bk0
  T := 52
  e := 33
  hR := fun _ => rfl
  inv := fun v z h => by
    unfold bkR at h
    split at h
    · injection h with h; exact ⟨_, rfl, h.symm⟩
    · cases h
  inj := fun a b h => by
    obtain ⟨a1, a2, a3, a4, a5⟩ := a
    obtain ⟨b1, b2, b3, b4, b5⟩ := b
    simp only [bkD, DataW.agg.injEq, List.cons.injEq, DataW.lit.injEq, Lit.string.injEq, Lit.int.injEq, true_and, and_true] at h
    obtain ⟨h1, h2, h3, h4, h5⟩ := h
    have : a1 = b1 := ByteArray.ext (Array.ext' h1)
    subst this h2 h3 h4 h5
    rfl
  hT := Try.underlying52
  hz := fun w => by kernel_rfl

/-- The closure by of change: what it makes of b. -/
def ByOk (g : Nat) (lb : Array Value) (X : Nat → Prop) (Z : World → Prop) (w : World) (b b' : Bk) (E : Int) : Prop :=
  ∀ (W : World) (bx : Nat), Keep (fun _ => False) w W → w.heap.size ≤ bx → Row W bx 33 (bkC b) →
    Calls Try.prog g (#[.pointer (some ⟨bx, 0, none⟩)] ++ lb) W fun e W' => e = .returned (.int .i64 E) ∧ Row W' bx 33 (bkC b') ∧ Keep (fun k => k = bx ∨ X k) W W' ∧ Z W'
section
variable (W : World) (bx : Nat) (b : Bk) (h : Row W bx 33 (bkC b))
include h
theorem bk_cells : W.cell? ⟨bx, 0, none⟩ = some (.string b.nm) ∧ W.cell? ⟨bx, 1, none⟩ = some (.int .i64 b.wt) ∧ W.cell? ⟨bx, 2, none⟩ = some (.int .i64 b.cp) ∧ W.cell? ⟨bx, 3, none⟩ = some (.int .i64 b.st) ∧ W.cell? ⟨bx, 4, none⟩ = some (.int .i64 b.bz) :=
  ⟨h.cell 0, h.cell 1, h.cell 2, h.cell 3, h.cell 4⟩
end
theorem keep_one (w : World) (bx i : Nat) (u : Value) : Keep (fun k => k = bx) w (w.setCell ⟨bx, i, none⟩ u) := Keep.setCell (G := fun k => k = bx) w (p := ⟨bx, i, none⟩) rfl u
/-! ### Take's -/
def tk1E (b : Bk) : Int := if b.st ≠ 0 then 9 else if b.cp ≤ b.bz then 8 else 0
def tk1 (b : Bk) : Bk := if b.st ≠ 0 then b else if b.cp ≤ b.bz then b else { b with bz := b.bz + 1 }
theorem take31 (W : World) (bx : Nat) (b : Bk) (hb : 0 ≤ b.bz ∧ b.bz ≤ 65535) (h : Row W bx 33 (bkC b)) :
    Calls Try.prog 31 #[.pointer (some ⟨bx, 0, none⟩)] W fun e W' => e = .returned (.int .i64 (tk1E b)) ∧ Row W' bx 33 (bkC (tk1 b)) ∧ Keep (fun k => k = bx) W W' := by
  obtain ⟨c0, c1, c2, c3, c4⟩ := bk_cells W bx b h
  have f4 : W.frozen? ⟨bx, 4, none⟩ = false := h.free 4
  obtain ⟨nm, wt, cp, st, bz⟩ := b
  simp only at hb c0 c1 c2 c3 c4
  obtain ⟨hb1, hb2⟩ := hb
  have HH := Lib.hid h
  clear h
  by_cases h1 : st = 0
  · subst h1
    by_cases h2 : cp ≤ bz
    · have e1 : tk1E ⟨nm, wt, cp, 0, bz⟩ = 8 := by simp [tk1E, h2]
      have e2 : tk1 ⟨nm, wt, cp, 0, bz⟩ = ⟨nm, wt, cp, 0, bz⟩ := by simp [tk1, h2]
      rw [e1, e2]
      clear e1 e2
      go_enter Try.func31, Try.ntmps31
      go_wp2_with fail
      go_quiet (fail)
      go_wp2_with fail
      go_ret
      exact ⟨rfl, HH.out, Keep.drewN _ _⟩
    · have e1 : tk1E ⟨nm, wt, cp, 0, bz⟩ = 0 := by simp [tk1E, h2]
      have e2 : tk1 ⟨nm, wt, cp, 0, bz⟩ = ⟨nm, wt, cp, 0, bz + 1⟩ := by simp [tk1, h2]
      rw [e1, e2]
      clear e1 e2
      have h3 : bz < cp := by omega
      have f9 : ∀ n, (W.drewN n).frozen? ⟨bx, 4, none⟩ = false := fun n => f4
      go_enter Try.func31, Try.ntmps31
      go_wp2_with fail
      go_quiet (fail)
      go_wp2_with fail
      go_ret
      exact ⟨rfl, (HH.out.drewN _).put 4 _, (Keep.drewN _ _).trans (keep_one _ _ _ _)⟩
  · have e1 : tk1E ⟨nm, wt, cp, st, bz⟩ = 9 := by simp [tk1E, h1]
    have e2 : tk1 ⟨nm, wt, cp, st, bz⟩ = ⟨nm, wt, cp, st, bz⟩ := by simp [tk1, h1]
    rw [e1, e2]
    clear e1 e2
    have h3 : (st != 0) = true := by simp [h1]
    go_enter Try.func31, Try.ntmps31
    go_wp2_with fail
    go_ret
    exact ⟨rfl, HH.out, Keep.refl _ _⟩
/-! ### Give's -/
def gv1E (b : Bk) : Int := if b.bz = 0 then 9 else 0
def gv1 (b : Bk) : Bk := if b.bz = 0 then b else { b with bz := b.bz - 1 }
def gv1D (b : Bk) : Bool := if b.bz = 0 then false else decide (b.st ≠ 0 ∧ b.bz = 1)
set_option maxHeartbeats 1000000 in
theorem give32 (W : World) (bx db : Nat) (b : Bk) (hb : 0 ≤ b.bz ∧ b.bz ≤ 65535) (h : Row W bx 33 (bkC b)) (hd : Row W db 4 #[.bool false]) (hne : db ≠ bx) :
    Calls Try.prog 32 (#[.pointer (some ⟨bx, 0, none⟩)] ++ #[.pointer (some ⟨db, 0, none⟩)]) W fun e W' => e = .returned (.int .i64 (gv1E b)) ∧ Row W' bx 33 (bkC (gv1 b)) ∧ Keep (fun k => k = bx ∨ k = db) W W' ∧ Row W' db 4 #[.bool (gv1D b)] := by
  obtain ⟨c0, c1, c2, c3, c4⟩ := bk_cells W bx b h
  have f4 : W.frozen? ⟨bx, 4, none⟩ = false := h.free 4
  have d0 : W.cell? ⟨db, 0, none⟩ = some (.bool false) := hd.cell 0
  have g0 : W.frozen? ⟨db, 0, none⟩ = false := hd.free 0
  obtain ⟨nm, wt, cp, st, bz⟩ := b
  simp only at hb c0 c1 c2 c3 c4
  obtain ⟨hb1, hb2⟩ := hb
  have hne2 : bx ≠ db := fun e => hne e.symm
  have HH := Lib.hid h
  have HD := Lib.hid hd
  have HK : Hid (∀ u v, Keep (fun k => k = bx ∨ k = db) W ((W.setCell ⟨bx, 4, none⟩ u).setCell ⟨db, 0, none⟩ v)) := fun u v => (Keep.setCell _ (p := ⟨bx, 4, none⟩) (.inl rfl) _).trans (Keep.setCell _ (p := ⟨db, 0, none⟩) (.inr rfl) _)
  have HR1 : Hid (∀ u v, Row ((W.setCell ⟨bx, 4, none⟩ (.int .i64 u)).setCell ⟨db, 0, none⟩ v) bx 33 (bkC ⟨nm, wt, cp, st, u⟩)) := fun u v => (h.put 4 _).far hne2 _
  have HR2 : Hid (∀ u v, Row ((W.setCell ⟨bx, 4, none⟩ u).setCell ⟨db, 0, none⟩ v) db 4 #[v]) := fun u v => (hd.far hne _).put 0 _
  clear h hd
  by_cases h1 : bz = 0
  · subst h1
    go_enter Try.func32, Try.ntmps32
    go_wp2_with fail
    go_ret
    exact ⟨rfl, HH.out, Keep.refl _ _, HD.out⟩
  · have e1 : gv1E ⟨nm, wt, cp, st, bz⟩ = 0 := by simp [gv1E, h1]
    have e2 : gv1 ⟨nm, wt, cp, st, bz⟩ = ⟨nm, wt, cp, st, bz - 1⟩ := by simp [gv1, h1]
    have e3 : gv1D ⟨nm, wt, cp, st, bz⟩ = decide (st ≠ 0 ∧ bz = 1) := by simp [gv1D, h1]
    rw [e1, e2, e3]
    clear e1 e2 e3
    have h3 : (bz == 0) = false := by simp [h1]
    by_cases h2 : st = 0
    · subst h2
      rw [show decide ((0 : Int) ≠ 0 ∧ bz = 1) = false by simp]
      go_enter Try.func32, Try.ntmps32
      go_wp2_with fail
      go_ret
      exact ⟨rfl, HR1.out _ _, HK.out _ _, HR2.out _ _⟩
    · have h4 : (st != 0) = true := by simp [h2]
      rw [show decide (st ≠ 0 ∧ bz = 1) = (bz - 1 == 0) by
        by_cases h5 : bz = 1
        · subst h5; simp [h2]
        · have : ¬ bz - 1 = 0 := by omega
          simp [h5, this]]
      generalize hq : (bz - 1 == 0) = q at *
      go_enter Try.func32, Try.ntmps32
      go_wp2_with fail
      go_ret
      exact ⟨rfl, HR1.out _ _, HK.out _ _, HR2.out _ _⟩
/-! ### Reweight's, turn's, command's -/
theorem within34 (n m : Int) (w : World) : Calls Try.prog 34 #[.int .i64 n, .int .i64 m] w fun e w' => e = .returned (.bool (decide (1 ≤ n ∧ n ≤ m))) ∧ w' = w := by
  by_cases h1 : 1 ≤ n
  · by_cases h2 : n ≤ m
    · rw [decide_eq_true (⟨h1, h2⟩ : 1 ≤ n ∧ n ≤ m)]
      go_enter Try.func34, Try.ntmps34
      go_wp2_with fail
      go_ret
      exact ⟨rfl, rfl⟩
    · rw [decide_eq_false (fun h => h2 h.2)]
      go_enter Try.func34, Try.ntmps34
      go_wp2_with fail
      go_ret
      exact ⟨rfl, rfl⟩
  · rw [decide_eq_false (fun h => h1 h.1)]
    go_enter Try.func34, Try.ntmps34
    go_wp2_with fail
    go_ret
    exact ⟨rfl, rfl⟩
def rw1E (u : Int) (_ : Bk) : Int := if 1 ≤ u ∧ u ≤ 65535 then 0 else 1
def rw1 (u : Int) (b : Bk) : Bk := if 1 ≤ u ∧ u ≤ 65535 then { b with wt := u } else b
theorem rew36 (W : World) (bx cb : Nat) (u : Int) (b : Bk) (h : Row W bx 33 (bkC b)) (hc : W.cell? ⟨cb, 0, none⟩ = some (.int .i64 u)) :
    Calls Try.prog 36 #[.pointer (some ⟨bx, 0, none⟩), .pointer (some ⟨cb, 0, none⟩)] W fun e W' => e = .returned (.int .i64 (rw1E u b)) ∧ Row W' bx 33 (bkC (rw1 u b)) ∧ Keep (fun k => k = bx) W W' := by
  obtain ⟨c0, c1, c2, c3, c4⟩ := bk_cells W bx b h
  have f1 : W.frozen? ⟨bx, 1, none⟩ = false := h.free 1
  have HH := Lib.hid h
  have HI := Lib.hid (fun w => within34 u 65535 w)
  clear h
  unfold rw1E rw1
  by_cases hu : 1 ≤ u ∧ u ≤ 65535
  · rw [if_pos hu, if_pos hu]
    rw [decide_eq_true hu] at HI
    clear hu
    go_enter Try.func36, Try.ntmps36
    go_wp2_with fail
    refine (HI.out _).mono ?_
    rintro e w2 ⟨rfl, rfl⟩
    go_wp2_with fail
    go_ret
    exact ⟨rfl, HH.out.put 1 _, keep_one _ _ _ _⟩
  · rw [if_neg hu, if_neg hu]
    rw [decide_eq_false hu] at HI
    clear hu
    go_enter Try.func36, Try.ntmps36
    go_wp2_with fail
    refine (HI.out _).mono ?_
    rintro e w2 ⟨rfl, rfl⟩
    go_wp2_with fail
    go_ret
    exact ⟨rfl, HH.out, Keep.refl _ _⟩
theorem turn47 (W : World) (bx cb : Nat) (u : Int) (b : Bk) (h : Row W bx 33 (bkC b)) (hc : W.cell? ⟨cb, 0, none⟩ = some (.int .i64 u)) :
    Calls Try.prog 47 #[.pointer (some ⟨bx, 0, none⟩), .pointer (some ⟨cb, 0, none⟩)] W fun e W' => e = .returned (.int .i64 0) ∧ Row W' bx 33 (bkC { b with st := u }) ∧ Keep (fun k => k = bx) W W' := by
  obtain ⟨c0, c1, c2, c3, c4⟩ := bk_cells W bx b h
  have f1 : W.frozen? ⟨bx, 3, none⟩ = false := h.free 3
  have HH := Lib.hid h
  clear h
  go_enter Try.func47, Try.ntmps47
  go_wp2_with fail
  go_ret
  exact ⟨rfl, HH.out.put 3 _, keep_one _ _ _ _⟩
end Go.Proofs.Ytoikgphbicnhaab
