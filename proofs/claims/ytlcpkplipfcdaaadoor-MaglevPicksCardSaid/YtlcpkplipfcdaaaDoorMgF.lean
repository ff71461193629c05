/- maglev.nextFree. -/
import Derived.Test.YtlcpkplipfcdaaaDoorMgM
import Derived.Test.YtlcpkplipfcdaaaDoorMgL
import Derived.Test.YtlcpkplipfcdaaaDoorRegT
import Derived.IntWalk
namespace Go.Proofs.YtlcpkplipfcdaaaDoor
open Go.RowKit

/-- The claims in memory. -/
structure ClaimsAt (w : World) (cb : Nat) (P : Par) (nx : Nat → Nat) (ow : Nat → Int) : Prop where
  c0 : ∀ i, i < P.n → w.cell? ⟨cb, i * 4, none⟩ = some (.int .i64 (P.W i : Nat))
  c1 : ∀ i, i < P.n → w.cell? ⟨cb, i * 4 + 1, none⟩ = some (.int .i64 (ow i))
  c2 : ∀ i, i < P.n → w.cell? ⟨cb, i * 4 + 2, none⟩ = some (.int .i64 (P.pl i (nx i) : Nat))
  c3 : ∀ i, i < P.n → w.cell? ⟨cb, i * 4 + 3, none⟩ = some (.int .i64 (P.S i : Nat))
  fz : ∀ j, j < P.n * 4 → w.frozen? ⟨cb, j, none⟩ = false
/-- The owners in memory. -/
def OwnersAt (w : World) (ob m : Nat) (own : Nat → Int) : Prop := ∀ q, q < m → w.cell? ⟨ob, q, none⟩ = some (.int .i64 (own q)) ∧ w.frozen? ⟨ob, q, none⟩ = false
theorem other_cell {w : World} {b o b' o' : Nat} (h : b ≠ b' ∨ o ≠ o') (v : Value) : (w.setCell ⟨b', o', none⟩ v).cell? ⟨b, o, none⟩ = w.cell? ⟨b, o, none⟩ :=
  World.cell?_setCell_other _ _ _ _ (by intro e; injection e with e1 e2; rcases h with h | h; exact h e1.symm; exact h e2.symm)
theorem OwnersAt.far {w : World} {ob m cb : Nat} {own : Nat → Int} (h : OwnersAt w ob m own) (hne : cb ≠ ob) (o : Nat) (v : Value) : OwnersAt (w.setCell ⟨cb, o, none⟩ v) ob m own := fun q hq => by
  rw [other_cell (.inl (Ne.symm hne)), World.frozen?_setCell]; exact h q hq
theorem OwnersAt.set {w : World} {ob m : Nat} {own : Nat → Int} (h : OwnersAt w ob m own) {q : Nat} (hq : q < m) (v : Int) : OwnersAt (w.setCell ⟨ob, q, none⟩ (.int .i64 v)) ob m (setI own q v) := fun r hr => by
  rw [World.frozen?_setCell]
  refine ⟨?_, (h r hr).2⟩
  unfold setI
  by_cases e : r = q
  · subst e; rw [World.cell?_setCell_same _ _ _ (h r hr).1, if_pos rfl]
  · rw [other_cell (.inr e), if_neg e]; exact (h r hr).1
theorem ClaimsAt.far {w : World} {cb ob : Nat} {P : Par} {nx : Nat → Nat} {ow : Nat → Int} (h : ClaimsAt w cb P nx ow) (hne : cb ≠ ob) (o : Nat) (v : Value) : ClaimsAt (w.setCell ⟨ob, o, none⟩ v) cb P nx ow :=
  ⟨fun i hi => by rw [other_cell (.inl hne)]; exact h.c0 i hi, fun i hi => by rw [other_cell (.inl hne)]; exact h.c1 i hi, fun i hi => by rw [other_cell (.inl hne)]; exact h.c2 i hi,
   fun i hi => by rw [other_cell (.inl hne)]; exact h.c3 i hi, fun j hj => by rw [World.frozen?_setCell]; exact h.fz j hj⟩
theorem ClaimsAt.setP {w : World} {cb : Nat} {P : Par} {nx : Nat → Nat} {ow : Nat → Int} (h : ClaimsAt w cb P nx ow) {i : Nat} (hi : i < P.n) (t : Nat) : ClaimsAt (w.setCell ⟨cb, i * 4 + 2, none⟩ (.int .i64 (P.pl i t : Nat))) cb P (setN nx i t) ow := by
  refine ⟨fun k hk => by rw [other_cell (.inr (by omega))]; exact h.c0 k hk, fun k hk => by rw [other_cell (.inr (by omega))]; exact h.c1 k hk, fun k hk => ?_, fun k hk => by rw [other_cell (.inr (by omega))]; exact h.c3 k hk, fun j hj => by rw [World.frozen?_setCell]; exact h.fz j hj⟩
  unfold setN
  by_cases e : k = i
  · subst e; rw [World.cell?_setCell_same _ _ _ (h.c2 k hk), if_pos rfl]
  · rw [other_cell (.inr (by omega)), if_neg e]; exact h.c2 k hk
theorem ClaimsAt.setO {w : World} {cb : Nat} {P : Par} {nx : Nat → Nat} {ow : Nat → Int} (h : ClaimsAt w cb P nx ow) {i : Nat} (hi : i < P.n) (v : Int) : ClaimsAt (w.setCell ⟨cb, i * 4 + 1, none⟩ (.int .i64 v)) cb P nx (setI ow i v) := by
  refine ⟨fun k hk => by rw [other_cell (.inr (by omega))]; exact h.c0 k hk, fun k hk => ?_, fun k hk => by rw [other_cell (.inr (by omega))]; exact h.c2 k hk, fun k hk => by rw [other_cell (.inr (by omega))]; exact h.c3 k hk, fun j hj => by rw [World.frozen?_setCell]; exact h.fz j hj⟩
  unfold setI
  by_cases e : k = i
  · subst e; rw [World.cell?_setCell_same _ _ _ (h.c1 k hk), if_pos rfl]
  · rw [other_cell (.inr (by omega)), if_neg e]; exact h.c1 k hk
theorem ClaimsAt.drew {w : World} {cb : Nat} {P : Par} {nx : Nat → Nat} {ow : Nat → Int} (h : ClaimsAt w cb P nx ow) : ClaimsAt w.drew cb P nx ow := ⟨h.c0, h.c1, h.c2, h.c3, h.fz⟩
theorem OwnersAt.drew {w : World} {ob m : Nat} {own : Nat → Int} (h : OwnersAt w ob m own) : OwnersAt w.drew ob m own := h
/-- The place that a claim has, read off the world. -/
def placeOf (w : World) (cb i : Nat) : Nat := match w.cell? ⟨cb, i * 4 + 2, none⟩ with
  | some (.int .i64 z) => z.toNat
  | _ => 0
theorem placeOf_is {w : World} {cb : Nat} {P : Par} {nx : Nat → Nat} {ow : Nat → Int} (h : ClaimsAt w cb P nx ow) {i : Nat} (hi : i < P.n) : placeOf w cb i = P.pl i (nx i) := by
  unfold placeOf; rw [h.c2 i hi]; simp
theorem wrapS (n : Nat) (h : n < 9223372036854775808) : IntKind.i64.wrap (n : Int) = (n : Int) := by
  simp [IntKind.wrap, IntKind.signed, IntKind.bits]; omega
theorem tmodM (p s m : Nat) : (((p + s : Nat) : Int)).tmod (m : Int) = (((p + s) % m : Nat) : Int) := by rw [Int.tmod_eq_emod_of_nonneg (by omega)]; rfl
set_option maxRecDepth 100000 in
set_option maxHeartbeats 2000000 in
theorem free40 (P : Par) (h : P.Ok) (hm : P.m ≤ 1048576) (hS : ∀ i, i < P.n → P.S i < P.m) (cb ob : Nat) (hne : cb ≠ ob) (i : Nat) (hi : i < P.n) (st : St) (hI : P.Inv st) (hc : st.cnt < P.m) (c : Nat) (w : World) (hC : ClaimsAt w cb P st.nx st.ow) (hO : OwnersAt w ob P.m st.own) :
    Calls Tryd.prog 63 #[.pointer (some ⟨cb, i * 4, none⟩), .slice (some ⟨ob, 0, none⟩) P.m c] w fun e w' => e = .returned (.int .i64 (P.pl i (P.nxt i st) : Nat)) ∧ ClaimsAt w' cb P (setN st.nx i (P.nxt i st)) st.ow ∧ OwnersAt w' ob P.m st.own ∧ Keep (fun k => k = cb) w w' := by
  obtain ⟨f1, f2, f3, f4⟩ := hI.free h hc hi
  have HC := Lib.hid hC
  have HO := Lib.hid hO
  have HF3 := Lib.hid f3
  have HF4 := Lib.hid f4
  have hSi := hS i hi
  have HPOS := Lib.hid (fun t ht => Par.pos_pl h hi (t := t) ht)
  generalize P.nxt i st = v at *
  clear hC hO f3 f4 hI
  go_enter Tryd.func63, Tryd.ntmps63
  go_wp2_with fail
  go_loopw [9] (fun _ wr => ∃ t : Nat, st.nx i ≤ t ∧ t ≤ v ∧ Hid (ClaimsAt wr cb P (setN st.nx i t) st.ow) ∧ Hid (OwnersAt wr ob P.m st.own) ∧ Hid (Keep (fun k => k = cb) w wr)) (fun _ wr => P.m - P.pos i (placeOf wr cb i))
  case atStart => exact ⟨st.nx i, Nat.le_refl _, f1, by rw [setN_id]; exact HC, HO, Keep.refl _ _⟩
  case round =>
    clear HC HO
    obtain ⟨t, ht1, ht2, HC, HO, HK⟩ := hrel
    have hpos := placeOf_is HC.out hi
    rw [setN_same] at hpos
    have hp2 := HPOS.out t (by omega)
    have hc2 := HC.out.c2 i hi
    rw [setN_same] at hc2
    have hc3 := HC.out.c3 i hi
    have hpl := Par.pl_lt h i t
    have ho := (HO.out (P.pl i t) hpl).1
    have hnx := P.pl_next i t
    have hfz := HC.out.fz (i * 4 + 2) (by omega)
    have pq : ((P.pl i t : Nat) : Int) < P.m := by omega
    have pz : ¬ ((P.m : Nat) : Int) = 0 := by omega
    have pz2 : ¬ P.m = 0 := by omega
    by_cases he : t = v
    · subst he
      have hov := HF3.out
      rw [hov] at ho
      generalize hq : P.pl i t = q at hc2 hpl ho pq
      have HQ := Lib.hid hq
      clear hq hnx hpos hp2
      go_wp2_with fail
      go_ret
      exact ⟨by rw [HQ.out]; rfl, HC.out, HO.out, HK.out⟩
    · have hov := HF4.out t ht1 (by omega)
      have hon : ((st.own (P.pl i t)) != -1) = true := by rw [bne_iff_ne]; exact hov
      have ht := tmodM (P.pl i t) (P.S i) P.m
      have hw1 := wrapS (P.pl i t + P.S i) (by omega)
      have hw2 := wrapS (P.pl i (t + 1)) (by have := Par.pl_lt h i (t + 1); omega)
      rw [hnx] at ht
      have hcs : ((P.pl i t + P.S i : Nat) : Int) = (P.pl i t : Int) + (P.S i : Int) := by omega
      rw [hcs] at ht hw1
      have HC2 := Lib.hid (HC.out.drew.setP hi (t + 1))
      rw [setN_twice] at HC2
      have HO2 := Lib.hid (HO.out.drew.far hne (i * 4 + 2) (.int .i64 (P.pl i (t + 1) : Nat)))
      have HK2 := Lib.hid ((HK.out.trans (Keep.drew wr)).trans (Keep.setCell (G := fun k => k = cb) wr.drew (p := ⟨cb, i * 4 + 2, none⟩) rfl (.int .i64 (P.pl i (t + 1) : Nat))))
      have hpos2 := placeOf_is HC2.out hi
      rw [setN_same] at hpos2
      have hp3 := HPOS.out (t + 1) (by omega)
      have HM1 : Hid (P.pos i (placeOf wr cb i) = t) := by show _ = _; rw [hpos]; exact hp2
      have HM2 : Hid (P.pos i (placeOf (wr.drew.setCell ⟨cb, i * 4 + 2, none⟩ (.int .i64 (P.pl i (t + 1) : Nat))) cb i) = t + 1) := by show _ = _; rw [hpos2]; exact hp3
      have hd2 := HC.out.drew.c2 i hi
      rw [setN_same] at hd2
      have hdf := HC.out.drew.fz (i * 4 + 2) (by omega)
      clear hov hnx hcs hp2 hp3 hpos hpos2
      generalize P.pl i t = q at *
      generalize P.pl i (t + 1) = q2 at *
      generalize P.S i = s at *
      generalize st.own q = oq at *
      go_wp2_with fail
      refine region_tail 13 (by kernel_rfl) (by kernel_rfl) ?_
      simp only [List.take_succ_cons, List.take_zero, List.drop_succ_cons, List.drop_zero]
      iterate 13 still_step
      refine still_tail_nil ?_
      generalize wr.drew = W at *
      go_wp2_with fail
      go_roundw
      case rel => exact ⟨t + 1, by omega, by omega, HC2, HO2, HK2⟩
      case measure =>
        rw [HM1.out, HM2.out]
        omega
end Go.Proofs.YtlcpkplipfcdaaaDoor
