/- An agenda in memory: Pop, At (written by genagz.py). -/
import Derived.Test.YtcdgmhglpcokdaaAhY
namespace Go.Proofs.Ytcdgmhglpcokdaa
open Go.RowKit Go.Maps
section PlV
variable {pl : Pl}

theorem apopaS (ab n N : Nat) (v mp : Value) (sets : Int) (Q : Nat → It) (F : ByteArray → Option Nat) (S : Nat → Prop) (hn : n ≤ 1000) (now : Int) (w : World) (h : AgX pl 107 106 MPS w ab n N v mp sets Q F S) (hl : 0 < n → now < (Q 0).a) :
    Calls Try.prog 34 #[.pointer (some ⟨ab, pl.o, none⟩), .int .i64 now] w fun e w' => e = .returned (.tuple #[.string ⟨#[]⟩, .int .i64 0, .bool false]) ∧ w' = w := by
  have HFI := Lib.hid (afirstS ab n N v mp sets Q F S hn w h)
  clear h
  by_cases h0 : n = 0
  · subst h0
    rw [if_pos rfl, decide_eq_false (Nat.lt_irrefl 0)] at HFI
    go_enter Try.func34, Try.ntmps34
    go_wp2_with fail
    refine HFI.out.mono ?_
    rintro e w1 ⟨rfl, rfl⟩
    clear HFI
    go_wp2_with fail
    go_ret3
    exact ⟨rfl, rfl⟩
  · have h1 := hl (by omega)
    rw [if_neg h0, decide_eq_true (show 0 < n by omega)] at HFI
    have hd : decide (now < (Q 0).a) = true := decide_eq_true h1
    go_enter Try.func34, Try.ntmps34
    go_wp2_with fail
    refine HFI.out.mono ?_
    rintro e w1 ⟨rfl, rfl⟩
    clear HFI
    go_wp2_with fail
    go_ret3
    exact ⟨rfl, rfl⟩
set_option maxHeartbeats 1000000 in
set_option maxRecDepth 100000 in
theorem apopbS (ab n N : Nat) (v mp : Value) (sets : Int) (Q : Nat → It) (F : ByteArray → Option Nat) (S : Nat → Prop) (hn : n ≤ 900) (k : ByteArray) (hk : KS.ok k) (now : Int) (w : World) (h : AgX pl 107 106 MPS w ab (n + 1) N v mp sets Q F S) (hQ : (Q 0).k = .string k) (hF : F k = some (Q 0).b) (hl : (Q 0).a ≤ now) :
    Calls Try.prog 34 #[.pointer (some ⟨ab, pl.o, none⟩), .int .i64 now] w fun e w' => e = .returned (.tuple #[.string k, .int .i64 (Q 0).a, .bool true]) ∧ ∃ v' mp' Q', AgX pl 107 106 MPS w' ab n N v' mp' sets Q' (updK F k none) (newS S w w') ∧ Without n Q 0 Q' ∧ Keep S w w' := by
  have HFI := Lib.hid (afirstS ab (n + 1) N v mp sets Q F S (by omega) w h)
  rw [if_neg (by omega), decide_eq_true (show 0 < n + 1 by omega)] at HFI
  obtain ⟨mb, rfl, hmS, hmk⟩ := h.mb hF
  have HPO := Lib.hid (hpopS ab n v (.map (some mb)) sets Q (by omega) w h.s h.hp)
  have HX := Lib.hid h
  have HMK := Lib.hid hmk
  have HMS := Lib.hid hmS
  obtain ⟨b, hb⟩ : ∃ b, (Q 0).b = b := ⟨_, rfl⟩
  obtain ⟨a, ha⟩ : ∃ a, (Q 0).a = a := ⟨_, rfl⟩
  have HQ := Lib.hid hQ
  have HF := Lib.hid hF
  have HB := Lib.hid hb
  have HA := Lib.hid ha
  have HOK := Lib.hid hk
  rw [ha] at HFI hl ⊢
  have hd : decide (now < a) = false := decide_eq_false (by omega)
  have hta : ∀ w : World, (Instr.typeAssert (.iface 107 (.pointer (some ⟨b, 0, none⟩))) 20 107 false).run Try.prog w = .ok (.pointer (some ⟨b, 0, none⟩)) w := fun _ => by kernel_rfl
  clear h hmk hmS hQ hF hb ha hk
  go_enter Try.func34, Try.ntmps34
  go_wp2_with fail
  refine HFI.out.mono ?_
  rintro e w1 ⟨rfl, rfl⟩
  clear HFI
  go_wp2_with fail
  refine HPO.out.mono ?_
  rintro e w2 ⟨rfl, g, c, Q', rfl, hs2, hh2, hw2, hr2, hk2⟩
  have HS2 := Lib.hid hs2
  have HH2 := Lib.hid hh2
  have HW2 := Lib.hid hw2
  have HK2 := Lib.hid hk2
  have HM2 := Lib.hid (HMK.out.keep hk2 (HX.out.s.mnot HMK.out))
  have hpt : ptI (Q 0) = .pointer (some ⟨b, 0, none⟩) := by unfold ptI; rw [HB.out]
  have hr3 : Row w2 b 106 #[.string k, .int .i64 a, .int .i64 (Q 0).t, .int .i64 n] := by
    have := hr2
    unfold itR at this
    rw [HB.out, HQ.out, HA.out] at this
    exact this
  have HR2 := Lib.hid hr3
  have k0 : w2.cell? ⟨b, 0, none⟩ = some (.string k) := hr3.cell 0
  have k1 : w2.cell? ⟨ab, pl.o + 1, none⟩ = some (.map (some mb)) := hs2.ag.c1
  have HFK := Lib.hid (findS k w2)
  clear hs2 hh2 hw2 hr2 hr3 hk2 HPO
  go_wp2_with fail
  refine HFK.out.mono ?_
  rintro e w3 ⟨rfl, hb3⟩
  have HS3 := Lib.hid (HS2.out.below hb3)
  have HM3 := Lib.hid (HM2.out.below hb3)
  have HR3 := Lib.hid (HR2.out.below hb3)
  have HK3 := Lib.hid (HK2.out.trans (Keep.of_below hb3))
  have j0 : w3.cell? ⟨b, 0, none⟩ = some (.string k) := HR3.out.cell 0
  have j1 : w3.cell? ⟨ab, pl.o + 1, none⟩ = some (.map (some mb)) := HS3.out.ag.c1
  clear hb3 k0 k1 hpt HFK
  go_wp2_with fail
  refine region_tail 8 (by kernel_rfl) (by kernel_rfl) ?_
  simp only [List.take_succ_cons, List.take_zero, List.drop_succ_cons, List.drop_zero]
  repeat still_step
  refine still_tail_nil ?_
  go_wp2_with (at_delete; refine wpl_dropK MPS _ rfl _ _ rfl mb N (fun x => (F x).map some) rfl (HM3.out.same rfl) k rfl HOK.out ?_; intro w4 m4 g4; have HM4 := Lib.hid m4; have HG4 : Hid (Keep (fun x => x = mb) w3 w4) := (Keep.drew w3).trans (Keep.turnedK g4 rfl); clear m4 g4)
  have hne : ¬ b = mb := fun e => HM3.out.ne_row HR3.out e.symm
  have hr4 := HR3.out.keep HG4.out hne
  have i0 : w4.cell? ⟨b, 0, none⟩ = some (.string k) := hr4.cell 0
  have i1 : w4.cell? ⟨b, 1, none⟩ = some (.int .i64 a) := hr4.cell 1
  refine region_tail 9 (by kernel_rfl) (by kernel_rfl) ?_
  simp only [List.take_succ_cons, List.take_zero, List.drop_succ_cons, List.drop_zero]
  repeat still_step
  refine still_tail_nil ?_
  go_wp2_with fail
  go_ret3
  have hK5 : Keep (fun x => x = mb) w3 w4.drew := HG4.out.trans (Keep.drew w4)
  have hs5 := HS3.out.keep hK5 (fun x hx e => HS3.out.mnot HM3.out (e ▸ hx))
  obtain ⟨q1, q2⟩ := HX.out.rem HOK.out (by omega) HQ.out HF.out HW2.out
  have hK : Keep S w1 w4.drew := ((HK3.out.more (fun x _ hg => HX.out.sub x hg))).via hK5 (fun x _ e => e ▸ HMS.out)
  refine ⟨rfl, _, .map (some mb), Q', ⟨hs5, HH2.out, .inr ⟨mb, rfl, .inl HMS.out, ?_⟩, q1, q2, fun x hx => .inl (HX.out.sub x (HW2.out.sub rfl x hx))⟩, HW2.out, hK⟩
  rw [updK_none]
  exact HM4.out.same rfl
theorem apopaN (ab n N : Nat) (v mp : Value) (sets : Int) (Q : Nat → It) (F : Int → Option Nat) (S : Nat → Prop) (hn : n ≤ 1000) (now : Int) (w : World) (h : AgX pl 97 99 MPN w ab n N v mp sets Q F S) (hl : 0 < n → now < (Q 0).a) :
    Calls Try.prog 94 #[.pointer (some ⟨ab, pl.o, none⟩), .int .i64 now] w fun e w' => e = .returned (.tuple #[.int .i64 0, .int .i64 0, .bool false]) ∧ w' = w := by
  have HFI := Lib.hid (afirstN ab n N v mp sets Q F S hn w h)
  clear h
  by_cases h0 : n = 0
  · subst h0
    rw [if_pos rfl, decide_eq_false (Nat.lt_irrefl 0)] at HFI
    go_enter Try.func94, Try.ntmps94
    go_wp2_with fail
    refine HFI.out.mono ?_
    rintro e w1 ⟨rfl, rfl⟩
    clear HFI
    go_wp2_with fail
    go_ret3
    exact ⟨rfl, rfl⟩
  · have h1 := hl (by omega)
    rw [if_neg h0, decide_eq_true (show 0 < n by omega)] at HFI
    have hd : decide (now < (Q 0).a) = true := decide_eq_true h1
    go_enter Try.func94, Try.ntmps94
    go_wp2_with fail
    refine HFI.out.mono ?_
    rintro e w1 ⟨rfl, rfl⟩
    clear HFI
    go_wp2_with fail
    go_ret3
    exact ⟨rfl, rfl⟩
set_option maxHeartbeats 1000000 in
set_option maxRecDepth 100000 in
theorem apopbN (ab n N : Nat) (v mp : Value) (sets : Int) (Q : Nat → It) (F : Int → Option Nat) (S : Nat → Prop) (hn : n ≤ 900) (k : Int) (hk : KN.ok k) (now : Int) (w : World) (h : AgX pl 97 99 MPN w ab (n + 1) N v mp sets Q F S) (hQ : (Q 0).k = .int .i64 k) (hF : F k = some (Q 0).b) (hl : (Q 0).a ≤ now) :
    Calls Try.prog 94 #[.pointer (some ⟨ab, pl.o, none⟩), .int .i64 now] w fun e w' => e = .returned (.tuple #[.int .i64 k, .int .i64 (Q 0).a, .bool true]) ∧ ∃ v' mp' Q', AgX pl 97 99 MPN w' ab n N v' mp' sets Q' (updK F k none) (newS S w w') ∧ Without n Q 0 Q' ∧ Keep S w w' := by
  have HFI := Lib.hid (afirstN ab (n + 1) N v mp sets Q F S (by omega) w h)
  rw [if_neg (by omega), decide_eq_true (show 0 < n + 1 by omega)] at HFI
  obtain ⟨mb, rfl, hmS, hmk⟩ := h.mb hF
  have HPO := Lib.hid (hpopN ab n v (.map (some mb)) sets Q (by omega) w h.s h.hp)
  have HX := Lib.hid h
  have HMK := Lib.hid hmk
  have HMS := Lib.hid hmS
  obtain ⟨b, hb⟩ : ∃ b, (Q 0).b = b := ⟨_, rfl⟩
  obtain ⟨a, ha⟩ : ∃ a, (Q 0).a = a := ⟨_, rfl⟩
  have HQ := Lib.hid hQ
  have HF := Lib.hid hF
  have HB := Lib.hid hb
  have HA := Lib.hid ha
  have HOK := Lib.hid hk
  rw [ha] at HFI hl ⊢
  have hd : decide (now < a) = false := decide_eq_false (by omega)
  have hta : ∀ w : World, (Instr.typeAssert (.iface 97 (.pointer (some ⟨b, 0, none⟩))) 20 97 false).run Try.prog w = .ok (.pointer (some ⟨b, 0, none⟩)) w := fun _ => by kernel_rfl
  clear h hmk hmS hQ hF hb ha hk
  go_enter Try.func94, Try.ntmps94
  go_wp2_with fail
  refine HFI.out.mono ?_
  rintro e w1 ⟨rfl, rfl⟩
  clear HFI
  go_wp2_with fail
  refine HPO.out.mono ?_
  rintro e w2 ⟨rfl, g, c, Q', rfl, hs2, hh2, hw2, hr2, hk2⟩
  have HS2 := Lib.hid hs2
  have HH2 := Lib.hid hh2
  have HW2 := Lib.hid hw2
  have HK2 := Lib.hid hk2
  have HM2 := Lib.hid (HMK.out.keep hk2 (HX.out.s.mnot HMK.out))
  have hpt : ptI (Q 0) = .pointer (some ⟨b, 0, none⟩) := by unfold ptI; rw [HB.out]
  have hr3 : Row w2 b 99 #[.int .i64 k, .int .i64 a, .int .i64 (Q 0).t, .int .i64 n] := by
    have := hr2
    unfold itR at this
    rw [HB.out, HQ.out, HA.out] at this
    exact this
  have HR2 := Lib.hid hr3
  have k0 : w2.cell? ⟨b, 0, none⟩ = some (.int .i64 k) := hr3.cell 0
  have k1 : w2.cell? ⟨ab, pl.o + 1, none⟩ = some (.map (some mb)) := hs2.ag.c1
  have HFK := Lib.hid (findN k w2)
  clear hs2 hh2 hw2 hr2 hr3 hk2 HPO
  go_wp2_with fail
  refine HFK.out.mono ?_
  rintro e w3 ⟨rfl, hb3⟩
  have HS3 := Lib.hid (HS2.out.below hb3)
  have HM3 := Lib.hid (HM2.out.below hb3)
  have HR3 := Lib.hid (HR2.out.below hb3)
  have HK3 := Lib.hid (HK2.out.trans (Keep.of_below hb3))
  have j0 : w3.cell? ⟨b, 0, none⟩ = some (.int .i64 k) := HR3.out.cell 0
  have j1 : w3.cell? ⟨ab, pl.o + 1, none⟩ = some (.map (some mb)) := HS3.out.ag.c1
  clear hb3 k0 k1 hpt HFK
  go_wp2_with fail
  refine region_tail 8 (by kernel_rfl) (by kernel_rfl) ?_
  simp only [List.take_succ_cons, List.take_zero, List.drop_succ_cons, List.drop_zero]
  repeat still_step
  refine still_tail_nil ?_
  go_wp2_with (at_delete; refine wpl_dropK MPN _ rfl _ _ rfl mb N (fun x => (F x).map some) rfl (HM3.out.same rfl) k rfl HOK.out ?_; intro w4 m4 g4; have HM4 := Lib.hid m4; have HG4 : Hid (Keep (fun x => x = mb) w3 w4) := (Keep.drew w3).trans (Keep.turnedK g4 rfl); clear m4 g4)
  have hne : ¬ b = mb := fun e => HM3.out.ne_row HR3.out e.symm
  have hr4 := HR3.out.keep HG4.out hne
  have i0 : w4.cell? ⟨b, 0, none⟩ = some (.int .i64 k) := hr4.cell 0
  have i1 : w4.cell? ⟨b, 1, none⟩ = some (.int .i64 a) := hr4.cell 1
  refine region_tail 9 (by kernel_rfl) (by kernel_rfl) ?_
  simp only [List.take_succ_cons, List.take_zero, List.drop_succ_cons, List.drop_zero]
  repeat still_step
  refine still_tail_nil ?_
  go_wp2_with fail
  go_ret3
  have hK5 : Keep (fun x => x = mb) w3 w4.drew := HG4.out.trans (Keep.drew w4)
  have hs5 := HS3.out.keep hK5 (fun x hx e => HS3.out.mnot HM3.out (e ▸ hx))
  obtain ⟨q1, q2⟩ := HX.out.rem HOK.out (by omega) HQ.out HF.out HW2.out
  have hK : Keep S w1 w4.drew := ((HK3.out.more (fun x _ hg => HX.out.sub x hg))).via hK5 (fun x _ e => e ▸ HMS.out)
  refine ⟨rfl, _, .map (some mb), Q', ⟨hs5, HH2.out, .inr ⟨mb, rfl, .inl HMS.out, ?_⟩, q1, q2, fun x hx => .inl (HX.out.sub x (HW2.out.sub rfl x hx))⟩, HW2.out, hK⟩
  rw [updK_none]
  exact HM4.out.same rfl
end PlV
end Go.Proofs.Ytcdgmhglpcokdaa
