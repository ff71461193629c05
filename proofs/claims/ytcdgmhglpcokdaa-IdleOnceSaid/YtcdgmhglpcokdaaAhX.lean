/- An agenda in memory: Drop (written by genagx.py). -/
import Derived.Test.YtcdgmhglpcokdaaAhW
namespace Go.Proofs.Ytcdgmhglpcokdaa
open Go.RowKit Go.Maps
section PlV
variable {pl : Pl}

theorem KTy.kv_inj {κ : Type} (K : KTy κ) {a b : κ} (ha : K.ok a) (hb : K.ok b) (h : K.kv a = K.kv b) : a = b := by
  have h1 := K.key a ha
  rw [h, K.key b hb] at h1
  injection h1 with h1
  exact (K.inj _ _ h1).symm
section
variable {κ : Type} {K : KTy κ} {pl : Pl} {PT IT : TypeId} {M : MTyK K (Option Nat)} {w w' : World} {ab n N R : Nat} {v mp : Value} {sets : Int} {Q Q1 : Nat → It} {F : κ → Option Nat} {S : Nat → Prop}
theorem AgX.rem (h : AgX pl PT IT M w ab (n + 1) N v mp sets Q F S) {k : κ} (ok : K.ok k) (hR : R < n + 1) (hk : (Q R).k = K.kv k) (hF : F k = some (Q R).b) (hw : Without n Q R Q1) :
    (∀ k' b, updK F k none k' = some b → ∃ i, i < n ∧ (Q1 i).k = K.kv k' ∧ (Q1 i).b = b ∧ K.ok k') ∧ ∀ i, i < n → ∃ k', K.ok k' ∧ (Q1 i).k = K.kv k' ∧ updK F k none k' = some (Q1 i).b := by
  refine ⟨fun k' b e => ?_, fun i hi => ?_⟩
  · by_cases hx : k' = k
    · subst hx
      rw [updK_same] at e
      cases e
    · rw [updK_other F _ hx] at e
      obtain ⟨i, hi, e1, e2, e3⟩ := h.fto k' b e
      have hne : i ≠ R := fun e4 => by
        subst e4
        rw [hk] at e1
        exact hx (K.kv_inj ok e3 e1).symm
      obtain ⟨j, hj, e4⟩ := hw.2 i hi hne
      exact ⟨j, hj, by rw [e4]; exact e1, by rw [e4]; exact e2, e3⟩
  · obtain ⟨j, hj, hne, e⟩ := hw.1 i hi
    obtain ⟨k', o', e1, e2⟩ := h.fof j hj
    have hx : k' ≠ k := fun e3 => by
      rw [e3, hF] at e2
      injection e2 with e2
      exact hne (h.s.inj j hj R hR e2.symm)
    exact ⟨k', o', by rw [e]; exact e1, by rw [e, updK_other F _ hx]; exact e2⟩
theorem Without.sub (hw : Without n Q R Q1) {v' : Value} (hv : v'.ownBlock = v.ownBlock) : ∀ k, AgG ab v' Q1 n k → AgG ab v Q (n + 1) k := fun k hk => by
  rcases hk with e | hk | ⟨i, hi, e⟩
  · exact .inl e
  · exact .inr (.inl (by rw [← hv]; exact hk))
  · obtain ⟨j, hj, _, e1⟩ := hw.1 i hi
    exact .inr (.inr ⟨j, hj, by rw [← e1]; exact e⟩)
theorem AgX.at {k : κ} {b : Nat} (h : AgX pl PT IT M w ab n N v mp sets Q F S) (hF : F k = some b) : ∃ n' R, n = n' + 1 ∧ R < n' + 1 ∧ (Q R).b = b ∧ (Q R).k = K.kv k := by
  obtain ⟨i, hi, e1, e2, _⟩ := h.fto k b hF
  exact ⟨n - 1, i, by omega, by omega, e2, e1⟩
theorem AgX.mb {k : κ} {b : Nat} (h : AgX pl PT IT M w ab n N v mp sets Q F S) (hF : F k = some b) : ∃ mb, mp = .map (some mb) ∧ S mb ∧ MapK M w mb N (fun k => (F k).map some) := by
  rcases h.m with ⟨_, e⟩ | h
  · rw [e] at hF; cases hF
  · exact h
end
theorem adropaS (ab n N : Nat) (v mp : Value) (sets : Int) (Q : Nat → It) (F : ByteArray → Option Nat) (S : Nat → Prop) (k : ByteArray) (hk : KS.ok k) (w : World) (h : AgX pl 107 106 MPS w ab n N v mp sets Q F S) (hF : F k = none) :
    Calls Try.prog 46 #[.pointer (some ⟨ab, pl.o, none⟩), .string k] w fun e w' => e = .returned (.bool false) ∧ Below w.heap.size w w' := by
  have hfi := afindS ab n N v mp sets Q F S k hk w h
  rw [hF] at hfi
  have HFI : Hid (Calls Try.prog 57 #[.pointer (some ⟨ab, pl.o, none⟩), .string k] w fun e w' => e = .returned (.pointer none) ∧ Below w.heap.size w w') := hfi
  clear h hF hfi
  go_enter Try.func46, Try.ntmps46
  go_wp2_with fail
  refine HFI.out.mono ?_
  rintro e w1 ⟨rfl, hb⟩
  have HB := Lib.hid hb
  clear hb HFI
  go_wp2_with fail
  go_ret
  exact ⟨rfl, HB.out⟩
set_option maxHeartbeats 1000000 in
set_option maxRecDepth 100000 in
theorem adropbS (ab n N : Nat) (v mp : Value) (sets : Int) (Q : Nat → It) (F : ByteArray → Option Nat) (S : Nat → Prop) (hn : n ≤ 1000) (k : ByteArray) (hk : KS.ok k) (R : Nat) (hR : R < n + 1) (hQ : (Q R).k = .string k) (w : World) (h : AgX pl 107 106 MPS w ab (n + 1) N v mp sets Q F S) (hF : F k = some (Q R).b) :
    Calls Try.prog 46 #[.pointer (some ⟨ab, pl.o, none⟩), .string k] w fun e w' => e = .returned (.bool true) ∧ ∃ v' mp' Q', AgX pl 107 106 MPS w' ab n N v' mp' sets Q' (updK F k none) (newS S w w') ∧ Without n Q R Q' ∧ Keep S w w' := by
  have hfi := afindS ab (n + 1) N v mp sets Q F S k hk w h
  rw [hF] at hfi
  obtain ⟨b, hb⟩ : ∃ b, (Q R).b = b := ⟨_, rfl⟩
  have HFI : Hid (Calls Try.prog 57 #[.pointer (some ⟨ab, pl.o, none⟩), .string k] w fun e w' => e = .returned (.pointer (some ⟨b, 0, none⟩)) ∧ Below w.heap.size w w') := by rw [← hb]; exact Lib.hid hfi
  obtain ⟨mb, rfl, hmS, hmk⟩ := h.mb hF
  have HX := Lib.hid h
  have HF := Lib.hid hF
  have HQ := Lib.hid hQ
  have HB0 := Lib.hid hb
  have HMS := Lib.hid hmS
  have HMK := Lib.hid hmk
  have HOK := Lib.hid hk
  clear h hF hfi hQ hb hmS hmk hk
  go_enter Try.func46, Try.ntmps46
  go_wp2_with fail
  refine HFI.out.mono ?_
  rintro e w1 ⟨rfl, hb1⟩
  have HX1 := Lib.hid (HX.out.below hb1)
  have HM1 := Lib.hid (HMK.out.below hb1)
  have HB1 := Lib.hid hb1
  have c1 := HX1.out.c1
  clear hb1 HFI
  go_wp2_with (at_delete; refine wpl_dropK MPS _ rfl _ _ rfl mb N (fun x => (F x).map some) rfl HM1.out k rfl HOK.out ?_; intro w2 m2 g2; have HM2 := Lib.hid m2; have HK2 : Hid (Keep (fun x => x = mb) w1 w2) := Keep.turnedK g2 rfl; clear m2 g2)
  have HS2 := Lib.hid (HX1.out.s.keep HK2.out (fun x hx e => HX1.out.s.mnot HM1.out (e ▸ hx)))
  have d3 : w2.cell? ⟨b, 3, none⟩ = some (.int .i64 (R : Int)) := by
    have := (HS2.out.it R hR).cell 3
    rw [HB0.out] at this
    exact this
  have HRE := Lib.hid (hremS ab n v (.map (some mb)) sets Q hn R hR w2.drew (HS2.out.below ⟨rfl, rfl, rfl, Nat.le_refl _, fun _ _ => rfl⟩) HX.out.hp)
  refine region_tail 8 (by kernel_rfl) (by kernel_rfl) ?_
  simp only [List.take_succ_cons, List.take_zero, List.drop_succ_cons, List.drop_zero]
  repeat still_step
  refine still_tail_nil ?_
  go_wp2_with fail
  refine HRE.out.mono ?_
  rintro e w3 ⟨rfl, g, c, Q', rfl, hs3, hh3, hw3, _, hk3⟩
  have HS3 := Lib.hid hs3
  have HH3 := Lib.hid hh3
  have HW3 := Lib.hid hw3
  have HK3 := Lib.hid ((Keep.drew (G := AgG ab (.slice (some ⟨g, 0, none⟩) (n + 1) c) Q (n + 1)) w2).trans hk3)
  clear hs3 hh3 hw3 hk3 HRE d3 c1
  go_wp2_with fail
  go_ret
  obtain ⟨q1, q2⟩ := HX.out.rem HOK.out hR HQ.out HF.out HW3.out
  have hK : Keep S w w3 := ((Keep.of_below HB1.out).via HK2.out (fun x _ e => e ▸ HMS.out)).via HK3.out (fun x _ hg => HX.out.sub x hg)
  refine ⟨rfl, _, .map (some mb), Q', ⟨HS3.out, HH3.out, .inr ⟨mb, rfl, .inl HMS.out, ?_⟩, q1, q2, fun x hx => .inl (HX.out.sub x (HW3.out.sub rfl x hx))⟩, HW3.out, hK⟩
  rw [updK_none]
  exact HM2.out.keep HK3.out (HS2.out.mnot HM2.out)
theorem adropaN (ab n N : Nat) (v mp : Value) (sets : Int) (Q : Nat → It) (F : Int → Option Nat) (S : Nat → Prop) (k : Int) (hk : KN.ok k) (w : World) (h : AgX pl 97 99 MPN w ab n N v mp sets Q F S) (hF : F k = none) :
    Calls Try.prog 25 #[.pointer (some ⟨ab, pl.o, none⟩), .int .i64 k] w fun e w' => e = .returned (.bool false) ∧ Below w.heap.size w w' := by
  have hfi := afindN ab n N v mp sets Q F S k hk w h
  rw [hF] at hfi
  have HFI : Hid (Calls Try.prog 42 #[.pointer (some ⟨ab, pl.o, none⟩), .int .i64 k] w fun e w' => e = .returned (.pointer none) ∧ Below w.heap.size w w') := hfi
  clear h hF hfi
  go_enter Try.func25, Try.ntmps25
  go_wp2_with fail
  refine HFI.out.mono ?_
  rintro e w1 ⟨rfl, hb⟩
  have HB := Lib.hid hb
  clear hb HFI
  go_wp2_with fail
  go_ret
  exact ⟨rfl, HB.out⟩
set_option maxHeartbeats 1000000 in
set_option maxRecDepth 100000 in
theorem adropbN (ab n N : Nat) (v mp : Value) (sets : Int) (Q : Nat → It) (F : Int → Option Nat) (S : Nat → Prop) (hn : n ≤ 1000) (k : Int) (hk : KN.ok k) (R : Nat) (hR : R < n + 1) (hQ : (Q R).k = .int .i64 k) (w : World) (h : AgX pl 97 99 MPN w ab (n + 1) N v mp sets Q F S) (hF : F k = some (Q R).b) :
    Calls Try.prog 25 #[.pointer (some ⟨ab, pl.o, none⟩), .int .i64 k] w fun e w' => e = .returned (.bool true) ∧ ∃ v' mp' Q', AgX pl 97 99 MPN w' ab n N v' mp' sets Q' (updK F k none) (newS S w w') ∧ Without n Q R Q' ∧ Keep S w w' := by
  have hfi := afindN ab (n + 1) N v mp sets Q F S k hk w h
  rw [hF] at hfi
  obtain ⟨b, hb⟩ : ∃ b, (Q R).b = b := ⟨_, rfl⟩
  have HFI : Hid (Calls Try.prog 42 #[.pointer (some ⟨ab, pl.o, none⟩), .int .i64 k] w fun e w' => e = .returned (.pointer (some ⟨b, 0, none⟩)) ∧ Below w.heap.size w w') := by rw [← hb]; exact Lib.hid hfi
  obtain ⟨mb, rfl, hmS, hmk⟩ := h.mb hF
  have HX := Lib.hid h
  have HF := Lib.hid hF
  have HQ := Lib.hid hQ
  have HB0 := Lib.hid hb
  have HMS := Lib.hid hmS
  have HMK := Lib.hid hmk
  have HOK := Lib.hid hk
  clear h hF hfi hQ hb hmS hmk hk
  go_enter Try.func25, Try.ntmps25
  go_wp2_with fail
  refine HFI.out.mono ?_
  rintro e w1 ⟨rfl, hb1⟩
  have HX1 := Lib.hid (HX.out.below hb1)
  have HM1 := Lib.hid (HMK.out.below hb1)
  have HB1 := Lib.hid hb1
  have c1 := HX1.out.c1
  clear hb1 HFI
  go_wp2_with (at_delete; refine wpl_dropK MPN _ rfl _ _ rfl mb N (fun x => (F x).map some) rfl HM1.out k rfl HOK.out ?_; intro w2 m2 g2; have HM2 := Lib.hid m2; have HK2 : Hid (Keep (fun x => x = mb) w1 w2) := Keep.turnedK g2 rfl; clear m2 g2)
  have HS2 := Lib.hid (HX1.out.s.keep HK2.out (fun x hx e => HX1.out.s.mnot HM1.out (e ▸ hx)))
  have d3 : w2.cell? ⟨b, 3, none⟩ = some (.int .i64 (R : Int)) := by
    have := (HS2.out.it R hR).cell 3
    rw [HB0.out] at this
    exact this
  have HRE := Lib.hid (hremN ab n v (.map (some mb)) sets Q hn R hR w2.drew (HS2.out.below ⟨rfl, rfl, rfl, Nat.le_refl _, fun _ _ => rfl⟩) HX.out.hp)
  refine region_tail 8 (by kernel_rfl) (by kernel_rfl) ?_
  simp only [List.take_succ_cons, List.take_zero, List.drop_succ_cons, List.drop_zero]
  repeat still_step
  refine still_tail_nil ?_
  go_wp2_with fail
  refine HRE.out.mono ?_
  rintro e w3 ⟨rfl, g, c, Q', rfl, hs3, hh3, hw3, _, hk3⟩
  have HS3 := Lib.hid hs3
  have HH3 := Lib.hid hh3
  have HW3 := Lib.hid hw3
  have HK3 := Lib.hid ((Keep.drew (G := AgG ab (.slice (some ⟨g, 0, none⟩) (n + 1) c) Q (n + 1)) w2).trans hk3)
  clear hs3 hh3 hw3 hk3 HRE d3 c1
  go_wp2_with fail
  go_ret
  obtain ⟨q1, q2⟩ := HX.out.rem HOK.out hR HQ.out HF.out HW3.out
  have hK : Keep S w w3 := ((Keep.of_below HB1.out).via HK2.out (fun x _ e => e ▸ HMS.out)).via HK3.out (fun x _ hg => HX.out.sub x hg)
  refine ⟨rfl, _, .map (some mb), Q', ⟨HS3.out, HH3.out, .inr ⟨mb, rfl, .inl HMS.out, ?_⟩, q1, q2, fun x hx => .inl (HX.out.sub x (HW3.out.sub rfl x hx))⟩, HW3.out, hK⟩
  rw [updK_none]
  exact HM2.out.keep HK3.out (HS2.out.mnot HM2.out)
end PlV
end Go.Proofs.Ytcdgmhglpcokdaa
