/- strconv.ftoa64 of the number 2. -/
import Derived.Lib.AppendIntMem
import Derived.Test.YtpjbdejgamajlabDoorG07
import Derived.Test.YtpjbdejgamajlabDoorG08
namespace Go.Proofs.YtpjbdejgamajlabDoor
open Go.RowKit

theorem own_at {w w' : World} {base size n k : Nat} {e : TypeId} {v : Value} {xs : List Value} (h : w.ownsRow base e size v n xs) (hk : ∀ g, v.ownBlock = some g → g < k) (hb : Below k w w') : w'.ownsRow base e size v n xs := by
  obtain ⟨hl, h0 | ⟨g, cap, cur, hv, hg, hc, r⟩⟩ := h
  · exact ⟨hl, .inl h0⟩
  · exact ⟨hl, .inr ⟨g, cap, cur, hv, hg, by rw [hb.block g (hk g (by rw [hv]; rfl))]; exact hc, r⟩⟩
theorem PmAt.alloc {w : World} (h : PmAt w) (o : Obj) : PmAt (w.alloc o) := h.below ((Below.refl _ w).alloc (Nat.le_refl _) o)
theorem P10At.on {w w' : World} (h : P10At w) (hb : Below w.heap.size w w') : P10At w' := Lib.tabBelow_of_tabIs h w' hb
theorem bytes_new {W w1 : World} {cs : Array Value} {T : TypeId} (hb : Below (W.alloc (.cells cs T)).heap.size (W.alloc (.cells cs T)) w1) (hc : cs = Array.replicate 32 (.int .u8 0)) : BytesR w1 W.heap.size 32 (fun _ => 0) ∧ Below W.heap.size W w1 ∧ W.heap.size < w1.heap.size := by
  have hs : (W.alloc (.cells cs T)).heap.size = W.heap.size + 1 := by simp
  refine ⟨fun j hj => ?_, ((Below.refl _ W).alloc (Nat.le_refl _) _).trans (hb.mono (by omega)), by have := hb.size; omega⟩
  have hk := hb.block W.heap.size (by omega)
  have hx : (W.alloc (.cells cs T)).heap[W.heap.size]? = some (.cells cs T) := by
    show (W.heap.push _)[W.heap.size]? = _
    simp
  rw [hx] at hk
  constructor
  · simp [World.cell?, hk, hc, hj]
  · simp [World.frozen?, hk]
/-- A world ahead of a call, or behind it. -/
def MixD (T P : World → Prop) (w0 : World) (q : Bool) (w : World) : Prop := T w ∧ if q = true then P w else w = w0
set_option maxRecDepth 100000 in
set_option maxHeartbeats 4000000 in
theorem ftoaQ (x : Nat) (hx : x < 18446744073709551616) (hf : xE x ≠ 2047) (h0 : ¬ (xE x = 0 ∧ xM x = 0)) (d : Nat) (p : Int) (hd : d < 18446744073709551616) (hp0 : -400 ≤ p) (hp1 : p ≤ 400)
    (hsf : ∀ w, PmAt w → Calls Tryd.prog 103 #[.int .u64 ((xMant x * 2 ^ xS x : Nat) : Int), .int .i64 (xExp x + -1023 - (xS x : Int) - 52)] w fun r w' => r = .returned (.tuple #[.int .u64 (d : Int), .int .i64 p]) ∧ Below w.heap.size w w') (l : List UInt8)
    (hl : ∀ (B b : Nat) (w0 : World) (v : Value) (w : World), OwnB B b (nzF d) (fun t => Lib.dg d (nd0 d - 1 - t)) w0 v [] w →
      Calls Tryd.prog 93 #[v, .bool ((x : Int) / 9223372036854775808 != 0), .slice (some ⟨b, 0, none⟩) 32 32, .int .i64 ((nd0 d : Nat) + p), .int .i64 ((nzF d : Nat) : Int), .int .i64 ((nzF d : Nat) : Int), .int .u8 103, .bool true] w fun e w' =>
        ∃ v', e = .returned v' ∧ OwnB B b (nzF d) (fun t => Lib.dg d (nd0 d - 1 - t)) w0 v' l w') : ∀ (B : Nat) (v : Value) (w : World), w.ownsRow B 5 1 v 0 [] → B ≤ w.heap.size → PmAt w → P10At w →
    Calls Tryd.prog 78 #[v, .float .f64 x, .int .u8 103, .int .i64 (-1)] w fun e w' =>
      ∃ v', e = .returned v' ∧ w'.ownsRow B 5 1 v' l.length (byV l) ∧ Below B w w' := by
  have hX : 1 ≤ xExp x ∧ xExp x ≤ 2046 := by
    have := Nat.mod_lt (x / 4503599627370496) (show 0 < 2048 by decide)
    have h9 : xE x = x / 4503599627370496 % 2048 := rfl
    unfold xExp; split <;> omega
  obtain ⟨hX0, hX1⟩ := hX
  have HM := Lib.hid (xMant_in x h0)
  obtain ⟨s0, s1, s2, s3, s4⟩ := xS_in x h0
  have hn20 := nd0_le d hd
  have hnz : nzF d ≤ nd0 d := trimZ_le _ _ _
  intro B v w hown hB hP hT
  have HE := Lib.hid hl
  have HSF := Lib.hid hsf
  have HS := Lib.hid s2
  clear hl hsf s2
  have hb : ∀ w, (callFunc 90 #[.float .f64 x]).run Tryd.prog w = .ok (.value (.int .u64 (x : Int))) w := fun w => by
    rw [run_callFunc_extern Tryd.func90 (by kernel_rfl) (by kernel_rfl) (by kernel_rfl) (e := Extern.MathFloatBits.float64bits) (by kernel_rfl)]
    rfl
  have hO := Lib.hid hown
  have HOL : Hid (∀ g, v.ownBlock = some g → g < w.heap.size) := fun g hg => (hown.lt g hg).2
  have HP := Lib.hid hP
  have HT := Lib.hid hT
  have HTW := Lib.hid hT
  have F1 : bits .and .i64 (IntKind.i64.wrap ((x : Int) / 4503599627370496)) (IntKind.i64.wrap (IntKind.i64.wrap 2048 - 1)) = (xE x : Int) := by
    rw [show IntKind.i64.wrap ((x : Int) / 4503599627370496) = (x : Int) / 4503599627370496 from IntWalk.i64_in _ (by omega), show IntKind.i64.wrap (IntKind.i64.wrap 2048 - 1) = 2047 by decide]
    exact and_xE x hx
  have HF1 := Lib.hid F1
  have F2 := and_xM x hx
  have F3 := or_xM x
  have hE1 : xE x < 2048 := Nat.mod_lt _ (by decide)
  have hM1 : xM x < 4503599627370496 := Nat.mod_lt _ (by decide)
  have hx0 : (x : Int) / 4503599627370496 < 4096 := by omega
  have hx1 : (0 : Int) ≤ (x : Int) / 4503599627370496 := by omega
  clear hown hP hT F1
  go_enter Tryd.func78, Tryd.ntmps78
  go_wp2_with fail
  refine region_tail 8 (by kernel_rfl) (by kernel_rfl) ?_
  simp only [List.take_succ_cons, List.take_zero, List.drop_succ_cons, List.drop_zero]
  iterate 8 still_step
  refine still_tail_nil ?_
  generalize hwd : w.drew = W at *
  have hbd : Below w.heap.size w W := by subst hwd; exact (Below.refl _ w).drew
  have hPW := Lib.hid (HP.out.below hbd)
  clear hwd
  rw [HF1.out]
  have q1 : ¬ (xE x : Int) = 2047 := by omega
  go_upto_if 78 with fail
  go_cut [14, 15] (fun s14 s15 wx => W = wx ∧ s14 = .int .i64 (xExp x) ∧ s15 = .int .u64 (xMant x : Int))
  case first =>
    by_cases h1 : xE x = 0
    · have e1 : Hid (xExp x = 1) := if_pos h1
      have e2 : Hid (xMant x = xM x) := if_pos h1
      rw [h1]
      go_wp2_with fail
      go_meet
      exact ⟨rfl, by rw [e1.out], by rw [e2.out]⟩
    · have e1 : Hid (xExp x = (xE x : Int)) := if_neg h1
      have e2 : Hid (xMant x = xM x + 4503599627370496) := if_neg h1
      have q2 : ¬ (xE x : Int) = 0 := by omega
      go_wp2_with fail
      go_meet
      exact ⟨rfl, by rw [e1.out], by rw [e2.out]; simp⟩
  case rest =>
  obtain ⟨rfl, rfl, rfl⟩ := hcut
  obtain ⟨m0, m1⟩ := HM.out
  have HL := Lib.hid (fun w => Tryd.bits_Len64 (xMant x : Int) w (by omega) (by omega))
  rw [Int.toNat_natCast] at HL
  have s2 := HS.out
  clear HF1 F2 F3 hE1 hM1 hx0 hx1 HM HS
  generalize xExp x = X at *
  generalize xS x = S at *
  generalize xMant x = M at *
  generalize Lib.bitLen M = L at *
  have R1 : 64 - (L : Int) = (S : Int) := by omega
  have R2 : IntKind.u64.wrap ((M : Int) * 2 ^ S) = ((M * 2 ^ S : Nat) : Int) := by
    rw [IntKind.wrap_u64]
    have : ((M * 2 ^ S : Nat) : Int) = (M : Int) * 2 ^ S := by push_cast; rfl
    omega
  have q3 : ¬ (M : Int) = 0 := by omega
  clear s2
  generalize M * 2 ^ S = m at *
  go_upto_region 38 with (first
    | (go_at_call 94; with_reducible refine (calls_flop (HL.out _)).mono ?_; rintro r w' ⟨rfl, rfl⟩)
    | (go_at_call 103; with_reducible refine (HSF.out _ (hPW.out.alloc _)).mono ?_; rintro r w1 ⟨rfl, hb1⟩))
  obtain ⟨hby, hbw, hlt⟩ := bytes_new hb1 rfl
  clear hb1
  have hsz : w.heap.size ≤ W.heap.size := hbd.size
  have hB1 : Below w.heap.size w w1 := hbd.trans (hbw.mono hsz)
  have HT1 := Lib.hid (HT.out.on hB1)
  have HO1 := Lib.hid (own_at hO.out (fun g hg => (hO.out.lt g hg).2) hB1)
  have HBy := Lib.hid hby
  have HB1 := Lib.hid hB1
  clear hby hbw hbd hB1 hO HT HP hPW HSF HL R1 R2 q3
  generalize W.heap.size = b at *
  have hT2 : P10At w1.drew := HT1.out.on ((Below.refl _ w1).drew)
  have HSD := Lib.hid (setd46 b d p (by omega) hd w1.drew HBy.out)
  have HO2 := Lib.hid (own_at HO1.out (k := w1.heap.size) (fun g hg => (HO1.out.lt g hg).2) ((Below.refl _ w1).drew))
  have HB2 := Lib.hid (HB1.out.drew)
  have hlt2 : b < w1.drew.heap.size := hlt
  obtain ⟨P, hP⟩ : ∃ P : World → Prop, P = fun w3 => OwnB B b (nzF d) (fun t => Lib.dg d (nd0 d - 1 - t)) w v [] w3 := ⟨_, rfl⟩
  have H5 : Hid (∀ e w3, (e = Ending.returned (.tuple #[.int .i64 ((nd0 d : Nat) + p), .int .i64 ((nzF d : Nat) : Int)]) ∧ BytesR w3 b (nd0 d) (fun t => Lib.dg d (nd0 d - 1 - t)) ∧ ∀ B, B ≤ b → Below B w1.drew w3) → e = Ending.returned (.tuple #[.int .i64 ((nd0 d : Nat) + p), .int .i64 ((nzF d : Nat) : Int)]) ∧ P10At w3 ∧ P w3) := by
    rintro e w3 ⟨rfl, hr3, hb3⟩
    have hown3 := own_at HO2.out (k := b) (fun g hg => Nat.lt_of_lt_of_le (HOL.out g hg) hsz) (hb3 b (Nat.le_refl _))
    have hbel3 := HB2.out.trans (hb3 w.heap.size hsz)
    rw [hP]
    exact ⟨rfl, HTW.out.on hbel3, hown3, hbel3.mono hB, fun e => by have := HOL.out b e; omega, fun j hj => hr3 j (by omega), by have := (hb3 b (Nat.le_refl _)).size; omega, by have := hbel3.size; omega⟩
  have HCP := Lib.hid hP
  clear hP hlt HBy HO1 HB1 HT1
  have HC := Lib.hid (HSD.out.mono H5.out)
  clear H5 HSD HO2 HB2 hlt2
  have HTT := Lib.hid hT2
  have HND := Lib.hid (fun W => numd47 d hd W)
  clear hT2
  obtain ⟨W2, hW2⟩ : ∃ W2, W2 = w1.drew := ⟨_, rfl⟩
  have HW2 := Lib.hid hW2
  rw [← hW2] at HC HTT
  clear hW2
  generalize nd0 d = nd at *
  generalize nzF d = nz at *
  refine region_mixt 10 [some (.slice (some ⟨b, 0, none⟩) 32 32), some (.int .u64 (d : Int)), some (.int .i64 p), some (.int .u64 (d : Int)), some (.int .i64 (nd : Int)), some (.tuple #[.int .i64 ((nd : Int) + p), .int .i64 (nz : Int)]), some (.tuple #[.int .i64 ((nd : Int) + p), .int .i64 (nz : Int)]), some (.int .i64 ((nd : Int) + p)), some (.int .i64 (nz : Int)), some (.int .i64 ((nd : Int) + p))]
    [[false, false, false, false, false, false, false, false, false, false], [false, false, false, false, false, false, false, false, false, false], [false, false, false, false, false, false, false, false, false, false], [false, false, false, false, false, false, false, false, false, false], [false, false, false, true, false, false, false, false, false, false], [true, true, true, false, true, false, false, false, false, false], [false, false, false, false, false, true, false, false, false, false], [false, false, false, false, false, false, true, false, false, false], [false, false, false, false, false, false, true, false, false, false], [true, true, true, true, true, true, true, true, false, false]]
    (fun L x w9 => MixD P10At P W2 (L 5) w9)
    (by kernel_rfl) (by kernel_rfl) (by kernel_rfl) (by kernel_rfl) (by kernel_rfl) (by decide) ?_ ?_ ?_
  · intro _
    rw [← HW2.out]
    exact ⟨HTT.out, rfl⟩
  · simp only [List.take_succ_cons, List.take_zero]
    refine ⟨?_, ?_, ?_, ?_, ?_, ?_, ?_, ?_, ?_, ?_, trivial⟩
    all_goals
      intro L x9 w9 hS hl9 hp K hK
      replace hK := hK.out
      clear hp
      simp only [actMix, pickV, List.tail_cons, List.headD_cons, Act.put, List.setIfInBounds_toArray, List.set_cons_zero, List.set_cons_succ] at hK ⊢
    iterate 4
      · go_simp
        with_reducible refine hK _ ?_
        simpa [setL] using hS
    · go_simp
      have ht : P10At w9 := hS.1
      with_reducible refine (calls_flop (HND.out _ ht)).mono ?_
      rintro e w' ⟨rfl, rfl⟩
      go_simp
      with_reducible refine hK _ ?_
      simpa [setL] using hS
    · have hw9 : w9 = W2 := by
        have := hS.2
        rw [hl9] at this
        simpa using this
      subst hw9
      go_simp
      with_reducible refine HC.out.mono ?_
      rintro e w' ⟨rfl, ht, h3⟩
      go_simp
      with_reducible refine hK _ ?_
      exact ⟨ht, by simpa [setL] using h3⟩
    iterate 4
      · go_simp
        with_reducible refine hK _ ?_
        simpa [setL] using hS
  · intro L x9 w3 hS hall
    have h3 : P w3 := by
      have := hS.2
      rw [hall 5 (by decide)] at this
      simpa using this
    rw [HCP.out] at h3
    have HOW := Lib.hid h3
    clear hall hS h3
    simp only [actMix, pickV, List.tail_cons, List.headD_cons, Act.put, List.setIfInBounds_toArray, List.set_cons_zero, List.set_cons_succ, List.replicate_succ, List.replicate_zero, List.drop_succ_cons, List.drop_zero, List.take_succ_cons, List.take_zero]
    go_wp2_with (go_at_call 93; with_reducible refine (HE.out _ _ _ _ _ HOW.out).mono ?_)
    rintro e w4 ⟨v4, rfl, h4⟩
    have H4 := Lib.hid h4
    clear h4 HOW HE
    go_wp2_with fail
    go_ret
    exact ⟨_, rfl, H4.out.own, H4.out.bel⟩
theorem two_facts : xE 4611686018427387904 = 1024 ∧ xM 4611686018427387904 = 0 ∧ xMant 4611686018427387904 * 2 ^ xS 4611686018427387904 = 9223372036854775808 ∧ xExp 4611686018427387904 + -1023 - (xS 4611686018427387904 : Int) - 52 = -62 ∧ nd0 2000000000000000 = 16 ∧ nzF 2000000000000000 = 1 ∧ Lib.dg 2000000000000000 15 = 50 := by decide +kernel
theorem two_shR : shRF (9223372036854775808 : Int) (-62) (9223372036854775296 : Int) (9223372036854776832 : Int) (bits BinOp.and IntKind.i64 4503599627370496 1) (-(((-62 + 11) * 631305 - 261663) / 2097152)) = (2000000000000000, -15) := by decide +kernel
theorem ftoa_two (B : Nat) (v : Value) (w : World) (ho : w.ownsRow B 5 1 v 0 []) (hB : B ≤ w.heap.size) (hP : PmAt w) (hT : P10At w) :
    Calls Tryd.prog 78 #[v, .float .f64 4611686018427387904, .int .u8 103, .int .i64 (-1)] w fun e w' =>
      ∃ v', e = .returned v' ∧ w'.ownsRow B 5 1 v' [(50 : UInt8)].length (byV [50]) ∧ Below B w w' := by
  obtain ⟨f1, f2, f3, f4, f5, f6, f7⟩ := two_facts
  refine ftoaQ 4611686018427387904 (by decide) (by rw [f1]; decide) (by rw [f1]; omega) 2000000000000000 (-15) (by decide) (by decide) (by decide) ?_ [50] ?_ B v w ho hB hP hT
  · intro w1 hw
    have h := shf53A (-62) (by decide) (by decide) (by decide) w1 hw
    rw [two_shR] at h
    rw [f3, f4]
    exact h
  · intro B b w0 v w hO
    rw [f6] at hO ⊢
    rw [f5] at hO ⊢
    have h := efgFpa B b 1 _ w0 false 1 v w hO (by omega) (by omega) (by omega) (by omega)
    have hg : (sgnL false ++ intP 1 1 (fun t => Lib.dg 2000000000000000 (16 - 1 - t))) ++ fracP 1 1 (fun t => Lib.dg 2000000000000000 (16 - 1 - t)) = [50] := by decide +kernel
    rw [hg] at h
    exact h
end Go.Proofs.YtpjbdejgamajlabDoor

