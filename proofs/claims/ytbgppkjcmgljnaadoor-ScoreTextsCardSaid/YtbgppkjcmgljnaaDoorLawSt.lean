/- The walk of the statement ScoreTexts. -/
import Derived.Test.YtbgppkjcmgljnaaDoorFmM
import Derived.Test.YtbgppkjcmgljnaaDoorFlD
import Derived.Test.YtbgppkjcmgljnaaDoorFlK
namespace Go.Proofs.YtbgppkjcmgljnaaDoor
open Go.RowKit

set_option maxRecDepth 100000 in
set_option maxHeartbeats 1000000 in
theorem formatP (x : Nat) (hx : x < 18446744073709551616) (hf : xE x ≠ 2047) (h0 : ¬ (xE x = 0 ∧ xM x = 0)) : ∃ l : List UInt8, ∀ w : World, PmAt w → P10At w →
    Calls Tryd.prog 36 #[.float .f64 x, .int .u8 103, .int .i64 (-1), .int .i64 64] w fun e w' =>
      e = .returned (.string ⟨l.toArray⟩) ∧ Below w.heap.size w w' := by
  obtain ⟨l, hl⟩ := ftoaP x hx hf h0
  refine ⟨l, fun w hP hT => ?_⟩
  obtain ⟨cs, hm0, ho⟩ := make24 w
  have hm := hm0 w rfl
  have hmx : max (3 : Int) 24 = 24 := by decide
  clear hm0
  have hb : Below w.heap.size w (w.alloc (.cells cs 5)) := (Below.refl _ _).alloc (Nat.le_refl _) _
  have hF := hl w.heap.size _ _ ho (by simp) (hP.below hb) (hT.on hb)
  clear ho hl hP hT
  generalize hW : w.alloc (.cells cs 5) = W at *
  clear hW
  go_enter Tryd.func36, Tryd.ntmps36
  go_wp2_with fail
  refine hF.mono ?_
  rintro e w1 ⟨v', rfl, ho1, hb1⟩
  have hc := own_stringZ w1 _ v' l ho1
  go_wp2_with fail
  go_ret
  exact ⟨rfl, hb.trans hb1⟩
theorem textP (x : Nat) (hx : x < 18446744073709551616) (hf : xE x ≠ 2047) (h0 : ¬ (xE x = 0 ∧ xM x = 0)) : ∃ s : ByteArray, ∀ w : World, PmAt w → P10At w →
    Calls Tryd.prog 33 #[.float .f64 x, .int .u8 103, .int .i64 (-1), .int .i64 64] w fun e w' =>
      e = .returned (.string s) ∧ Below w.heap.size w w' := by
  obtain ⟨l, hl⟩ := formatP x hx hf h0
  refine ⟨⟨l.toArray⟩, fun w hP hT => ?_⟩
  have hF := hl w hP hT
  clear hl hP hT
  go_enter Tryd.func33, Tryd.ntmps33
  go_wp2_with fail
  refine hF.mono ?_
  rintro e w1 ⟨rfl, hb⟩
  go_wp2_with fail
  go_ret
  exact ⟨rfl, hb⟩
/-- FormatFloat of what Plain gives. -/
theorem plain_text (x : Nat) (hx : x < 18446744073709551616) (hn : isN x = false) (hf : farF x = false) : ∃ s : ByteArray, ∀ w : World, PmAt w → P10At w →
    Calls Tryd.prog 33 #[.float .f64 (plainF x), .int .u8 103, .int .i64 (-1), .int .i64 64] w fun e w' =>
      e = .returned (.string s) ∧ Below w.heap.size w w' := by
  have hm := far_mg hn hf
  unfold plainF
  split
  · exact ⟨_, fun w _ _ => fz_text w⟩
  · rename_i hk
    have hE : xE x = mg x / 4503599627370496 := by unfold xE mg; omega
    have hM : xM x = mg x % 4503599627370496 := by unfold xM mg; omega
    refine textP x hx (by omega) (fun h => hk ?_)
    have h0 : mg x = 0 := by omega
    unfold kf
    rw [hn, h0]
    simp
theorem far_split (x : Nat) : farF x = (infP x || infM x) := by
  unfold infP infM
  cases farF x <;> cases ng x <;> rfl
theorem gt0 (x : Nat) : (FloatKind.f64.format.order x 0 == some .gt) = (!isN x && decide (0 < kf x)) := by
  rw [ord_gt, show isN 0 = false by decide, show kf 0 = 0 by decide]
  simp
theorem gt0P {x : Nat} (h : infP x = true) : (FloatKind.f64.format.order x 0 == some .gt) = true := by
  rw [gt0]
  unfold infP farF at h
  rw [Bool.and_eq_true, beq_iff_eq, Bool.not_eq_true'] at h
  have hn : isN x = false := by unfold isN; rw [h.1]; decide
  unfold kf
  rw [hn, h.2, h.1]
  decide
theorem gt0M {x : Nat} (h : infM x = true) : (FloatKind.f64.format.order x 0 == some .gt) = false := by
  rw [gt0]
  unfold infM farF at h
  rw [Bool.and_eq_true, beq_iff_eq] at h
  have hn : isN x = false := by unfold isN; rw [h.1]; decide
  unfold kf
  rw [hn, h.2, h.1]
  decide
set_option maxRecDepth 100000 in
set_option maxHeartbeats 2000000 in
theorem text_all (x : Nat) (hx : x < 18446744073709551616) : ∃ s : ByteArray, (∀ w : World, PmAt w → P10At w →
    Calls Tryd.prog 18 #[.float .f64 x] w fun e w' => e = .returned (.string s) ∧ Below w.heap.size w w') ∧ (∀ w : World, PmAt w → P10At w →
    Calls Tryd.prog 19 #[.float .f64 x] w fun e w' => e = .returned (.string s) ∧ Below w.heap.size w w') := by
  have h1 := isnan6 x
  have h2 := isinf1 x
  have h3 := isinfm x
  have h4 := plain3 x
  have n1 := nan6 x
  have f3 := far3 x hx
  have p4 := rplain3 x hx
  have key : ∀ (qn qp qm : Bool), isN x = qn → infP x = qp → infM x = qm → farF x = (qp || qm) → (qp = true → (FloatKind.f64.format.order x 0 == some .gt) = true) → (qm = true → (FloatKind.f64.format.order x 0 == some .gt) = false) → ∃ s : ByteArray, (∀ w : World, PmAt w → P10At w →
    Calls Tryd.prog 18 #[.float .f64 x] w fun e w' => e = .returned (.string s) ∧ Below w.heap.size w w') ∧ (∀ w : World, PmAt w → P10At w →
    Calls Tryd.prog 19 #[.float .f64 x] w fun e w' => e = .returned (.string s) ∧ Below w.heap.size w w') := by
    intro qn qp qm e1 e2 e3 e4 g1 g2
    rw [e1] at h1 n1
    rw [e2] at h2
    rw [e3] at h3
    rw [e4] at f3
    obtain ⟨s, hs⟩ : ∃ s : ByteArray, qn = false → qp = false → qm = false → ∀ w : World, PmAt w → P10At w →
        Calls Tryd.prog 33 #[.float .f64 (plainF x), .int .u8 103, .int .i64 (-1), .int .i64 64] w fun e w' => e = .returned (.string s) ∧ Below w.heap.size w w' := by
      by_cases q : qn = false ∧ qp = false ∧ qm = false
      · obtain ⟨s, hs⟩ := plain_text x hx (by rw [e1]; exact q.1) (by rw [e4, q.2.1, q.2.2]; rfl)
        exact ⟨s, fun _ _ _ => hs⟩
      · exact ⟨⟨#[]⟩, fun a b c => absurd ⟨a, b, c⟩ q⟩
    have HS := Lib.hid hs
    have G1 := Lib.hid g1
    have G2 := Lib.hid g2
    clear hs e1 e2 e3 e4 g1 g2
    generalize plainF x = y at *
    cases qn
    · cases qp
      · cases qm
        · skip
          refine ⟨s, fun w hP hT => ?_, fun w hP hT => ?_⟩
          · have HT := Lib.hid (HS.out rfl rfl rfl w hP hT)
            clear hP hT
            go_enter Tryd.func18, Tryd.ntmps18
            go_wp2_with (first
              | (go_at_call 27; with_reducible refine (h1 _).mono ?_; rintro e w' ⟨rfl, rfl⟩)
              | (go_at_call 22; with_reducible refine (h2 _).mono ?_; rintro e w' ⟨rfl, rfl⟩)
              | (go_at_call 22; with_reducible refine (h3 _).mono ?_; rintro e w' ⟨rfl, rfl⟩)
              | (go_at_call 28; with_reducible refine (h4 _).mono ?_; rintro e w' ⟨rfl, rfl⟩)
              | (go_at_call 33; with_reducible refine HT.out.mono ?_; rintro e w1 ⟨rfl, hb⟩))
            go_ret
            exact ⟨rfl, hb⟩
          · have HT := Lib.hid (HS.out rfl rfl rfl w hP hT)
            clear hP hT
            go_enter Tryd.func19, Tryd.ntmps19
            go_wp2_with (first
              | (go_at_call 15; with_reducible refine (n1 _).mono ?_; rintro e w' ⟨rfl, rfl⟩)
              | (go_at_call 32; with_reducible refine (f3 _).mono ?_; rintro e w' ⟨rfl, rfl⟩)
              | (go_at_call 31; with_reducible refine (p4 _).mono ?_; rintro e w' ⟨rfl, rfl⟩)
              | (go_at_call 33; with_reducible refine HT.out.mono ?_; rintro e w1 ⟨rfl, hb⟩))
            go_ret
            exact ⟨rfl, hb⟩
        · skip
          refine ⟨⟨#[45, 105, 110, 102]⟩, fun w _ _ => ?_, fun w _ _ => ?_⟩
          · skip
            go_enter Tryd.func18, Tryd.ntmps18
            go_wp2_with (first
              | (go_at_call 27; with_reducible refine (h1 _).mono ?_; rintro e w' ⟨rfl, rfl⟩)
              | (go_at_call 22; with_reducible refine (h2 _).mono ?_; rintro e w' ⟨rfl, rfl⟩)
              | (go_at_call 22; with_reducible refine (h3 _).mono ?_; rintro e w' ⟨rfl, rfl⟩))
            go_ret
            exact ⟨rfl, Below.refl _ _⟩
          · skip
            have g2 := G2.out rfl
            go_enter Tryd.func19, Tryd.ntmps19
            go_wp2_with (first
              | (go_at_call 15; with_reducible refine (n1 _).mono ?_; rintro e w' ⟨rfl, rfl⟩)
              | (go_at_call 32; with_reducible refine (f3 _).mono ?_; rintro e w' ⟨rfl, rfl⟩))
            go_ret
            exact ⟨rfl, Below.refl _ _⟩
      · skip
        refine ⟨⟨#[105, 110, 102]⟩, fun w _ _ => ?_, fun w _ _ => ?_⟩
        · skip
          go_enter Tryd.func18, Tryd.ntmps18
          go_wp2_with (first
            | (go_at_call 27; with_reducible refine (h1 _).mono ?_; rintro e w' ⟨rfl, rfl⟩)
            | (go_at_call 22; with_reducible refine (h2 _).mono ?_; rintro e w' ⟨rfl, rfl⟩))
          go_ret
          exact ⟨rfl, Below.refl _ _⟩
        · skip
          have g1 := G1.out rfl
          go_enter Tryd.func19, Tryd.ntmps19
          go_wp2_with (first
            | (go_at_call 15; with_reducible refine (n1 _).mono ?_; rintro e w' ⟨rfl, rfl⟩)
            | (go_at_call 32; with_reducible refine (f3 _).mono ?_; rintro e w' ⟨rfl, rfl⟩))
          go_ret
          exact ⟨rfl, Below.refl _ _⟩
    · skip
      refine ⟨⟨#[110, 97, 110]⟩, fun w _ _ => ?_, fun w _ _ => ?_⟩
      · skip
        go_enter Tryd.func18, Tryd.ntmps18
        go_wp2_with (first
          | (go_at_call 27; with_reducible refine (h1 _).mono ?_; rintro e w' ⟨rfl, rfl⟩)
          | fail)
        go_ret
        exact ⟨rfl, Below.refl _ _⟩
      · skip
        go_enter Tryd.func19, Tryd.ntmps19
        go_wp2_with (first
          | (go_at_call 15; with_reducible refine (n1 _).mono ?_; rintro e w' ⟨rfl, rfl⟩)
          | fail)
        go_ret
        exact ⟨rfl, Below.refl _ _⟩
  exact key _ _ _ rfl rfl rfl (far_split x) gt0P gt0M
def TabsSt (w : World) : Prop := PmAt w ∧ P10At w
set_option maxHeartbeats 2000000 in
set_option maxRecDepth 100000 in
theorem lawScoreTexts (x : Nat) (hx : x < 18446744073709551616) (w : World) (hT : TabsSt w) :
    Calls Tryd.prog 7 #[.float .f64 x] w fun e w' => e = .returned (.bool true) ∧ Below w.heap.size w w' := by
  have HA := Lib.hid (awake13 w)
  obtain ⟨s, hs, hr⟩ := text_all x hx
  have HS := Lib.hid hs
  have HR := Lib.hid hr
  have HT := Lib.hid hT
  clear hs hr hT hx
  go_enter Tryd.func7, Tryd.ntmps7
  go_wp2_with fail
  refine HA.out.mono ?_
  rintro e w1 ⟨rfl, hb⟩
  have HP1 := Lib.hid (HT.out.1.below hb)
  have HT1 := Lib.hid (HT.out.2.on hb)
  have HB := Lib.hid hb
  clear hb HT HA
  go_wp2_with (go_at_call 18; with_reducible refine (HS.out _ HP1.out HT1.out).mono ?_)
  rintro e w2 ⟨rfl, hb2⟩
  have HP2 := Lib.hid (HP1.out.below hb2)
  have HT2 := Lib.hid (HT1.out.on hb2)
  have HB2 := Lib.hid (HB.out.trans (hb2.mono HB.out.size))
  clear hb2 HP1 HT1 HB HS
  go_wp2_with (go_at_call 19; with_reducible refine (HR.out _ HP2.out HT2.out).mono ?_)
  rintro e w3 ⟨rfl, hb3⟩
  have HB3 := Lib.hid (HB2.out.trans (hb3.mono HB2.out.size))
  clear hb3 HP2 HT2 HB2 HR
  go_wp2_with fail
  go_ret
  exact ⟨by simp, HB3.out⟩
end Go.Proofs.YtbgppkjcmgljnaaDoor
