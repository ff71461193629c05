/- The walk of the statement FieldsSame. -/
import Derived.Test.YtneagccakoakpaaDoorFldP
import Derived.Test.YtneagccakoakpaaDoorFldO
import Derived.Test.YtneagccakoakpaaDoorFldN
import Derived.Test.YtneagccakoakpaaDoorFldM
namespace Go.Proofs.YtneagccakoakpaaDoor
open Go.RowKit

theorem own_isFldsT {w : World} {base : Nat} {T : TypeId} {v : Value} {fs : List Fld} (h : w.ownsRow base T 2 v fs.length (cellsF fs)) : ∃ a c, v = .slice a fs.length c ∧ (a = none → c = 0 ∧ fs = []) ∧ IsFlds w a c fs := by
  obtain ⟨_, ⟨rfl, h0⟩ | ⟨g, cap, cur, rfl, _, hg, hcap, _, hcs, htk⟩⟩ := h
  · obtain rfl : fs = [] := List.eq_nil_of_length_eq_zero h0
    exact ⟨none, 0, rfl, fun _ => ⟨rfl, rfl⟩, .inl rfl⟩
  · refine ⟨some ⟨g, 0, none⟩, cap, rfl, (fun h => by cases h), .inr ⟨g, 0, rfl, (Array.getElem?_eq_some_iff.1 hg).1, hcap, fun j f hf => ?_⟩⟩
    obtain ⟨g1, g2⟩ := cellsF_at fs j f hf
    have hj := (List.getElem?_eq_some_iff.1 hf).1
    rw [← htk, List.getElem?_take, if_pos (by omega)] at g1 g2
    rw [Nat.zero_add]
    simp only [Array.getElem?_toList] at g1 g2
    exact ⟨by simp [World.cell?, hg, g1], by simp [World.cell?, hg, g2]⟩
theorem fewF_length (fs : List Fld) (n : Nat) : (fewF fs n).length ≤ n := by
  unfold fewF; simp; omega
theorem few39s (a : Option Addr) (c : Nat) (fs : List Fld) (n : Nat) (hn : n ≤ 1000) (hfl : fs.length ≤ 9223372036854775807) (w : World) (hf : IsFlds w a c fs) :
    Calls Tryd.prog 39 #[.slice a fs.length c, .int .i64 n] w fun e w' => ∃ b d, e = .returned (.slice b (fewF fs n).length d) ∧ (b = none → d = 0 ∧ fewF fs n = []) ∧ IsFlds w' b d (fewF fs n) ∧ Below w.heap.size w w' := by
  refine (few39 a c fs n hn hfl w hf).mono ?_
  rintro e w' ⟨u, rfl, ho, hb⟩
  obtain ⟨b, d, rfl, h1, h2⟩ := own_isFldsT ho
  exact ⟨b, d, rfl, h1, h2, hb⟩
theorem own40s (a : Option Addr) (c : Nat) (fs : List Fld) (hfl : fs.length ≤ 1000000) (w : World) (hf : IsFlds w a c fs) :
    Calls Tryd.prog 40 #[.slice a fs.length c] w fun e w' => ∃ b d, e = .returned (.slice b fs.length d) ∧ IsFlds w' b d fs ∧ Below w.heap.size w w' := by
  refine (own40 a c fs hfl w hf).mono ?_
  rintro e w' ⟨u, rfl, ho, hb⟩
  obtain ⟨b, d, rfl, _, h2⟩ := own_isFldsT ho
  exact ⟨b, d, rfl, h2, hb⟩
set_option maxRecDepth 100000 in
set_option maxHeartbeats 4000000 in
theorem lawFieldsSame (a : Option Addr) (c : Nat) (xs0 : List Fld) (b : Option Addr) (d : Nat) (ys0 : List Fld) (hlx : xs0.length ≤ 9223372036854775807) (hly : ys0.length ≤ 9223372036854775807) (w : World) (hw : MaxL w) (hx : IsFlds w a c xs0) (hy : IsFlds w b d ys0) :
    Calls Tryd.prog 11 #[.slice a xs0.length c, .slice b ys0.length d] w fun e w' => e = .returned (.bool true) ∧ Below w.heap.size w w' := by
  have HA := Lib.hid (awake35 w hw)
  have HFX : Hid (∀ W, IsFlds W a c xs0 → Calls Tryd.prog 39 #[.slice a xs0.length c, .int .i64 8] W fun e w' => ∃ b d, e = .returned (.slice b (fewF xs0 8).length d) ∧ (b = none → d = 0 ∧ fewF xs0 8 = []) ∧ IsFlds w' b d (fewF xs0 8) ∧ Below W.heap.size W w') := fun W h => few39s a c xs0 8 (by decide) hlx W h
  have HFY : Hid (∀ W, IsFlds W b d ys0 → Calls Tryd.prog 39 #[.slice b ys0.length d, .int .i64 8] W fun e w' => ∃ p q, e = .returned (.slice p (fewF ys0 8).length q) ∧ (p = none → q = 0 ∧ fewF ys0 8 = []) ∧ IsFlds w' p q (fewF ys0 8) ∧ Below W.heap.size W w') := fun W h => few39s b d ys0 8 (by decide) hly W h
  have lx := fewF_length xs0 8
  have ly := fewF_length ys0 8
  generalize fewF xs0 8 = xs at *
  generalize fewF ys0 8 = ys at *
  have HX := Lib.hid hx
  have HY := Lib.hid hy
  have HO := Lib.hid (fun p q W h => own40s p q xs (by omega) W h)
  have HOY := Lib.hid (fun p q W h => own40s p q ys (by omega) W h)
  clear hw hx hy
  go_enter Tryd.func11, Tryd.ntmps11
  go_wp2_with fail
  refine HA.out.mono ?_
  rintro e w1 ⟨rfl, hb1⟩
  have X1 := Lib.hid (HX.out.below hb1)
  go_wp2_with fail
  refine (HFX.out w1 X1.out).mono ?_
  rintro e w2 ⟨a2, c2, rfl, _, hx2, hb2⟩
  have b2 := hb1.trans (hb2.mono hb1.size)
  have Y2 := Lib.hid (HY.out.below b2)
  have X2 := Lib.hid hx2
  clear hb1 hb2 hx2
  go_wp2_with fail
  refine (HFY.out w2 Y2.out).mono ?_
  rintro e w3 ⟨b3', d3, rfl, _, hy3, hb3⟩
  have b3 := Lib.hid (b2.trans (hb3.mono b2.size))
  have HX3 := Lib.hid (X2.out.below hb3)
  have HY3 := Lib.hid hy3
  clear hb3 hy3 X2 b2
  obtain ⟨q0, hq0⟩ : ∃ q, ((xs.length : Int) == (ys.length : Int)) = q := ⟨_, rfl⟩
  have HQ0 : Hid (q0 = decide (xs.length = ys.length ∧ xs.take 0 = ys.take 0)) := by
    show _ = _
    rw [← hq0]
    by_cases h : xs.length = ys.length
    · rw [decide_eq_true ⟨h, rfl⟩, beq_iff_eq]; omega
    · rw [decide_eq_false (fun e => h e.1), beq_eq_false_iff_ne]; omega
  go_wp2_with fail
  clear hq0
  go_loopw [7, 8] (fun qv iv wr => ∃ (j : Nat) (q : Bool), j ≤ xs.length ∧ qv = .bool q ∧ iv = .int .i64 (j : Int) ∧ Hid (q = decide (xs.length = ys.length ∧ xs.take j = ys.take j)) ∧ Below w3.heap.size w3 wr) (fun _ iv _ => xs.length - (intOf iv).toNat)
  case atStart => exact ⟨0, q0, Nat.zero_le _, rfl, rfl, HQ0, Below.refl _ _⟩
  case round =>
    clear HQ0
    obtain ⟨j, q, hj, rfl, rfl, hq, hb⟩ := hrel
    cases q
    · have hRq : Hid (false = decide (xs = ys)) := by
        refine (decide_eq_false (fun e => ?_)).symm
        have h1 := hq.out
        rw [decide_eq_true ⟨by rw [e], by rw [e]⟩] at h1
        cases h1
      clear hq
      by_cases hlt : j < xs.length
      · have jl : (j : Int) < xs.length := by omega
        have HE := Lib.hid (fun b1 d1 b2 d2 W h1 h2 => same56 b1 d1 xs b2 d2 ys false hRq.out (by omega) (by omega) W h1 h2)
        have HT := Lib.hid (fun b1 d1 b2 d2 W h1 h2 => same56 b1 d1 xs b2 d2 xs true (by simp) (by omega) (by omega) W h1 h2)
        go_wp2_with fail
        refine (HO.out _ _ wr (HX3.out.below hb)).mono ?_
        rintro e w4 ⟨p1, r1, rfl, ho1, hb4⟩
        have O1 := Lib.hid ho1
        have b4 := hb.trans (hb4.mono hb.size)
        clear ho1 hb hb4
        go_wp2_with fail
        refine (HOY.out _ _ w4 (HY3.out.below b4)).mono ?_
        rintro e w5 ⟨p2, r2, rfl, ho2, hb5⟩
        have O2 := Lib.hid ho2
        have O1' := Lib.hid (O1.out.below hb5)
        have b5 := b4.trans (hb5.mono b4.size)
        clear ho2 hb5 b4 O1
        go_wp2_with fail
        refine (HE.out _ _ _ _ w5 O1'.out O2.out).mono ?_
        rintro e w6 ⟨rfl, hb6⟩
        have b6 := b5.trans (hb6.mono b5.size)
        clear hb6 b5 O1' O2
        go_wp2_with fail
        refine (HO.out _ _ w6 (HX3.out.below b6)).mono ?_
        rintro e w7 ⟨p3, r3, rfl, ho3, hb7⟩
        have O3 := Lib.hid ho3
        have b7 := b6.trans (hb7.mono b6.size)
        clear ho3 hb7 b6
        go_wp2_with fail
        refine (HO.out _ _ w7 (HX3.out.below b7)).mono ?_
        rintro e w8 ⟨p4, r4, rfl, ho4, hb8⟩
        have O4 := Lib.hid ho4
        have O3' := Lib.hid (O3.out.below hb8)
        have b8 := b7.trans (hb8.mono b7.size)
        clear ho4 hb8 b7 O3
        go_wp2_with fail
        refine (HT.out _ _ _ _ w8 O3'.out O4.out).mono ?_
        rintro e w9 ⟨rfl, hb9⟩
        have b9 := b8.trans (hb9.mono b8.size)
        go_wp2_with fail
        go_ret
        exact ⟨rfl, b3.out.trans (b9.mono b3.out.size)⟩
      · have jl : decide ((j : Int) < xs.length) = false := decide_eq_false (by omega)
        have jg : (xs.length : Int) ≤ j := by omega
        have HE := Lib.hid (fun b1 d1 b2 d2 W h1 h2 => same56 b1 d1 xs b2 d2 ys false hRq.out (by omega) (by omega) W h1 h2)
        have HT := Lib.hid (fun b1 d1 b2 d2 W h1 h2 => same56 b1 d1 xs b2 d2 xs true (by simp) (by omega) (by omega) W h1 h2)
        go_wp2_with fail
        refine (HO.out _ _ wr (HX3.out.below hb)).mono ?_
        rintro e w4 ⟨p1, r1, rfl, ho1, hb4⟩
        have O1 := Lib.hid ho1
        have b4 := hb.trans (hb4.mono hb.size)
        clear ho1 hb hb4
        go_wp2_with fail
        refine (HOY.out _ _ w4 (HY3.out.below b4)).mono ?_
        rintro e w5 ⟨p2, r2, rfl, ho2, hb5⟩
        have O2 := Lib.hid ho2
        have O1' := Lib.hid (O1.out.below hb5)
        have b5 := b4.trans (hb5.mono b4.size)
        clear ho2 hb5 b4 O1
        go_wp2_with fail
        refine (HE.out _ _ _ _ w5 O1'.out O2.out).mono ?_
        rintro e w6 ⟨rfl, hb6⟩
        have b6 := b5.trans (hb6.mono b5.size)
        clear hb6 b5 O1' O2
        go_wp2_with fail
        refine (HO.out _ _ w6 (HX3.out.below b6)).mono ?_
        rintro e w7 ⟨p3, r3, rfl, ho3, hb7⟩
        have O3 := Lib.hid ho3
        have b7 := b6.trans (hb7.mono b6.size)
        clear ho3 hb7 b6
        go_wp2_with fail
        refine (HO.out _ _ w7 (HX3.out.below b7)).mono ?_
        rintro e w8 ⟨p4, r4, rfl, ho4, hb8⟩
        have O4 := Lib.hid ho4
        have O3' := Lib.hid (O3.out.below hb8)
        have b8 := b7.trans (hb8.mono b7.size)
        clear ho4 hb8 b7 O3
        go_wp2_with fail
        refine (HT.out _ _ _ _ w8 O3'.out O4.out).mono ?_
        rintro e w9 ⟨rfl, hb9⟩
        have b9 := b8.trans (hb9.mono b8.size)
        go_wp2_with fail
        go_ret
        exact ⟨rfl, b3.out.trans (b9.mono b3.out.size)⟩
    · have hq2 := of_decide_eq_true hq.out.symm
      by_cases hlt : j < xs.length
      · have jl : (j : Int) < xs.length := by omega
        have hlt2 : j < ys.length := by rw [← hq2.1]; exact hlt
        have jl2 : (j : Int) < ys.length := by omega
        obtain h0 | ⟨bk, o, rfl, hbk, hc, hcell⟩ := HX3.out.below hb
        · subst h0; simp at hlt
        obtain h0 | ⟨bk2, o2, rfl, hbk2, hc2, hcell2⟩ := HY3.out.below hb
        · subst h0; simp at hlt2
        obtain ⟨cj, cj2⟩ := hcell j xs[j] (by simp [hlt])
        obtain ⟨dj, dj2⟩ := hcell2 j ys[j] (by simp [hlt2])
        have hbn : ∀ n, Below w3.heap.size w3 (wr.drewN n) := fun n => hb.trans ⟨rfl, rfl, rfl, Nat.le_refl _, fun _ _ => rfl⟩
        clear hcell hcell2
        by_cases he : xs[j] = ys[j]
        · have hst : Hid (true = decide (xs.length = ys.length ∧ xs.take (j + 1) = ys.take (j + 1))) := (decide_eq_true ⟨hq2.1, takeF_step xs ys j hlt hlt2 hq2.2 he⟩).symm
          rw [← he] at dj dj2
          generalize bs (xs[j]).1 = N at cj dj
          generalize bs (xs[j]).2 = V at cj2 dj2
          have eN := self_strP N
          have eV := self_strP V
          clear he hq hq2
          go_wp2_with fail
          go_quiet (fail)
          go_wp2_with fail
          go_roundw
          case rel => exact ⟨j + 1, true, hlt, by first | rfl | simp, by go_num, hst, hbn _⟩
          case measure => simp [intOf]; omega
        · have hst : Hid (false = decide (xs.length = ys.length ∧ xs.take (j + 1) = ys.take (j + 1))) := by
            refine (decide_eq_false (fun e => he ?_)).symm
            have h1 := congrArg (fun l : List Fld => l[j]?) e.2
            simp only [List.getElem?_take, if_pos (Nat.lt_succ_self j), List.getElem?_eq_getElem hlt, List.getElem?_eq_getElem hlt2] at h1
            exact Option.some.inj h1
          have e1 := bs_beq (xs[j]).1 (ys[j]).1
          have e2 := bs_beq (xs[j]).2 (ys[j]).2
          obtain ⟨f, hf⟩ : ∃ f, f = xs[j] := ⟨_, rfl⟩
          obtain ⟨g, hg⟩ : ∃ g, g = ys[j] := ⟨_, rfl⟩
          rw [← hf, ← hg] at e1 e2 he
          rw [← hf] at cj cj2
          rw [← hg] at dj dj2
          clear hf hg hq hq2
          obtain ⟨n1, v1⟩ := f
          obtain ⟨n2, v2⟩ := g
          simp only at e1 e2 cj cj2 dj dj2
          have hcase : (decide (n1 = n2) = false) ∨ (decide (n1 = n2) = true ∧ decide (v1 = v2) = false) := by
            by_cases h1 : n1 = n2
            · exact .inr ⟨decide_eq_true h1, decide_eq_false (fun h2 => he (by rw [h1, h2]))⟩
            · exact .inl (decide_eq_false h1)
          generalize decide (n1 = n2) = q1 at *
          generalize decide (v1 = v2) = q2 at *
          generalize bs n1 = N1 at *
          generalize bs n2 = N2 at *
          generalize bs v1 = V1 at *
          generalize bs v2 = V2 at *
          clear he
          rcases hcase with rfl | ⟨rfl, rfl⟩
          · go_wp2_with fail
            go_quiet (fail)
            go_wp2_with fail
            go_roundw
            case rel => exact ⟨j + 1, false, hlt, by first | rfl | simp, by go_num, hst, hbn _⟩
            case measure => simp [intOf]; omega
          · go_wp2_with fail
            go_quiet (fail)
            go_wp2_with fail
            go_roundw
            case rel => exact ⟨j + 1, false, hlt, by first | rfl | simp, by go_num, hst, hbn _⟩
            case measure => simp [intOf]; omega
      · have hje : j = xs.length := by omega
        have hRq : Hid (true = decide (xs = ys)) := by
          refine (decide_eq_true ?_).symm
          have h1 := hq2.2
          rw [List.take_of_length_le (by omega), List.take_of_length_le (by omega)] at h1
          exact h1
        have jl : decide ((j : Int) < xs.length) = false := decide_eq_false (by omega)
        have jg : (xs.length : Int) ≤ j := by omega
        clear hq hq2 hje
        have HE := Lib.hid (fun b1 d1 b2 d2 W h1 h2 => same56 b1 d1 xs b2 d2 ys true hRq.out (by omega) (by omega) W h1 h2)
        have HT := Lib.hid (fun b1 d1 b2 d2 W h1 h2 => same56 b1 d1 xs b2 d2 xs true (by simp) (by omega) (by omega) W h1 h2)
        go_wp2_with fail
        refine (HO.out _ _ wr (HX3.out.below hb)).mono ?_
        rintro e w4 ⟨p1, r1, rfl, ho1, hb4⟩
        have O1 := Lib.hid ho1
        have b4 := hb.trans (hb4.mono hb.size)
        clear ho1 hb hb4
        go_wp2_with fail
        refine (HOY.out _ _ w4 (HY3.out.below b4)).mono ?_
        rintro e w5 ⟨p2, r2, rfl, ho2, hb5⟩
        have O2 := Lib.hid ho2
        have O1' := Lib.hid (O1.out.below hb5)
        have b5 := b4.trans (hb5.mono b4.size)
        clear ho2 hb5 b4 O1
        go_wp2_with fail
        refine (HE.out _ _ _ _ w5 O1'.out O2.out).mono ?_
        rintro e w6 ⟨rfl, hb6⟩
        have b6 := b5.trans (hb6.mono b5.size)
        clear hb6 b5 O1' O2
        go_wp2_with fail
        refine (HO.out _ _ w6 (HX3.out.below b6)).mono ?_
        rintro e w7 ⟨p3, r3, rfl, ho3, hb7⟩
        have O3 := Lib.hid ho3
        have b7 := b6.trans (hb7.mono b6.size)
        clear ho3 hb7 b6
        go_wp2_with fail
        refine (HO.out _ _ w7 (HX3.out.below b7)).mono ?_
        rintro e w8 ⟨p4, r4, rfl, ho4, hb8⟩
        have O4 := Lib.hid ho4
        have O3' := Lib.hid (O3.out.below hb8)
        have b8 := b7.trans (hb8.mono b7.size)
        clear ho4 hb8 b7 O3
        go_wp2_with fail
        refine (HT.out _ _ _ _ w8 O3'.out O4.out).mono ?_
        rintro e w9 ⟨rfl, hb9⟩
        have b9 := b8.trans (hb9.mono b8.size)
        go_wp2_with fail
        go_ret
        exact ⟨rfl, b3.out.trans (b9.mono b3.out.size)⟩
end Go.Proofs.YtneagccakoakpaaDoor
