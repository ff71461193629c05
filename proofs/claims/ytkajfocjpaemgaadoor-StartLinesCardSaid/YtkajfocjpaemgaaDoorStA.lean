/- start: Check, Line, Path, Idempotent, Bodied, ParseRequest. -/
import Derived.Test.YtkajfocjpaemgaaDoorStM
import Derived.Test.YtkajfocjpaemgaaDoorCut
namespace Go.Proofs.YtkajfocjpaemgaaDoor
open Go.RowKit

theorem cut_c (c : UInt8) (s : ByteArray) (hs : s.size ≤ 4000000000) (a b : List UInt8) (q : Bool) (h : Lib.cut s.data.toList [c] = (a, b, q)) (w : World) (hw : MaxL w) :
    Calls Tryd.prog 27 #[.string s, .string ⟨#[c]⟩] w fun e w' => e = .returned (.tuple #[.string (bs a), .string (bs b), .bool q]) ∧ Below w.heap.size w w' := by
  obtain ⟨_, m, hm⟩ := hw
  refine (Tryd.strings_Cut s ⟨#[c]⟩ m w (by omega) hm).mono fun e w' ⟨he, n, hn⟩ => ⟨?_, ?_⟩
  · rw [he]
    have h2 : Lib.cut s.data.toList (⟨#[c]⟩ : ByteArray).data.toList = (a, b, q) := h
    rw [h2]; rfl
  · subst hn; exact ⟨rfl, rfl, rfl, Nat.le_refl _, fun _ _ => rfl⟩
theorem sfx_c (s : ByteArray) (hs : s.size ≤ 4000000000) (a : List UInt8) (q : Bool) (h1 : Lib.trimSuffix s.data.toList sfxL = a) (h2 : Lib.hasSuffix s.data.toList sfxL = q) (w : World) :
    Calls Tryd.prog 26 #[.string s, .string ⟨#[32, 72, 84, 84, 80, 47, 49, 46, 49]⟩] w fun e w' => e = .returned (.tuple #[.string (bs a), .bool q]) ∧ w = w' := by
  refine (Tryd.strings_CutSuffix s ⟨#[32, 72, 84, 84, 80, 47, 49, 46, 49]⟩ w (by omega)).mono fun e w' ⟨he, hw⟩ => ⟨?_, hw.symm⟩
  rw [he]
  have h3 : Lib.trimSuffix s.data.toList (⟨#[32, 72, 84, 84, 80, 47, 49, 46, 49]⟩ : ByteArray).data.toList = a := h1
  have h4 : Lib.hasSuffix s.data.toList (⟨#[32, 72, 84, 84, 80, 47, 49, 46, 49]⟩ : ByteArray).data.toList = q := h2
  rw [h3, h4]; rfl
theorem pfx_c (s : ByteArray) (a : List UInt8) (q : Bool) (h1 : Lib.trimPrefix s.data.toList pfxL = a) (h2 : Lib.hasPrefix s.data.toList pfxL = q) (w : World) :
    Calls Tryd.prog 33 #[.string s, .string ⟨#[72, 84, 84, 80, 47, 49, 46, 49, 32]⟩] w fun e w' => e = .returned (.tuple #[.string (bs a), .bool q]) ∧ w = w' := by
  refine (Tryd.strings_CutPrefix s ⟨#[72, 84, 84, 80, 47, 49, 46, 49, 32]⟩ w).mono fun e w' ⟨he, hw⟩ => ⟨?_, hw.symm⟩
  rw [he]
  have h3 : Lib.trimPrefix s.data.toList (⟨#[72, 84, 84, 80, 47, 49, 46, 49, 32]⟩ : ByteArray).data.toList = a := h1
  have h4 : Lib.hasPrefix s.data.toList (⟨#[72, 84, 84, 80, 47, 49, 46, 49, 32]⟩ : ByteArray).data.toList = q := h2
  rw [h3, h4]; rfl
theorem target_l (l : List UInt8) (hl : l.length ≤ 4000000000) (q : Bool) (h : tgtB l = q) (w : World) :
    Calls Tryd.prog 32 #[.string (bs l)] w fun e w' => e = .returned (.bool q) ∧ w = w' := by
  subst h; exact target16 (bs l) (by rw [bs_size]; omega) w
set_option maxHeartbeats 1000000 in
theorem check12 (m t : List UInt8) (hm : m.length ≤ 4000000000) (ht : t.length ≤ 4000000000) (z : Int) (hz : (if tokB m = true ∧ tgtB t = true then (0 : Int) else 2) = z) (w : World) :
    Calls Tryd.prog 12 #[.agg #[.string (bs m), .string (bs t)]] w fun e w' => e = .returned (.int .i64 z) ∧ Below w.heap.size w w' := by
  obtain ⟨q1, h1⟩ : ∃ q, tokB m = q := ⟨_, rfl⟩
  obtain ⟨q2, h2⟩ : ∃ q, tgtB t = q := ⟨_, rfl⟩
  have K1 := Lib.hid (fun W => token_l m hm q1 h1 W)
  have K2 := Lib.hid (fun W => target_l t ht q2 h2 W)
  rw [h1, h2] at hz
  clear h1 h2 hm ht
  have L0 := below_alloc w (.cells #[.string (bs m), .string (bs t)] 25)
  generalize bs m = M at *
  generalize bs t = T at *
  cases q1
  · rw [if_neg (by simp)] at hz
    subst hz
    go_enter Tryd.func12, Tryd.ntmps12
    go_wp2_with (first | (go_at_call 31; refine (K1.out _).mono ?_; rintro e w' ⟨rfl, rfl⟩) | (go_at_call 32; refine (K2.out _).mono ?_; rintro e w' ⟨rfl, rfl⟩))
    go_ret
    exact ⟨rfl, L0⟩
  · cases q2
    · rw [if_neg (by simp)] at hz
      subst hz
      go_enter Tryd.func12, Tryd.ntmps12
      go_wp2_with (first | (go_at_call 31; refine (K1.out _).mono ?_; rintro e w' ⟨rfl, rfl⟩) | (go_at_call 32; refine (K2.out _).mono ?_; rintro e w' ⟨rfl, rfl⟩))
      go_ret
      exact ⟨rfl, L0⟩
    · rw [if_pos (by simp)] at hz
      subst hz
      go_enter Tryd.func12, Tryd.ntmps12
      go_wp2_with (first | (go_at_call 31; refine (K1.out _).mono ?_; rintro e w' ⟨rfl, rfl⟩) | (go_at_call 32; refine (K2.out _).mono ?_; rintro e w' ⟨rfl, rfl⟩))
      go_ret
      exact ⟨rfl, L0⟩
set_option maxHeartbeats 1000000 in
theorem rline11 (a b : List UInt8) (h1 : a.length ≤ 4000000000) (h2 : b.length ≤ 4000000000) (w : World) :
    Calls Tryd.prog 11 #[.agg #[.string (bs a), .string (bs b)]] w fun e w' => e = .returned (.string (bs (reqLine (a, b)))) ∧ Below w.heap.size w w' := by
  have A1 := fun W => add_str a [32] (by simp; omega) W
  have A2 := fun W => add_str (a ++ [32]) b (by simp; omega) W
  have A3 := fun W => add_str (a ++ [32] ++ b) [32] (by simp; omega) W
  have A4 := fun W => add_str (a ++ [32] ++ b ++ [32]) verL (by simp [verL]; omega) W
  have A5 := fun W => add_str (a ++ [32] ++ b ++ [32] ++ verL) [13, 10] (by simp [verL]; omega) W
  have e32 : bs [32] = ⟨#[32]⟩ := rfl
  have ev : bs verL = ⟨#[72, 84, 84, 80, 47, 49, 46, 49]⟩ := rfl
  have e13 : bs [13, 10] = ⟨#[13, 10]⟩ := rfl
  rw [e32] at A1 A3
  rw [ev] at A4
  rw [e13] at A5
  have hl : reqLine (a, b) = a ++ [32] ++ b ++ [32] ++ verL ++ [13, 10] := rfl
  rw [hl]
  generalize hx5 : bs (a ++ [32] ++ b ++ [32] ++ verL ++ [13, 10]) = x5 at *
  generalize hx4 : bs (a ++ [32] ++ b ++ [32] ++ verL) = x4 at *
  generalize hx3 : bs (a ++ [32] ++ b ++ [32]) = x3 at *
  generalize hx2 : bs (a ++ [32] ++ b) = x2 at *
  generalize hx1 : bs (a ++ [32]) = x1 at *
  generalize bs a = x0 at *
  generalize bs b = y0 at *
  clear hx5 hx4 hx3 hx2 hx1 e32 ev e13 hl h1 h2
  go_enter Tryd.func11, Tryd.ntmps11
  go_wp2_with fail
  go_ret
  exact ⟨rfl, below_alloc w _⟩
set_option maxHeartbeats 1000000 in
theorem path20 (m t : List UInt8) (ht : t.length ≤ 4000000000) (w : World) (hw : MaxL w) :
    Calls Tryd.prog 20 #[.agg #[.string (bs m), .string (bs t)]] w fun e w' => e = .returned (.string (bs (pathL t))) ∧ Below w.heap.size w w' := by
  obtain ⟨a, b, q, hc⟩ : ∃ a b q, Lib.cut t [63] = (a, b, q) := ⟨_, _, _, rfl⟩
  have hp : pathL t = a := by unfold pathL; rw [hc]
  rw [hp]
  clear hp
  have L0 := below_alloc w (.cells #[.string (bs m), .string (bs t)] 25)
  have HC := Lib.hid (cut_c 63 (bs t) (by rw [bs_size]; exact ht) a b q hc _ (hw.below L0))
  clear hc hw ht
  generalize bs m = M at *
  generalize bs t = T at *
  generalize bs a = X at *
  generalize bs b = Y at *
  go_enter Tryd.func20, Tryd.ntmps20
  go_wp2_with fail
  refine HC.out.mono ?_
  rintro e w1 ⟨rfl, hb1⟩
  go_wp2_with fail
  go_ret
  exact ⟨rfl, L0.trans (hb1.mono L0.size)⟩
set_option maxRecDepth 100000 in
set_option maxHeartbeats 4000000 in
theorem idem18 (m t : List UInt8) (w : World) :
    Calls Tryd.prog 18 #[.agg #[.string (bs m), .string (bs t)]] w fun e w' => e = .returned (.bool (idemB m)) ∧ Below w.heap.size w w' := by
  obtain ⟨q1, h1⟩ : ∃ q, decide (m = [71, 69, 84]) = q := ⟨_, rfl⟩
  obtain ⟨q2, h2⟩ : ∃ q, decide (m = [72, 69, 65, 68]) = q := ⟨_, rfl⟩
  obtain ⟨q3, h3⟩ : ∃ q, decide (m = [80, 85, 84]) = q := ⟨_, rfl⟩
  obtain ⟨q4, h4⟩ : ∃ q, decide (m = [68, 69, 76, 69, 84, 69]) = q := ⟨_, rfl⟩
  obtain ⟨q5, h5⟩ : ∃ q, decide (m = [79, 80, 84, 73, 79, 78, 83]) = q := ⟨_, rfl⟩
  obtain ⟨q6, h6⟩ : ∃ q, decide (m = [84, 82, 65, 67, 69]) = q := ⟨_, rfl⟩
  have hv : idemB m = (q1 || q2 || q3 || q4 || q5 || q6) := by unfold idemB; rw [h1, h2, h3, h4, h5, h6]
  rw [hv]
  have c1 : ((bs m).toList == [71, 69, 84]) = q1 := str_lit m _ q1 h1
  have c2 : ((bs m).toList == [72, 69, 65, 68]) = q2 := str_lit m _ q2 h2
  have c3 : ((bs m).toList == [80, 85, 84]) = q3 := str_lit m _ q3 h3
  have c4 : ((bs m).toList == [68, 69, 76, 69, 84, 69]) = q4 := str_lit m _ q4 h4
  have c5 : ((bs m).toList == [79, 80, 84, 73, 79, 78, 83]) = q5 := str_lit m _ q5 h5
  have c6 : ((bs m).toList == [84, 82, 65, 67, 69]) = q6 := str_lit m _ q6 h6
  have L0 := below_alloc w (.cells #[.string (bs m), .string (bs t)] 25)
  clear h1 h2 h3 h4 h5 h6 hv
  generalize bs m = M at *
  generalize bs t = T at *
  go_enter Tryd.func18, Tryd.ntmps18
  cases q1
  · cases q2
    · cases q3
      · cases q4
        · cases q5
          · cases q6
            · go_wp2_with fail
              go_ret
              exact ⟨rfl, L0⟩
            · go_wp2_with fail
              go_ret
              exact ⟨rfl, L0⟩
          · go_wp2_with fail
            go_ret
            exact ⟨by cases q6 <;> rfl, L0⟩
        · go_wp2_with fail
          go_ret
          exact ⟨by cases q5 <;> cases q6 <;> rfl, L0⟩
      · go_wp2_with fail
        go_ret
        exact ⟨by cases q4 <;> cases q5 <;> cases q6 <;> rfl, L0⟩
    · go_wp2_with fail
      go_ret
      exact ⟨by cases q3 <;> cases q4 <;> cases q5 <;> cases q6 <;> rfl, L0⟩
  · go_wp2_with fail
    go_ret
    exact ⟨by cases q2 <;> cases q3 <;> cases q4 <;> cases q5 <;> cases q6 <;> rfl, L0⟩
set_option maxHeartbeats 1000000 in
theorem bodied24 (m : List UInt8) (c : Int) (q1 q2 q3 : Bool) (h1 : decide (m = [72, 69, 65, 68]) = q1) (h2 : decide (c = 204) = q2) (h3 : decide (c = 304) = q3) (w : World) :
    Calls Tryd.prog 24 #[.string (bs m), .int .i64 c] w fun e w' => e = .returned (.bool (!(q1 || q2 || q3))) ∧ w = w' := by
  have c1 : ((bs m).toList == [72, 69, 65, 68]) = q1 := str_lit m _ q1 h1
  clear h1
  generalize bs m = M at *
  have c2 : (c == 204) = q2 := by rw [← h2]; rfl
  have c3 : (c == 304) = q3 := by rw [← h3]; rfl
  have d2 : (c != 204) = !q2 := by rw [bne, c2]
  have d3 : (c != 304) = !q3 := by rw [bne, c3]
  clear h2 h3
  cases q1 <;> cases q2 <;> cases q3
  all_goals
    simp only [Bool.not_true, Bool.not_false] at d2 d3
    go_enter Tryd.func24, Tryd.ntmps24
    go_wp2_with fail
    go_ret
    exact ⟨rfl, rfl⟩
end Go.Proofs.YtkajfocjpaemgaaDoor
