/- start's reference: word, ParseRequest, RequestLine, Idempotent, Path, Bodied, Reason. -/
import Derived.Test.YtkajfocjpaemgaaDoorStB
import Derived.Test.YtkajfocjpaemgaaDoorNumR
namespace Go.Proofs.YtkajfocjpaemgaaDoor
open Go.RowKit

set_option maxRecDepth 100000 in
set_option maxHeartbeats 1000000 in
theorem word28 (s : ByteArray) (hs : s.size ≤ 4000000000) (a b : List UInt8) (q : Bool) (hc : Lib.cut s.data.toList [32] = (a, b, q)) (w : World) :
    Calls Tryd.prog 28 #[.string s] w fun e w' => e = .returned (.tuple #[.string (bs a), .string (bs b), .bool q]) ∧ Below w.heap.size w w' := by
  have HCU := Lib.hid hc
  clear hc
  go_enter Tryd.func28, Tryd.ntmps28
  go_wp2_with fail
  go_loop [5] (fun i => ∃ j : Nat, j ≤ s.size ∧ i = .int .i64 (j : Int) ∧ Hid ((32 : UInt8) ∉ s.data.toList.take j)) (fun i => s.size - (intOf i).toNat)
  case atStart => exact ⟨0, Nat.zero_le _, rfl, by simp [Hid]⟩
  case round =>
    obtain ⟨j, hj, rfl, hn⟩ := hrel
    by_cases hlt : j < s.size
    · by_cases hq : s[j] = 32
      · have hz := Lib.size_eq s
        have hd : s.data.toList = s.data.toList.take j ++ 32 :: s.data.toList.drop (j + 1) := by
          rw [← hq]
          have h1 : s.data.toList.drop j = s[j] :: s.data.toList.drop (j + 1) := by
            rw [List.drop_eq_getElem_cons (by omega)]
            congr 1
          rw [← h1, List.take_append_drop]
        have hcv : Lib.cut s.data.toList [32] = (s.data.toList.take j, s.data.toList.drop (j + 1), true) := by
          have h2 := cut_at 32 (s.data.toList.take j) (s.data.toList.drop (j + 1)) hn.out
          rwa [← hd] at h2
        rw [HCU.out] at hcv
        injection hcv with e1 e2
        injection e2 with e2 e3
        have ht : ((s[j].toNat : Int) == 32) = true := by rw [hq]; rfl
        have x1 : s.extract 0 j = bs a := by rw [← bs_of (s.extract 0 j), extractL, List.drop_zero, Nat.sub_zero, e1]
        have x2 : s.extract (j + 1) s.size = bs b := by rw [← bs_of (s.extract (j + 1) s.size), extractL, List.take_of_length_le (by rw [List.length_drop]; omega), e2]
        have j1 : (j : Int) + 1 ≤ s.size := by omega
        have j2 : (j : Int) ≤ s.size := by omega
        have hss : (s.size : Int) ≤ 4000000000 := by omega
        subst e3
        clear hd e1 e2 hn hq hz HCU
        go_wp2_with fail
        go_quiet (fail)
        go_wp2_with fail
        refine bodyPost_ret (v := .tuple #[.string (bs a), .string (bs b), .bool true]) (by simp [results, Tryd.results28, go_sem]) rfl ⟨rfl, ⟨rfl, rfl, rfl, Nat.le_refl _, fun _ _ => rfl⟩⟩
      · have hst : Hid ((32 : UInt8) ∉ s.data.toList.take (j + 1)) := by
          show (32 : UInt8) ∉ _
          rw [take_snoc s j hlt, List.mem_append, not_or]
          exact ⟨hn.out, by rw [List.mem_singleton]; exact fun e => hq e.symm⟩
        have ht : ((s[j].toNat : Int) == 32) = false := by
          rw [show (32 : Int) = ((32 : UInt8).toNat : Int) from rfl, byte_eq]
          exact beq_eq_false_iff_ne.2 hq
        clear hq
        go_wp2_with fail
        go_round
        case rel => exact ⟨j + 1, by omega, by go_num, hst⟩
        case measure => simp [intOf]; omega
    · have hn2 := hn.out
      rw [List.take_of_length_le (by rw [← Lib.size_eq]; omega)] at hn2
      have hcv := cut_no 32 _ hn2
      rw [HCU.out] at hcv
      injection hcv with e1 e2
      injection e2 with e2 e3
      subst e2 e3
      have x1 : Hid (s = bs a) := by rw [e1, bs_of]; exact rfl
      clear hn2 e1 HCU
      go_wp2_with fail
      refine bodyPost_ret (v := .tuple #[.string s, .string ⟨#[]⟩, .bool false]) (by simp [results, Tryd.results28, go_sem]) rfl ⟨by rw [← x1.out]; rfl, Below.refl _ _⟩
set_option maxRecDepth 100000 in
set_option maxHeartbeats 1000000 in
theorem rpath21 (s : ByteArray) (hs : s.size ≤ 4000000000) (w : World) :
    Calls Tryd.prog 21 #[.string s] w fun e w' => e = .returned (.string (bs (pathL s.data.toList))) ∧ w = w' := by
  obtain ⟨a, ha⟩ : ∃ a, pathL s.data.toList = a := ⟨_, rfl⟩
  rw [ha]
  have HCU := Lib.hid ha
  clear ha
  go_enter Tryd.func21, Tryd.ntmps21
  go_wp2_with fail
  go_loop [3] (fun i => ∃ j : Nat, j ≤ s.size ∧ i = .int .i64 (j : Int) ∧ Hid ((63 : UInt8) ∉ s.data.toList.take j)) (fun i => s.size - (intOf i).toNat)
  case atStart => exact ⟨0, Nat.zero_le _, rfl, by simp [Hid]⟩
  case round =>
    obtain ⟨j, hj, rfl, hn⟩ := hrel
    by_cases hlt : j < s.size
    · by_cases hq : s[j] = 63
      · have hz := Lib.size_eq s
        have hd : s.data.toList = s.data.toList.take j ++ 63 :: s.data.toList.drop (j + 1) := by
          rw [← hq]
          have h1 : s.data.toList.drop j = s[j] :: s.data.toList.drop (j + 1) := by
            rw [List.drop_eq_getElem_cons (by omega)]
            congr 1
          rw [← h1, List.take_append_drop]
        have hcv : pathL s.data.toList = s.data.toList.take j := by
          have h2 := cut_at 63 (s.data.toList.take j) (s.data.toList.drop (j + 1)) hn.out
          rw [← hd] at h2
          unfold pathL
          rw [h2]
        rw [HCU.out] at hcv
        have ht : ((s[j].toNat : Int) == 63) = true := by rw [hq]; rfl
        have x1 : s.extract 0 j = bs a := by rw [← bs_of (s.extract 0 j), extractL, List.drop_zero, Nat.sub_zero, hcv]
        have j2 : (j : Int) ≤ s.size := by omega
        have hss : (s.size : Int) ≤ 4000000000 := by omega
        clear hd hcv hn hq hz HCU
        go_wp2_with fail
        go_ret
        exact ⟨rfl, rfl⟩
      · have hst : Hid ((63 : UInt8) ∉ s.data.toList.take (j + 1)) := by
          show (63 : UInt8) ∉ _
          rw [take_snoc s j hlt, List.mem_append, not_or]
          exact ⟨hn.out, by rw [List.mem_singleton]; exact fun e => hq e.symm⟩
        have ht : ((s[j].toNat : Int) == 63) = false := by
          rw [show (63 : Int) = ((63 : UInt8).toNat : Int) from rfl, byte_eq]
          exact beq_eq_false_iff_ne.2 hq
        clear hq
        go_wp2_with fail
        go_round
        case rel => exact ⟨j + 1, by omega, by go_num, hst⟩
        case measure => simp [intOf]; omega
    · have hn2 := hn.out
      rw [List.take_of_length_le (by rw [← Lib.size_eq]; omega)] at hn2
      have hcv : pathL s.data.toList = s.data.toList := by unfold pathL; rw [cut_no 63 _ hn2]
      rw [HCU.out] at hcv
      have x1 : Hid (s = bs a) := by rw [hcv, bs_of]; exact rfl
      clear hn2 hcv HCU
      go_wp2_with fail
      go_ret
      exact ⟨by rw [← x1.out]; rfl, rfl⟩
set_option maxHeartbeats 1000000 in
theorem rrline17 (a b : List UInt8) (h1 : a.length ≤ 4000000000) (h2 : b.length ≤ 4000000000) (w : World) :
    Calls Tryd.prog 17 #[.agg #[.string (bs a), .string (bs b)]] w fun e w' => e = .returned (.string (bs (reqLine (a, b)))) ∧ Below w.heap.size w w' := by
  have A1 := fun W => add_str a [32] (by simp; omega) W
  have A2 := fun W => add_str (a ++ [32]) b (by simp; omega) W
  have A3 := fun W => add_str (a ++ [32] ++ b) [32, 72, 84, 84, 80, 47, 49, 46, 49, 13, 10] (by simp; omega) W
  have e32 : bs [32] = ⟨#[32]⟩ := rfl
  have ev : bs [32, 72, 84, 84, 80, 47, 49, 46, 49, 13, 10] = ⟨#[32, 72, 84, 84, 80, 47, 49, 46, 49, 13, 10]⟩ := rfl
  rw [e32] at A1
  rw [ev] at A3
  have hl : reqLine (a, b) = a ++ [32] ++ b ++ [32, 72, 84, 84, 80, 47, 49, 46, 49, 13, 10] := by simp [reqLine, verL]
  rw [hl]
  generalize hx3 : bs (a ++ [32] ++ b ++ [32, 72, 84, 84, 80, 47, 49, 46, 49, 13, 10]) = x3 at *
  generalize hx2 : bs (a ++ [32] ++ b) = x2 at *
  generalize hx1 : bs (a ++ [32]) = x1 at *
  generalize bs a = x0 at *
  generalize bs b = y0 at *
  clear hx3 hx2 hx1 e32 ev hl h1 h2
  go_enter Tryd.func17, Tryd.ntmps17
  go_wp2_with fail
  go_ret
  exact ⟨rfl, below_alloc w _⟩
set_option maxRecDepth 100000 in
set_option maxHeartbeats 4000000 in
theorem ridem19 (m : List UInt8) (w : World) :
    Calls Tryd.prog 19 #[.string (bs m)] w fun e w' => e = .returned (.bool (idemB m)) ∧ w = w' := by
  obtain ⟨q1, h1⟩ : ∃ q, decide (m = [71, 69, 84]) = q := ⟨_, rfl⟩
  obtain ⟨q2, h2⟩ : ∃ q, decide (m = [72, 69, 65, 68]) = q := ⟨_, rfl⟩
  obtain ⟨q3, h3⟩ : ∃ q, decide (m = [80, 85, 84]) = q := ⟨_, rfl⟩
  obtain ⟨q4, h4⟩ : ∃ q, decide (m = [68, 69, 76, 69, 84, 69]) = q := ⟨_, rfl⟩
  obtain ⟨q5, h5⟩ : ∃ q, decide (m = [79, 80, 84, 73, 79, 78, 83]) = q := ⟨_, rfl⟩
  obtain ⟨q6, h6⟩ : ∃ q, decide (m = [84, 82, 65, 67, 69]) = q := ⟨_, rfl⟩
  have hv : idemB m = (q1 || q2 || q3 || q4 || q5 || q6) := by unfold idemB; rw [h1, h2, h3, h4, h5, h6]
  rw [hv]
  have c1 : ((bs m).toList == [71, 69, 84]) = q1 := str_lit m _ q1 h1
  have c2 : ((bs m).toList == [72, 69, 65, 68]) = q2 := str_lit m _ q2 h2
  have c3 : ((bs m).toList == [80, 85, 84]) = q3 := str_lit m _ q3 h3
  have c4 : ((bs m).toList == [68, 69, 76, 69, 84, 69]) = q4 := str_lit m _ q4 h4
  have c5 : ((bs m).toList == [79, 80, 84, 73, 79, 78, 83]) = q5 := str_lit m _ q5 h5
  have c6 : ((bs m).toList == [84, 82, 65, 67, 69]) = q6 := str_lit m _ q6 h6
  clear h1 h2 h3 h4 h5 h6 hv
  generalize bs m = M at *
  cases q1
  · cases q2
    · cases q3
      · cases q4
        · cases q5
          · cases q6
            all_goals
              go_enter Tryd.func19, Tryd.ntmps19
              go_wp2_with fail
              go_ret
              exact ⟨rfl, rfl⟩
          · go_enter Tryd.func19, Tryd.ntmps19
            go_wp2_with fail
            go_ret
            exact ⟨by cases q6 <;> rfl, rfl⟩
        · go_enter Tryd.func19, Tryd.ntmps19
          go_wp2_with fail
          go_ret
          exact ⟨by cases q5 <;> cases q6 <;> rfl, rfl⟩
      · go_enter Tryd.func19, Tryd.ntmps19
        go_wp2_with fail
        go_ret
        exact ⟨by cases q4 <;> cases q5 <;> cases q6 <;> rfl, rfl⟩
    · go_enter Tryd.func19, Tryd.ntmps19
      go_wp2_with fail
      go_ret
      exact ⟨by cases q3 <;> cases q4 <;> cases q5 <;> cases q6 <;> rfl, rfl⟩
  · go_enter Tryd.func19, Tryd.ntmps19
    go_wp2_with fail
    go_ret
    exact ⟨by cases q2 <;> cases q3 <;> cases q4 <;> cases q5 <;> cases q6 <;> rfl, rfl⟩
set_option maxHeartbeats 1000000 in
theorem rbodied25 (m : List UInt8) (c : Int) (q1 q2 q3 : Bool) (h1 : decide (m = [72, 69, 65, 68]) = q1) (h2 : decide (c = 204) = q2) (h3 : decide (c = 304) = q3) (w : World) :
    Calls Tryd.prog 25 #[.string (bs m), .int .i64 c] w fun e w' => e = .returned (.bool (!(q1 || q2 || q3))) ∧ w = w' := by
  have c1 : ((bs m).toList == [72, 69, 65, 68]) = q1 := str_lit m _ q1 h1
  clear h1
  generalize bs m = M at *
  have c2 : (c == 204) = q2 := by rw [← h2]; rfl
  have c3 : (c == 304) = q3 := by rw [← h3]; rfl
  clear h2 h3
  cases q1 <;> cases q2 <;> cases q3
  all_goals
    go_enter Tryd.func25, Tryd.ntmps25
    go_wp2_with fail
    go_ret
    exact ⟨rfl, rfl⟩
theorem rreason23 (c : Int) (w : World) :
    Calls Tryd.prog 23 #[.int .i64 c] w fun e w' => e = .returned (.string (bs (reasonL c))) ∧ w = w' := by
  obtain ⟨r, hr⟩ : ∃ r, reasonL c = r := ⟨_, rfl⟩
  rw [hr]
  have HR := Lib.hid hr
  clear hr
  by_cases h1 : c = 200
  · subst h1
    have HV : Hid (r = [79, 75]) := HR.out.symm
    go_enter Tryd.func23, Tryd.ntmps23
    go_wp2_with fail
    go_ret
    exact ⟨by rw [HV.out]; rfl, rfl⟩
  by_cases h2 : c = 400
  · subst h2
    have HV : Hid (r = [66, 97, 100, 32, 82, 101, 113, 117, 101, 115, 116]) := HR.out.symm
    go_enter Tryd.func23, Tryd.ntmps23
    go_wp2_with fail
    go_ret
    exact ⟨by rw [HV.out]; rfl, rfl⟩
  by_cases h3 : c = 413
  · subst h3
    have HV : Hid (r = [67, 111, 110, 116, 101, 110, 116, 32, 84, 111, 111, 32, 76, 97, 114, 103, 101]) := HR.out.symm
    go_enter Tryd.func23, Tryd.ntmps23
    go_wp2_with fail
    go_ret
    exact ⟨by rw [HV.out]; rfl, rfl⟩
  by_cases h4 : c = 431
  · subst h4
    have HV : Hid (r = [82, 101, 113, 117, 101, 115, 116, 32, 72, 101, 97, 100, 101, 114, 32, 70, 105, 101, 108, 100, 115, 32, 84, 111, 111, 32, 76, 97, 114, 103, 101]) := HR.out.symm
    go_enter Tryd.func23, Tryd.ntmps23
    go_wp2_with fail
    go_ret
    exact ⟨by rw [HV.out]; rfl, rfl⟩
  by_cases h5 : c = 502
  · subst h5
    have HV : Hid (r = [66, 97, 100, 32, 71, 97, 116, 101, 119, 97, 121]) := HR.out.symm
    go_enter Tryd.func23, Tryd.ntmps23
    go_wp2_with fail
    go_ret
    exact ⟨by rw [HV.out]; rfl, rfl⟩
  by_cases h6 : c = 503
  · subst h6
    have HV : Hid (r = [83, 101, 114, 118, 105, 99, 101, 32, 85, 110, 97, 118, 97, 105, 108, 97, 98, 108, 101]) := HR.out.symm
    go_enter Tryd.func23, Tryd.ntmps23
    go_wp2_with fail
    go_ret
    exact ⟨by rw [HV.out]; rfl, rfl⟩
  by_cases h7 : c = 504
  · subst h7
    have HV : Hid (r = [71, 97, 116, 101, 119, 97, 121, 32, 84, 105, 109, 101, 111, 117, 116]) := HR.out.symm
    go_enter Tryd.func23, Tryd.ntmps23
    go_wp2_with fail
    go_ret
    exact ⟨by rw [HV.out]; rfl, rfl⟩
  · have HV : Hid (r = []) := by
      have h := HR.out
      unfold reasonL at h
      rw [if_neg h1, if_neg h2, if_neg h3, if_neg h4, if_neg h5, if_neg h6, if_neg h7] at h
      exact h.symm
    go_enter Tryd.func23, Tryd.ntmps23
    go_wp2_with fail
    go_ret
    exact ⟨by rw [HV.out]; rfl, rfl⟩
end Go.Proofs.YtkajfocjpaemgaaDoor
