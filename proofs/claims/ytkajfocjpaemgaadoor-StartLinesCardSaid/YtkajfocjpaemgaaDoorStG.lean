/- start: Reason, over its table of words. -/
import Derived.Test.YtkajfocjpaemgaaDoorStF
namespace Go.Proofs.YtkajfocjpaemgaaDoor
open Go.RowKit

/-- The table's cells. -/
def reasC : List Value := [.int .i64 200, .string ⟨#[79, 75]⟩, .int .i64 400, .string ⟨#[66, 97, 100, 32, 82, 101, 113, 117, 101, 115, 116]⟩, .int .i64 413, .string ⟨#[67, 111, 110, 116, 101, 110, 116, 32, 84, 111, 111, 32, 76, 97, 114, 103, 101]⟩, .int .i64 431, .string ⟨#[82, 101, 113, 117, 101, 115, 116, 32, 72, 101, 97, 100, 101, 114, 32, 70, 105, 101, 108, 100, 115, 32, 84, 111, 111, 32, 76, 97, 114, 103, 101]⟩, .int .i64 502, .string ⟨#[66, 97, 100, 32, 71, 97, 116, 101, 119, 97, 121]⟩, .int .i64 503, .string ⟨#[83, 101, 114, 118, 105, 99, 101, 32, 85, 110, 97, 118, 97, 105, 108, 97, 98, 108, 101]⟩, .int .i64 504, .string ⟨#[71, 97, 116, 101, 119, 97, 121, 32, 84, 105, 109, 101, 111, 117, 116]⟩]
def Reas (w : World) : Prop := 0 < w.heap.size ∧ w.rangeAt 0 0 reasC
theorem Reas.below {w w' : World} (h : Reas w) (hb : Below w.heap.size w w') : Reas w' :=
  ⟨Nat.lt_of_lt_of_le h.1 hb.size, fun j v hv => by rw [(bcell hb).1 _ _ h.1]; exact h.2 j v hv⟩
theorem reas_size : (Tryd.prog.info? 59).map (·.size) = some reasC.length := by kernel_rfl
def codes : List Int := [200, 400, 413, 431, 502, 503, 504]
theorem reason_none (c : Int) (h : ∀ x ∈ codes, c ≠ x) : reasonL c = [] := by
  unfold reasonL
  rw [if_neg (h 200 (by decide))]
  rw [if_neg (h 400 (by decide))]
  rw [if_neg (h 413 (by decide))]
  rw [if_neg (h 431 (by decide))]
  rw [if_neg (h 502 (by decide))]
  rw [if_neg (h 503 (by decide))]
  rw [if_neg (h 504 (by decide))]
theorem reason_200 : reasonL 200 = [79, 75] := by rfl
theorem reason_400 : reasonL 400 = [66, 97, 100, 32, 82, 101, 113, 117, 101, 115, 116] := by rfl
theorem reason_413 : reasonL 413 = [67, 111, 110, 116, 101, 110, 116, 32, 84, 111, 111, 32, 76, 97, 114, 103, 101] := by rfl
theorem reason_431 : reasonL 431 = [82, 101, 113, 117, 101, 115, 116, 32, 72, 101, 97, 100, 101, 114, 32, 70, 105, 101, 108, 100, 115, 32, 84, 111, 111, 32, 76, 97, 114, 103, 101] := by rfl
theorem reason_502 : reasonL 502 = [66, 97, 100, 32, 71, 97, 116, 101, 119, 97, 121] := by rfl
theorem reason_503 : reasonL 503 = [83, 101, 114, 118, 105, 99, 101, 32, 85, 110, 97, 118, 97, 105, 108, 97, 98, 108, 101] := by rfl
theorem reason_504 : reasonL 504 = [71, 97, 116, 101, 119, 97, 121, 32, 84, 105, 109, 101, 111, 117, 116] := by rfl
theorem reas_ix_0 (w : World) : (Instr.index 59 (.agg reasC.toArray) (.int .i64 0)).run Tryd.prog w = .ok (.agg #[.int .i64 200, .string ⟨#[79, 75]⟩]) w := by kernel_rfl
theorem reas_ix_1 (w : World) : (Instr.index 59 (.agg reasC.toArray) (.int .i64 1)).run Tryd.prog w = .ok (.agg #[.int .i64 400, .string ⟨#[66, 97, 100, 32, 82, 101, 113, 117, 101, 115, 116]⟩]) w := by kernel_rfl
theorem reas_ix_2 (w : World) : (Instr.index 59 (.agg reasC.toArray) (.int .i64 2)).run Tryd.prog w = .ok (.agg #[.int .i64 413, .string ⟨#[67, 111, 110, 116, 101, 110, 116, 32, 84, 111, 111, 32, 76, 97, 114, 103, 101]⟩]) w := by kernel_rfl
theorem reas_ix_3 (w : World) : (Instr.index 59 (.agg reasC.toArray) (.int .i64 3)).run Tryd.prog w = .ok (.agg #[.int .i64 431, .string ⟨#[82, 101, 113, 117, 101, 115, 116, 32, 72, 101, 97, 100, 101, 114, 32, 70, 105, 101, 108, 100, 115, 32, 84, 111, 111, 32, 76, 97, 114, 103, 101]⟩]) w := by kernel_rfl
theorem reas_ix_4 (w : World) : (Instr.index 59 (.agg reasC.toArray) (.int .i64 4)).run Tryd.prog w = .ok (.agg #[.int .i64 502, .string ⟨#[66, 97, 100, 32, 71, 97, 116, 101, 119, 97, 121]⟩]) w := by kernel_rfl
theorem reas_ix_5 (w : World) : (Instr.index 59 (.agg reasC.toArray) (.int .i64 5)).run Tryd.prog w = .ok (.agg #[.int .i64 503, .string ⟨#[83, 101, 114, 118, 105, 99, 101, 32, 85, 110, 97, 118, 97, 105, 108, 97, 98, 108, 101]⟩]) w := by kernel_rfl
theorem reas_ix_6 (w : World) : (Instr.index 59 (.agg reasC.toArray) (.int .i64 6)).run Tryd.prog w = .ok (.agg #[.int .i64 504, .string ⟨#[71, 97, 116, 101, 119, 97, 121, 32, 84, 105, 109, 101, 111, 117, 116]⟩]) w := by kernel_rfl
set_option maxRecDepth 100000 in
set_option maxHeartbeats 8000000 in
theorem reason22 (c : Int) (w : World) (hr : Reas w) :
    Calls Tryd.prog 22 #[.int .i64 c] w fun e w' => e = .returned (.string (bs (reasonL c))) ∧ Below w.heap.size w w' := by
  obtain ⟨R, hR⟩ : ∃ R, reasonL c = R := ⟨_, rfl⟩
  rw [hR]
  have HR := Lib.hid hR
  have hrange := hr.2
  have HS := reas_size
  clear hR hr
  go_enter Tryd.func22, Tryd.ntmps22
  go_wp2_with (refine wpList_load_mid rfl 59 _ rfl 0 0 rfl reasC _ hrange Tryd.underlying59 rfl HS ?_)
  clear hrange HS
  go_loopw [6] (fun i wr => ∃ j : Nat, j ≤ 7 ∧ i = .int .i64 (j : Int) ∧ Hid (∀ x ∈ codes.take j, c ≠ x) ∧ Below w.heap.size w wr) (fun i _ => 7 - (intOf i).toNat)
  case atStart => exact ⟨0, Nat.zero_le _, rfl, (by simp [Hid]), Below.refl _ _⟩
  case round =>
    obtain ⟨j, hj, rfl, hn, hb⟩ := hrel
    match j, hj with
    | 0, _ =>
      by_cases hc : c = 200
      · subst hc
        have HV : Hid (R = [79, 75]) := HR.out.symm.trans reason_200
        clear hn HR
        have hx := reas_ix_0 wr
        go_wp2_with fail
        go_ret
        exact ⟨by rw [HV.out]; rfl, hb.trans ((below_alloc wr _).mono hb.size)⟩
      · have hc2 : ((200 : Int) == c) = false := beq_eq_false_iff_ne.2 (fun e => hc e.symm)
        have hn2 : Hid (∀ x ∈ codes.take 1, c ≠ x) := by
          show ∀ x ∈ codes.take 1, c ≠ x
          have h0 := hn.out
          intro x hx
          by_cases hx0 : x ∈ codes.take 0
          · exact h0 x hx0
          · have : x = 200 := by
              simp only [codes, List.take_succ_cons, List.take_zero, List.mem_cons, List.not_mem_nil, or_false] at hx hx0
              omega
            subst this
            exact hc
        clear hc hn
        have hx := reas_ix_0 wr
        go_wp2_with fail
        go_roundw
        case rel => exact ⟨1, by omega, by first | rfl | go_num, hn2, hb.trans ((below_alloc wr _).mono hb.size)⟩
        case measure => simp [intOf]
    | 1, _ =>
      by_cases hc : c = 400
      · subst hc
        have HV : Hid (R = [66, 97, 100, 32, 82, 101, 113, 117, 101, 115, 116]) := HR.out.symm.trans reason_400
        clear hn HR
        have hx := reas_ix_1 wr
        go_wp2_with fail
        go_ret
        exact ⟨by rw [HV.out]; rfl, hb.trans ((below_alloc wr _).mono hb.size)⟩
      · have hc2 : ((400 : Int) == c) = false := beq_eq_false_iff_ne.2 (fun e => hc e.symm)
        have hn2 : Hid (∀ x ∈ codes.take 2, c ≠ x) := by
          show ∀ x ∈ codes.take 2, c ≠ x
          have h0 := hn.out
          intro x hx
          by_cases hx0 : x ∈ codes.take 1
          · exact h0 x hx0
          · have : x = 400 := by
              simp only [codes, List.take_succ_cons, List.take_zero, List.mem_cons, List.not_mem_nil, or_false] at hx hx0
              omega
            subst this
            exact hc
        clear hc hn
        have hx := reas_ix_1 wr
        go_wp2_with fail
        go_roundw
        case rel => exact ⟨2, by omega, by first | rfl | go_num, hn2, hb.trans ((below_alloc wr _).mono hb.size)⟩
        case measure => simp [intOf]
    | 2, _ =>
      by_cases hc : c = 413
      · subst hc
        have HV : Hid (R = [67, 111, 110, 116, 101, 110, 116, 32, 84, 111, 111, 32, 76, 97, 114, 103, 101]) := HR.out.symm.trans reason_413
        clear hn HR
        have hx := reas_ix_2 wr
        go_wp2_with fail
        go_ret
        exact ⟨by rw [HV.out]; rfl, hb.trans ((below_alloc wr _).mono hb.size)⟩
      · have hc2 : ((413 : Int) == c) = false := beq_eq_false_iff_ne.2 (fun e => hc e.symm)
        have hn2 : Hid (∀ x ∈ codes.take 3, c ≠ x) := by
          show ∀ x ∈ codes.take 3, c ≠ x
          have h0 := hn.out
          intro x hx
          by_cases hx0 : x ∈ codes.take 2
          · exact h0 x hx0
          · have : x = 413 := by
              simp only [codes, List.take_succ_cons, List.take_zero, List.mem_cons, List.not_mem_nil, or_false] at hx hx0
              omega
            subst this
            exact hc
        clear hc hn
        have hx := reas_ix_2 wr
        go_wp2_with fail
        go_roundw
        case rel => exact ⟨3, by omega, by first | rfl | go_num, hn2, hb.trans ((below_alloc wr _).mono hb.size)⟩
        case measure => simp [intOf]
    | 3, _ =>
      by_cases hc : c = 431
      · subst hc
        have HV : Hid (R = [82, 101, 113, 117, 101, 115, 116, 32, 72, 101, 97, 100, 101, 114, 32, 70, 105, 101, 108, 100, 115, 32, 84, 111, 111, 32, 76, 97, 114, 103, 101]) := HR.out.symm.trans reason_431
        clear hn HR
        have hx := reas_ix_3 wr
        go_wp2_with fail
        go_ret
        exact ⟨by rw [HV.out]; rfl, hb.trans ((below_alloc wr _).mono hb.size)⟩
      · have hc2 : ((431 : Int) == c) = false := beq_eq_false_iff_ne.2 (fun e => hc e.symm)
        have hn2 : Hid (∀ x ∈ codes.take 4, c ≠ x) := by
          show ∀ x ∈ codes.take 4, c ≠ x
          have h0 := hn.out
          intro x hx
          by_cases hx0 : x ∈ codes.take 3
          · exact h0 x hx0
          · have : x = 431 := by
              simp only [codes, List.take_succ_cons, List.take_zero, List.mem_cons, List.not_mem_nil, or_false] at hx hx0
              omega
            subst this
            exact hc
        clear hc hn
        have hx := reas_ix_3 wr
        go_wp2_with fail
        go_roundw
        case rel => exact ⟨4, by omega, by first | rfl | go_num, hn2, hb.trans ((below_alloc wr _).mono hb.size)⟩
        case measure => simp [intOf]
    | 4, _ =>
      by_cases hc : c = 502
      · subst hc
        have HV : Hid (R = [66, 97, 100, 32, 71, 97, 116, 101, 119, 97, 121]) := HR.out.symm.trans reason_502
        clear hn HR
        have hx := reas_ix_4 wr
        go_wp2_with fail
        go_ret
        exact ⟨by rw [HV.out]; rfl, hb.trans ((below_alloc wr _).mono hb.size)⟩
      · have hc2 : ((502 : Int) == c) = false := beq_eq_false_iff_ne.2 (fun e => hc e.symm)
        have hn2 : Hid (∀ x ∈ codes.take 5, c ≠ x) := by
          show ∀ x ∈ codes.take 5, c ≠ x
          have h0 := hn.out
          intro x hx
          by_cases hx0 : x ∈ codes.take 4
          · exact h0 x hx0
          · have : x = 502 := by
              simp only [codes, List.take_succ_cons, List.take_zero, List.mem_cons, List.not_mem_nil, or_false] at hx hx0
              omega
            subst this
            exact hc
        clear hc hn
        have hx := reas_ix_4 wr
        go_wp2_with fail
        go_roundw
        case rel => exact ⟨5, by omega, by first | rfl | go_num, hn2, hb.trans ((below_alloc wr _).mono hb.size)⟩
        case measure => simp [intOf]
    | 5, _ =>
      by_cases hc : c = 503
      · subst hc
        have HV : Hid (R = [83, 101, 114, 118, 105, 99, 101, 32, 85, 110, 97, 118, 97, 105, 108, 97, 98, 108, 101]) := HR.out.symm.trans reason_503
        clear hn HR
        have hx := reas_ix_5 wr
        go_wp2_with fail
        go_ret
        exact ⟨by rw [HV.out]; rfl, hb.trans ((below_alloc wr _).mono hb.size)⟩
      · have hc2 : ((503 : Int) == c) = false := beq_eq_false_iff_ne.2 (fun e => hc e.symm)
        have hn2 : Hid (∀ x ∈ codes.take 6, c ≠ x) := by
          show ∀ x ∈ codes.take 6, c ≠ x
          have h0 := hn.out
          intro x hx
          by_cases hx0 : x ∈ codes.take 5
          · exact h0 x hx0
          · have : x = 503 := by
              simp only [codes, List.take_succ_cons, List.take_zero, List.mem_cons, List.not_mem_nil, or_false] at hx hx0
              omega
            subst this
            exact hc
        clear hc hn
        have hx := reas_ix_5 wr
        go_wp2_with fail
        go_roundw
        case rel => exact ⟨6, by omega, by first | rfl | go_num, hn2, hb.trans ((below_alloc wr _).mono hb.size)⟩
        case measure => simp [intOf]
    | 6, _ =>
      by_cases hc : c = 504
      · subst hc
        have HV : Hid (R = [71, 97, 116, 101, 119, 97, 121, 32, 84, 105, 109, 101, 111, 117, 116]) := HR.out.symm.trans reason_504
        clear hn HR
        have hx := reas_ix_6 wr
        go_wp2_with fail
        go_ret
        exact ⟨by rw [HV.out]; rfl, hb.trans ((below_alloc wr _).mono hb.size)⟩
      · have hc2 : ((504 : Int) == c) = false := beq_eq_false_iff_ne.2 (fun e => hc e.symm)
        have hn2 : Hid (∀ x ∈ codes.take 7, c ≠ x) := by
          show ∀ x ∈ codes.take 7, c ≠ x
          have h0 := hn.out
          intro x hx
          by_cases hx0 : x ∈ codes.take 6
          · exact h0 x hx0
          · have : x = 504 := by
              simp only [codes, List.take_succ_cons, List.take_zero, List.mem_cons, List.not_mem_nil, or_false] at hx hx0
              omega
            subst this
            exact hc
        clear hc hn
        have hx := reas_ix_6 wr
        go_wp2_with fail
        go_roundw
        case rel => exact ⟨7, by omega, by first | rfl | go_num, hn2, hb.trans ((below_alloc wr _).mono hb.size)⟩
        case measure => simp [intOf]
    | 7, _ =>
      have HV : Hid (R = []) := HR.out.symm.trans (reason_none c hn.out)
      clear hn HR
      go_wp2_with fail
      go_ret
      exact ⟨by rw [HV.out]; rfl, hb⟩
end Go.Proofs.YtkajfocjpaemgaaDoor
