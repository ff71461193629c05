/- fields: Line; the reference's Parse. -/
import Derived.Test.YtneagccakoakpaaDoorFldA
namespace Go.Proofs.YtneagccakoakpaaDoor
open Go.RowKit

/-- A field's line. -/
def lineL (f : Fld) : List UInt8 := f.1 ++ [58, 32] ++ f.2 ++ [13, 10]
theorem add_str (x y : List UInt8) (h : x.length + y.length ≤ 9223372036854775807) (W : World) : (Op.stringOp .add (bs x) (bs y)).run Tryd.prog W = .ok (.string (bs (x ++ y))) W := by
  rw [run_string_add_sum W _ _ (by rw [bs_size, bs_size]; exact h)]
  have : bs x ++ bs y = bs (x ++ y) := by
    apply ByteArray.ext
    simp [bs]
  rw [this]
set_option maxHeartbeats 1000000 in
theorem line38 (f : Fld) (h1 : f.1.length ≤ 4000000000) (h2 : f.2.length ≤ 4000000000) (w : World) :
    Calls Tryd.prog 38 #[fldV f] w fun e w' => e = .returned (.string (bs (lineL f))) ∧ Below w.heap.size w w' := by
  obtain ⟨a, b⟩ := f
  simp only at h1 h2
  have A1 := fun W => add_str a [58] (by simp; omega) W
  have A2 := fun W => add_str (a ++ [58]) [32] (by simp; omega) W
  have A3 := fun W => add_str (a ++ [58] ++ [32]) b (by simp; omega) W
  have A4 := fun W => add_str (a ++ [58] ++ [32] ++ b) [13, 10] (by simp; omega) W
  have e58 : bs [58] = ⟨#[58]⟩ := rfl
  have e32 : bs [32] = ⟨#[32]⟩ := rfl
  have e13 : bs [13, 10] = ⟨#[13, 10]⟩ := rfl
  rw [e58] at A1
  rw [e32] at A2
  rw [e13] at A4
  have hl : lineL (a, b) = a ++ [58] ++ [32] ++ b ++ [13, 10] := by simp [lineL]
  rw [hl]
  unfold fldV
  simp only
  generalize hx4 : bs (a ++ [58] ++ [32] ++ b ++ [13, 10]) = x4 at *
  generalize hx3 : bs (a ++ [58] ++ [32] ++ b) = x3 at *
  generalize hx2 : bs (a ++ [58] ++ [32]) = x2 at *
  generalize hx1 : bs (a ++ [58]) = x1 at *
  generalize bs a = x0 at *
  generalize bs b = y0 at *
  clear hx4 hx3 hx2 hx1 e58 e32 e13 hl h1 h2
  go_enter Tryd.func38, Tryd.ntmps38
  go_wp2_with fail
  go_ret
  exact ⟨rfl, below_alloc w _⟩

theorem ib_at (c : UInt8) : ∀ (l : List UInt8) (j : Nat), c ∉ l.take j → l[j]? = some c → Lib.indexByte l c = (j : Int)
  | [], j, _, h => by simp at h
  | b :: r, 0, _, h => by
    obtain rfl : b = c := by simpa using h
    simp [Lib.indexByte]
  | b :: r, j + 1, hn, h => by
    rw [List.take_succ_cons, List.mem_cons, not_or] at hn
    have ih := ib_at c r j hn.2 (by simpa using h)
    have hbb : (b == c) = false := beq_eq_false_iff_ne.2 (fun e => hn.1 e.symm)
    have hne : ((j : Int) == -1) = false := beq_eq_false_iff_ne.2 (by omega)
    simp only [Lib.indexByte, hbb, ih, hne]
    simp
theorem ib_none (c : UInt8) (l : List UInt8) (h : c ∉ l) : Lib.indexByte l c = -1 := by
  rcases ib_cut c l with ⟨h1, _⟩ | ⟨i, _, h2, h3, _⟩
  · exact h1
  · exact absurd (by rw [h3]; simp) h
set_option maxRecDepth 100000 in
set_option maxHeartbeats 2000000 in
theorem parse37 (s : ByteArray) (hs : s.size ≤ 4000000000) (w : World) :
    Calls Tryd.prog 37 #[.string s] w fun e w' => e = .returned (parseV s.data.toList) ∧ Below w.heap.size w w' := by
  obtain ⟨R, hR⟩ : ∃ R, R = parseV s.data.toList := ⟨_, rfl⟩
  rw [← hR]
  have HR := Lib.hid hR
  have L0 := below_alloc w (.cells #[.string ⟨#[]⟩, .string ⟨#[]⟩] 45)
  have c0 : (w.alloc (.cells #[.string ⟨#[]⟩, .string ⟨#[]⟩] 45)).cell? ⟨w.heap.size, 0, none⟩ = some (.string ⟨#[]⟩) := by simp
  have c1 : (w.alloc (.cells #[.string ⟨#[]⟩, .string ⟨#[]⟩] 45)).cell? ⟨w.heap.size, 1, none⟩ = some (.string ⟨#[]⟩) := by simp
  have d0 : (w.alloc (.cells #[.string ⟨#[]⟩, .string ⟨#[]⟩] 45)).frozen? ⟨w.heap.size, 0, none⟩ = false := by simp
  have d1 : (w.alloc (.cells #[.string ⟨#[]⟩, .string ⟨#[]⟩] 45)).frozen? ⟨w.heap.size, 1, none⟩ = false := by simp
  clear hR
  go_enter Tryd.func37, Tryd.ntmps37
  go_wp2_with fail
  generalize World.alloc w _ = w0 at *
  go_loop [4] (fun i => ∃ j : Nat, j ≤ s.size ∧ i = .int .i64 (j : Int) ∧ Hid ((58 : UInt8) ∉ s.data.toList.take j)) (fun i => s.size - (intOf i).toNat)
  case atStart => exact ⟨0, Nat.zero_le _, rfl, by simp [Hid]⟩
  case round =>
    obtain ⟨j, hj, rfl, hn⟩ := hrel
    by_cases hlt : j < s.size
    · by_cases hq : s[j] = 58
      · have hi : Lib.indexByte s.data.toList 58 = (j : Int) := ib_at 58 _ j hn.out (by rw [toList_get s j hlt, hq])
        have ht : ((s[j].toNat : Int) == 58) = true := by rw [hq]; rfl
        have hz := Lib.size_eq s
        have e1 : s.extract 0 j = bs (s.data.toList.take j) := by rw [← bs_of (s.extract 0 j), extractL, List.drop_zero, Nat.sub_zero]
        have e2 : s.extract (j + 1) s.size = bs (s.data.toList.drop (j + 1)) := by rw [← bs_of (s.extract (j + 1) s.size), extractL, List.take_of_length_le (by rw [List.length_drop]; omega)]
        obtain ⟨a, ha⟩ : ∃ a, a = s.data.toList.take j := ⟨_, rfl⟩
        obtain ⟨b, hb⟩ : ∃ b, b = s.data.toList.drop (j + 1) := ⟨_, rfl⟩
        have hal : a.length ≤ 4000000000 := by rw [ha, List.length_take]; omega
        have hbl : b.length ≤ 4000000000 := by rw [hb, List.length_drop]; omega
        have htl : (trimB b).length ≤ 4000000000 := Nat.le_trans (trimB_length b) hbl
        obtain ⟨q1, h1⟩ : ∃ q, tokB a = q := ⟨_, rfl⟩
        obtain ⟨q2, h2⟩ : ∃ q, valB (trimB b) = q := ⟨_, rfl⟩
        have hv : R = if q1 = true ∧ q2 = true then .tuple #[fldV (a, trimB b), .int .i64 0] else .tuple #[fldV ([], []), .int .i64 2] := by
          rw [HR.out]; unfold parseV parseL
          simp only [hi, Int.toNat_natCast, ← ha, ← hb, h1, h2]
          by_cases hq : q1 = true ∧ q2 = true
          · rw [if_pos ⟨by omega, hq.1, hq.2⟩, if_pos hq]
          · rw [if_neg (fun h => hq h.2), if_neg hq]
        have HV := Lib.hid hv
        have HT : Hid (∀ W, Calls Tryd.prog 24 #[.string (bs b)] W fun e w' => e = .returned (.string (bs (trimB b))) ∧ W = w') := fun W => trim24 (bs b) (by rw [bs_size]; omega) W
        have K1 : Hid (∀ W, Calls Tryd.prog 15 #[.string (bs a)] W fun e w' => e = .returned (.bool q1) ∧ W = w') := fun W => token15 (bs a) (by rw [bs_size]; omega) q1 h1 W
        have K2 : Hid (∀ W, Calls Tryd.prog 19 #[.string (bs (trimB b))] W fun e w' => e = .returned (.bool q2) ∧ W = w') := fun W => value19 (bs (trimB b)) (by rw [bs_size]; omega) q2 h2 W
        rw [← ha] at e1
        rw [← hb] at e2
        have j1 : (j : Int) + 1 ≤ s.size := by omega
        have j2 : (j : Int) ≤ s.size := by omega
        have hss : (s.size : Int) ≤ 4000000000 := by omega
        clear hv ha hb h1 h2 hi hz hq hn
        go_wp2_with fail
        refine (HT.out w0).mono ?_
        rintro e w' ⟨rfl, rfl⟩
        go_wp2_with fail
        refine (K1.out w0).mono ?_
        rintro e w' ⟨rfl, rfl⟩
        cases q1
        · go_wp2_with fail
          refine bodyPost_ret (v := .tuple #[fldV ([], []), .int .i64 2]) (by simp [results, Tryd.results37, go_sem, fldV, bs, c0, c1]) rfl ⟨by first | (rw [HV.out]; done) | (rw [HV.out]; rfl), ?_⟩
          exact (L0.setCell (p := ⟨w.heap.size, 0, none⟩) (Nat.le_refl _) _).setCell (p := ⟨w.heap.size, 1, none⟩) (Nat.le_refl _) _
        · go_wp2_with fail
          refine (K2.out w0).mono ?_
          rintro e w' ⟨rfl, rfl⟩
          cases q2
          · go_wp2_with fail
            refine bodyPost_ret (v := .tuple #[fldV ([], []), .int .i64 2]) (by simp [results, Tryd.results37, go_sem, fldV, bs, c0, c1]) rfl ⟨by first | (rw [HV.out]; done) | (rw [HV.out]; rfl), ?_⟩
            exact (L0.setCell (p := ⟨w.heap.size, 0, none⟩) (Nat.le_refl _) _).setCell (p := ⟨w.heap.size, 1, none⟩) (Nat.le_refl _) _
          · go_wp2_with fail
            refine bodyPost_ret (v := .tuple #[fldV (a, trimB b), .int .i64 0]) (by simp [results, Tryd.results37, go_sem, fldV, bs, c0, c1]) rfl ⟨by first | (rw [HV.out]; done) | (rw [HV.out]; rfl), ?_⟩
            exact (L0.setCell (p := ⟨w.heap.size, 0, none⟩) (Nat.le_refl _) _).setCell (p := ⟨w.heap.size, 1, none⟩) (Nat.le_refl _) _
      · have hst : Hid ((58 : UInt8) ∉ s.data.toList.take (j + 1)) := by
          show (58 : UInt8) ∉ _
          rw [take_snoc s j hlt, List.mem_append, not_or]
          exact ⟨hn.out, by rw [List.mem_singleton]; exact fun e => hq e.symm⟩
        have ht : ((s[j].toNat : Int) == 58) = false := by
          rw [show (58 : Int) = ((58 : UInt8).toNat : Int) from rfl, byte_eq]
          exact beq_eq_false_iff_ne.2 hq
        clear hq
        go_wp2_with fail
        go_round
        case rel => exact ⟨j + 1, by omega, by go_num, hst⟩
        case measure => simp [intOf]; omega
    · have hn2 := hn.out
      rw [List.take_of_length_le (by rw [← Lib.size_eq]; omega)] at hn2
      have hv : R = .tuple #[fldV ([], []), .int .i64 2] := by
        rw [HR.out]; unfold parseV parseL
        simp only [ib_none 58 _ hn2]
        rw [if_neg (fun h => by omega)]
      have HV := Lib.hid hv
      clear hn2 hv
      go_wp2_with fail
      refine bodyPost_ret (v := .tuple #[fldV ([], []), .int .i64 2]) (by simp [results, Tryd.results37, go_sem, fldV, bs, c0, c1]) rfl ⟨by first | (rw [HV.out]; done) | (rw [HV.out]; rfl), ?_⟩
      exact (L0.setCell (p := ⟨w.heap.size, 0, none⟩) (Nat.le_refl _) _).setCell (p := ⟨w.heap.size, 1, none⟩) (Nat.le_refl _) _
end Go.Proofs.YtneagccakoakpaaDoor
