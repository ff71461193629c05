/- The walk of the statement FieldsParse. -/
import Derived.Test.YtneagccakoakpaaDoorFldM
import Derived.Test.YtneagccakoakpaaDoorCut
namespace Go.Proofs.YtneagccakoakpaaDoor
open Go.RowKit

theorem parseL_some {l n v : List UInt8} (h : parseL l = some (n, v)) : tokB n = true ∧ valB v = true ∧ n.length ≤ l.length ∧ v.length ≤ l.length := by
  unfold parseL at h
  simp only at h
  split at h
  · next hh =>
    obtain ⟨_, h1, h2⟩ := hh
    injection h with h
    injection h with e1 e2
    subst e1 e2
    refine ⟨h1, h2, by rw [List.length_take]; omega, Nat.le_trans (trimB_length _) (by rw [List.length_drop]; omega)⟩
  · cases h
theorem tok_no58 {n : List UInt8} (h : tokB n = true) : (58 : UInt8) ∉ n := by
  intro hm
  unfold tokB at h
  rw [Bool.and_eq_true, List.all_eq_true] at h
  exact absurd (h.2 58 hm) (by decide +kernel)
theorem parse_back {n v : List UInt8} (hn : tokB n = true) (hv : valB v = true) : parseL (n ++ [58, 32] ++ v) = some (n, v) := by
  have e : n ++ [58, 32] ++ v = n ++ (58 :: 32 :: v) := by simp
  have hi : Lib.indexByte (n ++ (58 :: 32 :: v)) 58 = (n.length : Int) := ib_at 58 _ n.length (by rw [List.take_left']; exact tok_no58 hn; rfl) (by simp)
  have ht : trimB v = v := by
    unfold valB at hv
    rw [Bool.and_eq_true] at hv
    exact of_decide_eq_true hv.1
  have h1 : (n ++ (58 :: 32 :: v)).take n.length = n := by rw [List.take_left']; rfl
  have h2 : (n ++ (58 :: 32 :: v)).drop (n.length + 1) = 32 :: v := by
    rw [← List.drop_drop, List.drop_left']
    · rfl
    · rfl
  rw [e]
  unfold parseL
  simp only [hi, Int.toNat_natCast, h1, h2]
  rw [trimB_left 32 v (by decide +kernel), ht, if_pos ⟨by omega, hn, hv⟩]
theorem self_str (T : ByteArray) : (T.toList == T.toList) = true := by simp
theorem line_cut (n v : List UInt8) : (bs (lineL (n, v))).extract 0 ((lineL (n, v)).length - 2) = bs (n ++ [58, 32] ++ v) := by
  rw [extractC]
  apply ByteArray.ext
  show ((lineL (n, v)).drop 0 |>.take ((lineL (n, v)).length - 2 - 0)).toArray = _
  rw [List.drop_zero, Nat.sub_zero]
  have e : lineL (n, v) = (n ++ [58, 32] ++ v) ++ [13, 10] := rfl
  have hl : (lineL (n, v)).length - 2 = (n ++ [58, 32] ++ v).length := by rw [e, List.length_append]; rfl
  rw [hl, e, List.take_left']
  · rfl
  · rfl
set_option maxRecDepth 100000 in
set_option maxHeartbeats 4000000 in
theorem lawFieldsParse (s : ByteArray) (w : World) (hw : MaxL w) :
    Calls Tryd.prog 8 #[.string s] w fun e w' => e = .returned (.bool true) ∧ Below w.heap.size w w' := by
  have HW := Lib.hid hw
  clear hw
  go_enter Tryd.func8, Tryd.ntmps8
  go_wp2_with fail
  refine (awake35 w HW.out).mono ?_
  rintro e w1 ⟨rfl, hb1⟩
  go_wp2_with fail
  refine (cut11 s 100 _).mono ?_
  rintro e w' ⟨rfl, rfl⟩
  obtain ⟨t, ht⟩ : ∃ t, t = cutS s 100 := ⟨_, rfl⟩
  have hz : t.size ≤ 100 := by rw [ht]; exact cutS_size _ _
  rw [← ht]
  clear ht
  have W1 : Hid (MaxL w1) := HW.out.below hb1
  clear HW
  have hzl : t.data.toList.length ≤ 100 := by rw [← Lib.size_eq]; exact hz
  cases hp : parseL t.data.toList with
  | none =>
    have hv : parseV t.data.toList = .tuple #[.agg #[.string ⟨#[]⟩, .string ⟨#[]⟩], .int .i64 2] := by unfold parseV; rw [hp]; rfl
    have H1 := Lib.hid (parse36 t (by omega) w1 W1.out)
    have H2 := Lib.hid (fun W => parse37 t (by omega) W)
    rw [hv] at H1
    simp only [hv] at H2
    clear hv hp hz hzl
    go_wp2_with fail
    refine H1.out.mono ?_
    rintro e w2 ⟨rfl, hb2⟩
    have b2 := hb1.trans (hb2.mono hb1.size)
    go_wp2_with fail
    have L2 := below_alloc w2 (.cells #[.string ⟨#[]⟩, .string ⟨#[]⟩] 42)
    have c0 : (w2.alloc (.cells #[.string ⟨#[]⟩, .string ⟨#[]⟩] 42)).cell? ⟨w2.heap.size, 0, none⟩ = some (.string ⟨#[]⟩) := by simp
    have c1 : (w2.alloc (.cells #[.string ⟨#[]⟩, .string ⟨#[]⟩] 42)).cell? ⟨w2.heap.size, 1, none⟩ = some (.string ⟨#[]⟩) := by simp
    have z2 : w2.heap.size < (w2.alloc (.cells #[.string ⟨#[]⟩, .string ⟨#[]⟩] 42)).heap.size := by simp
    refine (H2.out _).mono ?_
    rintro e w3 ⟨rfl, hb3⟩
    have b3 := b2.trans ((L2.trans (hb3.mono L2.size)).mono b2.size)
    have d0 : (w3.alloc (.cells #[.string ⟨#[]⟩, .string ⟨#[]⟩] 45)).cell? ⟨w2.heap.size, 0, none⟩ = some (.string ⟨#[]⟩) := by
      rw [(bcell (below_alloc _ _)).1 _ _ (Nat.lt_of_lt_of_le z2 hb3.size), (bcell hb3).1 _ _ z2]; exact c0
    have d1 : (w3.alloc (.cells #[.string ⟨#[]⟩, .string ⟨#[]⟩] 45)).cell? ⟨w2.heap.size, 1, none⟩ = some (.string ⟨#[]⟩) := by
      rw [(bcell (below_alloc _ _)).1 _ _ (Nat.lt_of_lt_of_le z2 hb3.size), (bcell hb3).1 _ _ z2]; exact c1
    clear c0 c1 L2 z2 hb3
    have se := self_str ⟨#[]⟩
    go_wp2_with fail
    go_ret
    exact ⟨rfl, b3.trans ((below_alloc w3 _).mono b3.size)⟩
  | some f =>
    obtain ⟨n, v⟩ := f
    obtain ⟨hn, hvv, hnl, hvl⟩ := parseL_some hp
    have hv : parseV t.data.toList = .tuple #[.agg #[.string (bs n), .string (bs v)], .int .i64 0] := by unfold parseV; rw [hp]; rfl
    have H1 := Lib.hid (parse36 t (by omega) w1 W1.out)
    have H2 := Lib.hid (fun W => parse37 t (by omega) W)
    rw [hv] at H1
    simp only [hv] at H2
    have HL : Hid (∀ W, Calls Tryd.prog 38 #[.agg #[.string (bs n), .string (bs v)]] W fun e w' => e = .returned (.string (bs (lineL (n, v)))) ∧ Below W.heap.size W w') := fun W => line38 (n, v) (by simp only; omega) (by simp only; omega) W
    have hv2 : parseV (bs (n ++ [58, 32] ++ v)).data.toList = .tuple #[.agg #[.string (bs n), .string (bs v)], .int .i64 0] := by
      rw [bs_list]; unfold parseV; rw [parse_back hn hvv]; rfl
    have hlb : (bs (n ++ [58, 32] ++ v)).size ≤ 4000000000 := by rw [bs_size]; simp; omega
    have H3 := Lib.hid (fun W hW => parse36 (bs (n ++ [58, 32] ++ v)) hlb W hW)
    simp only [hv2] at H3
    have hcut := line_cut n v
    have hls : (bs (lineL (n, v))).size = (lineL (n, v)).length := bs_size _
    have hll : (lineL (n, v)).length = n.length + v.length + 4 := by simp [lineL]; omega
    rw [← hls] at hcut hll
    have hB1 : (2 : Int) ≤ (bs (lineL (n, v))).size := by omega
    have hB2 : ((bs (lineL (n, v))).size : Int) ≤ 1000 := by omega
    have hB3 : wrap64 (((bs (lineL (n, v))).size : Int) - 2) = (((bs (lineL (n, v))).size - 2 : Nat) : Int) := by unfold wrap64; omega
    clear hls hll
    generalize bs (lineL (n, v)) = B at *
    generalize bs (n ++ [58, 32] ++ v) = lc at *
    have eN := self_str (bs n)
    have eV := self_str (bs v)
    generalize bs n = N at *
    generalize bs v = V at *
    clear hv hv2 hp hz hn hvv hlb
    go_wp2_with fail
    refine H1.out.mono ?_
    rintro e w2 ⟨rfl, hb2⟩
    have b2 := hb1.trans (hb2.mono hb1.size)
    have W2 : Hid (MaxL w2) := W1.out.below hb2
    go_wp2_with fail
    have L2 := below_alloc w2 (.cells #[.string N, .string V] 42)
    have c0 : (w2.alloc (.cells #[.string N, .string V] 42)).cell? ⟨w2.heap.size, 0, none⟩ = some (.string N) := by simp
    have c1 : (w2.alloc (.cells #[.string N, .string V] 42)).cell? ⟨w2.heap.size, 1, none⟩ = some (.string V) := by simp
    have z2 : w2.heap.size < (w2.alloc (.cells #[.string N, .string V] 42)).heap.size := by simp
    refine (H2.out _).mono ?_
    rintro e w3 ⟨rfl, hb3⟩
    have b3 := b2.trans ((L2.trans (hb3.mono L2.size)).mono b2.size)
    have L3 := below_alloc w3 (.cells #[.string N, .string V] 45)
    have d0 : (w3.alloc (.cells #[.string N, .string V] 45)).cell? ⟨w2.heap.size, 0, none⟩ = some (.string N) := by
      rw [(bcell (below_alloc _ _)).1 _ _ (Nat.lt_of_lt_of_le z2 hb3.size), (bcell hb3).1 _ _ z2]; exact c0
    have d1 : (w3.alloc (.cells #[.string N, .string V] 45)).cell? ⟨w2.heap.size, 1, none⟩ = some (.string V) := by
      rw [(bcell (below_alloc _ _)).1 _ _ (Nat.lt_of_lt_of_le z2 hb3.size), (bcell hb3).1 _ _ z2]; exact c1
    have z3 : w2.heap.size < (w3.alloc (.cells #[.string N, .string V] 45)).heap.size := Nat.lt_of_lt_of_le (Nat.lt_of_lt_of_le z2 hb3.size) L3.size
    have W3 : Hid (MaxL (w3.alloc (.cells #[.string N, .string V] 45))) := ((W2.out.below L2).below hb3).below L3
    have b4 := b3.trans (L3.mono b3.size)
    clear c0 c1 L2 z2 hb3 W1 W2 b2 b3 L3
    go_wp2_with fail
    generalize World.alloc w3 _ = w4 at *
    refine (HL.out _).mono ?_
    rintro e w5 ⟨rfl, hb5⟩
    have e0 : w5.cell? ⟨w2.heap.size, 0, none⟩ = some (.string N) := by rw [(bcell hb5).1 _ _ z3]; exact d0
    have e1 : w5.cell? ⟨w2.heap.size, 1, none⟩ = some (.string V) := by rw [(bcell hb5).1 _ _ z3]; exact d1
    have z5 := Nat.lt_of_lt_of_le z3 hb5.size
    have W5 : Hid (MaxL w5) := W3.out.below hb5
    have b5 := b4.trans (hb5.mono b4.size)
    clear d0 d1 z3 W3 hb5 b4
    go_wp2_with fail
    refine (H3.out w5 W5.out).mono ?_
    rintro e w6 ⟨rfl, hb6⟩
    have f0 : w6.cell? ⟨w2.heap.size, 0, none⟩ = some (.string N) := by rw [(bcell hb6).1 _ _ z5]; exact e0
    have f1 : w6.cell? ⟨w2.heap.size, 1, none⟩ = some (.string V) := by rw [(bcell hb6).1 _ _ z5]; exact e1
    have z6 := Nat.lt_of_lt_of_le z5 hb6.size
    have b6 := b5.trans (hb6.mono b5.size)
    have L6 := below_alloc w6 (.cells #[.string N, .string V] 42)
    have g0 : (w6.alloc (.cells #[.string N, .string V] 42)).cell? ⟨w2.heap.size, 0, none⟩ = some (.string N) := by rw [(bcell L6).1 _ _ z6]; exact f0
    have g1 : (w6.alloc (.cells #[.string N, .string V] 42)).cell? ⟨w2.heap.size, 1, none⟩ = some (.string V) := by rw [(bcell L6).1 _ _ z6]; exact f1
    have b7 := b6.trans (L6.mono b6.size)
    clear e0 e1 z5 W5 hb6 b5 f0 f1 z6 b6 L6
    go_wp2_with fail
    go_ret
    exact ⟨rfl, b7⟩
end Go.Proofs.YtneagccakoakpaaDoor
