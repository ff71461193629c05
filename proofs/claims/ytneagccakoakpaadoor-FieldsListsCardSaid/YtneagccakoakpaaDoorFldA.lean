/- fields: Parse, Line; the reference's Parse. -/
import Derived.Test.YtneagccakoakpaaDoorSeqC
namespace Go.Proofs.YtneagccakoakpaaDoor
open Go.RowKit

/-- A field: its name, its value. -/
abbrev Fld := List UInt8 × List UInt8
def bs (l : List UInt8) : ByteArray := ⟨l.toArray⟩
theorem bs_list (l : List UInt8) : (bs l).data.toList = l := rfl
theorem bs_size (l : List UInt8) : (bs l).size = l.length := by rw [Lib.size_eq, bs_list]
theorem bs_of (t : ByteArray) : bs t.data.toList = t := (str_eq t _ rfl).symm
def fldV (f : Fld) : Value := .agg #[.string (bs f.1), .string (bs f.2)]
/-- A line's field. -/
def parseL (l : List UInt8) : Option Fld :=
  let i := Lib.indexByte l 58
  if 0 ≤ i ∧ tokB (l.take i.toNat) = true ∧ valB (trimB (l.drop (i.toNat + 1))) = true then some (l.take i.toNat, trimB (l.drop (i.toNat + 1))) else none
def parseV (l : List UInt8) : Value := match parseL l with
  | some f => .tuple #[fldV f, .int .i64 0]
  | none => .tuple #[fldV ([], []), .int .i64 2]
theorem cut58 (l : List UInt8) : Lib.cut l [58] = if 0 ≤ Lib.indexByte l 58 then (l.take (Lib.indexByte l 58).toNat, l.drop ((Lib.indexByte l 58).toNat + 1), true) else (l, [], false) := by
  unfold Lib.cut
  rw [Lib.index_one]
  rfl
theorem cut69 (s : ByteArray) (hs : s.size ≤ 4000000000) (a b : List UInt8) (q : Bool) (h : Lib.cut s.data.toList [58] = (a, b, q)) (w : World) (hw : MaxL w) :
    Calls Tryd.prog 69 #[.string s, .string ⟨#[58]⟩] w fun e w' => e = .returned (.tuple #[.string (bs a), .string (bs b), .bool q]) ∧ Below w.heap.size w w' := by
  obtain ⟨_, m, hm⟩ := hw
  refine (Tryd.strings_Cut s ⟨#[58]⟩ m w (by omega) hm).mono fun e w' ⟨he, n, hn⟩ => ⟨?_, ?_⟩
  · rw [he]
    have h2 : Lib.cut s.data.toList (⟨#[58]⟩ : ByteArray).data.toList = (a, b, q) := h
    rw [h2]; rfl
  · subst hn; exact ⟨rfl, rfl, rfl, Nat.le_refl _, fun _ _ => rfl⟩
theorem token_l (l : List UInt8) (hl : l.length ≤ 4000000000) (q : Bool) (h : tokB l = q) (w : World) :
    Calls Tryd.prog 14 #[.string (bs l)] w fun e w' => e = .returned (.bool q) ∧ w = w' := by
  subst h; exact token14 (bs l) (by rw [bs_size]; omega) w
theorem value_l (l : List UInt8) (hl : l.length ≤ 4000000000) (q : Bool) (h : valB l = q) (w : World) :
    Calls Tryd.prog 18 #[.string (bs l)] w fun e w' => e = .returned (.bool q) ∧ Below w.heap.size w w' := by
  subst h; exact value18 (bs l) (by rw [bs_size]; omega) w
theorem trim_b (y : List UInt8) (hy : y.length ≤ 4611686018427387904) (w : World) :
    Calls Tryd.prog 23 #[.string (bs y)] w fun e w' => e = .returned (.string (bs (trimB y))) ∧ Below w.heap.size w w' := trim_list y hy w
set_option maxRecDepth 100000 in
set_option maxHeartbeats 2000000 in
theorem parse36 (s : ByteArray) (hs : s.size ≤ 4000000000) (w : World) (hw : MaxL w) :
    Calls Tryd.prog 36 #[.string s] w fun e w' => e = .returned (parseV s.data.toList) ∧ Below w.heap.size w w' := by
  obtain ⟨R, hR⟩ : ∃ R, R = parseV s.data.toList := ⟨_, rfl⟩
  rw [← hR]
  have hz := Lib.size_eq s
  have L0 := below_alloc w (.cells #[.string ⟨#[]⟩, .string ⟨#[]⟩] 42)
  have hmx := hw.below L0
  by_cases hi : 0 ≤ Lib.indexByte s.data.toList 58
  · obtain ⟨a, ha⟩ : ∃ a, a = s.data.toList.take (Lib.indexByte s.data.toList 58).toNat := ⟨_, rfl⟩
    obtain ⟨b, hb⟩ : ∃ b, b = s.data.toList.drop ((Lib.indexByte s.data.toList 58).toNat + 1) := ⟨_, rfl⟩
    have hc : Lib.cut s.data.toList [58] = (a, b, true) := by rw [cut58, if_pos hi, ha, hb]
    have hal : a.length ≤ 4000000000 := by rw [ha, List.length_take]; omega
    have hbl : b.length ≤ 4000000000 := by rw [hb, List.length_drop]; omega
    have htl : (trimB b).length ≤ 4000000000 := Nat.le_trans (trimB_length b) hbl
    obtain ⟨q1, h1⟩ : ∃ q, tokB a = q := ⟨_, rfl⟩
    obtain ⟨q2, h2⟩ : ∃ q, valB (trimB b) = q := ⟨_, rfl⟩
    have hv : R = if q1 = true ∧ q2 = true then .tuple #[fldV (a, trimB b), .int .i64 0] else .tuple #[fldV ([], []), .int .i64 2] := by
      rw [hR]; unfold parseV parseL
      simp only [← ha, ← hb, h1, h2]
      by_cases hq : q1 = true ∧ q2 = true
      · rw [if_pos ⟨hi, hq.1, hq.2⟩, if_pos hq]
      · rw [if_neg (fun h => hq h.2), if_neg hq]
    have HV := Lib.hid hv
    have HC := Lib.hid (cut69 s hs a b true hc _ hmx)
    have HT := Lib.hid (fun W => trim_b b (by omega) W)
    have K1 := Lib.hid (fun W => token_l a hal q1 h1 W)
    have K2 := Lib.hid (fun W => value_l (trimB b) htl q2 h2 W)
    clear hv hc ha hb h1 h2 hR hz hmx hi
    go_enter Tryd.func36, Tryd.ntmps36
    go_wp2_with fail
    refine HC.out.mono ?_
    rintro e w1 ⟨rfl, hb1⟩
    have f1 := (bcell hb1).1 w.heap.size
    have z1 := (bcell hb1).2 w.heap.size
    have hs1 := hb1.size
    simp at hs1
    have c0 : w1.cell? ⟨w.heap.size, 0, none⟩ = some (.string ⟨#[]⟩) := by rw [f1 0 (by simp)]; simp
    have c1 : w1.cell? ⟨w.heap.size, 1, none⟩ = some (.string ⟨#[]⟩) := by rw [f1 1 (by simp)]; simp
    have d0 : w1.frozen? ⟨w.heap.size, 0, none⟩ = false := by rw [z1 0 (by simp)]; simp
    have d1 : w1.frozen? ⟨w.heap.size, 1, none⟩ = false := by rw [z1 1 (by simp)]; simp
    clear f1 z1
    go_wp2_with fail
    refine (HT.out w1).mono ?_
    rintro e w2 ⟨rfl, hb2⟩
    have f2 := (bcell hb2).1 w.heap.size
    have z2 := (bcell hb2).2 w.heap.size
    have hs2 := hb2.size
    have c20 : w2.cell? ⟨w.heap.size, 0, none⟩ = some (.string ⟨#[]⟩) := by rw [f2 0 (by omega), c0]
    have c21 : w2.cell? ⟨w.heap.size, 1, none⟩ = some (.string ⟨#[]⟩) := by rw [f2 1 (by omega), c1]
    have d20 : w2.frozen? ⟨w.heap.size, 0, none⟩ = false := by rw [z2 0 (by omega), d0]
    have d21 : w2.frozen? ⟨w.heap.size, 1, none⟩ = false := by rw [z2 1 (by omega), d1]
    clear f2 z2 c0 c1 d0 d1
    go_wp2_with fail
    refine (K1.out w2).mono ?_
    rintro e w' ⟨rfl, rfl⟩
    cases q1
    · go_wp2_with fail
      refine bodyPost_ret (v := .tuple #[fldV ([], []), .int .i64 2]) (by simp [results, Tryd.results36, go_sem, fldV, bs, c20, c21]) rfl ⟨by first | (rw [HV.out]; done) | (rw [HV.out]; rfl), ?_⟩
      exact ((((L0.trans (hb1.mono (by simp))).trans (hb2.mono (by omega)))).setCell (p := ⟨w.heap.size, 0, none⟩) (Nat.le_refl _) _).setCell (p := ⟨w.heap.size, 1, none⟩) (Nat.le_refl _) _
    · go_wp2_with fail
      refine (K2.out w2).mono ?_
      rintro e w3 ⟨rfl, hb3⟩
      have f3 := (bcell hb3).1 w.heap.size
      have z3 := (bcell hb3).2 w.heap.size
      have hs3 := hb3.size
      have c30 : w3.cell? ⟨w.heap.size, 0, none⟩ = some (.string ⟨#[]⟩) := by rw [f3 0 (by omega), c20]
      have c31 : w3.cell? ⟨w.heap.size, 1, none⟩ = some (.string ⟨#[]⟩) := by rw [f3 1 (by omega), c21]
      have d30 : w3.frozen? ⟨w.heap.size, 0, none⟩ = false := by rw [z3 0 (by omega), d20]
      have d31 : w3.frozen? ⟨w.heap.size, 1, none⟩ = false := by rw [z3 1 (by omega), d21]
      clear f3 z3 c20 c21 d20 d21
      cases q2
      · go_wp2_with fail
        refine bodyPost_ret (v := .tuple #[fldV ([], []), .int .i64 2]) (by simp [results, Tryd.results36, go_sem, fldV, bs, c30, c31]) rfl ⟨by first | (rw [HV.out]; done) | (rw [HV.out]; rfl), ?_⟩
        exact ((((L0.trans (hb1.mono (by simp))).trans (hb2.mono (by omega))).trans (hb3.mono (by omega))).setCell (p := ⟨w.heap.size, 0, none⟩) (Nat.le_refl _) _).setCell (p := ⟨w.heap.size, 1, none⟩) (Nat.le_refl _) _
      · go_wp2_with fail
        refine bodyPost_ret (v := .tuple #[fldV (a, trimB b), .int .i64 0]) (by simp [results, Tryd.results36, go_sem, fldV, bs, c30, c31]) rfl ⟨by first | (rw [HV.out]; done) | (rw [HV.out]; rfl), ?_⟩
        exact ((((L0.trans (hb1.mono (by simp))).trans (hb2.mono (by omega))).trans (hb3.mono (by omega))).setCell (p := ⟨w.heap.size, 0, none⟩) (Nat.le_refl _) _).setCell (p := ⟨w.heap.size, 1, none⟩) (Nat.le_refl _) _
  · have hc : Lib.cut s.data.toList [58] = (s.data.toList, [], false) := by rw [cut58, if_neg hi]
    have hv : R = .tuple #[fldV ([], []), .int .i64 2] := by
      rw [hR]; unfold parseV parseL
      simp only
      rw [if_neg (fun h => hi h.1)]
    have HV := Lib.hid hv
    have HC := Lib.hid (cut69 s hs s.data.toList [] false hc _ hmx)
    have HT := Lib.hid (fun W => trim_b [] (by simp) W)
    clear hv hc hR hz hmx hi
    generalize s.data.toList = a at HC
    go_enter Tryd.func36, Tryd.ntmps36
    go_wp2_with fail
    refine HC.out.mono ?_
    rintro e w1 ⟨rfl, hb1⟩
    have f1 := (bcell hb1).1 w.heap.size
    have z1 := (bcell hb1).2 w.heap.size
    have hs1 := hb1.size
    simp at hs1
    have c0 : w1.cell? ⟨w.heap.size, 0, none⟩ = some (.string ⟨#[]⟩) := by rw [f1 0 (by simp)]; simp
    have c1 : w1.cell? ⟨w.heap.size, 1, none⟩ = some (.string ⟨#[]⟩) := by rw [f1 1 (by simp)]; simp
    have d0 : w1.frozen? ⟨w.heap.size, 0, none⟩ = false := by rw [z1 0 (by simp)]; simp
    have d1 : w1.frozen? ⟨w.heap.size, 1, none⟩ = false := by rw [z1 1 (by simp)]; simp
    clear f1 z1
    go_wp2_with fail
    refine (HT.out w1).mono ?_
    rintro e w2 ⟨rfl, hb2⟩
    have f2 := (bcell hb2).1 w.heap.size
    have z2 := (bcell hb2).2 w.heap.size
    have hs2 := hb2.size
    have c20 : w2.cell? ⟨w.heap.size, 0, none⟩ = some (.string ⟨#[]⟩) := by rw [f2 0 (by omega), c0]
    have c21 : w2.cell? ⟨w.heap.size, 1, none⟩ = some (.string ⟨#[]⟩) := by rw [f2 1 (by omega), c1]
    have d20 : w2.frozen? ⟨w.heap.size, 0, none⟩ = false := by rw [z2 0 (by omega), d0]
    have d21 : w2.frozen? ⟨w.heap.size, 1, none⟩ = false := by rw [z2 1 (by omega), d1]
    clear f2 z2 c0 c1 d0 d1
    go_wp2_with fail
    refine bodyPost_ret (v := .tuple #[fldV ([], []), .int .i64 2]) (by simp [results, Tryd.results36, go_sem, fldV, bs, c20, c21]) rfl ⟨by first | (rw [HV.out]; done) | (rw [HV.out]; rfl), ?_⟩
    exact ((((L0.trans (hb1.mono (by simp))).trans (hb2.mono (by omega)))).setCell (p := ⟨w.heap.size, 0, none⟩) (Nat.le_refl _) _).setCell (p := ⟨w.heap.size, 1, none⟩) (Nat.le_refl _) _
end Go.Proofs.YtneagccakoakpaaDoor
