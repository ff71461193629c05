/- ring: slices.BinarySearchFunc of points. -/
import Derived.Test.YtklfpnnnoaaiaabGreatDoorG10
namespace Go.Proofs.YtklfpnnnoaaiaabGreatDoor
open Go.RowKit

/-- The first point of a number or more. -/
structure LowAt (ps : List Pt) (x st : Nat) : Prop where
  le : st ≤ ps.length
  lo : ∀ i p, ps[i]? = some p → i < st → p.1 < x
  hi : ∀ i p, ps[i]? = some p → st ≤ i → x ≤ p.1
/-- The points rise. -/
def Rise (ps : List Pt) : Prop := ∀ (i j : Nat) (p q : Pt), ps[i]? = some p → ps[j]? = some q → i ≤ j → p.1 ≤ q.1
theorem compareVB (a : Nat) (N : ByteArray) (b : Nat) (w : World) : Calls Tryz.prog 52 #[.agg #[.int .u64 (a : Nat), .string N], .int .u64 (b : Nat)] w fun e w' => e = .returned (.int .i64 (cmpU a b)) ∧ Below w.heap.size w w' :=
  (compareV a N b w).mono fun _ _ ⟨h1, os, h2⟩ => ⟨h1, by rw [h2]; exact below_growR w os⟩
set_option maxRecDepth 100000 in
set_option maxHeartbeats 2000000 in
theorem bsearch77 (a : Option Addr) (c : Nat) (ps : List Pt) (hl : ps.length ≤ 100000) (hr : Rise ps) (x : Nat) (w : World) (hp : PtsAt w a c ps) :
    Calls Tryz.prog 54 #[.slice a ps.length c, .int .u64 (x : Nat), .func (.func 52) #[] #[]] w fun e w' => ∃ (st : Nat) (b : Bool), e = .returned (.tuple #[.int .i64 (st : Nat), .bool b]) ∧ LowAt ps x st ∧ Below w.heap.size w w' := by
  have HP := Lib.hid hp
  have HR := Lib.hid hr
  clear hp hr
  go_enter Tryz.func54, Tryz.ntmps54
  go_wp2_with fail
  go_loopw [9, 10] (fun iv jv wr => ∃ i j : Nat, i ≤ j ∧ j ≤ ps.length ∧ iv = .int .i64 (i : Nat) ∧ jv = .int .i64 (j : Nat) ∧ Hid (∀ q p, ps[q]? = some p → q < i → p.1 < x) ∧ Hid (∀ q p, ps[q]? = some p → j ≤ q → x ≤ p.1) ∧ Hid (Below w.heap.size w wr)) (fun iv jv _ => (intOf jv).toNat - (intOf iv).toNat)
  case atStart => exact ⟨0, ps.length, Nat.zero_le _, Nat.le_refl _, rfl, rfl, (fun q p _ h => absurd h (by omega)), (fun q p h h2 => by rw [List.getElem?_eq_none h2] at h; cases h), Below.refl _ _⟩
  case round =>
    obtain ⟨i, j, hij, hjl, rfl, rfl, HL, HH, HB⟩ := hrel
    by_cases hlt : i < j
    · obtain h0 | ⟨bk, o, rfl, hbk, hc, hcell⟩ := HP.out.below HB.out
      · subst h0; simp at hjl; omega
      obtain ⟨m, hm⟩ : ∃ m, m = (i + j) / 2 := ⟨_, rfl⟩
      have hml : m < ps.length := by omega
      obtain ⟨c1, c2⟩ := hcell m ps[m] (by simp [hml])
      have HPM : Hid (ps[m]? = some ps[m]) := by show _ = _; simp [hml]
      generalize ps[m] = p at *
      obtain ⟨v, N⟩ := p
      simp only at c1 c2
      have i1 : (i : Int) < j := by omega
      have hw1 := wrapR ((i : Int) + (j : Int)) (by omega) (by omega)
      have hcm := fun W => compareVB v N x W
      clear hcell
      go_upto_region 5 with fail
      rw [show ((i : Int) + (j : Int)) / 2 = (m : Int) by omega]
      have m1 : (m : Int) < ps.length := by omega
      have HMM := Lib.hid hm
      have hw2 := wrapR ((m : Int) + 1) (by omega) (by omega)
      have HCM := Lib.hid hcm
      clear hm hw1 hcm
      by_cases hv : v < x
      · have hcv : cmpU v x = -1 := if_pos hv
        rw [hcv] at HCM
        clear hcv
        go_wp2_with (go_at_call 52; refine (HCM.out _).mono ?_; rintro e w9 ⟨rfl, hb9⟩; have HB9 := Lib.hid (HB.out.trans (hb9.mono HB.out.size)); clear hb9)
        go_roundw
        case rel => exact ⟨m + 1, j, by have := HMM.out; omega, hjl, by go_num, rfl, (fun q p' h1 h2 => Nat.lt_of_le_of_lt (HR.out q m p' _ h1 HPM.out (by omega)) hv), HH, HB9⟩
        case measure => have := HMM.out; simp [intOf]; omega
      · have hcv : ¬ cmpU v x < 0 := by unfold cmpU; rw [if_neg hv]; split <;> decide
        generalize cmpU v x = cv at *
        go_wp2_with (go_at_call 52; refine (HCM.out _).mono ?_; rintro e w9 ⟨rfl, hb9⟩; have HB9 := Lib.hid (HB.out.trans (hb9.mono HB.out.size)); clear hb9)
        go_roundw
        case rel => exact ⟨i, m, by have := HMM.out; omega, by omega, rfl, rfl, HL, (fun q p' h1 h2 => Nat.le_trans (Nat.le_of_not_lt hv) (HR.out m q _ p' HPM.out h1 h2)), HB9⟩
        case measure => have := HMM.out; simp [intOf]; omega
    · obtain rfl : i = j := by omega
      have hne : ¬ (i : Int) < i := by omega
      have HLA : Hid (LowAt ps x i) := ⟨hjl, HL.out, HH.out⟩
      by_cases hin : i < ps.length
      · obtain h0 | ⟨bk, o, rfl, hbk, hc, hcell⟩ := HP.out.below HB.out
        · subst h0; simp at hin
        obtain ⟨c1, c2⟩ := hcell i ps[i] (by simp [hin])
        generalize ps[i] = p at *
        obtain ⟨v, N⟩ := p
        simp only at c1 c2
        have i1 : (i : Int) < ps.length := by omega
        have HCM := Lib.hid (fun W => compareVB v N x W)
        generalize cmpU v x = cv at *
        clear hcell
        go_wp2_with (go_at_call 52; refine (HCM.out _).mono ?_; rintro e w9 ⟨rfl, hb9⟩; have HB9 := Lib.hid (HB.out.trans (hb9.mono HB.out.size)); clear hb9)
        go_ret2
        exact ⟨i, _, rfl, HLA.out, HB9.out⟩
      · have i1 : ¬ (i : Int) < ps.length := by omega
        go_wp2_with fail
        go_ret2
        exact ⟨i, .inl rfl, HLA.out, HB.out⟩
end Go.Proofs.YtklfpnnnoaaiaabGreatDoor

