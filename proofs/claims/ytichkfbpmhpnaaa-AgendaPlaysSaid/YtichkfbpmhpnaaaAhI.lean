/- Acts on an agenda that are handed in; awake. -/
import Derived.Test.YtichkfbpmhpnaaaAhDx
import Derived.Test.YtichkfbpmhpnaaaAhIs
namespace Go.Proofs.Ytichkfbpmhpnaaa
open Go.RowKit Go.Maps

structure AAct where
  k : Int
  a : Int
  nm : ByteArray
/-- A slice of acts. -/
def IsAacts (w : World) (a : Option Addr) (c : Nat) (l : List AAct) : Prop :=
  l = [] ∨ ∃ bk o, a = some ⟨bk, o, none⟩ ∧ bk < w.heap.size ∧ l.length ≤ c ∧ ∀ (j : Nat) e, l[j]? = some e → w.cell? ⟨bk, o + j * 3, none⟩ = some (.int .i64 e.k) ∧ w.cell? ⟨bk, o + j * 3 + 1, none⟩ = some (.int .i64 e.a) ∧ w.cell? ⟨bk, o + j * 3 + 2, none⟩ = some (.string e.nm)
theorem IsAacts.below {w w' : World} {a : Option Addr} {c : Nat} {l : List AAct} (h : IsAacts w a c l) (hb : Below w.heap.size w w') : IsAacts w' a c l := by
  obtain h | ⟨bk, o, ha, hlt, hc, hcell⟩ := h
  · exact .inl h
  · refine .inr ⟨bk, o, ha, Nat.lt_of_lt_of_le hlt hb.size, hc, fun j e he => ?_⟩
    rw [(bcell hb).1 _ _ hlt, (bcell hb).1 _ _ hlt, (bcell hb).1 _ _ hlt]
    exact hcell j e he
set_option maxHeartbeats 1000000 in
set_option maxRecDepth 100000 in
theorem awake20 (w : World) :
    Calls Try.prog 9 #[] w fun e w' => e = .returned (.bool true) ∧ Below w.heap.size w w' := by
  have hNA := Lib.hid (show (⟨#[97]⟩ : ByteArray).size ≤ maxLen by decide)
  have hNB := Lib.hid (show (⟨#[98]⟩ : ByteArray).size ≤ maxLen by decide)
  have hab : Hid ((Value.string ⟨#[97]⟩) ≠ .string ⟨#[98]⟩) := fun e => by
    injection e with e
    exact absurd e (by decide)
  go_enter Try.func9, Try.ntmps9
  go_wp2_with fail
  refine (onewS w w (Below.refl _ _) (fun _ => False) (fun _ h => h.elim)).mono ?_
  rintro e w1 ⟨ab, rfl, h1, -⟩
  have H1 := Lib.hid h1
  clear h1
  go_wp2_with fail
  refine (osetSa (pl := pl0S) w w1 ab 0 0 0 _ _ H1.out (by omega) (by omega) (by omega) (by omega) ⟨#[97]⟩ hNA.out 5 (fun x hx => hx.elim)).mono ?_
  rintro e w2 ⟨rfl, h2, -⟩
  have H2 := Lib.hid h2
  clear h2 H1
  go_wp2_with fail
  refine (osetSa (pl := pl0S) w w2 ab _ _ _ _ _ H2.out (by omega) (by omega) (by omega) (by omega) ⟨#[98]⟩ hNB.out 3 (fun x hx e => by
    rcases hx with hx | hx
    · exact hx
    · rw [hx] at e
      exact hab.out e)).mono ?_
  rintro e w3 ⟨rfl, h3, -⟩
  have H3 := Lib.hid h3
  clear h3 H2
  go_wp2_with fail
  refine (osetSb (pl := pl0S) w w3 ab 1 _ _ _ _ H3.out (by omega) (by omega) (by omega) (by omega) ⟨#[97]⟩ hNA.out 2 (.string ⟨#[97]⟩, clampA 5, 0 + 1) (.inl (.inr rfl)) rfl).mono ?_
  rintro e w4 ⟨rfl, h4, -⟩
  have H4 := Lib.hid h4
  clear h4 H3
  go_wp2_with fail
  refine (opopSd (pl := pl0S) w w4 ab 1 _ _ _ _ H4.out (by omega) 9 (.string ⟨#[97]⟩, clampA 2, 0 + 1 + 1 + 1) (.inr rfl) (by decide)).mono ?_
  rintro e w5 ⟨k, x, hx, hk, hl, rfl, h5, -⟩
  have hx2 : x = (.string ⟨#[97]⟩, clampA 2, 0 + 1 + 1 + 1) := by
    have h9 := hl (.string ⟨#[97]⟩, clampA 2, 0 + 1 + 1 + 1) (.inr rfl)
    rcases hx with ⟨(hx | hx) | hx, hne⟩ | hx
    · exact hx.elim
    · rw [hx] at hne
      exact absurd rfl hne
    · rw [hx] at h9
      exact absurd h9 (by decide)
    · exact hx
  subst hx2
  injection hk with hk
  subst hk
  have hc2 : clampA 2 = 2 := by decide
  simp only [hc2]
  have H5 := Lib.hid h5
  have HB := Lib.hid h5.bel
  have HL := Lib.hid (olenS (pl := pl0S) w w5 ab _ _ _ _ _ h5)
  clear h5 hl hx H4 hc2
  go_wp2_with fail
  refine HL.out.mono ?_
  rintro e w6 ⟨rfl, rfl⟩
  go_wp2_with fail
  go_ret
  exact ⟨rfl, HB.out⟩
section
variable (W : World) (ab n N : Nat) (sets : Int) (C : Value × Int × Int → Prop) (O : Nat → Prop) (L : List It4) (a : Option Addr) (c : Nat) (l : List RI) (x : AAct) (w : World)
/-- One act, whatever it is. -/
theorem doAll (hn : n ≤ 800) (hN : N ≤ 99999) (hs0 : 0 ≤ sets) (hs1 : sets ≤ 999999) (ho : OrS pl0S 102 104 MPS W ab n N sets C (OB O a) w) (hr : RelA l n sets C L) (hi : IsRis w a c l) :
    Calls Try.prog 11 #[.pointer (some ⟨ab, 0, none⟩), .slice a l.length c, .agg #[.int .i64 x.k, .int .i64 x.a, .string x.nm]] w (DoR W ab n N sets O w) := by
  by_cases h0 : x.k = 0
  · rw [h0]
    exact doSet W ab n N sets C O L a c l x.a x.nm w hn hN hs0 hs1 ho hr hi
  · by_cases h1 : x.k = 1
    · rw [h1]
      exact doDrop W ab n N sets C O L a c l x.a x.nm w hn ho hr hi
    · cases l with
      | nil => exact doPopa W ab n N sets C O L a c [] x.a x.nm w x.k h0 h1 (fun y hy => by simp at hy) hn ho hr hi
      | cons y r =>
        by_cases h2 : y.2 ≤ x.a
        · exact doPopb W ab n N sets C O L a c r x.a x.nm w x.k h0 h1 y h2 hn ho hr hi
        · exact doPopa W ab n N sets C O L a c (y :: r) x.a x.nm w x.k h0 h1 (fun z hz => by
            simp at hz; subst hz; omega) hn ho hr hi
end
end Go.Proofs.Ytichkfbpmhpnaaa
