/- Acts on an agenda that are handed in; awake. -/
import Derived.Test.YtoikgphbicnhaaaAgO
namespace Go.Proofs.Ytoikgphbicnhaaa
open Go.RowKit Go.Maps

structure AAct where
  k : Int
  a : Int
  nm : ByteArray
/-- A slice of acts. -/
def IsAacts (w : World) (a : Option Addr) (c : Nat) (l : List AAct) : Prop :=
  l = [] ∨ ∃ bk o, a = some ⟨bk, o, none⟩ ∧ bk < w.heap.size ∧ l.length ≤ c ∧ ∀ (j : Nat) e, l[j]? = some e → w.cell? ⟨bk, o + j * 3, none⟩ = some (.int .i64 e.k) ∧ w.cell? ⟨bk, o + j * 3 + 1, none⟩ = some (.int .i64 e.a) ∧ w.cell? ⟨bk, o + j * 3 + 2, none⟩ = some (.string e.nm)
theorem IsAacts.below {w w' : World} {a : Option Addr} {c : Nat} {l : List AAct} (h : IsAacts w a c l) (hb : Below w.heap.size w w') : IsAacts w' a c l := by
  obtain h | ⟨bk, o, ha, hlt, hc, hcell⟩ := h
  · exact .inl h
  · refine .inr ⟨bk, o, ha, Nat.lt_of_lt_of_le hlt hb.size, hc, fun j e he => ?_⟩
    rw [(bcell hb).1 _ _ hlt, (bcell hb).1 _ _ hlt, (bcell hb).1 _ _ hlt]
    exact hcell j e he
set_option maxHeartbeats 1000000 in
set_option maxRecDepth 100000 in
theorem awake20 (w : World) :
    Calls Try.prog 9 #[] w fun e w' => e = .returned (.bool true) ∧ Below w.heap.size w w' := by
  have hNA := Lib.hid (show (⟨#[97]⟩ : ByteArray).size ≤ maxLen by decide)
  have hNB := Lib.hid (show (⟨#[98]⟩ : ByteArray).size ≤ maxLen by decide)
  have hab : Hid ((Value.string ⟨#[97]⟩) ≠ .string ⟨#[98]⟩) := fun e => by
    injection e with e
    exact absurd e (by decide)
  go_enter Try.func9, Try.ntmps9
  go_wp2_with fail
  refine (onewS w w (Below.refl _ _)).mono ?_
  rintro e w1 ⟨ab, rfl, h1⟩
  have H1 := Lib.hid h1
  clear h1
  go_wp2_with fail
  refine (osetSa w w1 ab 0 0 0 _ H1.out (by omega) (by omega) (by omega) (by omega) ⟨#[97]⟩ hNA.out 5 (fun x hx => hx.elim)).mono ?_
  rintro e w2 ⟨rfl, h2⟩
  have H2 := Lib.hid h2
  clear h2 H1
  go_wp2_with fail
  refine (osetSa w w2 ab _ _ _ _ H2.out (by omega) (by omega) (by omega) (by omega) ⟨#[98]⟩ hNB.out 3 (fun x hx e => by
    rcases hx with hx | hx
    · exact hx
    · rw [hx] at e
      exact hab.out e)).mono ?_
  rintro e w3 ⟨rfl, h3⟩
  have H3 := Lib.hid h3
  clear h3 H2
  go_wp2_with fail
  refine (osetSb w w3 ab 1 _ _ _ H3.out (by omega) (by omega) (by omega) (by omega) ⟨#[97]⟩ hNA.out 2 (.string ⟨#[97]⟩, clampA 5, 0 + 1) (.inl (.inr rfl)) rfl).mono ?_
  rintro e w4 ⟨rfl, h4⟩
  have H4 := Lib.hid h4
  clear h4 H3
  go_wp2_with fail
  refine (opopSb w w4 ab 1 _ _ _ H4.out (by omega) 9 (fun x hx => by
    rcases hx with ⟨(hx | hx) | hx, _⟩ | hx
    · exact hx.elim
    · rw [hx]; decide
    · rw [hx]; decide
    · rw [hx]; decide)).mono ?_
  rintro e w5 ⟨k, x, hx, hk, hl, rfl, h5⟩
  have hx2 : x = (.string ⟨#[97]⟩, clampA 2, 0 + 1 + 1 + 1) := by
    have h9 := hl (.string ⟨#[97]⟩, clampA 2, 0 + 1 + 1 + 1) (.inr rfl)
    rcases hx with ⟨(hx | hx) | hx, hne⟩ | hx
    · exact hx.elim
    · rw [hx] at hne
      exact absurd rfl hne
    · rw [hx] at h9
      exact absurd h9 (by decide)
    · exact hx
  subst hx2
  injection hk with hk
  subst hk
  have hc2 : clampA 2 = 2 := by decide
  simp only [hc2]
  have H5 := Lib.hid h5
  have HB := Lib.hid h5.bel
  have HL := Lib.hid (olenS w w5 ab _ _ _ _ h5)
  clear h5 hl hx H4 hc2
  go_wp2_with fail
  refine HL.out.mono ?_
  rintro e w6 ⟨rfl, rfl⟩
  go_wp2_with fail
  go_ret
  exact ⟨rfl, HB.out⟩
end Go.Proofs.Ytoikgphbicnhaaa
