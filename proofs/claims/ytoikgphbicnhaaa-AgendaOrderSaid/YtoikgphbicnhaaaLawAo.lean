/- The law AgendaOrder. -/
import Derived.Test.YtoikgphbicnhaaaAgI
namespace Go.Proofs.Ytoikgphbicnhaaa
open Go.RowKit Go.Maps

def nA (ats : List AAct) (i : Nat) : Int := ((ats[i]?).map (·.a)).getD 0
/-- What the first t acts have set. -/
def CO (ats : List AAct) (t : Nat) (x : Value × Int × Int) : Prop := ∃ i, i < t ∧ x = (.int .i64 (i : Int), clampA (nA ats i), (i : Int) + 1)
theorem CO.step (ats : List AAct) (t : Nat) (x : Value × Int × Int) : (CO ats t x ∨ x = (.int .i64 (t : Int), clampA (nA ats t), (t : Int) + 1)) ↔ CO ats (t + 1) x := by
  constructor
  · rintro (⟨i, hi, e⟩ | e)
    · exact ⟨i, by omega, e⟩
    · exact ⟨t, by omega, e⟩
  · rintro ⟨i, hi, e⟩
    by_cases h : i = t
    · subst h; exact .inr e
    · exact .inl ⟨i, by omega, e⟩
theorem CO.other {ats : List AAct} {t : Nat} {x : Value × Int × Int} (h : CO ats t x) : x.1 ≠ .int .i64 (t : Int) := by
  obtain ⟨i, hi, e⟩ := h
  rw [e]
  intro e2
  injection e2 with _ e2
  omega
/-- All that is left stands behind the last one popped. -/
def LeftO (ats : List AAct) (N0 : Nat) (la ky : Int) (C : Value × Int × Int → Prop) : Prop := ∀ x, C x → CO ats N0 x ∧ (la < x.2.1 ∨ la = x.2.1 ∧ ky < x.2.2 - 1)
theorem LeftO.pop {ats : List AAct} {N0 : Nat} {la ky : Int} {C : Value × Int × Int → Prop} (h : LeftO ats N0 la ky C) {k : Int} {x : Value × Int × Int} (hx : C x) (hk : x.1 = .int .i64 k) (hl : ∀ y, C y → x.2.1 < y.2.1 ∨ x.2.1 = y.2.1 ∧ x.2.2 ≤ y.2.2) :
    ∃ i : Nat, i < N0 ∧ k = (i : Int) ∧ x.2.1 = clampA (nA ats i) ∧ (la < clampA (nA ats i) ∨ la = clampA (nA ats i) ∧ ky < (i : Int)) ∧ LeftO ats N0 (clampA (nA ats i)) (i : Int) (fun y => C y ∧ y.1 ≠ .int .i64 k) := by
  obtain ⟨⟨i, hi, e⟩, h2⟩ := h x hx
  subst e
  injection hk with _ hk
  refine ⟨i, hi, hk.symm, rfl, ?_, fun y hy => ?_⟩
  · simp only at h2
    omega
  · obtain ⟨⟨j, hj, e2⟩, _⟩ := h y hy.1
    have h3 := hl y hy.1
    have hne := hy.2
    subst e2
    refine ⟨⟨j, hj, rfl⟩, ?_⟩
    have hij : j ≠ i := fun e3 => hne (by rw [e3, ← hk])
    simp only at h3 ⊢
    omega
theorem i64_ok (t : Nat) (ht : t ≤ 1000) : (Lit.int .i64 (t : Int)).wf = true := by
  simp [Lit.wf, IntKind.min, IntKind.max, IntKind.signed, IntKind.bits]; omega
set_option maxHeartbeats 4000000 in
set_option maxRecDepth 100000 in
theorem lawAgendaOrder (a : Option Addr) (c : Nat) (ats : List AAct) (hal : ats.length ≤ 9223372036854775807) (W : World) (hA : IsAacts W a c ats) :
    Calls Try.prog 4 #[.slice a ats.length c] W fun e w' => e = .returned (.bool true) ∧ Below W.heap.size W w' := by
  have HA := Lib.hid hA
  clear hA
  obtain ⟨N0, hN0⟩ : ∃ N0 : Nat, N0 = min ats.length 60 := ⟨_, rfl⟩
  have hN1 : N0 ≤ 60 := by omega
  have hN2 : N0 ≤ ats.length := by omega
  have em : (if (60 : Int) < (ats.length : Int) then (60 : Int) else (ats.length : Int)) = (N0 : Int) := by split <;> omega
  clear hN0
  go_enter Try.func4, Try.ntmps4
  go_wp2_with fail
  refine (awake20 W).mono ?_
  rintro e w1 ⟨rfl, hb1⟩
  have HB1 := Lib.hid hb1
  clear hb1
  go_wp2_with fail
  refine (onewN W w1 HB1.out).mono ?_
  rintro e w2 ⟨ab, rfl, h2⟩
  have H2 := Lib.hid (h2.mono (C' := CO ats 0) (fun x => ⟨fun h => h.elim, fun ⟨i, hi, _⟩ => absurd hi (Nat.not_lt_zero i)⟩))
  clear h2 HB1
  go_wp2_with fail
  go_loopw [23] (fun i wr => ∃ (t : Nat), t ≤ N0 ∧ i = .int .i64 (t : Int) ∧ Hid (OrS 108 111 113 MPN W ab t t (t : Int) (CO ats t) wr)) (fun i _ => N0 - (intOf i).toNat)
  case atStart => exact ⟨0, Nat.zero_le _, rfl, H2⟩
  case round =>
    obtain ⟨t, ht, rfl, hS⟩ := hrel
    by_cases hlt : t < N0
    · have j1 : (t : Int) < (N0 : Int) := by omega
      have j2 : (t : Int) < (ats.length : Int) := by omega
      obtain h0 | ⟨bk, oo, rfl, hbk, hcc, hcell⟩ := HA.out.below hS.out.bel
      · subst h0; simp at hN2; omega
      obtain ⟨_, x1, _⟩ := hcell t ats[t] (by simp [show t < ats.length by omega])
      have hna : ats[t].a = nA ats t := by unfold nA; simp [show t < ats.length by omega]
      rw [hna] at x1
      have HSE := Lib.hid (osetNa W wr ab t t (t : Int) _ hS.out (by omega) (by omega) (by omega) (by omega) (t : Int) (i64_ok t (by omega)) (nA ats t) (fun x hx => hx.other))
      clear hcell hna
      go_wp2_with fail
      refine HSE.out.mono ?_
      rintro e w4 ⟨rfl, h4⟩
      have H4 := Lib.hid (h4.mono (C' := CO ats (t + 1)) (CO.step ats t))
      clear h4 HSE x1
      go_wp2_with fail
      go_roundw
      case rel => exact ⟨t + 1, hlt, by go_num, H4⟩
      case measure => simp [intOf]; omega
    · have hte : t = N0 := by omega
      subst hte
      clear hlt ht H2
      go_wp2_with fail
      have HL0 : Hid (LeftO ats t (-1) (-1) (CO ats t)) := fun x hx => ⟨hx, .inl (by
        obtain ⟨i, hi, e⟩ := hx
        have := (clampA_r (nA ats i)).1
        rw [e]; simp only; omega)⟩
      go_loopw [6, 7, 36] (fun la ky i wr => ∃ (r m : Nat) (la' ky' : Int) (C : Value × Int × Int → Prop), r + m = t ∧ i = .int .i64 (r : Int) ∧ la = .int .i64 la' ∧ ky = .int .i64 ky' ∧ Hid (OrS 108 111 113 MPN W ab m t (t : Int) C wr) ∧ Hid (LeftO ats t la' ky' C)) (fun _ _ i _ => t - (intOf i).toNat)
      case atStart => exact ⟨0, t, -1, -1, CO ats t, by omega, rfl, rfl, rfl, hS, HL0⟩
      case round =>
        obtain ⟨r, m, la, ky, C, hrm, rfl, rfl, rfl, hS2, hL2⟩ := hrel
        by_cases hlt : r < t
        · have j1 : (r : Int) < (t : Int) := by omega
          obtain ⟨m, rfl⟩ : ∃ m', m = m' + 1 := ⟨m - 1, by omega⟩
          have HPO := Lib.hid (opopNb W wr ab m t (t : Int) C hS2.out (by omega) 1099511627776 (fun x hx => by
            obtain ⟨⟨i, _, e⟩, _⟩ := hL2.out x hx
            rw [e]
            exact (clampA_r _).2))
          have HRM := Lib.hid hrm
          clear hrm
          go_wp2_with fail
          refine HPO.out.mono ?_
          rintro e w4 ⟨k, x, hx, hk, hl, rfl, h4⟩
          obtain ⟨i, hi, rfl, hxe, hlk, hL4⟩ := hL2.out.pop hx hk hl
          rw [hxe]
          have HL4 := Lib.hid hL4
          have H4 := Lib.hid h4
          obtain h0 | ⟨bk, oo, rfl, hbk, hcc, hcell⟩ := HA.out.below h4.bel
          · subst h0; simp at hN2; omega
          obtain ⟨_, x1, _⟩ := hcell i ats[i] (by simp [show i < ats.length by omega])
          have hna : ats[i].a = nA ats i := by unfold nA; simp [show i < ats.length by omega]
          rw [hna] at x1
          have e1 : (if (1099511627776 : Int) < nA ats i then (1099511627776 : Int) else nA ats i) = min (nA ats i) 1099511627776 := by split <;> omega
          have e2 : (if (0 : Int) < min (nA ats i) 1099511627776 then min (nA ats i) 1099511627776 else 0) = clampA (nA ats i) := by unfold clampA; split <;> split <;> (try split) <;> omega
          obtain ⟨B, hB⟩ : ∃ B, min (nA ats i) 1099511627776 = B := ⟨_, rfl⟩
          rw [hB] at e1 e2
          obtain ⟨V, hV⟩ : ∃ V, clampA (nA ats i) = V := ⟨_, rfl⟩
          rw [hV] at e2 hlk HL4 ⊢
          obtain ⟨Z, hZ⟩ : ∃ Z, nA ats i = Z := ⟨_, rfl⟩
          rw [hZ] at e1 x1
          have i1 : (i : Int) < (t : Int) := by omega
          have i2 : (i : Int) < (ats.length : Int) := by omega
          have d0 : decide ((i : Int) < 0) = false := decide_eq_false (by omega)
          have d1 : decide ((t : Int) ≤ (i : Int)) = false := decide_eq_false (by omega)
          have d2 : decide (V < la) = false := decide_eq_false (by omega)
          by_cases hv : V = la
          · have d3 : (V == la) = true := by rw [hv]; simp
            have d4 : decide ((i : Int) ≤ ky) = false := decide_eq_false (by omega)
            have HV := Lib.hid hv
            clear hl hx hk hxe hL4 h4 hcell hna hB hV hZ HPO hlk hv
            go_wp2_with fail
            go_roundw
            case rel => exact ⟨r + 1, m, V, i, _, (by have := HRM.out; omega), by go_num, rfl, rfl, H4, HL4⟩
            case measure => simp [intOf]; omega
          · have d3 : (V == la) = false := by simp [hv]
            clear hl hx hk hxe hL4 h4 hcell hna hB hV hZ HPO hlk hv
            go_wp2_with fail
            go_roundw
            case rel => exact ⟨r + 1, m, V, i, _, (by have := HRM.out; omega), by go_num, rfl, rfl, H4, HL4⟩
            case measure => simp [intOf]; omega
        · have hm0 : m = 0 := by omega
          subst hm0
          have hr0 : r = t := by omega
          subst hr0
          have HPO := Lib.hid (opopNa W wr ab r (r : Int) C hS2.out 1099511627776)
          have HLE := Lib.hid (olenN W wr ab 0 r (r : Int) C hS2.out)
          have HBE := Lib.hid hS2.out.bel
          clear hrm hlt
          go_wp2_with fail
          refine HPO.out.mono ?_
          rintro e w4 ⟨rfl, rfl⟩
          clear HPO
          go_wp2_with fail
          refine HLE.out.mono ?_
          rintro e w5 ⟨rfl, rfl⟩
          clear HLE
          go_wp2_with fail
          go_ret
          exact ⟨rfl, HBE.out⟩
end Go.Proofs.Ytoikgphbicnhaaa
