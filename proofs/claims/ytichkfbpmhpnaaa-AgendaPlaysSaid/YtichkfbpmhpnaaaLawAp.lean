/- The law AgendaPlays. -/
import Derived.Test.YtichkfbpmhpnaaaAhI
namespace Go.Proofs.Ytichkfbpmhpnaaa
open Go.RowKit Go.Maps

/-- The agenda and the list alike, made behind W. -/
def ApS (W : World) (ab n N : Nat) (s : Int) (a : Option Addr) (c : Nat) (l : List RI) (w : World) : Prop :=
  0 ≤ s ∧ ∃ C L, OrS pl0S 102 104 MPS W ab n N s C (OB (fun _ => False) a) w ∧ RelA l n s C L ∧ IsRis w a c l
theorem ApS.bel {W w : World} {ab n N : Nat} {s : Int} {a : Option Addr} {c : Nat} {l : List RI} (h : ApS W ab n N s a c l w) : Below W.heap.size W w := by
  obtain ⟨_, C, L, h1, _⟩ := h
  exact h1.bel
theorem ApS.below {W w w' : World} {ab n N : Nat} {s : Int} {a : Option Addr} {c : Nat} {l : List RI} (h : ApS W ab n N s a c l w) (hb : Below w.heap.size w w') : ApS W ab n N s a c l w' := by
  obtain ⟨h0, C, L, h1, h2, h3⟩ := h
  exact ⟨h0, C, L, h1.below hb, h2, h3.below hb⟩
theorem ApS.len {W w : World} {ab n N : Nat} {s : Int} {a : Option Addr} {c : Nat} {l : List RI} (h : ApS W ab n N s a c l w) : l.length = n := by
  obtain ⟨_, C, L, h1, h2, h3⟩ := h
  exact h2.lenl
def ApR (W : World) (ab n N : Nat) (s : Int) (e : Ending) (w' : World) : Prop :=
  ∃ a' c' l' n' s', e = .returned (.tuple #[.slice a' (List.length l') c', .bool true]) ∧ n' ≤ n + 1 ∧ s' ≤ s + 1 ∧ ApS W ab n' (N + 1) s' a' c' l' w'
theorem ApS.do {W w : World} {ab n N : Nat} {s : Int} {a : Option Addr} {c : Nat} {l : List RI} (h : ApS W ab n N s a c l w) (hn : n ≤ 800) (hN : N ≤ 9999) (hs : s ≤ 9999) (x : AAct) :
    Calls Try.prog 11 #[.pointer (some ⟨ab, 0, none⟩), .slice a l.length c, .agg #[.int .i64 x.k, .int .i64 x.a, .string x.nm]] w (ApR W ab n N s) := by
  obtain ⟨h0, C, L, h1, h2, h3⟩ := h
  refine (doAll W ab n N s C (fun _ => False) L a c l x w hn (by omega) h0 (by omega) h1 h2 h3).mono ?_
  rintro e w' ⟨a', c', l', n', s', C', L', rfl, q1, q2, q3, q4, q5, q6, _⟩
  exact ⟨a', c', l', n', s', rfl, q1, q3, by omega, C', L', q4, q5, q6⟩
theorem ApS.is {W w : World} {ab n N : Nat} {s : Int} {a : Option Addr} {c : Nat} {l : List RI} (h : ApS W ab n N s a c l w) (hn : n ≤ 800) :
    Calls Try.prog 12 #[.pointer (some ⟨ab, 0, none⟩), .slice a l.length c] w fun e w' => e = .returned (.bool true) ∧ Below w.heap.size w w' := by
  obtain ⟨h0, C, L, h1, h2, h3⟩ := h
  exact is20 (pl := pl0S) W w ab n N s C _ L a c l h1 hn h2 h3
theorem ApS.clone {W w : World} {ab n N : Nat} {s : Int} {a : Option Addr} {c : Nat} {l : List RI} (h : ApS W ab n N s a c l w) (hn : n ≤ 800) :
    Calls Try.prog 13 #[.pointer (some ⟨ab, 0, none⟩)] w fun e w' => ∃ cb, e = .returned (.pointer (some ⟨cb, 0, none⟩)) ∧ ApS w cb n n s a c l w' := by
  obtain ⟨h0, C, L, h1, h2, h3⟩ := h
  refine (ocloneS (pl := pl0S) W w ab n N s C _ h1 (by omega)).mono ?_
  rintro e w' ⟨cb, rfl, h4⟩
  exact ⟨cb, rfl, h0, C, L, h4, h2, h3.below h4.bel⟩
theorem aact_in {w : World} {a : Option Addr} {c : Nat} {l : List AAct} (h : IsAacts w a c l) {t : Nat} (ht : t < l.length) : ∃ bk oo x, a = some ⟨bk, oo, none⟩ ∧ w.cell? ⟨bk, oo + t * 3, none⟩ = some (.int .i64 (AAct.k x)) ∧ w.cell? ⟨bk, oo + t * 3 + 1, none⟩ = some (.int .i64 x.a) ∧ w.cell? ⟨bk, oo + t * 3 + 2, none⟩ = some (.string x.nm) ∧ l.length ≤ c := by
  obtain h0 | ⟨bk, oo, rfl, hbk, hcc, hcell⟩ := h
  · subst h0; simp at ht
  · obtain ⟨x0, x1, x2⟩ := hcell t l[t] (by simp [ht])
    exact ⟨bk, oo, l[t], rfl, x0, x1, x2, hcc⟩
set_option maxHeartbeats 4000000 in
set_option maxRecDepth 100000 in
theorem lawAgendaPlays (a : Option Addr) (c : Nat) (ats : List AAct) (a2 : Option Addr) (c2 : Nat) (more : List AAct) (W : World) (hA : IsAacts W a c ats) (hA2 : IsAacts W a2 c2 more) :
    Calls Try.prog 3 #[.slice a ats.length c, .slice a2 more.length c2] W fun e w' => e = .returned (.bool true) ∧ Below W.heap.size W w' := by
  have HA := Lib.hid hA
  have HA2 := Lib.hid hA2
  clear hA hA2
  go_enter Try.func3, Try.ntmps3
  go_wp2_with fail
  refine (awake20 W).mono ?_
  rintro e w1 ⟨rfl, hb1⟩
  have HB1 := Lib.hid hb1
  clear hb1
  go_wp2_with fail
  refine (onewS W w1 HB1.out (OB (fun _ => False) none) (fun k h => by
    rcases h with h | ⟨p, h, _⟩
    · exact h.elim
    · cases h)).mono ?_
  rintro e w2 ⟨ab, rfl, h2, -⟩
  have H2 : Hid (ApS W ab 0 0 0 none 0 [] w2) := ⟨Int.le_refl _, _, _, h2, RelA.nil 0, ⟨.inl rfl, fun _ => rfl, fun p h => by cases h⟩⟩
  clear h2 HB1
  go_wp2_with fail
  go_loopw [6, 7, 8] (fun u b i wr => ∃ (t n : Nat) (s : Int) (la : Option Addr) (lc : Nat) (l : List RI) (bb : Bool), t ≤ 60 ∧ t ≤ ats.length ∧ n ≤ t ∧ s ≤ t ∧ u = .slice la l.length lc ∧ b = .bool bb ∧ i = .int .i64 (t : Int) ∧ Hid (ApS W ab n t s la lc l wr)) (fun _ _ i _ => 60 - (intOf i).toNat)
  case atStart => exact ⟨0, 0, 0, none, 0, [], false, by omega, Nat.zero_le _, Nat.le_refl _, Int.le_refl _, rfl, rfl, rfl, H2⟩
  case round =>
    obtain ⟨t, n, s, la, lc, l, bb, ht, ht2, hnt, hst, rfl, rfl, rfl, hS⟩ := hrel
    by_cases hlt : t < 60 ∧ t < ats.length
    · obtain ⟨hlt1, hlt2⟩ := hlt
      have j1 : (t : Int) < 60 := by omega
      have j2 : (t : Int) < (ats.length : Int) := by omega
      obtain ⟨bk, oo, x, rfl, x0, x1, x2, hcc⟩ := aact_in (HA.out.below hS.out.bel) hlt2
      have HDO := Lib.hid (hS.out.do (by omega) (by omega) (by omega) x)
      have HJ : Hid (t < 60 ∧ t < ats.length) := ⟨hlt1, hlt2⟩
      clear hlt1 hlt2
      go_wp2_with fail
      refine HDO.out.mono ?_
      rintro e w4 ⟨a', c', l', n', s', rfl, q1, q3, q4⟩
      have H4 := Lib.hid q4
      have HIS := Lib.hid (q4.is (by omega))
      clear q4 HDO x0 x1 x2
      go_wp2_with fail
      refine HIS.out.mono ?_
      rintro e w5 ⟨rfl, hb5⟩
      have H5 := Lib.hid (H4.out.below hb5)
      clear hb5 HIS H4
      go_wp2_with fail
      go_roundw
      case rel => exact ⟨t + 1, n', s', a', c', l', true, HJ.out.1, HJ.out.2, by omega, by omega, rfl, rfl, by go_num, H5⟩
      case measure => have := HJ.out; simp [intOf]; omega
    · have HCL := Lib.hid (hS.out.clone (by omega))
      by_cases hlt2 : t < ats.length
      · have j1 : ¬ (t : Int) < 60 := by omega
        have j2 : (t : Int) < (ats.length : Int) := by omega
        clear hlt
        go_wp2_with fail
        refine HCL.out.mono ?_
        rintro e w4 ⟨cb, rfl, hc⟩
        have HC := Lib.hid hc
        clear hc HCL
        go_wp2_with fail
        go_loopw [7, 10, 11] (fun b u i wr' => ∃ (t' n' N' : Nat) (s' : Int) (la' : Option Addr) (lc' : Nat) (l' : List RI) (bb' : Bool), t' ≤ 20 ∧ t' ≤ more.length ∧ n' ≤ 60 + t' ∧ N' ≤ 60 + t' ∧ s' ≤ 60 + t' ∧ u = .slice la' l'.length lc' ∧ b = .bool bb' ∧ i = .int .i64 (t' : Int) ∧ Hid (ApS wr cb n' N' s' la' lc' l' wr')) (fun _ _ i _ => 20 - (intOf i).toNat)
        case atStart => exact ⟨0, n, n, s, la, lc, l, bb, by omega, Nat.zero_le _, by omega, by omega, by omega, rfl, rfl, rfl, HC⟩
        case round =>
          obtain ⟨t', n', N', s', la', lc', l', bb', ht', ht2', hnt', hNt', hst', rfl, rfl, rfl, hQ⟩ := hrel
          by_cases hlt : t' < 20 ∧ t' < more.length
          · obtain ⟨hlt1, hlt2⟩ := hlt
            have k1 : (t' : Int) < 20 := by omega
            have k2 : (t' : Int) < (more.length : Int) := by omega
            obtain ⟨bk, oo, x, rfl, x0, x1, x2, hcc⟩ := aact_in (HA2.out.below (hS.out.bel.trans (hQ.out.bel.mono hS.out.bel.size))) hlt2
            have HDO := Lib.hid (hQ.out.do (by omega) (by omega) (by omega) x)
            have HJ : Hid (t' < 20 ∧ t' < more.length) := ⟨hlt1, hlt2⟩
            clear hlt1 hlt2
            go_wp2_with fail
            refine HDO.out.mono ?_
            rintro e w4 ⟨a', c', l'', n'', s'', rfl, q1, q3, q4⟩
            have H4 := Lib.hid q4
            clear q4 HDO x0 x1 x2
            go_wp2_with fail
            go_roundw
            case rel => exact ⟨t' + 1, n'', N' + 1, s'', a', c', l'', true, HJ.out.1, HJ.out.2, by omega, by omega, by omega, rfl, rfl, by go_num, H4⟩
            case measure => have := HJ.out; simp [intOf]; omega
          · have HIA := Lib.hid ((hS.out.below hQ.out.bel).is (by omega))
            by_cases hlt2 : t' < more.length
            · have k1 : ¬ (t' : Int) < 20 := by omega
              have k2 : (t' : Int) < (more.length : Int) := by omega
              clear hlt
              go_wp2_with fail
              refine HIA.out.mono ?_
              rintro e w7 ⟨rfl, hb7⟩
              have HIC := Lib.hid ((hQ.out.below hb7).is (by omega))
              have HB7 := Lib.hid hb7
              clear hb7 HIA
              go_wp2_with fail
              refine HIC.out.mono ?_
              rintro e w8 ⟨rfl, hb8⟩
              have HB8 := Lib.hid hb8
              clear hb8 HIC
              go_wp2_with fail
              go_ret
              exact ⟨rfl, hS.out.bel.trans ((hQ.out.bel.trans ((HB7.out.trans (HB8.out.mono HB7.out.size)).mono hQ.out.bel.size)).mono hS.out.bel.size)⟩
            · have k2 : ¬ (t' : Int) < (more.length : Int) := by omega
              clear hlt
              go_wp2_with fail
              refine HIA.out.mono ?_
              rintro e w7 ⟨rfl, hb7⟩
              have HIC := Lib.hid ((hQ.out.below hb7).is (by omega))
              have HB7 := Lib.hid hb7
              clear hb7 HIA
              go_wp2_with fail
              refine HIC.out.mono ?_
              rintro e w8 ⟨rfl, hb8⟩
              have HB8 := Lib.hid hb8
              clear hb8 HIC
              go_wp2_with fail
              go_ret
              exact ⟨rfl, hS.out.bel.trans ((hQ.out.bel.trans ((HB7.out.trans (HB8.out.mono HB7.out.size)).mono hQ.out.bel.size)).mono hS.out.bel.size)⟩
      · have j2 : ¬ (t : Int) < (ats.length : Int) := by omega
        clear hlt
        go_wp2_with fail
        refine HCL.out.mono ?_
        rintro e w4 ⟨cb, rfl, hc⟩
        have HC := Lib.hid hc
        clear hc HCL
        go_wp2_with fail
        go_loopw [7, 10, 11] (fun b u i wr' => ∃ (t' n' N' : Nat) (s' : Int) (la' : Option Addr) (lc' : Nat) (l' : List RI) (bb' : Bool), t' ≤ 20 ∧ t' ≤ more.length ∧ n' ≤ 60 + t' ∧ N' ≤ 60 + t' ∧ s' ≤ 60 + t' ∧ u = .slice la' l'.length lc' ∧ b = .bool bb' ∧ i = .int .i64 (t' : Int) ∧ Hid (ApS wr cb n' N' s' la' lc' l' wr')) (fun _ _ i _ => 20 - (intOf i).toNat)
        case atStart => exact ⟨0, n, n, s, la, lc, l, bb, by omega, Nat.zero_le _, by omega, by omega, by omega, rfl, rfl, rfl, HC⟩
        case round =>
          obtain ⟨t', n', N', s', la', lc', l', bb', ht', ht2', hnt', hNt', hst', rfl, rfl, rfl, hQ⟩ := hrel
          by_cases hlt : t' < 20 ∧ t' < more.length
          · obtain ⟨hlt1, hlt2⟩ := hlt
            have k1 : (t' : Int) < 20 := by omega
            have k2 : (t' : Int) < (more.length : Int) := by omega
            obtain ⟨bk, oo, x, rfl, x0, x1, x2, hcc⟩ := aact_in (HA2.out.below (hS.out.bel.trans (hQ.out.bel.mono hS.out.bel.size))) hlt2
            have HDO := Lib.hid (hQ.out.do (by omega) (by omega) (by omega) x)
            have HJ : Hid (t' < 20 ∧ t' < more.length) := ⟨hlt1, hlt2⟩
            clear hlt1 hlt2
            go_wp2_with fail
            refine HDO.out.mono ?_
            rintro e w4 ⟨a', c', l'', n'', s'', rfl, q1, q3, q4⟩
            have H4 := Lib.hid q4
            clear q4 HDO x0 x1 x2
            go_wp2_with fail
            go_roundw
            case rel => exact ⟨t' + 1, n'', N' + 1, s'', a', c', l'', true, HJ.out.1, HJ.out.2, by omega, by omega, by omega, rfl, rfl, by go_num, H4⟩
            case measure => have := HJ.out; simp [intOf]; omega
          · have HIA := Lib.hid ((hS.out.below hQ.out.bel).is (by omega))
            by_cases hlt2 : t' < more.length
            · have k1 : ¬ (t' : Int) < 20 := by omega
              have k2 : (t' : Int) < (more.length : Int) := by omega
              clear hlt
              go_wp2_with fail
              refine HIA.out.mono ?_
              rintro e w7 ⟨rfl, hb7⟩
              have HIC := Lib.hid ((hQ.out.below hb7).is (by omega))
              have HB7 := Lib.hid hb7
              clear hb7 HIA
              go_wp2_with fail
              refine HIC.out.mono ?_
              rintro e w8 ⟨rfl, hb8⟩
              have HB8 := Lib.hid hb8
              clear hb8 HIC
              go_wp2_with fail
              go_ret
              exact ⟨rfl, hS.out.bel.trans ((hQ.out.bel.trans ((HB7.out.trans (HB8.out.mono HB7.out.size)).mono hQ.out.bel.size)).mono hS.out.bel.size)⟩
            · have k2 : ¬ (t' : Int) < (more.length : Int) := by omega
              clear hlt
              go_wp2_with fail
              refine HIA.out.mono ?_
              rintro e w7 ⟨rfl, hb7⟩
              have HIC := Lib.hid ((hQ.out.below hb7).is (by omega))
              have HB7 := Lib.hid hb7
              clear hb7 HIA
              go_wp2_with fail
              refine HIC.out.mono ?_
              rintro e w8 ⟨rfl, hb8⟩
              have HB8 := Lib.hid hb8
              clear hb8 HIC
              go_wp2_with fail
              go_ret
              exact ⟨rfl, hS.out.bel.trans ((hQ.out.bel.trans ((HB7.out.trans (HB8.out.mono HB7.out.size)).mono hQ.out.bel.size)).mono hS.out.bel.size)⟩
end Go.Proofs.Ytichkfbpmhpnaaa
