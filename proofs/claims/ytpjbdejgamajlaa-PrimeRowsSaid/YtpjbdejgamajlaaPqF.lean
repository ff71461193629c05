/- The law PrimeRows. -/
import Derived.Test.YtpjbdejgamajlaaPqE
namespace Go.Proofs.Ytpjbdejgamajlaa
open Go.RowKit

theorem infoBool : (Try.prog.info? 4).map (fun i => (i.zero, i.size, i.bytes)) = some (some (.bool false), 1, 1) := by kernel_rfl
def cellsB (m : Nat) (g : Nat → Bool) : List Value := (List.range m).map fun k => Value.bool (g k)
theorem cellsB_at (m : Nat) (g : Nat → Bool) (k : Nat) (h : k < m) : (cellsB m g)[k]? = some (.bool (g k)) := by simp [cellsB, h]
theorem cellsB_zero (m : Nat) : List.replicate m (Value.bool false) = cellsB m (fun _ => false) := by
  apply List.ext_getElem
  · simp [cellsB]
  · intro i h1 h2; simp [cellsB]
def updB (g : Nat → Bool) (k : Nat) : Nat → Bool := fun i => if i = k then true else g i
theorem cellsB_set (m : Nat) (g : Nat → Bool) (k : Nat) : (cellsB m g).set k (.bool true) = cellsB m (updB g k) := by
  apply List.ext_getElem
  · simp [cellsB]
  · intro i h1 h2
    rw [List.getElem_set]
    by_cases e : k = i
    · subst e; simp [cellsB, updB]
    · rw [if_neg e]; simp [cellsB, updB, Ne.symm e]
/-- What has been met, and whether each only once. -/
def seenF (r : Nat → Nat) : Nat → Nat → Bool
  | 0 => fun _ => false
  | j + 1 => updB (seenF r j) (r j)
def onceF (r : Nat → Nat) : Nat → Bool
  | 0 => true
  | j + 1 => onceF r j && !seenF r j (r j)
theorem seenF_iff (r : Nat → Nat) (j k : Nat) : seenF r j k = true ↔ ∃ a, a < j ∧ r a = k := by
  induction j with
  | zero => simp [seenF]
  | succ j ih =>
    unfold seenF updB
    by_cases e : k = r j
    · rw [if_pos e]; simp only [true_iff]; exact ⟨j, by omega, e.symm⟩
    · rw [if_neg e, ih]
      constructor
      · rintro ⟨a, ha, h⟩; exact ⟨a, by omega, h⟩
      · rintro ⟨a, ha, h⟩
        refine ⟨a, ?_, h⟩
        rcases Nat.lt_or_ge a j with h1 | h1
        · exact h1
        · obtain rfl : a = j := by omega
          exact absurd h.symm e
theorem onceF_false (r : Nat → Nat) (j i : Nat) (h : onceF r j = false) (hij : j ≤ i) : onceF r i = false := by
  induction i with
  | zero => obtain rfl : j = 0 := by omega
            exact h
  | succ i ih =>
    rcases Nat.lt_or_ge i j with h1 | h1
    · obtain rfl : j = i + 1 := by omega
      exact h
    · unfold onceF; rw [ih h1]; rfl
theorem onceF_true (r : Nat → Nat) (m j : Nat) (h : ∀ a b, a < b → b < m → r a ≠ r b) (hj : j ≤ m) : onceF r j = true := by
  induction j with
  | zero => rfl
  | succ j ih =>
    unfold onceF
    rw [ih (by omega)]
    have : seenF r j (r j) = false := by
      cases hs : seenF r j (r j) with
      | false => rfl
      | true =>
        obtain ⟨a, ha, he⟩ := (seenF_iff r j (r j)).1 hs
        exact absurd he (h a j ha (by omega))
    rw [this]; rfl
def rowF (m F S : Nat) : Nat → Nat := fun i => (F + i * S) % m
theorem once_row (m F S : Nat) (hm : 1 ≤ m) : onceF (rowF m F S) m = (decide (m < 2) || decide (Nat.gcd S m = 1)) := by
  by_cases h1 : m < 2
  · obtain rfl : m = 1 := by omega
    rfl
  · rw [decide_eq_false h1, Bool.false_or]
    by_cases hg : Nat.gcd S m = 1
    · rw [decide_eq_true hg]
      exact onceF_true _ m m (fun a b ha hb => row_inj hg ha hb) (Nat.le_refl m)
    · rw [decide_eq_false hg]
      obtain ⟨j, h0, hj, he⟩ := row_back (f := F) (by omega) hg
      refine onceF_false _ (j + 1) m ?_ hj
      unfold onceF
      have : seenF (rowF m F S) j (rowF m F S j) = true := (seenF_iff _ _ _).2 ⟨0, h0, he.symm⟩
      rw [this]; simp
theorem gcd_nat (S m : Nat) : gcdI S m = Nat.gcd S m := by simp [gcdI, natI]
set_option maxHeartbeats 2000000 in
theorem lawPrimeRows (m a b : Int) (w : World) :
    Calls Try.prog 5 #[.int .i64 m, .int .i64 a, .int .i64 b] w fun e w' => e = .returned (.bool true) ∧ Below w.heap.size w w' := by
  by_cases h1 : m < 1
  · have hmin : (if (300 : Int) < m then (300 : Int) else m) = m := by rw [if_neg (by omega)]
    go_enter Try.func5, Try.ntmps5
    go_wp2_with fail
    refine (awake7 _).mono ?_
    rintro e w' ⟨rfl, rfl⟩
    go_wp2_with fail
    refine (row12_no m a b h1 _).mono ?_
    rintro e w' ⟨rfl, rfl⟩
    go_wp2_with fail
    refine (refrow14_no m a b h1 _).mono ?_
    rintro e w1 ⟨q, c, rfl, hn, hb⟩
    have HB := Lib.hid hb
    have HN := Lib.hid hn
    clear hb hn
    go_wp2_with fail
    refine (numbers13 none q 0 c [] _ (by decide) (.inl rfl) HN.out).mono ?_
    rintro e w2 ⟨rfl, hb2⟩
    have HB2 := Lib.hid (HB.out.trans (hb2.mono HB.out.size))
    clear hb2
    go_wp2_with fail
    go_ret
    exact ⟨rfl, HB2.out⟩
  obtain ⟨i0, hi, hz0, hz1, hz2⟩ := info_parts infoBool
  obtain ⟨M, hM, hM1, hM2⟩ : ∃ M : Nat, (if (300 : Int) < m then (300 : Int) else m) = (M : Int) ∧ 1 ≤ M ∧ M ≤ 300 := by
    by_cases h : (300 : Int) < m
    · exact ⟨300, by rw [if_pos h]; rfl, by omega, by omega⟩
    · obtain ⟨k, rfl⟩ := Int.eq_ofNat_of_zero_le (show 0 ≤ m by omega)
      exact ⟨k, by rw [if_neg h], by omega, by omega⟩
  obtain ⟨F, hF⟩ := Int.eq_ofNat_of_zero_le (Int.emod_nonneg a (b := (M : Int)) (by omega))
  obtain ⟨S, hS⟩ := Int.eq_ofNat_of_zero_le (Int.emod_nonneg b (b := (M : Int)) (by omega))
  have HR := Lib.hid (row12 M F S a b hM1 hM2 hF hS)
  have HRR := Lib.hid (refrow14 M F S a b hM1 hM2 hF hS)
  have HMB := Lib.hid (refmod15 b M (by omega) (by omega))
  have hSM := Int.emod_lt_of_pos b (b := (M : Int)) (by omega)
  rw [hS] at HMB hSM
  have HG := Lib.hid (refgcd9j S M (by omega) (by omega))
  rw [gcd_nat] at HG
  have HL := Lib.hid (rowL_len M F S)
  have HLO := Lib.hid (once_row M F S hM1)
  have HLO : Hid (onceF (rowF M F S) M = (decide (M < 2) || (((Nat.gcd S M : Nat) : Int) == 1))) := by
    rw [HLO.out]
    congr 1
    by_cases e : Nat.gcd S M = 1
    · rw [decide_eq_true e, e]; rfl
    · rw [decide_eq_false e]; exact (beq_eq_false_iff_ne.2 (by omega)).symm
  obtain ⟨G, hG⟩ : ∃ G, Nat.gcd S M = G := ⟨_, rfl⟩
  rw [hG] at HG HLO
  clear hF hS hG
  go_enter Try.func5, Try.ntmps5
  go_wp2_with fail
  refine (awake7 _).mono ?_
  rintro e w' ⟨rfl, hw'⟩
  subst hw'
  go_wp2_with fail
  clear hM h1
  refine (HR.out _).mono ?_
  rintro e w1 ⟨q, c, rfl, hn, hb⟩
  have HN := Lib.hid hn
  have HB := Lib.hid hb
  clear hn hb
  go_wp2_with fail
  refine (HRR.out _).mono ?_
  rintro e w2 ⟨q2, c2, rfl, hn2, hb2⟩
  have HN2 := Lib.hid hn2
  have HN1 := Lib.hid (HN.out.below hb2)
  have HB2 := Lib.hid (HB.out.trans (hb2.mono HB.out.size))
  clear hn2 hb2 HN HB
  have HNU := numbers13 q q2 c c2 (rowL M F S) w2 (by rw [HL.out]; omega) HN1.out HN2.out
  rw [HL.out] at HNU
  have HNU := Lib.hid HNU
  go_wp2_with fail
  refine HNU.out.mono ?_
  rintro e w3 ⟨rfl, hb3⟩
  have HN := Lib.hid (HN1.out.below hb3)
  have HB := Lib.hid (HB2.out.trans (hb3.mono HB2.out.size))
  clear HN1 HN2 HB2 HNU hb3 HR HRR
  have hsz := HB.out.size
  go_wp2_with (at_make; refine wpList_make_full _ rfl _ _ 30 rfl w'.heap.size 4 i0 (.bool false) 1 Try.underlying30 hi hz0 hz1 _ _ _ _ M rfl rfl rfl rfl (by rw [hz2]; omega) (by unfold maxLen; omega) hsz ?_)
  intro w4 hown hg
  have hB4 := HB.out.grown hg hsz (fun k hk => by cases hk)
  rw [toList_madeCells_one, cellsB_zero] at hown
  obtain ⟨rb, hrb⟩ : ∃ rb, rb = w3.heap.size := ⟨_, rfl⟩
  have hrw : w'.heap.size ≤ rb := by omega
  have HO := Lib.hid hown
  have HB4 := Lib.hid hB4
  have HN4 : Hid (IsNums w4 q (rowL M F S)) := HN.out.below ((Below.refl _ _).grown hg (Nat.le_refl _) (fun k hk => by cases hk))
  have HN3 := HN
  clear hown hg hB4 HN HB hsz
  have HNE : Hid (q ≠ some ⟨rb, 0, none⟩) := by
    intro hq
    obtain h0 | ⟨g, hgq, hg, _⟩ := HN3.out
    · have := HL.out; rw [h0] at this; simp at this; omega
    · rw [hq] at hgq; injection hgq with hgq; injection hgq with hgq; omega
  rw [← hrb] at HO ⊢
  clear hrb HN3
  go_wp2_with fail
  go_loopw [9, 11, 36] (fun o _ i wr => ∃ j : Nat, j ≤ M ∧ i = .int .i64 (j : Int) ∧ o = .bool (onceF (rowF M F S) j) ∧ Hid (wr.ownsRow w'.heap.size 4 1 (.slice (some ⟨rb, 0, none⟩) M M) M (cellsB M (seenF (rowF M F S) j))) ∧ Hid (Below w'.heap.size w' wr) ∧ Hid (IsNums wr q (rowL M F S)) ∧ Hid (q ≠ some ⟨rb, 0, none⟩)) (fun _ _ i _ => M - (intOf i).toNat)
  case atStart => exact ⟨0, Nat.zero_le _, rfl, rfl, HO, HB4, HN4, HNE⟩
  case round =>
    clear HO HB4 HN4 HNE
    obtain ⟨j, hj, rfl, rfl, HO, HB, HN, HNE⟩ := hrel
    by_cases hlt : j < M
    · obtain h0 | ⟨g, rfl, hg, hc⟩ := HN.out
      · have := HL.out; rw [h0] at this; simp at this; omega
      have c1 := hc j _ (rowL_at hlt)
      have hpl := Nat.mod_lt (F + j * S) (show 0 < M by omega)
      have hrow : (F + j * S) % M = rowF M F S j := rfl
      rw [hrow] at c1 hpl
      have c2 := HO.out.cellAt (rowF M F S j) (by omega)
      rw [cellsB_at _ _ _ hpl] at c2
      have f2 := HO.out.frozenAt (rowF M F S j)
      have hO2 := (HO.out.stored (rowF M F S j) (.bool true)).1
      rw [cellsB_set] at hO2
      have HO2 : Hid ((wr.setCell ⟨rb, rowF M F S j, none⟩ (.bool true)).ownsRow w'.heap.size 4 1 (.slice (some ⟨rb, 0, none⟩) M M) M (cellsB M (seenF (rowF M F S) (j + 1)))) := hO2
      have HB2 : Hid (Below w'.heap.size w' (wr.setCell ⟨rb, rowF M F S j, none⟩ (.bool true))) := HB.out.setCell (p := ⟨rb, rowF M F S j, none⟩) hrw _
      have hgr : g ≠ rb := fun e => HNE.out (by rw [e])
      have HN2 : Hid (IsNums (wr.setCell ⟨rb, rowF M F S j, none⟩ (.bool true)) (some ⟨g, 0, none⟩) (rowL M F S)) := .inr ⟨g, rfl, by simpa using hg, fun k x hx => by
        rw [World.cell?_setCell_other _ _ _ _ (by intro e; injection e with e1 _; exact hgr e1.symm)]
        exact hc k x hx⟩
      have HON : Hid ((onceF (rowF M F S) j && !seenF (rowF M F S) j (rowF M F S j)) = onceF (rowF M F S) (j + 1)) := rfl
      have j1 : (j : Int) < M := by omega
      clear hO2 hc HO HB HN hrow
      generalize onceF (rowF M F S) j = O at *
      generalize seenF (rowF M F S) j (rowF M F S j) = sb at *
      generalize rowF M F S j = R at *
      cases O with
      | false =>
        go_wp2_with fail
        go_roundw
        case rel => exact ⟨j + 1, hlt, by go_num, by rw [← HON.out]; rfl, HO2, HB2, HN2, HNE⟩
        case measure => simp [intOf]; omega
      | true =>
        go_wp2_with fail
        go_roundw
        case rel => exact ⟨j + 1, hlt, by go_num, by rw [← HON.out]; simp, HO2, HB2, HN2, HNE⟩
        case measure => simp [intOf]; omega
    · obtain rfl : M = j := by omega
      have hne : ¬ (M : Int) < M := by omega
      have hon := HLO.out
      clear HO HN HNE
      by_cases hM3 : M < 2
      · have hM4 : (M : Int) < 2 := by omega
        rw [decide_eq_true hM3, Bool.true_or] at hon
        rw [hon]
        clear hon
        go_wp2_with fail
        go_ret
        exact ⟨rfl, HB.out⟩
      · have hM4 : ¬ (M : Int) < 2 := by omega
        rw [decide_eq_false hM3, Bool.false_or] at hon
        rw [hon]
        clear hon
        go_wp2_with fail
        refine (HMB.out _).mono ?_
        rintro e w5 ⟨rfl, hw5⟩
        subst hw5
        go_wp2_with fail
        refine (HG.out _).mono ?_
        rintro e w6 ⟨rfl, hw6⟩
        subst hw6
        clear HG HLO HL
        generalize hD : ((G : Int) == 1) = D
        go_wp2_with fail
        go_ret
        exact ⟨by simp, HB.out⟩
end Go.Proofs.Ytpjbdejgamajlaa
