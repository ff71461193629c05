/- math/bits.Mul; slices.Repeat of one number (written by genmgp.py). -/
import Derived.Test.YtlcpkplipfcdaaaDoorMgF
import Derived.Test.YtlcpkplipfcdaaaDoorPqL
import Derived.Test.YtlcpkplipfcdaaaDoorBelow
import Derived.Laws.CopyOwn
import Derived.Deep.Cut
namespace Go.Proofs.YtlcpkplipfcdaaaDoor
open Go.RowKit

theorem mul56 (m : Nat) (hm : m ≤ 1048576) (w : World) : Calls Tryd.prog 88 #[.int .u64 1, .int .u64 (m : Int)] w fun e w' => e = .returned (.tuple #[.int .u64 0, .int .u64 (m : Int)]) ∧ w' = w := by
  have hM := Tryd.bits_Mul64 1 m (by decide) (by omega) w
  rw [Nat.one_mul, Nat.div_eq_of_lt (by omega), Nat.mod_eq_of_lt (by omega)] at hM
  have HM := Lib.hid hM
  clear hM
  go_enter Tryd.func88, Tryd.ntmps88
  go_wp2_with (go_at_call 68; refine HM.out.mono ?_; rintro e w' ⟨rfl, hw'⟩; subst hw')
  go_ret2
  exact ⟨rfl, rfl⟩
/-- A row that holds -1 up to a place. -/
def fillM (m k : Nat) : List Value := List.replicate k (.int .i64 (-1)) ++ List.replicate (m - k) (.int .i64 0)
theorem fillM_len {m k : Nat} (h : k ≤ m) : (fillM m k).length = m := by simp [fillM]; omega
theorem fillM_zero (m : Nat) : fillM m 0 = List.replicate m (.int .i64 0) := by simp [fillM]
theorem fillM_at {m k j : Nat} (h : j < k) : (fillM m k)[j]? = some (.int .i64 (-1)) := by
  unfold fillM; rw [List.getElem?_append_left (by simpa using h)]; simp [h]
theorem fillM_step {m k c : Nat} (h : k + c ≤ m) : (fillM m k).take k ++ (List.replicate c (Value.int .i64 (-1)) ++ (fillM m k).drop (k + c)) = fillM m (k + c) := by
  unfold fillM
  rw [List.take_append_of_le_length (by simp), List.take_of_length_le (by simp), List.drop_append, List.drop_of_length_le (by simp)]
  simp only [List.length_replicate, List.nil_append, List.drop_replicate]
  rw [← List.append_assoc, List.replicate_append_replicate]
  congr 2
  omega
/-- What holds while a part is copied. -/
structure RepS (W Wc : World) (L : Nat → Bool) (w : World) : Prop where
  no : L 7 = false → w = W
  yes : L 7 = true → w = Wc
theorem RepS.keep {W Wc : World} {L : Nat → Bool} {w : World} (h : RepS W Wc L w) (i : Nat) (hi : i ≠ 7) : RepS W Wc (setL L i) w :=
  ⟨fun e => h.no (by simpa [setL, Ne.symm hi] using e), fun e => h.yes (by simpa [setL, Ne.symm hi] using e)⟩
set_option maxRecDepth 100000 in
set_option maxHeartbeats 4000000 in
theorem rep39 (m : Nat) (hm1 : 1 ≤ m) (hm : m ≤ 1048576) (b1 : Nat) (w : World) (hb1 : b1 < w.heap.size) (hc : w.cell? ⟨b1, 0, none⟩ = some (.int .i64 (-1))) :
    Calls Tryd.prog 62 #[.slice (some ⟨b1, 0, none⟩) 1 1, .int .i64 (m : Int)] w fun e w' => ∃ ob, e = .returned (.slice (some ⟨ob, 0, none⟩) m m) ∧ OwnersAt w' ob m (fun _ => -1) ∧ w.heap.size ≤ ob ∧ ob < w'.heap.size ∧ Below w.heap.size w w' := by
  obtain ⟨i0, hi, hz0, hz1, hz2⟩ := info_parts infoInt
  have hrm := run_make (P := Tryd.prog) w 46 3 i0 (.int .i64 0) Tryd.underlying46 hi hz0 .i64 .i64 m m (by omega) (by omega) (by rw [hz2]; omega) (by omega)
  rw [hz1, Int.toNat_natCast, Nat.mul_one] at hrm
  have HMU := Lib.hid (mul56 m hm w)
  have hsi : (Tryd.prog.info? 3).map (·.size) = some 1 := by rw [hi]; simp [hz1]
  have hcl : madeCells (Value.int .i64 0).cells m = (fillM m 0).toArray := by
    apply Array.toList_inj.1
    rw [fillM_zero]
    exact toList_madeCells_one (Value.int .i64 0) m
  rw [hcl] at hrm
  clear hz2
  obtain ⟨W0, hW0⟩ : ∃ W0, W0 = w.alloc (.cells (fillM m 0).toArray 3) := ⟨_, rfl⟩
  obtain ⟨ob, hob⟩ : ∃ ob, ob = w.heap.size := ⟨_, rfl⟩
  have hR0 : Row W0 ob 3 (fillM m 0).toArray := by rw [hW0, hob]; exact Row.new w _ _
  have hB0 : Below w.heap.size w W0 := by rw [hW0]; exact below_alloc w _
  have hcq := run_copy_row (P := Tryd.prog) W0 46 46 3 3 ob 0 m m ⟨b1, 0, none⟩ 1 1 (fillM m 0).toArray 3 [.int .i64 (-1)] Tryd.underlying46 hsi hR0 (Nat.min_eq_left (show 1 ≤ m by omega)).symm (fun j v hj => by
    match j, hj with
    | 0, hj => obtain rfl : Value.int .i64 (-1) = v := by simpa using hj
               rw [Addr.add_mid, (bcell hB0).1 _ _ hb1]; exact hc
    | j + 1, hj => simp at hj) (by rw [List.size_toArray, fillM_len (Nat.zero_le m)]; simp; omega) (by intro v hv; simp at hv; subst hv; rfl)
  have hst := fillM_step (m := m) (k := 0) (c := 1) (by omega)
  simp only [List.take_zero, List.nil_append, List.replicate_one, Nat.zero_add] at hst
  have hcp : (Builtin.copy_ #[46, 46] 3 #[.slice (some ⟨ob, 0, none⟩) m m, .slice (some ⟨b1, 0, none⟩) 1 1]).run Tryd.prog W0 = .ok (.int .i64 1) (W0.setRow ob (fillM m 1).toArray) := by
    rw [hcq]
    simp only [List.take_zero, List.nil_append, List.length_singleton, Nat.zero_add]
    rw [hst]; rfl
  clear hcq
  rw [← hW0, ← hob] at hrm
  have HR1 : Hid (Row (W0.setRow ob (fillM m 1).toArray) ob 3 (fillM m 1).toArray) := setRow_heap W0 ob _ _ _ _ hR0
  have HB1 : Hid (Below w.heap.size w (W0.setRow ob (fillM m 1).toArray)) := below_setRow hB0 (by rw [hob]; exact Nat.le_refl _) _
  have HOB : Hid (w.heap.size ≤ ob) := by rw [hob]; exact Nat.le_refl w.heap.size
  clear hR0 hB0 hst hob hW0 hc
  generalize W0.setRow ob (fillM m 1).toArray = W1 at *
  go_enter Tryd.func62, Tryd.ntmps62
  go_wp2_with (go_at_call 88; refine HMU.out.mono ?_; rintro e w' ⟨rfl, hw'⟩; subst w')
  clear hrm hcp hi hz0 hz1
  go_loopw [8] (fun i wr => ∃ k : Nat, 1 ≤ k ∧ k ≤ m ∧ i = .int .i64 (k : Int) ∧ Hid (Row wr ob 3 (fillM m k).toArray) ∧ Hid (Below w.heap.size w wr)) (fun i _ => m - (intOf i).toNat)
  case atStart => exact ⟨1, Nat.le_refl _, hm1, rfl, HR1, HB1⟩
  case round =>
    clear HR1 HB1
    obtain ⟨k, hk1, hkm, rfl, HR, HB⟩ := hrel
    by_cases hlt : k < m
    · obtain ⟨c, hcm, hc1, hc2, hc3⟩ : ∃ c, c = Nat.min k (m - k) ∧ c ≤ k ∧ k + c ≤ m ∧ 1 ≤ c := by
        rcases Nat.le_total k (m - k) with h | h
        · exact ⟨k, (Nat.min_eq_left h).symm, by omega, by omega, by omega⟩
        · exact ⟨m - k, (Nat.min_eq_right h).symm, by omega, by omega, by omega⟩
      have hRd : Row wr.drew ob 3 (fillM m k).toArray := HR.out.drew
      have hcq := run_copy_row (P := Tryd.prog) wr.drew 46 46 3 3 ob k (m - k) (m - k) ⟨ob, 0, none⟩ k m (fillM m k).toArray 3 (List.replicate c (.int .i64 (-1))) Tryd.underlying46 hsi hRd (by rw [List.length_replicate]; exact hcm) (fun j v hj => by
        have hjc : j < c := by
          rcases Nat.lt_or_ge j c with h | h
          · exact h
          · rw [List.getElem?_eq_none (by simpa using h)] at hj; cases hj
        rw [List.getElem?_replicate, if_pos hjc] at hj
        rw [Addr.add_mid, hRd.cell (0 + j), ← Option.some.inj hj]
        simpa using fillM_at (m := m) (k := k) (j := j) (by omega)) (by rw [List.size_toArray, fillM_len hkm, List.length_replicate]; omega) (by intro v hv; rw [List.eq_of_mem_replicate hv]; rfl)
      have hst := fillM_step hc2
      have hcp : (Builtin.copy_ #[46, 46] 3 #[.slice (some ⟨ob, k, none⟩) (m - k) (m - k), .slice (some ⟨ob, 0, none⟩) k m]).run Tryd.prog wr.drew = .ok (.int .i64 (c : Int)) (wr.drew.setRow ob (fillM m (k + c)).toArray) := by
        rw [hcq]
        simp only [List.length_replicate, List.append_assoc]
        rw [hst]; rfl
      clear hcq
      have HR2 : Hid (Row (wr.drew.setRow ob (fillM m (k + c)).toArray) ob 3 (fillM m (k + c)).toArray) := setRow_heap wr.drew ob _ _ _ _ hRd
      have HB2 : Hid (Below w.heap.size w (wr.drew.setRow ob (fillM m (k + c)).toArray)) := below_setRow HB.out.drew HOB.out _
      have k1 : (k : Int) < m := by omega
      have k2 : (k : Int) ≤ m := by omega
      have hw := wrapS (k + c) (by omega)
      have hw2 : ((k + c : Nat) : Int) = (k : Int) + (c : Int) := by omega
      rw [hw2] at hw
      clear hRd hst HR HB hcm
      have hmk : ¬ (m = k) := by omega
      go_upto_region 9 with fail
      refine region_mixt 9 [some (.int .i64 (k : Int)), some (.slice (some ⟨ob, 0, none⟩) m m), some (.int .i64 (k : Int)), some (.slice (some ⟨ob, k, none⟩) (m - k) (m - k)), some (.slice (some ⟨ob, 0, none⟩) m m), some (.int .i64 (k : Int)), some (.slice (some ⟨ob, 0, none⟩) k m), some (.int .i64 (c : Int)), some (.int .i64 ((k : Int) + (c : Int)))]
        [[false, false, false, false, false, false, false, false, false], [false, false, false, false, false, false, false, false, false], [false, false, false, false, false, false, false, false, false], [false, true, true, false, false, false, false, false, false], [false, false, false, false, false, false, false, false, false], [false, false, false, false, false, false, false, false, false], [false, false, false, false, true, true, false, false, false], [false, false, false, true, false, false, true, false, false], [true, false, false, false, false, false, false, true, false]]
        (fun LL _ w9 => RepS wr.drew (wr.drew.setRow ob (fillM m (k + c)).toArray) LL w9)
        (by kernel_rfl) (by kernel_rfl) (by kernel_rfl) (by kernel_rfl) (by kernel_rfl) (by decide) ?_ ?_ ?_
      · intro x
        exact ⟨fun _ => rfl, fun h => by cases h⟩
      · simp only [List.take_succ_cons, List.take_zero]
        refine ⟨?_, ?_, ?_, ?_, ?_, ?_, ?_, ?_, ?_, trivial⟩
        all_goals
          intro L x w9 hS hl hp K9 hK9
          have hs : RepS wr.drew (wr.drew.setRow ob (fillM m (k + c)).toArray) L w9 := hS
          clear hS
          replace hK9 := hK9.out
          simp only [actMix, pickV, List.tail_cons, List.headD_cons, Act.put, List.setIfInBounds_toArray, List.set_cons_zero, List.set_cons_succ] at hK9 ⊢
        · clear hp
          go_simp
          with_reducible refine hK9 _ ?_
          exact hs.keep 0 (by decide)
        · clear hp
          go_simp
          with_reducible refine hK9 _ ?_
          exact hs.keep 1 (by decide)
        · clear hp
          go_simp
          with_reducible refine hK9 _ ?_
          exact hs.keep 2 (by decide)
        · clear hp
          go_simp
          with_reducible refine hK9 _ ?_
          exact hs.keep 3 (by decide)
        · clear hp
          go_simp
          with_reducible refine hK9 _ ?_
          exact hs.keep 4 (by decide)
        · clear hp
          go_simp
          with_reducible refine hK9 _ ?_
          exact hs.keep 5 (by decide)
        · clear hp
          go_simp
          with_reducible refine hK9 _ ?_
          exact hs.keep 6 (by decide)
        · obtain rfl := hs.no hl
          clear hp
          go_simp
          with_reducible refine hK9 _ ?_
          exact ⟨fun e => by simp [setL] at e, fun _ => rfl⟩
        · clear hp
          go_simp
          with_reducible refine hK9 _ ?_
          exact hs.keep 8 (by decide)
      intro L x w9 hS hL
      have hs : RepS wr.drew (wr.drew.setRow ob (fillM m (k + c)).toArray) L w9 := hS
      obtain rfl := hs.yes (hL 7 (by decide))
      clear hS hs hL
      simp only [actMix, pickV, List.tail_cons, List.headD_cons, Act.put, List.setIfInBounds_toArray, List.set_cons_zero, List.set_cons_succ, List.replicate_succ, List.replicate_zero, List.drop_succ_cons, List.drop_zero, List.take_succ_cons, List.take_zero]
      clear hcp
      generalize wr.drew.setRow ob (fillM m (k + c)).toArray = W9 at *
      go_wp2_with fail
      go_roundw
      case rel => exact ⟨k + c, by omega, hc2, by rw [hw2], HR2, HB2⟩
      case measure => simp [intOf]; omega
    · obtain rfl : k = m := by omega
      have hne : ¬ (k : Int) < k := by omega
      have HO : Hid (OwnersAt wr ob k (fun _ => -1)) := fun q hq => ⟨by rw [HR.out.cell q]; simpa using fillM_at (m := k) hq, HR.out.free q⟩
      have hlt := HR.out.lt
      clear HR
      go_wp2_with fail
      go_ret
      exact ⟨ob, rfl, HO.out, HOB.out, hlt, HB.out⟩
end Go.Proofs.YtlcpkplipfcdaaaDoor
