/- choice.loads by the count. -/
import Derived.Test.YtcmjcpgfnkhnoaaCaB
namespace Go.Proofs.Ytcmjcpgfnkhnoaa
open Go.RowKit

set_option maxHeartbeats 4000000 in
set_option maxRecDepth 100000 in
theorem loads_count (a : Option Addr) (c : Nat) (cs : List Cand) (hl : cs.length ≤ 100000) (hok : ∀ x ∈ cs, Small x) (w : World) (hf : IsCands w a c cs) :
    Calls Try.prog 30 #[.func (.func 31) #[] #[], .slice a cs.length c] w fun e w' => ∃ (a' : Option Addr) (ys : List Nat), e = .returned (.slice a' cs.length cs.length) ∧ ys.length = cs.length ∧ (∀ i, i < cs.length → kf (ys[i]?.getD 0) = (cs[i]?.map (ck)).getD 0) ∧ w'.ownsRow w.heap.size 52 1 (.slice a' cs.length cs.length) cs.length (cellsF64 ys) ∧ Below w.heap.size w w' := by
  obtain ⟨i0, hi, hz0, hz1, hz2⟩ := info_parts infoF64
  have HFF := Lib.hid hf
  have HOK := Lib.hid hok
  have HF := Lib.hid count31
  have HK : Hid (∀ c, ck c = ck c) := fun _ => rfl
  clear hf hok HK
  have hsf := store_flt Try.prog
  go_enter Try.func30, Try.ntmps30
  go_wp2_with (at_make; refine wpList_make_full _ rfl _ _ 74 rfl w.heap.size 52 i0 (.float .f64 0) 1 Try.underlying74 hi hz0 hz1 _ _ _ _ cs.length rfl rfl rfl rfl (by rw [hz2]; omega) (by unfold maxLen; omega) (Nat.le_refl _) ?_)
  intro w1 hown1 hg1
  have hB1 : Below w.heap.size w w1 := (Below.refl _ _).grown hg1 (Nat.le_refl _) (fun k hk => by cases hk)
  rw [toList_madeCells_one] at hown1
  have hml : List.replicate cs.length (Value.float .f64 0) = cellsF64 (List.replicate cs.length 0) := by unfold cellsF64; rw [List.map_replicate]
  rw [hml] at hown1
  obtain ⟨rb, hrb⟩ : ∃ rb, rb = w.heap.size := ⟨_, rfl⟩
  have HRB : Hid (rb = w.heap.size) := hrb
  have HO1 := Lib.hid hown1
  have HB1 := Lib.hid hB1
  clear hown1 hg1 hB1 hml
  rw [← hrb] at HO1 ⊢
  clear hrb
  go_wp2_with fail
  go_loopw [13] (fun i wr => ∃ (j : Nat) (ys : List Nat), j ≤ cs.length ∧ i = .int .i64 (j : Int) ∧ ys.length = cs.length ∧ (∀ i, i < j → kf (ys[i]?.getD 0) = (cs[i]?.map (ck)).getD 0) ∧ wr.ownsRow rb 52 1 (.slice (some ⟨rb, 0, none⟩) cs.length cs.length) cs.length (cellsF64 ys) ∧ Below w.heap.size w wr) (fun i _ => cs.length - (intOf i).toNat)
  case atStart => exact ⟨0, _, Nat.zero_le _, rfl, List.length_replicate, fun i h => by omega, HO1.out, HB1.out⟩
  case round =>
    obtain ⟨j, ys, hj, rfl, hyl, hys, ho, hb⟩ := hrel
    by_cases hlt : j < cs.length
    · obtain h0 | ⟨bk, o, rfl, hbk, hc, hcell⟩ := HFF.out.below hb
      · subst h0; simp at hlt
      obtain ⟨c1, c2, c3, c4⟩ := hcell j cs[j] (by simp [hlt])
      have hm := HF.out cs[j] (HOK.out _ (List.getElem_mem hlt))
      have hk1 : (cs[j]?.map (ck)).getD 0 = (ck) cs[j] := by simp [hlt]
      obtain ⟨f, hfe⟩ : ∃ f, f = cs[j] := ⟨_, rfl⟩
      rw [← hfe] at c1 c2 c3 c4 hm hk1
      clear hcell hfe
      obtain ⟨N, v, b, t⟩ := f
      simp only at c1 c2 c3 c4
      unfold candV at hm
      simp only at hm
      have HM := Lib.hid hm
      have HK1 := Lib.hid hk1
      have HYS := Lib.hid hys
      have HO := Lib.hid ho
      have HB := Lib.hid hb
      have j1 : (j : Int) < cs.length := by omega
      clear hm hk1 hys ho hb
      go_wp2_with fail
      obtain ⟨u, hcell64⟩ : ∃ u, (cellsF64 ys)[j]? = some (.float .f64 u) := ⟨ys[j], by simp [cellsF64, hyl, hlt]⟩
      have hsz : (wr.alloc (.cells #[.string N, .int .i64 v, .int .i64 b, .float .f64 t] 54)).heap.size = wr.heap.size + 1 := World.size_alloc _ _
      have HBA := Lib.hid (HB.out.alloc HB.out.size (.cells #[.string N, .int .i64 v, .int .i64 b, .float .f64 t] 54))
      have HOA := Lib.hid (HO.out.alloc (.cells #[.string N, .int .i64 v, .int .i64 b, .float .f64 t] 54))
      go_wp2_with (go_at_call 31; refine (HM.out _).mono ?_; rintro e w3 ⟨y, rfl, hky, hb3⟩; have hO3 := own_below HOA.out hb3; have hcl3 := hO3.cellAt j (by omega); rw [hcell64] at hcl3; have hfr3 := hO3.frozenAt j; have HS3 := Lib.hid (hO3.stored j (.float .f64 y)); have HB3 := Lib.hid (HBA.out.trans (hb3.mono HBA.out.size)); have HKY := Lib.hid hky; clear hO3 hb3 hky)
      have hset : (cellsF64 ys).set j (.float .f64 y) = cellsF64 (ys.set j y) := by unfold cellsF64; rw [List.map_set]
      have hO4 := HS3.out.1
      rw [hset] at hO4
      have HO4 := Lib.hid hO4
      have HB4 := Lib.hid (HB3.out.setCell (p := ⟨rb, j, none⟩) (Nat.le_of_eq HRB.out.symm) (.float .f64 y))
      have HY : Hid (∀ i, i < j + 1 → kf ((ys.set j y)[i]?.getD 0) = (cs[i]?.map ck).getD 0) := by
        intro i hi
        by_cases hij : i = j
        · subst hij
          rw [HK1.out, ← HKY.out, List.getElem?_set_self (by omega)]; rfl
        · rw [List.getElem?_set_ne (fun h => hij h.symm)]
          exact HYS.out i (by omega)
      clear hO4 hset HS3 HB3
      go_roundw
      case rel => exact ⟨j + 1, ys.set j y, hlt, by go_num, by rw [List.length_set]; exact hyl, HY.out, HO4.out, HB4.out⟩
      case measure => simp [intOf]; omega
    · obtain rfl : cs.length = j := by omega
      have hne : ¬ ((cs.length : Int) < cs.length) := by omega
      have HO := Lib.hid ho
      have HB := Lib.hid hb
      have HYS := Lib.hid hys
      clear ho hb hys
      go_wp2_with fail
      go_ret
      have hO := HO.out
      rw [HRB.out] at hO
      refine ⟨some ⟨w.heap.size, 0, none⟩, ?_, ys, hyl, HYS.out, hO, HB.out⟩
      rw [← HRB.out]; rfl
end Go.Proofs.Ytcmjcpgfnkhnoaa
