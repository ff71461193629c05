/- prime: Factors; the law PrimeFactors. -/
import Derived.Test.YtpjbdejgamajlaaPqB
import Derived.Test.YtpjbdejgamajlaaPqL
namespace Go.Proofs.Ytpjbdejgamajlaa
open Go.RowKit

theorem factors10_no (n : Int) (h : n < 2 ∨ 1048576 < n) (w : World) :
    Calls Try.prog 10 #[.int .i64 n] w fun e w' => e = .returned (.slice none 0 0) ∧ w' = w := by
  by_cases hm : 1048576 < n
  · go_enter Try.func10, Try.ntmps10
    go_wp2_with fail
    go_ret
    exact ⟨rfl, rfl⟩
  · have h2 : ¬ 1 < n := by omega
    go_enter Try.func10, Try.ntmps10
    go_wp2_with fail
    go_loopw [0, 3, 4] (fun m l _ wr => m = .int .i64 n ∧ l = .slice none 0 0 ∧ wr = w) (fun _ _ _ _ => 0)
    case atStart => exact ⟨rfl, rfl, rfl⟩
    case round =>
      obtain ⟨rfl, rfl, rfl⟩ := hrel
      go_wp2_with fail
      go_ret
      exact ⟨rfl, rfl⟩
set_option maxHeartbeats 2000000 in
theorem factors10 (n : Nat) (h2 : 2 ≤ n) (hm : n ≤ 1048576) (w : World) :
    Calls Try.prog 10 #[.int .i64 (n : Int)] w fun e w' => ∃ (ps : List Nat) (a : Option Addr) (c : Nat), e = .returned (.slice a ps.length c) ∧ Fac n ps 1 ∧ IsNums w' a ps ∧ Below w.heap.size w w' := by
  obtain ⟨i0, hi, hz0, hz1, hz2⟩ := info_parts infoInt
  have HS := Lib.hid (Fac.start (N := n) (by omega))
  have g : ¬ (1048576 : Int) < n := by omega
  go_enter Try.func10, Try.ntmps10
  go_wp2_with fail
  go_loopw [0, 3, 4] (fun m l _ wr => ∃ (c : Nat) (ps : List Nat), m = .int .i64 (c : Int) ∧ c ≤ n ∧ Hid (Fac n ps c) ∧ Hid (wr.ownsRow w.heap.size 3 1 l ps.length (cellsN ps)) ∧ Hid (Below w.heap.size w wr)) (fun m _ _ _ => (intOf m).toNat)
  case atStart => exact ⟨n, [], rfl, Nat.le_refl _, HS, World.ownsRow_nil _ _ _ _, Below.refl _ _⟩
  case round =>
    clear HS
    obtain ⟨c, ps, rfl, hcn, HF, HO, HB⟩ := hrel
    have hlen := HF.out.len hm
    have hpos := HF.out.pos
    by_cases hc : 1 < c
    · have hc' : (1 : Int) < c := by omega
      have HL := Lib.hid (least20 c (by omega) (by omega) wr)
      have hsz := HB.out.size
      go_wp2_with fail
      refine HL.out.mono ?_
      rintro e w' ⟨p, rfl, hp, hw'⟩
      subst hw'
      have HF2 := Lib.hid (HF.out.step hp)
      have hp2 := hp.1
      have hz : ¬ (p : Int) = 0 := by omega
      have hdv := tdivN c p
      have hlt := Nat.div_lt_self (show 0 < c by omega) hp2
      have HOA := Lib.hid (HO.out.alloc (.cells #[.int .i64 (p : Int)] 3))
      have HBA := Lib.hid (HB.out.alloc hsz (.cells #[.int .i64 (p : Int)] 3))
      clear hp HF HL
      generalize c / p = q at *
      go_wp2_with (at_builtin; refine wpList_append_own _ rfl _ _ 25 rfl w.heap.size 3 i0 (.int .i64 0) 1 8 Try.underlying25 hi hz0 hz1 hz2 rfl (by decide) _ _ _ rfl HOA.out ⟨w'.heap.size, 0, none⟩ 1 1 [.int .i64 (p : Int)] rfl rfl (src_one _ _ _) (one_int _) (by unfold maxLen; omega) (by omega) (by simp; omega) ?_)
      intro v' w1 hown' hgrow _
      rw [cellsN_snoc] at hown'
      have HO1 : Hid (w1.ownsRow w.heap.size 3 1 v' (ps ++ [p]).length (cellsN (ps ++ [p]))) := by rw [List.length_append, List.length_singleton]; exact hown'
      have HB1 := Lib.hid (HBA.out.grown hgrow (by simp; omega) (fun k hk => (HO.out.lt k hk).1))
      clear hown' hgrow HBA HOA HO HB
      go_wp2_with fail
      go_roundw
      case rel => exact ⟨q, ps ++ [p], rfl, by omega, HF2, HO1, HB1⟩
      case measure => simp [intOf]; omega
    · obtain rfl : c = 1 := by omega
      obtain ⟨a, k, hv, _⟩ := own_sliceI HO.out
      subst hv
      have HN := Lib.hid (nums_own HO.out)
      go_wp2_with fail
      go_ret
      exact ⟨ps, a, k, rfl, HF.out, HN.out, HB.out⟩
end Go.Proofs.Ytpjbdejgamajlaa
