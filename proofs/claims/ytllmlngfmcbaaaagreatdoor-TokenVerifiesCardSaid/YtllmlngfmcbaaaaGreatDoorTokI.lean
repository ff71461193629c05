/- The reference's reading of a token's first two parts. -/
import Derived.Test.YtllmlngfmcbaaaaGreatDoorTJ
import Derived.Test.YtllmlngfmcbaaaaGreatDoorRegT
import Derived.Test.YtllmlngfmcbaaaaGreatDoorCut
import Derived.OwnWalk
namespace Go.Proofs.YtllmlngfmcbaaaaGreatDoor
open Go.RowKit

def untilV (o : Option (List UInt8 × Nat)) : Value := match o with
  | some (a, n) => .tuple #[.string (bs a), .int .i64 (n : Int), .bool true]
  | none => .tuple #[.string ⟨#[]⟩, .int .i64 0, .bool false]
theorem digs_step (r : List UInt8) (m : Nat) (c : UInt8) (hc : r[m]? = some c) (h : (r.take m).all dig = true) (h1 : 48 ≤ c.toNat) (h2 : c.toNat ≤ 57) : (r.take (m + 1)).all dig = true ∧ numT (r.take (m + 1)) = 10 * numT (r.take m) + (c.toNat - 48) := by
  rw [List.take_add_one, hc, Option.toList_some, List.all_append, numT_snoc, h]
  refine ⟨?_, rfl⟩
  simp [dig]; omega
theorem not_mem_step (s : ByteArray) (j : Nat) (hj : j < s.size) (h : (46 : UInt8) ∉ s.data.toList.take j) (hc : s[j].toNat ≠ 46) : (46 : UInt8) ∉ s.data.toList.take (j + 1) := by
  rw [take_snocT s j hj, List.mem_append, not_or]
  refine ⟨h, fun e => hc ?_⟩
  rw [List.mem_singleton] at e
  rw [← e]; rfl
theorem at_cut (s : ByteArray) (j : Nat) (hj : j < s.size) (hc : s[j].toNat = 46) : s.data.toList = s.data.toList.take j ++ 46 :: s.data.toList.drop (j + 1) := by
  have h1 := toList_getT s j hj
  have h2 : s[j] = 46 := by rw [← UInt8.toNat_inj]; exact hc
  rw [h2] at h1
  conv => lhs; rw [← List.take_append_drop j s.data.toList]
  congr 1
  rw [List.drop_eq_getElem_cons (by rw [← Lib.size_eq]; exact hj)]
  congr 1
set_option maxRecDepth 1000000 in
set_option maxHeartbeats 80000000 in
theorem until31 (s : ByteArray) (hs : s.size ≤ 1000000) (w : World) (hw : Pow w) :
    Calls Tryz.prog 31 #[.string s] w fun e w' => e = .returned (untilV (untilL s.data.toList)) ∧ Below w.heap.size w w' := by
  obtain ⟨R, hR⟩ : ∃ R, R = untilL s.data.toList := ⟨_, rfl⟩
  rw [← hR]
  have HR := Lib.hid hR
  have HPW := Lib.hid hw
  have HZ := Lib.hid (Lib.size_eq s)
  have hsI : (s.size : Int) ≤ 1000000 := by omega
  clear hR hw
  go_enter Tryz.func31, Tryz.ntmps31
  go_wp2_with fail
  go_loopw [5] (fun i wr => ∃ j : Nat, j ≤ s.size ∧ i = .int .i64 (j : Int) ∧ Hid ((46 : UInt8) ∉ s.data.toList.take j) ∧ Below w.heap.size w wr) (fun i _ => s.size - (intOf i).toNat)
  case atStart => exact ⟨0, Nat.zero_le _, rfl, (by simp [Hid]), Below.refl _ _⟩
  case round =>
    obtain ⟨j, hj, rfl, hr, hb⟩ := hrel
    by_cases hlt : j < s.size
    · have jl : (j : Int) < s.size := by omega
      by_cases h46 : s[j].toNat = 46
      · have e46 : ((s[j].toNat : Int) != 46) = false := by rw [bne_eq_false_iff_eq]; omega
        have hcut := Lib.hid (at_cut s j hlt h46)
        clear h46
        go_wp2_with fail
        clear e46
        rename_i wr0 _ _ _ _
        go_loopw [6, 7] (fun kv nv wr => ∃ K m : Nat, kv = .int .i64 (K : Int) ∧ Hid (K = j + 1 + m) ∧ K ≤ s.size ∧ m ≤ 13 ∧ Hid (((s.data.toList.drop (j + 1)).take m).all dig = true) ∧ (∃ N : Nat, nv = .int .i64 (N : Int) ∧ Hid (N = numT ((s.data.toList.drop (j + 1)).take m))) ∧ Below w.heap.size w wr) (fun kv _ _ => s.size - (intOf kv).toNat)
        case atStart => exact ⟨j + 1, 0, by go_num, rfl, hlt, Nat.zero_le _, rfl, ⟨0, rfl, rfl⟩, hb⟩
        case round =>
          clear hb
          obtain ⟨K, m, rfl, hK, hKs, hm, hd, ⟨N, rfl, hN⟩, hb⟩ := hrel
          have hKI : (K : Int) = j + 1 + m := by have := hK.out; omega
          have HKI := Lib.hid hKI
          by_cases hk : K < s.size
          · have kl : (K : Int) < s.size := by omega
            have hcr : Hid ((s.data.toList.drop (j + 1))[m]? = some s[K]) := by
              show _ = _
              rw [List.getElem?_drop, ← hK.out]
              exact toList_getT s K hk
            by_cases g48 : (48 : Int) ≤ s[K].toNat
            · have hne : Hid (s[K] ≠ 46) := fun e => by rw [e] at g48; exact absurd g48 (by decide)
              have e46 : ((s[K].toNat : Int) != 46) = true := by rw [bne_iff_ne]; omega
              by_cases g57 : (s[K].toNat : Int) ≤ 57
              · by_cases h13 : m ≤ 12
                · have d1 : (K : Int) - j ≤ 13 := by omega
                  have d0 : (0 : Int) ≤ (K : Int) - j := by omega
                  have hnb : Hid (N < 10000000000000) := by
                    show N < _
                    rw [hN.out]; exact numT_13 _ (by rw [List.length_take]; omega) hd.out
                  have hnb2 : (N : Int) < 10000000000000 := by have := hnb.out; omega
                  obtain ⟨s1, s2⟩ := digs_step _ m _ hcr.out hd.out (by omega) (by omega)
                  have hst := Lib.hid s1
                  have hnn : Hid (((numT ((s.data.toList.drop (j + 1)).take (m + 1)) : Nat) : Int) = 10 * (N : Int) + (s[K].toNat : Int) - 48) := by
                    show _ = _
                    rw [s2, ← hN.out]; omega
                  clear hKI e46 s1 s2
                  go_wp2_with fail
                  go_roundw
                  case rel => exact ⟨K + 1, m + 1, by go_num, by show K + 1 = _; rw [hK.out]; omega, hk, by omega, hst, ⟨_, by rw [hnn.out], rfl⟩, hb⟩
                  case measure => simp [intOf]; omega
                · have d1 : ¬ (K : Int) - j ≤ 13 := by omega
                  have d2 : (13 : Int) < (K : Int) - j := by omega
                  have hno : Hid (untilL s.data.toList = none) := by
                    show _ = _
                    rw [hcut.out]
                    exact until_2 _ _ hr.out m _ hd.out hcr.out hne.out (.inr (by omega))
                  clear hKI
                  have f1 : decide (s.size ≤ j) = false := decide_eq_false (by omega)
                  have f2 : decide (s.size ≤ K) = false := decide_eq_false (by omega)
                  have f3 : IntKind.i64.wrap ((j : Int) + 1) = (j : Int) + 1 := IntWalk.i64_in _ (by omega)
                  
                  go_wp2_with fail
                  refine region_mixt 30 [some (.int .i64 (j : Int)), some (.string s), some (.int .i64 (s.size : Int)), some (.bool false), some (.bool false), some (.int .i64 (K : Int)), some (.string s), some (.int .i64 (s.size : Int)), some (.bool false), some (.bool false), some (.bool false), some (.string s), some (.int .i64 (K : Int)), some (.int .u8 (s[K].toNat : Int)), some (.bool true), some (.bool true), some (.bool true), some (undef), some (undef), some (.bool true), some (.bool true), some (undef), some (undef), some (undef), some (undef), some (undef), some (undef), some (undef), some (undef), some (.bool true)]
                    [[false, false, false, false, false, false, false, false, false, false, false, false, false, false, false, false, false, false, false, false, false, false, false, false, false, false, false, false, false, false], [false, false, false, false, false, false, false, false, false, false, false, false, false, false, false, false, false, false, false, false, false, false, false, false, false, false, false, false, false, false], [false, true, false, false, false, false, false, false, false, false, false, false, false, false, false, false, false, false, false, false, false, false, false, false, false, false, false, false, false, false], [true, false, true, false, false, false, false, false, false, false, false, false, false, false, false, false, false, false, false, false, false, false, false, false, false, false, false, false, false, false], [false, false, false, true, false, false, false, false, false, false, false, false, false, false, false, false, false, false, false, false, false, false, false, false, false, false, false, false, false, false], [false, false, false, false, true, false, false, false, false, false, false, false, false, false, false, false, false, false, false, false, false, false, false, false, false, false, false, false, false, false], [false, false, false, false, true, false, false, false, false, false, false, false, false, false, false, false, false, false, false, false, false, false, false, false, false, false, false, false, false, false], [false, false, false, false, true, false, true, false, false, false, false, false, false, false, false, false, false, false, false, false, false, false, false, false, false, false, false, false, false, false], [false, false, false, false, true, true, false, true, false, false, false, false, false, false, false, false, false, false, false, false, false, false, false, false, false, false, false, false, false, false], [false, false, false, false, true, false, false, false, true, false, false, false, false, false, false, false, false, false, false, false, false, false, false, false, false, false, false, false, false, false], [false, false, false, false, true, false, false, false, false, true, false, false, false, false, false, false, false, false, false, false, false, false, false, false, false, false, false, false, false, false], [false, false, false, false, false, false, false, false, false, false, true, false, false, false, false, false, false, false, false, false, false, false, false, false, false, false, false, false, false, false], [false, false, false, false, false, false, false, false, false, false, true, false, false, false, false, false, false, false, false, false, false, false, false, false, false, false, false, false, false, false], [false, false, false, false, false, false, false, false, false, false, true, true, true, false, false, false, false, false, false, false, false, false, false, false, false, false, false, false, false, false], [false, false, false, false, false, false, false, false, false, false, true, false, false, true, false, false, false, false, false, false, false, false, false, false, false, false, false, false, false, false], [false, false, false, false, false, false, false, false, false, false, true, false, false, false, true, false, false, false, false, false, false, false, false, false, false, false, false, false, false, false], [false, false, false, false, false, false, false, false, false, false, true, false, false, false, false, true, false, false, false, false, false, false, false, false, false, false, false, false, false, false], [false, false, false, false, false, false, false, false, false, false, false, false, false, false, false, false, true, false, false, false, false, false, false, false, false, false, false, false, false, false], [false, false, false, false, false, false, false, false, false, false, false, false, false, false, false, false, true, true, false, false, false, false, false, false, false, false, false, false, false, false], [false, false, false, false, false, false, false, false, false, false, false, false, false, false, false, false, true, false, true, false, false, false, false, false, false, false, false, false, false, false], [false, false, false, false, false, false, false, false, false, false, false, false, false, false, false, false, true, false, false, true, false, false, false, false, false, false, false, false, false, false], [false, false, false, false, false, false, false, false, false, false, false, false, false, false, false, false, false, false, false, false, true, false, false, false, false, false, false, false, false, false], [false, false, false, false, false, false, false, false, false, false, false, false, false, false, false, false, false, false, false, false, true, false, false, false, false, false, false, false, false, false], [false, false, false, false, false, false, false, false, false, false, false, false, false, false, false, false, false, false, false, false, true, false, true, false, false, false, false, false, false, false], [false, false, false, false, false, false, false, false, false, false, false, false, false, false, false, false, false, false, false, false, true, false, false, false, false, false, false, false, false, false], [false, false, false, false, false, false, false, false, false, false, false, false, false, false, false, false, false, false, false, false, true, true, false, true, true, false, false, false, false, false], [false, false, false, false, false, false, false, false, false, false, false, false, false, false, false, false, false, false, false, false, true, false, false, false, false, false, false, false, false, false], [false, false, false, false, false, false, false, false, false, false, false, false, false, false, false, false, false, false, false, false, true, false, false, false, false, false, true, false, false, false], [false, false, false, false, false, false, false, false, false, false, false, false, false, false, false, false, false, false, false, false, true, false, false, false, false, true, false, true, false, false], [false, false, false, false, false, false, false, false, false, false, false, false, false, false, false, false, false, false, false, false, true, false, false, false, false, false, false, false, true, false]]
                    (fun L x w1 => Below wr.heap.size wr w1)
                    (by kernel_rfl) (by kernel_rfl) (by kernel_rfl) (by kernel_rfl) (by kernel_rfl) (by decide) ?_ ?_ ?_
                  · intro _
                    exact ⟨rfl, rfl, rfl, Nat.le_refl _, fun _ _ => rfl⟩
                  · simp only [List.take_succ_cons, List.take_zero]
                    refine ⟨?_, ?_, ?_, ?_, ?_, ?_, ?_, ?_, ?_, ?_, ?_, ?_, ?_, ?_, ?_, ?_, ?_, ?_, ?_, ?_, ?_, ?_, ?_, ?_, ?_, ?_, ?_, ?_, ?_, ?_, trivial⟩
                    all_goals
                      intro L x w9 hS hl hp K9 hK9
                      have hs : Below wr.heap.size wr w9 := hS
                      clear hS hp hl
                      replace hK9 := hK9.out
                      simp only [actMix, pickV, List.tail_cons, List.headD_cons, Act.put, List.setIfInBounds_toArray, List.set_cons_zero, List.set_cons_succ] at hK9 ⊢
                    all_goals
                      go_simp
                      with_reducible refine hK9 _ ?_
                      exact hs
                  intro L x w9 hS hL
                  have hs : Below wr.heap.size wr w9 := hS
                  have hbf := hb.trans (hs.mono hb.size)
                  clear hS hL
                  simp only [actMix, pickV, List.tail_cons, List.headD_cons, Act.put, List.setIfInBounds_toArray, List.set_cons_zero, List.set_cons_succ, List.replicate_succ, List.replicate_zero, List.drop_succ_cons, List.drop_zero, List.take_succ_cons, List.take_zero]
                  go_wp2_with fail
                  go_ret3
                  exact ⟨by rw [HR.out, hno.out]; rfl, hbf⟩
              · have hno : Hid (untilL s.data.toList = none) := by
                  show _ = _
                  rw [hcut.out]
                  exact until_2 _ _ hr.out m _ hd.out hcr.out hne.out (.inl (by unfold dig; simp; omega))
                clear hKI
                have f1 : decide (s.size ≤ j) = false := decide_eq_false (by omega)
                have f2 : decide (s.size ≤ K) = false := decide_eq_false (by omega)
                have f3 : IntKind.i64.wrap ((j : Int) + 1) = (j : Int) + 1 := IntWalk.i64_in _ (by omega)
                
                go_wp2_with fail
                refine region_mixt 30 [some (.int .i64 (j : Int)), some (.string s), some (.int .i64 (s.size : Int)), some (.bool false), some (.bool false), some (.int .i64 (K : Int)), some (.string s), some (.int .i64 (s.size : Int)), some (.bool false), some (.bool false), some (.bool false), some (.string s), some (.int .i64 (K : Int)), some (.int .u8 (s[K].toNat : Int)), some (.bool true), some (.bool true), some (.bool true), some (undef), some (undef), some (.bool true), some (.bool true), some (undef), some (undef), some (undef), some (undef), some (undef), some (undef), some (undef), some (undef), some (.bool true)]
                  [[false, false, false, false, false, false, false, false, false, false, false, false, false, false, false, false, false, false, false, false, false, false, false, false, false, false, false, false, false, false], [false, false, false, false, false, false, false, false, false, false, false, false, false, false, false, false, false, false, false, false, false, false, false, false, false, false, false, false, false, false], [false, true, false, false, false, false, false, false, false, false, false, false, false, false, false, false, false, false, false, false, false, false, false, false, false, false, false, false, false, false], [true, false, true, false, false, false, false, false, false, false, false, false, false, false, false, false, false, false, false, false, false, false, false, false, false, false, false, false, false, false], [false, false, false, true, false, false, false, false, false, false, false, false, false, false, false, false, false, false, false, false, false, false, false, false, false, false, false, false, false, false], [false, false, false, false, true, false, false, false, false, false, false, false, false, false, false, false, false, false, false, false, false, false, false, false, false, false, false, false, false, false], [false, false, false, false, true, false, false, false, false, false, false, false, false, false, false, false, false, false, false, false, false, false, false, false, false, false, false, false, false, false], [false, false, false, false, true, false, true, false, false, false, false, false, false, false, false, false, false, false, false, false, false, false, false, false, false, false, false, false, false, false], [false, false, false, false, true, true, false, true, false, false, false, false, false, false, false, false, false, false, false, false, false, false, false, false, false, false, false, false, false, false], [false, false, false, false, true, false, false, false, true, false, false, false, false, false, false, false, false, false, false, false, false, false, false, false, false, false, false, false, false, false], [false, false, false, false, true, false, false, false, false, true, false, false, false, false, false, false, false, false, false, false, false, false, false, false, false, false, false, false, false, false], [false, false, false, false, false, false, false, false, false, false, true, false, false, false, false, false, false, false, false, false, false, false, false, false, false, false, false, false, false, false], [false, false, false, false, false, false, false, false, false, false, true, false, false, false, false, false, false, false, false, false, false, false, false, false, false, false, false, false, false, false], [false, false, false, false, false, false, false, false, false, false, true, true, true, false, false, false, false, false, false, false, false, false, false, false, false, false, false, false, false, false], [false, false, false, false, false, false, false, false, false, false, true, false, false, true, false, false, false, false, false, false, false, false, false, false, false, false, false, false, false, false], [false, false, false, false, false, false, false, false, false, false, true, false, false, false, true, false, false, false, false, false, false, false, false, false, false, false, false, false, false, false], [false, false, false, false, false, false, false, false, false, false, true, false, false, false, false, true, false, false, false, false, false, false, false, false, false, false, false, false, false, false], [false, false, false, false, false, false, false, false, false, false, false, false, false, false, false, false, true, false, false, false, false, false, false, false, false, false, false, false, false, false], [false, false, false, false, false, false, false, false, false, false, false, false, false, false, false, false, true, true, false, false, false, false, false, false, false, false, false, false, false, false], [false, false, false, false, false, false, false, false, false, false, false, false, false, false, false, false, true, false, true, false, false, false, false, false, false, false, false, false, false, false], [false, false, false, false, false, false, false, false, false, false, false, false, false, false, false, false, true, false, false, true, false, false, false, false, false, false, false, false, false, false], [false, false, false, false, false, false, false, false, false, false, false, false, false, false, false, false, false, false, false, false, true, false, false, false, false, false, false, false, false, false], [false, false, false, false, false, false, false, false, false, false, false, false, false, false, false, false, false, false, false, false, true, false, false, false, false, false, false, false, false, false], [false, false, false, false, false, false, false, false, false, false, false, false, false, false, false, false, false, false, false, false, true, false, true, false, false, false, false, false, false, false], [false, false, false, false, false, false, false, false, false, false, false, false, false, false, false, false, false, false, false, false, true, false, false, false, false, false, false, false, false, false], [false, false, false, false, false, false, false, false, false, false, false, false, false, false, false, false, false, false, false, false, true, true, false, true, true, false, false, false, false, false], [false, false, false, false, false, false, false, false, false, false, false, false, false, false, false, false, false, false, false, false, true, false, false, false, false, false, false, false, false, false], [false, false, false, false, false, false, false, false, false, false, false, false, false, false, false, false, false, false, false, false, true, false, false, false, false, false, true, false, false, false], [false, false, false, false, false, false, false, false, false, false, false, false, false, false, false, false, false, false, false, false, true, false, false, false, false, true, false, true, false, false], [false, false, false, false, false, false, false, false, false, false, false, false, false, false, false, false, false, false, false, false, true, false, false, false, false, false, false, false, true, false]]
                  (fun L x w1 => Below wr.heap.size wr w1)
                  (by kernel_rfl) (by kernel_rfl) (by kernel_rfl) (by kernel_rfl) (by kernel_rfl) (by decide) ?_ ?_ ?_
                · intro _
                  exact ⟨rfl, rfl, rfl, Nat.le_refl _, fun _ _ => rfl⟩
                · simp only [List.take_succ_cons, List.take_zero]
                  refine ⟨?_, ?_, ?_, ?_, ?_, ?_, ?_, ?_, ?_, ?_, ?_, ?_, ?_, ?_, ?_, ?_, ?_, ?_, ?_, ?_, ?_, ?_, ?_, ?_, ?_, ?_, ?_, ?_, ?_, ?_, trivial⟩
                  all_goals
                    intro L x w9 hS hl hp K9 hK9
                    have hs : Below wr.heap.size wr w9 := hS
                    clear hS hp hl
                    replace hK9 := hK9.out
                    simp only [actMix, pickV, List.tail_cons, List.headD_cons, Act.put, List.setIfInBounds_toArray, List.set_cons_zero, List.set_cons_succ] at hK9 ⊢
                  all_goals
                    go_simp
                    with_reducible refine hK9 _ ?_
                    exact hs
                intro L x w9 hS hL
                have hs : Below wr.heap.size wr w9 := hS
                have hbf := hb.trans (hs.mono hb.size)
                clear hS hL
                simp only [actMix, pickV, List.tail_cons, List.headD_cons, Act.put, List.setIfInBounds_toArray, List.set_cons_zero, List.set_cons_succ, List.replicate_succ, List.replicate_zero, List.drop_succ_cons, List.drop_zero, List.take_succ_cons, List.take_zero]
                go_wp2_with fail
                go_ret3
                exact ⟨by rw [HR.out, hno.out]; rfl, hbf⟩
            · by_cases hc46 : s[K].toNat = 46
              · have e46 : ((s[K].toNat : Int) != 46) = false := by rw [bne_eq_false_iff_eq]; omega
                have hcut2 : Hid (s.data.toList.drop (j + 1) = (s.data.toList.drop (j + 1)).take m ++ 46 :: s.data.toList.drop (K + 1)) := by
                  show _ = _
                  have h1 := at_cut s K hk hc46
                  have h2 : (s.data.toList.take K).drop (j + 1) = (s.data.toList.drop (j + 1)).take m := by
                    rw [List.drop_take, hK.out]; congr 1; omega
                  rw [← h2]
                  conv => lhs; rw [h1]
                  rw [List.drop_append_of_le_length (by rw [List.length_take, ← HZ.out]; have := hK.out; omega)]
                have hun := until_4 (s.data.toList.take j) ((s.data.toList.drop (j + 1)).take m) (s.data.toList.drop (K + 1)) hr.out hd.out
                rw [← hcut2.out, ← hcut.out] at hun
                clear hc46
                by_cases hmax : (1099511627776 : Int) < N
                · have hno : Hid (untilL s.data.toList = none) := by
                    show _ = _
                    rw [hun, if_neg (fun e => by have := hN.out; omega)]
                  have hmx : decide ((1099511627776 : Int) < N) = true := decide_eq_true hmax
                  clear hKI hun
                  have f1 : decide (s.size ≤ j) = false := decide_eq_false (by omega)
                  have f2 : decide (s.size ≤ K) = false := decide_eq_false (by omega)
                  have f3 : IntKind.i64.wrap ((j : Int) + 1) = (j : Int) + 1 := IntWalk.i64_in _ (by omega)
                  
                  go_wp2_with fail
                  refine region_mixt 30 [some (.int .i64 (j : Int)), some (.string s), some (.int .i64 (s.size : Int)), some (.bool false), some (.bool false), some (.int .i64 (K : Int)), some (.string s), some (.int .i64 (s.size : Int)), some (.bool false), some (.bool false), some (.bool false), some (.string s), some (.int .i64 (K : Int)), some (.int .u8 (s[K].toNat : Int)), some (.bool false), some (.bool false), some (.bool false), some (.int .i64 (N : Int)), some (.bool true), some (.bool true), some (.bool true), some (undef), some (undef), some (undef), some (undef), some (undef), some (undef), some (undef), some (undef), some (.bool true)]
                    [[false, false, false, false, false, false, false, false, false, false, false, false, false, false, false, false, false, false, false, false, false, false, false, false, false, false, false, false, false, false], [false, false, false, false, false, false, false, false, false, false, false, false, false, false, false, false, false, false, false, false, false, false, false, false, false, false, false, false, false, false], [false, true, false, false, false, false, false, false, false, false, false, false, false, false, false, false, false, false, false, false, false, false, false, false, false, false, false, false, false, false], [true, false, true, false, false, false, false, false, false, false, false, false, false, false, false, false, false, false, false, false, false, false, false, false, false, false, false, false, false, false], [false, false, false, true, false, false, false, false, false, false, false, false, false, false, false, false, false, false, false, false, false, false, false, false, false, false, false, false, false, false], [false, false, false, false, true, false, false, false, false, false, false, false, false, false, false, false, false, false, false, false, false, false, false, false, false, false, false, false, false, false], [false, false, false, false, true, false, false, false, false, false, false, false, false, false, false, false, false, false, false, false, false, false, false, false, false, false, false, false, false, false], [false, false, false, false, true, false, true, false, false, false, false, false, false, false, false, false, false, false, false, false, false, false, false, false, false, false, false, false, false, false], [false, false, false, false, true, true, false, true, false, false, false, false, false, false, false, false, false, false, false, false, false, false, false, false, false, false, false, false, false, false], [false, false, false, false, true, false, false, false, true, false, false, false, false, false, false, false, false, false, false, false, false, false, false, false, false, false, false, false, false, false], [false, false, false, false, true, false, false, false, false, true, false, false, false, false, false, false, false, false, false, false, false, false, false, false, false, false, false, false, false, false], [false, false, false, false, false, false, false, false, false, false, true, false, false, false, false, false, false, false, false, false, false, false, false, false, false, false, false, false, false, false], [false, false, false, false, false, false, false, false, false, false, true, false, false, false, false, false, false, false, false, false, false, false, false, false, false, false, false, false, false, false], [false, false, false, false, false, false, false, false, false, false, true, true, true, false, false, false, false, false, false, false, false, false, false, false, false, false, false, false, false, false], [false, false, false, false, false, false, false, false, false, false, true, false, false, true, false, false, false, false, false, false, false, false, false, false, false, false, false, false, false, false], [false, false, false, false, false, false, false, false, false, false, true, false, false, false, true, false, false, false, false, false, false, false, false, false, false, false, false, false, false, false], [false, false, false, false, false, false, false, false, false, false, true, false, false, false, false, true, false, false, false, false, false, false, false, false, false, false, false, false, false, false], [false, false, false, false, false, false, false, false, false, false, false, false, false, false, false, false, true, false, false, false, false, false, false, false, false, false, false, false, false, false], [false, false, false, false, false, false, false, false, false, false, false, false, false, false, false, false, true, true, false, false, false, false, false, false, false, false, false, false, false, false], [false, false, false, false, false, false, false, false, false, false, false, false, false, false, false, false, true, false, true, false, false, false, false, false, false, false, false, false, false, false], [false, false, false, false, false, false, false, false, false, false, false, false, false, false, false, false, true, false, false, true, false, false, false, false, false, false, false, false, false, false], [false, false, false, false, false, false, false, false, false, false, false, false, false, false, false, false, false, false, false, false, true, false, false, false, false, false, false, false, false, false], [false, false, false, false, false, false, false, false, false, false, false, false, false, false, false, false, false, false, false, false, true, false, false, false, false, false, false, false, false, false], [false, false, false, false, false, false, false, false, false, false, false, false, false, false, false, false, false, false, false, false, true, false, true, false, false, false, false, false, false, false], [false, false, false, false, false, false, false, false, false, false, false, false, false, false, false, false, false, false, false, false, true, false, false, false, false, false, false, false, false, false], [false, false, false, false, false, false, false, false, false, false, false, false, false, false, false, false, false, false, false, false, true, true, false, true, true, false, false, false, false, false], [false, false, false, false, false, false, false, false, false, false, false, false, false, false, false, false, false, false, false, false, true, false, false, false, false, false, false, false, false, false], [false, false, false, false, false, false, false, false, false, false, false, false, false, false, false, false, false, false, false, false, true, false, false, false, false, false, true, false, false, false], [false, false, false, false, false, false, false, false, false, false, false, false, false, false, false, false, false, false, false, false, true, false, false, false, false, true, false, true, false, false], [false, false, false, false, false, false, false, false, false, false, false, false, false, false, false, false, false, false, false, false, true, false, false, false, false, false, false, false, true, false]]
                    (fun L x w1 => Below wr.heap.size wr w1)
                    (by kernel_rfl) (by kernel_rfl) (by kernel_rfl) (by kernel_rfl) (by kernel_rfl) (by decide) ?_ ?_ ?_
                  · intro _
                    exact ⟨rfl, rfl, rfl, Nat.le_refl _, fun _ _ => rfl⟩
                  · simp only [List.take_succ_cons, List.take_zero]
                    refine ⟨?_, ?_, ?_, ?_, ?_, ?_, ?_, ?_, ?_, ?_, ?_, ?_, ?_, ?_, ?_, ?_, ?_, ?_, ?_, ?_, ?_, ?_, ?_, ?_, ?_, ?_, ?_, ?_, ?_, ?_, trivial⟩
                    all_goals
                      intro L x w9 hS hl hp K9 hK9
                      have hs : Below wr.heap.size wr w9 := hS
                      clear hS hp hl
                      replace hK9 := hK9.out
                      simp only [actMix, pickV, List.tail_cons, List.headD_cons, Act.put, List.setIfInBounds_toArray, List.set_cons_zero, List.set_cons_succ] at hK9 ⊢
                    all_goals
                      go_simp
                      with_reducible refine hK9 _ ?_
                      exact hs
                  intro L x w9 hS hL
                  have hs : Below wr.heap.size wr w9 := hS
                  have hbf := hb.trans (hs.mono hb.size)
                  clear hS hL
                  simp only [actMix, pickV, List.tail_cons, List.headD_cons, Act.put, List.setIfInBounds_toArray, List.set_cons_zero, List.set_cons_succ, List.replicate_succ, List.replicate_zero, List.drop_succ_cons, List.drop_zero, List.take_succ_cons, List.take_zero]
                  go_wp2_with fail
                  go_ret3
                  exact ⟨by rw [HR.out, hno.out]; rfl, hbf⟩
                · have hN2 : N ≤ 1099511627776 := by omega
                  have hmx : decide ((1099511627776 : Int) < N) = false := decide_eq_false hmax
                  have HI := Lib.hid (fun W h => itoa25 N (by omega) W h)
                  have hex : (s.extract (j + 1) K).data.toList = (s.data.toList.drop (j + 1)).take m := by
                    rw [extractL]; congr 1; have := hK.out; omega
                  obtain ⟨T, hT⟩ : ∃ T : ByteArray, T = ⟨(Lib.decDigits N).toArray⟩ := ⟨_, rfl⟩
                  rw [← hT] at HI
                  have hTl : T.data.toList = Lib.decDigits N := by rw [hT]
                  have hcmp := beq_bytes (s.extract (j + 1) K) T
                  rw [hex, hTl] at hcmp
                  rw [← hN.out] at hun
                  have k1 : (0 : Int) ≤ (j : Int) + 1 := by omega
                  have k2 : (j : Int) + 1 ≤ K := by have := hK.out; omega
                  have k3 : ((j : Int) + 1).toNat = j + 1 := by omega
                  have k4 : (K : Int) ≤ s.size := by omega
                  by_cases hq : (s.data.toList.drop (j + 1)).take m = Lib.decDigits N
                  · rw [decide_eq_true hq] at hcmp
                    have hyes : Hid (untilL s.data.toList = some (s.data.toList.take j, N)) := by
                      show _ = _
                      rw [hun, if_pos ⟨hN2, hq⟩]
                    have hbs : Hid (s.extract 0 j = bs (s.data.toList.take j)) := by
                      show _ = _
                      exact str_eq _ _ (by rw [extractL]; simp)
                    clear hKI hun hq hex hTl hT HKI
                    have f1 : decide (s.size ≤ j) = false := decide_eq_false (by omega)
                    have f2 : decide (s.size ≤ K) = false := decide_eq_false (by omega)
                    have f3 : IntKind.i64.wrap ((j : Int) + 1) = (j : Int) + 1 := IntWalk.i64_in _ (by omega)
                    go_wp2_with fail
                    refine region_mixt 30 [some (.int .i64 (j : Int)), some (.string s), some (.int .i64 (s.size : Int)), some (.bool false), some (.bool false), some (.int .i64 (K : Int)), some (.string s), some (.int .i64 (s.size : Int)), some (.bool false), some (.bool false), some (.bool false), some (.string s), some (.int .i64 (K : Int)), some (.int .u8 (s[K].toNat : Int)), some (.bool false), some (.bool false), some (.bool false), some (.int .i64 (N : Int)), some (.bool false), some (.bool false), some (.bool false), some (.string s), some (.int .i64 (j : Int)), some (.int .i64 ((j : Int) + 1)), some (.int .i64 (K : Int)), some (.string (s.extract (j + 1) K)), some (.int .i64 (N : Int)), some (.string T), some (.bool false), some (.bool false)]
                      [[false, false, false, false, false, false, false, false, false, false, false, false, false, false, false, false, false, false, false, false, false, false, false, false, false, false, false, false, false, false], [false, false, false, false, false, false, false, false, false, false, false, false, false, false, false, false, false, false, false, false, false, false, false, false, false, false, false, false, false, false], [false, true, false, false, false, false, false, false, false, false, false, false, false, false, false, false, false, false, false, false, false, false, false, false, false, false, false, false, false, false], [true, false, true, false, false, false, false, false, false, false, false, false, false, false, false, false, false, false, false, false, false, false, false, false, false, false, false, false, false, false], [false, false, false, true, false, false, false, false, false, false, false, false, false, false, false, false, false, false, false, false, false, false, false, false, false, false, false, false, false, false], [false, false, false, false, true, false, false, false, false, false, false, false, false, false, false, false, false, false, false, false, false, false, false, false, false, false, false, false, false, false], [false, false, false, false, true, false, false, false, false, false, false, false, false, false, false, false, false, false, false, false, false, false, false, false, false, false, false, false, false, false], [false, false, false, false, true, false, true, false, false, false, false, false, false, false, false, false, false, false, false, false, false, false, false, false, false, false, false, false, false, false], [false, false, false, false, true, true, false, true, false, false, false, false, false, false, false, false, false, false, false, false, false, false, false, false, false, false, false, false, false, false], [false, false, false, false, true, false, false, false, true, false, false, false, false, false, false, false, false, false, false, false, false, false, false, false, false, false, false, false, false, false], [false, false, false, false, true, false, false, false, false, true, false, false, false, false, false, false, false, false, false, false, false, false, false, false, false, false, false, false, false, false], [false, false, false, false, false, false, false, false, false, false, true, false, false, false, false, false, false, false, false, false, false, false, false, false, false, false, false, false, false, false], [false, false, false, false, false, false, false, false, false, false, true, false, false, false, false, false, false, false, false, false, false, false, false, false, false, false, false, false, false, false], [false, false, false, false, false, false, false, false, false, false, true, true, true, false, false, false, false, false, false, false, false, false, false, false, false, false, false, false, false, false], [false, false, false, false, false, false, false, false, false, false, true, false, false, true, false, false, false, false, false, false, false, false, false, false, false, false, false, false, false, false], [false, false, false, false, false, false, false, false, false, false, true, false, false, false, true, false, false, false, false, false, false, false, false, false, false, false, false, false, false, false], [false, false, false, false, false, false, false, false, false, false, true, false, false, false, false, true, false, false, false, false, false, false, false, false, false, false, false, false, false, false], [false, false, false, false, false, false, false, false, false, false, false, false, false, false, false, false, true, false, false, false, false, false, false, false, false, false, false, false, false, false], [false, false, false, false, false, false, false, false, false, false, false, false, false, false, false, false, true, true, false, false, false, false, false, false, false, false, false, false, false, false], [false, false, false, false, false, false, false, false, false, false, false, false, false, false, false, false, true, false, true, false, false, false, false, false, false, false, false, false, false, false], [false, false, false, false, false, false, false, false, false, false, false, false, false, false, false, false, true, false, false, true, false, false, false, false, false, false, false, false, false, false], [false, false, false, false, false, false, false, false, false, false, false, false, false, false, false, false, false, false, false, false, true, false, false, false, false, false, false, false, false, false], [false, false, false, false, false, false, false, false, false, false, false, false, false, false, false, false, false, false, false, false, true, false, false, false, false, false, false, false, false, false], [false, false, false, false, false, false, false, false, false, false, false, false, false, false, false, false, false, false, false, false, true, false, true, false, false, false, false, false, false, false], [false, false, false, false, false, false, false, false, false, false, false, false, false, false, false, false, false, false, false, false, true, false, false, false, false, false, false, false, false, false], [false, false, false, false, false, false, false, false, false, false, false, false, false, false, false, false, false, false, false, false, true, true, false, true, true, false, false, false, false, false], [false, false, false, false, false, false, false, false, false, false, false, false, false, false, false, false, false, false, false, false, true, false, false, false, false, false, false, false, false, false], [false, false, false, false, false, false, false, false, false, false, false, false, false, false, false, false, false, false, false, false, true, false, false, false, false, false, true, false, false, false], [false, false, false, false, false, false, false, false, false, false, false, false, false, false, false, false, false, false, false, false, true, false, false, false, false, true, false, true, false, false], [false, false, false, false, false, false, false, false, false, false, false, false, false, false, false, false, false, false, false, false, true, false, false, false, false, false, false, false, true, false]]
                      (fun L x w1 => Below wr.heap.size wr w1)
                      (by kernel_rfl) (by kernel_rfl) (by kernel_rfl) (by kernel_rfl) (by kernel_rfl) (by decide) ?_ ?_ ?_
                    · intro _
                      exact ⟨rfl, rfl, rfl, Nat.le_refl _, fun _ _ => rfl⟩
                    · simp only [List.take_succ_cons, List.take_zero]
                      refine ⟨?_, ?_, ?_, ?_, ?_, ?_, ?_, ?_, ?_, ?_, ?_, ?_, ?_, ?_, ?_, ?_, ?_, ?_, ?_, ?_, ?_, ?_, ?_, ?_, ?_, ?_, ?_, ?_, ?_, ?_, trivial⟩
                      all_goals
                        intro L x w9 hS hl hp K9 hK9
                        have hs : Below wr.heap.size wr w9 := hS
                        clear hS hp hl
                        replace hK9 := hK9.out
                        simp only [actMix, pickV, List.tail_cons, List.headD_cons, Act.put, List.setIfInBounds_toArray, List.set_cons_zero, List.set_cons_succ] at hK9 ⊢
                      iterate 27
                        · go_simp
                          with_reducible refine hK9 _ ?_
                          exact hs
                      · go_simp
                        refine (HI.out w9 ((HPW.out.below hb).below hs)).mono ?_
                        rintro e w' ⟨rfl, hb'⟩
                        with_reducible refine hK9 _ ?_
                        exact hs.trans (hb'.mono hs.size)
                      iterate 2
                        · go_simp
                          with_reducible refine hK9 _ ?_
                          exact hs
                    intro L x w9 hS hL
                    have hs : Below wr.heap.size wr w9 := hS
                    have hbf := hb.trans (hs.mono hb.size)
                    clear hS hL
                    simp only [actMix, pickV, List.tail_cons, List.headD_cons, Act.put, List.setIfInBounds_toArray, List.set_cons_zero, List.set_cons_succ, List.replicate_succ, List.replicate_zero, List.drop_succ_cons, List.drop_zero, List.take_succ_cons, List.take_zero]
                    go_wp2_with fail
                    go_ret3
                    exact ⟨by rw [HR.out, hyes.out]; simp only [untilV]; rw [← hbs.out]; rfl, hbf⟩
                  · rw [decide_eq_false hq] at hcmp
                    have hno : Hid (untilL s.data.toList = none) := by
                      show _ = _
                      rw [hun, if_neg (fun e => hq e.2)]
                    clear hKI hun hq hex hTl hT HKI
                    have f1 : decide (s.size ≤ j) = false := decide_eq_false (by omega)
                    have f2 : decide (s.size ≤ K) = false := decide_eq_false (by omega)
                    have f3 : IntKind.i64.wrap ((j : Int) + 1) = (j : Int) + 1 := IntWalk.i64_in _ (by omega)
                    go_wp2_with fail
                    refine region_mixt 30 [some (.int .i64 (j : Int)), some (.string s), some (.int .i64 (s.size : Int)), some (.bool false), some (.bool false), some (.int .i64 (K : Int)), some (.string s), some (.int .i64 (s.size : Int)), some (.bool false), some (.bool false), some (.bool false), some (.string s), some (.int .i64 (K : Int)), some (.int .u8 (s[K].toNat : Int)), some (.bool false), some (.bool false), some (.bool false), some (.int .i64 (N : Int)), some (.bool false), some (.bool false), some (.bool false), some (.string s), some (.int .i64 (j : Int)), some (.int .i64 ((j : Int) + 1)), some (.int .i64 (K : Int)), some (.string (s.extract (j + 1) K)), some (.int .i64 (N : Int)), some (.string T), some (.bool true), some (.bool true)]
                      [[false, false, false, false, false, false, false, false, false, false, false, false, false, false, false, false, false, false, false, false, false, false, false, false, false, false, false, false, false, false], [false, false, false, false, false, false, false, false, false, false, false, false, false, false, false, false, false, false, false, false, false, false, false, false, false, false, false, false, false, false], [false, true, false, false, false, false, false, false, false, false, false, false, false, false, false, false, false, false, false, false, false, false, false, false, false, false, false, false, false, false], [true, false, true, false, false, false, false, false, false, false, false, false, false, false, false, false, false, false, false, false, false, false, false, false, false, false, false, false, false, false], [false, false, false, true, false, false, false, false, false, false, false, false, false, false, false, false, false, false, false, false, false, false, false, false, false, false, false, false, false, false], [false, false, false, false, true, false, false, false, false, false, false, false, false, false, false, false, false, false, false, false, false, false, false, false, false, false, false, false, false, false], [false, false, false, false, true, false, false, false, false, false, false, false, false, false, false, false, false, false, false, false, false, false, false, false, false, false, false, false, false, false], [false, false, false, false, true, false, true, false, false, false, false, false, false, false, false, false, false, false, false, false, false, false, false, false, false, false, false, false, false, false], [false, false, false, false, true, true, false, true, false, false, false, false, false, false, false, false, false, false, false, false, false, false, false, false, false, false, false, false, false, false], [false, false, false, false, true, false, false, false, true, false, false, false, false, false, false, false, false, false, false, false, false, false, false, false, false, false, false, false, false, false], [false, false, false, false, true, false, false, false, false, true, false, false, false, false, false, false, false, false, false, false, false, false, false, false, false, false, false, false, false, false], [false, false, false, false, false, false, false, false, false, false, true, false, false, false, false, false, false, false, false, false, false, false, false, false, false, false, false, false, false, false], [false, false, false, false, false, false, false, false, false, false, true, false, false, false, false, false, false, false, false, false, false, false, false, false, false, false, false, false, false, false], [false, false, false, false, false, false, false, false, false, false, true, true, true, false, false, false, false, false, false, false, false, false, false, false, false, false, false, false, false, false], [false, false, false, false, false, false, false, false, false, false, true, false, false, true, false, false, false, false, false, false, false, false, false, false, false, false, false, false, false, false], [false, false, false, false, false, false, false, false, false, false, true, false, false, false, true, false, false, false, false, false, false, false, false, false, false, false, false, false, false, false], [false, false, false, false, false, false, false, false, false, false, true, false, false, false, false, true, false, false, false, false, false, false, false, false, false, false, false, false, false, false], [false, false, false, false, false, false, false, false, false, false, false, false, false, false, false, false, true, false, false, false, false, false, false, false, false, false, false, false, false, false], [false, false, false, false, false, false, false, false, false, false, false, false, false, false, false, false, true, true, false, false, false, false, false, false, false, false, false, false, false, false], [false, false, false, false, false, false, false, false, false, false, false, false, false, false, false, false, true, false, true, false, false, false, false, false, false, false, false, false, false, false], [false, false, false, false, false, false, false, false, false, false, false, false, false, false, false, false, true, false, false, true, false, false, false, false, false, false, false, false, false, false], [false, false, false, false, false, false, false, false, false, false, false, false, false, false, false, false, false, false, false, false, true, false, false, false, false, false, false, false, false, false], [false, false, false, false, false, false, false, false, false, false, false, false, false, false, false, false, false, false, false, false, true, false, false, false, false, false, false, false, false, false], [false, false, false, false, false, false, false, false, false, false, false, false, false, false, false, false, false, false, false, false, true, false, true, false, false, false, false, false, false, false], [false, false, false, false, false, false, false, false, false, false, false, false, false, false, false, false, false, false, false, false, true, false, false, false, false, false, false, false, false, false], [false, false, false, false, false, false, false, false, false, false, false, false, false, false, false, false, false, false, false, false, true, true, false, true, true, false, false, false, false, false], [false, false, false, false, false, false, false, false, false, false, false, false, false, false, false, false, false, false, false, false, true, false, false, false, false, false, false, false, false, false], [false, false, false, false, false, false, false, false, false, false, false, false, false, false, false, false, false, false, false, false, true, false, false, false, false, false, true, false, false, false], [false, false, false, false, false, false, false, false, false, false, false, false, false, false, false, false, false, false, false, false, true, false, false, false, false, true, false, true, false, false], [false, false, false, false, false, false, false, false, false, false, false, false, false, false, false, false, false, false, false, false, true, false, false, false, false, false, false, false, true, false]]
                      (fun L x w1 => Below wr.heap.size wr w1)
                      (by kernel_rfl) (by kernel_rfl) (by kernel_rfl) (by kernel_rfl) (by kernel_rfl) (by decide) ?_ ?_ ?_
                    · intro _
                      exact ⟨rfl, rfl, rfl, Nat.le_refl _, fun _ _ => rfl⟩
                    · simp only [List.take_succ_cons, List.take_zero]
                      refine ⟨?_, ?_, ?_, ?_, ?_, ?_, ?_, ?_, ?_, ?_, ?_, ?_, ?_, ?_, ?_, ?_, ?_, ?_, ?_, ?_, ?_, ?_, ?_, ?_, ?_, ?_, ?_, ?_, ?_, ?_, trivial⟩
                      all_goals
                        intro L x w9 hS hl hp K9 hK9
                        have hs : Below wr.heap.size wr w9 := hS
                        clear hS hp hl
                        replace hK9 := hK9.out
                        simp only [actMix, pickV, List.tail_cons, List.headD_cons, Act.put, List.setIfInBounds_toArray, List.set_cons_zero, List.set_cons_succ] at hK9 ⊢
                      iterate 27
                        · go_simp
                          with_reducible refine hK9 _ ?_
                          exact hs
                      · go_simp
                        refine (HI.out w9 ((HPW.out.below hb).below hs)).mono ?_
                        rintro e w' ⟨rfl, hb'⟩
                        with_reducible refine hK9 _ ?_
                        exact hs.trans (hb'.mono hs.size)
                      iterate 2
                        · go_simp
                          with_reducible refine hK9 _ ?_
                          exact hs
                    intro L x w9 hS hL
                    have hs : Below wr.heap.size wr w9 := hS
                    have hbf := hb.trans (hs.mono hb.size)
                    clear hS hL
                    simp only [actMix, pickV, List.tail_cons, List.headD_cons, Act.put, List.setIfInBounds_toArray, List.set_cons_zero, List.set_cons_succ, List.replicate_succ, List.replicate_zero, List.drop_succ_cons, List.drop_zero, List.take_succ_cons, List.take_zero]
                    go_wp2_with fail
                    go_ret3
                    exact ⟨by rw [HR.out, hno.out]; rfl, hbf⟩
              · have hne : s[K] ≠ 46 := fun e => hc46 (by rw [e]; rfl)
                have e46 : ((s[K].toNat : Int) != 46) = true := by rw [bne_iff_ne]; omega
                have hno : Hid (untilL s.data.toList = none) := by
                  show _ = _
                  rw [hcut.out]
                  exact until_2 _ _ hr.out m _ hd.out hcr.out hne (.inl (by unfold dig; simp; omega))
                clear hKI hc46 hne
                have f1 : decide (s.size ≤ j) = false := decide_eq_false (by omega)
                have f2 : decide (s.size ≤ K) = false := decide_eq_false (by omega)
                have f3 : IntKind.i64.wrap ((j : Int) + 1) = (j : Int) + 1 := IntWalk.i64_in _ (by omega)
                
                go_wp2_with fail
                refine region_mixt 30 [some (.int .i64 (j : Int)), some (.string s), some (.int .i64 (s.size : Int)), some (.bool false), some (.bool false), some (.int .i64 (K : Int)), some (.string s), some (.int .i64 (s.size : Int)), some (.bool false), some (.bool false), some (.bool false), some (.string s), some (.int .i64 (K : Int)), some (.int .u8 (s[K].toNat : Int)), some (.bool true), some (.bool true), some (.bool true), some (undef), some (undef), some (.bool true), some (.bool true), some (undef), some (undef), some (undef), some (undef), some (undef), some (undef), some (undef), some (undef), some (.bool true)]
                  [[false, false, false, false, false, false, false, false, false, false, false, false, false, false, false, false, false, false, false, false, false, false, false, false, false, false, false, false, false, false], [false, false, false, false, false, false, false, false, false, false, false, false, false, false, false, false, false, false, false, false, false, false, false, false, false, false, false, false, false, false], [false, true, false, false, false, false, false, false, false, false, false, false, false, false, false, false, false, false, false, false, false, false, false, false, false, false, false, false, false, false], [true, false, true, false, false, false, false, false, false, false, false, false, false, false, false, false, false, false, false, false, false, false, false, false, false, false, false, false, false, false], [false, false, false, true, false, false, false, false, false, false, false, false, false, false, false, false, false, false, false, false, false, false, false, false, false, false, false, false, false, false], [false, false, false, false, true, false, false, false, false, false, false, false, false, false, false, false, false, false, false, false, false, false, false, false, false, false, false, false, false, false], [false, false, false, false, true, false, false, false, false, false, false, false, false, false, false, false, false, false, false, false, false, false, false, false, false, false, false, false, false, false], [false, false, false, false, true, false, true, false, false, false, false, false, false, false, false, false, false, false, false, false, false, false, false, false, false, false, false, false, false, false], [false, false, false, false, true, true, false, true, false, false, false, false, false, false, false, false, false, false, false, false, false, false, false, false, false, false, false, false, false, false], [false, false, false, false, true, false, false, false, true, false, false, false, false, false, false, false, false, false, false, false, false, false, false, false, false, false, false, false, false, false], [false, false, false, false, true, false, false, false, false, true, false, false, false, false, false, false, false, false, false, false, false, false, false, false, false, false, false, false, false, false], [false, false, false, false, false, false, false, false, false, false, true, false, false, false, false, false, false, false, false, false, false, false, false, false, false, false, false, false, false, false], [false, false, false, false, false, false, false, false, false, false, true, false, false, false, false, false, false, false, false, false, false, false, false, false, false, false, false, false, false, false], [false, false, false, false, false, false, false, false, false, false, true, true, true, false, false, false, false, false, false, false, false, false, false, false, false, false, false, false, false, false], [false, false, false, false, false, false, false, false, false, false, true, false, false, true, false, false, false, false, false, false, false, false, false, false, false, false, false, false, false, false], [false, false, false, false, false, false, false, false, false, false, true, false, false, false, true, false, false, false, false, false, false, false, false, false, false, false, false, false, false, false], [false, false, false, false, false, false, false, false, false, false, true, false, false, false, false, true, false, false, false, false, false, false, false, false, false, false, false, false, false, false], [false, false, false, false, false, false, false, false, false, false, false, false, false, false, false, false, true, false, false, false, false, false, false, false, false, false, false, false, false, false], [false, false, false, false, false, false, false, false, false, false, false, false, false, false, false, false, true, true, false, false, false, false, false, false, false, false, false, false, false, false], [false, false, false, false, false, false, false, false, false, false, false, false, false, false, false, false, true, false, true, false, false, false, false, false, false, false, false, false, false, false], [false, false, false, false, false, false, false, false, false, false, false, false, false, false, false, false, true, false, false, true, false, false, false, false, false, false, false, false, false, false], [false, false, false, false, false, false, false, false, false, false, false, false, false, false, false, false, false, false, false, false, true, false, false, false, false, false, false, false, false, false], [false, false, false, false, false, false, false, false, false, false, false, false, false, false, false, false, false, false, false, false, true, false, false, false, false, false, false, false, false, false], [false, false, false, false, false, false, false, false, false, false, false, false, false, false, false, false, false, false, false, false, true, false, true, false, false, false, false, false, false, false], [false, false, false, false, false, false, false, false, false, false, false, false, false, false, false, false, false, false, false, false, true, false, false, false, false, false, false, false, false, false], [false, false, false, false, false, false, false, false, false, false, false, false, false, false, false, false, false, false, false, false, true, true, false, true, true, false, false, false, false, false], [false, false, false, false, false, false, false, false, false, false, false, false, false, false, false, false, false, false, false, false, true, false, false, false, false, false, false, false, false, false], [false, false, false, false, false, false, false, false, false, false, false, false, false, false, false, false, false, false, false, false, true, false, false, false, false, false, true, false, false, false], [false, false, false, false, false, false, false, false, false, false, false, false, false, false, false, false, false, false, false, false, true, false, false, false, false, true, false, true, false, false], [false, false, false, false, false, false, false, false, false, false, false, false, false, false, false, false, false, false, false, false, true, false, false, false, false, false, false, false, true, false]]
                  (fun L x w1 => Below wr.heap.size wr w1)
                  (by kernel_rfl) (by kernel_rfl) (by kernel_rfl) (by kernel_rfl) (by kernel_rfl) (by decide) ?_ ?_ ?_
                · intro _
                  exact ⟨rfl, rfl, rfl, Nat.le_refl _, fun _ _ => rfl⟩
                · simp only [List.take_succ_cons, List.take_zero]
                  refine ⟨?_, ?_, ?_, ?_, ?_, ?_, ?_, ?_, ?_, ?_, ?_, ?_, ?_, ?_, ?_, ?_, ?_, ?_, ?_, ?_, ?_, ?_, ?_, ?_, ?_, ?_, ?_, ?_, ?_, ?_, trivial⟩
                  all_goals
                    intro L x w9 hS hl hp K9 hK9
                    have hs : Below wr.heap.size wr w9 := hS
                    clear hS hp hl
                    replace hK9 := hK9.out
                    simp only [actMix, pickV, List.tail_cons, List.headD_cons, Act.put, List.setIfInBounds_toArray, List.set_cons_zero, List.set_cons_succ] at hK9 ⊢
                  all_goals
                    go_simp
                    with_reducible refine hK9 _ ?_
                    exact hs
                intro L x w9 hS hL
                have hs : Below wr.heap.size wr w9 := hS
                have hbf := hb.trans (hs.mono hb.size)
                clear hS hL
                simp only [actMix, pickV, List.tail_cons, List.headD_cons, Act.put, List.setIfInBounds_toArray, List.set_cons_zero, List.set_cons_succ, List.replicate_succ, List.replicate_zero, List.drop_succ_cons, List.drop_zero, List.take_succ_cons, List.take_zero]
                go_wp2_with fail
                go_ret3
                exact ⟨by rw [HR.out, hno.out]; rfl, hbf⟩
          · have hK2 : K = s.size := by omega
            have hno : Hid (untilL s.data.toList = none) := by
              show _ = _
              have h1 := hd.out
              rw [List.take_of_length_le (by rw [List.length_drop, ← HZ.out]; have := hK.out; omega)] at h1
              rw [hcut.out]
              exact until_3 _ _ hr.out h1
            have kl : decide ((K : Int) < s.size) = false := decide_eq_false (by omega)
            have kg : (s.size : Int) ≤ K := by omega
            clear hKI hK2
            have f1 : decide (s.size ≤ j) = false := decide_eq_false (by omega)
            have f2 : decide (s.size ≤ K) = true := decide_eq_true (by omega)
            have f3 : IntKind.i64.wrap ((j : Int) + 1) = (j : Int) + 1 := IntWalk.i64_in _ (by omega)
            
            go_wp2_with fail
            refine region_mixt 30 [some (.int .i64 (j : Int)), some (.string s), some (.int .i64 (s.size : Int)), some (.bool false), some (.bool false), some (.int .i64 (K : Int)), some (.string s), some (.int .i64 (s.size : Int)), some (.bool true), some (.bool true), some (.bool true), some (undef), some (undef), some (undef), some (undef), some (.bool true), some (.bool true), some (undef), some (undef), some (.bool true), some (.bool true), some (undef), some (undef), some (undef), some (undef), some (undef), some (undef), some (undef), some (undef), some (.bool true)]
              [[false, false, false, false, false, false, false, false, false, false, false, false, false, false, false, false, false, false, false, false, false, false, false, false, false, false, false, false, false, false], [false, false, false, false, false, false, false, false, false, false, false, false, false, false, false, false, false, false, false, false, false, false, false, false, false, false, false, false, false, false], [false, true, false, false, false, false, false, false, false, false, false, false, false, false, false, false, false, false, false, false, false, false, false, false, false, false, false, false, false, false], [true, false, true, false, false, false, false, false, false, false, false, false, false, false, false, false, false, false, false, false, false, false, false, false, false, false, false, false, false, false], [false, false, false, true, false, false, false, false, false, false, false, false, false, false, false, false, false, false, false, false, false, false, false, false, false, false, false, false, false, false], [false, false, false, false, true, false, false, false, false, false, false, false, false, false, false, false, false, false, false, false, false, false, false, false, false, false, false, false, false, false], [false, false, false, false, true, false, false, false, false, false, false, false, false, false, false, false, false, false, false, false, false, false, false, false, false, false, false, false, false, false], [false, false, false, false, true, false, true, false, false, false, false, false, false, false, false, false, false, false, false, false, false, false, false, false, false, false, false, false, false, false], [false, false, false, false, true, true, false, true, false, false, false, false, false, false, false, false, false, false, false, false, false, false, false, false, false, false, false, false, false, false], [false, false, false, false, true, false, false, false, true, false, false, false, false, false, false, false, false, false, false, false, false, false, false, false, false, false, false, false, false, false], [false, false, false, false, true, false, false, false, false, true, false, false, false, false, false, false, false, false, false, false, false, false, false, false, false, false, false, false, false, false], [false, false, false, false, false, false, false, false, false, false, true, false, false, false, false, false, false, false, false, false, false, false, false, false, false, false, false, false, false, false], [false, false, false, false, false, false, false, false, false, false, true, false, false, false, false, false, false, false, false, false, false, false, false, false, false, false, false, false, false, false], [false, false, false, false, false, false, false, false, false, false, true, true, true, false, false, false, false, false, false, false, false, false, false, false, false, false, false, false, false, false], [false, false, false, false, false, false, false, false, false, false, true, false, false, true, false, false, false, false, false, false, false, false, false, false, false, false, false, false, false, false], [false, false, false, false, false, false, false, false, false, false, true, false, false, false, true, false, false, false, false, false, false, false, false, false, false, false, false, false, false, false], [false, false, false, false, false, false, false, false, false, false, true, false, false, false, false, true, false, false, false, false, false, false, false, false, false, false, false, false, false, false], [false, false, false, false, false, false, false, false, false, false, false, false, false, false, false, false, true, false, false, false, false, false, false, false, false, false, false, false, false, false], [false, false, false, false, false, false, false, false, false, false, false, false, false, false, false, false, true, true, false, false, false, false, false, false, false, false, false, false, false, false], [false, false, false, false, false, false, false, false, false, false, false, false, false, false, false, false, true, false, true, false, false, false, false, false, false, false, false, false, false, false], [false, false, false, false, false, false, false, false, false, false, false, false, false, false, false, false, true, false, false, true, false, false, false, false, false, false, false, false, false, false], [false, false, false, false, false, false, false, false, false, false, false, false, false, false, false, false, false, false, false, false, true, false, false, false, false, false, false, false, false, false], [false, false, false, false, false, false, false, false, false, false, false, false, false, false, false, false, false, false, false, false, true, false, false, false, false, false, false, false, false, false], [false, false, false, false, false, false, false, false, false, false, false, false, false, false, false, false, false, false, false, false, true, false, true, false, false, false, false, false, false, false], [false, false, false, false, false, false, false, false, false, false, false, false, false, false, false, false, false, false, false, false, true, false, false, false, false, false, false, false, false, false], [false, false, false, false, false, false, false, false, false, false, false, false, false, false, false, false, false, false, false, false, true, true, false, true, true, false, false, false, false, false], [false, false, false, false, false, false, false, false, false, false, false, false, false, false, false, false, false, false, false, false, true, false, false, false, false, false, false, false, false, false], [false, false, false, false, false, false, false, false, false, false, false, false, false, false, false, false, false, false, false, false, true, false, false, false, false, false, true, false, false, false], [false, false, false, false, false, false, false, false, false, false, false, false, false, false, false, false, false, false, false, false, true, false, false, false, false, true, false, true, false, false], [false, false, false, false, false, false, false, false, false, false, false, false, false, false, false, false, false, false, false, false, true, false, false, false, false, false, false, false, true, false]]
              (fun L x w1 => Below wr.heap.size wr w1)
              (by kernel_rfl) (by kernel_rfl) (by kernel_rfl) (by kernel_rfl) (by kernel_rfl) (by decide) ?_ ?_ ?_
            · intro _
              exact ⟨rfl, rfl, rfl, Nat.le_refl _, fun _ _ => rfl⟩
            · simp only [List.take_succ_cons, List.take_zero]
              refine ⟨?_, ?_, ?_, ?_, ?_, ?_, ?_, ?_, ?_, ?_, ?_, ?_, ?_, ?_, ?_, ?_, ?_, ?_, ?_, ?_, ?_, ?_, ?_, ?_, ?_, ?_, ?_, ?_, ?_, ?_, trivial⟩
              all_goals
                intro L x w9 hS hl hp K9 hK9
                have hs : Below wr.heap.size wr w9 := hS
                clear hS hp hl
                replace hK9 := hK9.out
                simp only [actMix, pickV, List.tail_cons, List.headD_cons, Act.put, List.setIfInBounds_toArray, List.set_cons_zero, List.set_cons_succ] at hK9 ⊢
              all_goals
                go_simp
                with_reducible refine hK9 _ ?_
                exact hs
            intro L x w9 hS hL
            have hs : Below wr.heap.size wr w9 := hS
            have hbf := hb.trans (hs.mono hb.size)
            clear hS hL
            simp only [actMix, pickV, List.tail_cons, List.headD_cons, Act.put, List.setIfInBounds_toArray, List.set_cons_zero, List.set_cons_succ, List.replicate_succ, List.replicate_zero, List.drop_succ_cons, List.drop_zero, List.take_succ_cons, List.take_zero]
            go_wp2_with fail
            go_ret3
            exact ⟨by rw [HR.out, hno.out]; rfl, hbf⟩
      · have e46 : ((s[j].toNat : Int) != 46) = true := by rw [bne_iff_ne]; omega
        have hst := Lib.hid (not_mem_step s j hlt hr.out h46)
        clear h46
        go_wp2_with fail
        go_roundw
        case rel => exact ⟨j + 1, hlt, by go_num, hst, hb⟩
        case measure => simp [intOf]; omega
    · obtain rfl : j = s.size := by omega
      have hno : Hid (untilL s.data.toList = none) := by
        have h1 := hr.out
        rw [List.take_of_length_le (by rw [← HZ.out]; exact Nat.le_refl _)] at h1
        exact until_1 _ h1
      go_wp2_with fail
      go_loopw [6, 7] (fun kv nv wr => kv = .int .i64 ((s.size : Int) + 1) ∧ nv = .int .i64 0 ∧ Below w.heap.size w wr) (fun _ _ _ => 0)
      case atStart => exact ⟨rfl, rfl, hb⟩
      case round =>
        clear hb
        obtain ⟨rfl, rfl, hb⟩ := hrel
        have hbn : ∀ n, Below w.heap.size w (wr.drewN n) := fun n => hb.trans ⟨rfl, rfl, rfl, Nat.le_refl _, fun _ _ => rfl⟩
        go_wp2_with fail
        go_quiet (fail)
        go_wp2_with fail
        go_ret3
        exact ⟨by rw [HR.out, hno.out]; rfl, hbn _⟩
end Go.Proofs.YtllmlngfmcbaaaaGreatDoor
