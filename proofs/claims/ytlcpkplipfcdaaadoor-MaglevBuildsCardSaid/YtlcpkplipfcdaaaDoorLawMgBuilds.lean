/- stewardlaw18.MaglevBuilds (written by genlawmb.py). -/
import Derived.Test.YtlcpkplipfcdaaaDoorMgKy
namespace Go.Proofs.YtlcpkplipfcdaaaDoor
open Go.RowKit

set_option maxRecDepth 100000 in
set_option maxHeartbeats 8000000 in
theorem lawMaglevBuilds (s : ByteArray) (a : Option Addr) (c : Nat) (es : List Ent) (hfl : es.length ≤ 9223372036854775807) (m : Int) (w : World) (hI : Ini w) (hf : IsEnts w a c es) :
    Calls Tryd.prog 3 #[.string s, .slice a es.length c, .int .i64 m] w fun e w' => e = .returned (.bool true) ∧ Below w.heap.size w w' := by
  have HAW := Lib.hid (awake6 w hI)
  have HI := Lib.hid hI
  have HF := Lib.hid hf
  have HL := Lib.hid hfl
  have hkf := fun W => key17 s W
  generalize (fun i => s.data.toList.getD i 0) = kf at hkf
  have HK : Hid (∀ W, Calls Tryd.prog 11 #[.string s] W fun e w' => e = .returned (.agg #[.int .u8 (kf 0).toNat, .int .u8 (kf 1).toNat, .int .u8 (kf 2).toNat, .int .u8 (kf 3).toNat, .int .u8 (kf 4).toNat, .int .u8 (kf 5).toNat, .int .u8 (kf 6).toNat, .int .u8 (kf 7).toNat, .int .u8 (kf 8).toNat, .int .u8 (kf 9).toNat, .int .u8 (kf 10).toNat, .int .u8 (kf 11).toNat, .int .u8 (kf 12).toNat, .int .u8 (kf 13).toNat, .int .u8 (kf 14).toNat, .int .u8 (kf 15).toNat]) ∧ Below W.heap.size W w') := hkf
  clear hI hf hfl hkf
  go_enter Tryd.func3, Tryd.ntmps3
  go_upto_region 4 with (first
    | (go_at_call 9; refine HAW.out.mono ?_; rintro e w1 ⟨rfl, hB1⟩; have HB1 := Lib.hid hB1; clear hB1)
    | (go_at_call 10; refine (few7 a c es 6 (by decide) HL.out w1 (HF.out.below HB1.out)).mono ?_; rintro e w2 ⟨u, rfl, ho2, hB2⟩; obtain ⟨au, cu, rfl⟩ := own_slice ho2; have HE2 := Lib.hid (isEnts_own ho2).2.1; have HB2 := Lib.hid (HB1.out.trans (hB2.mono HB1.out.size)); clear ho2 hB2))
  have hkl : (fewE es 6).length ≤ 6 := by unfold fewE; simp; omega
  have HZ : Hid (∀ e ∈ fewE es 6, e.1.size ≤ 1000) := by
    intro e he
    obtain ⟨g, _, rfl⟩ := List.mem_map.1 he
    exact Nat.le_trans (cutE_size g) (by decide)
  generalize fewE es 6 = ys at *
  have HI2 := Lib.hid (HI.out.below HB2.out)
  clear HAW HF HL HB1 HI
  have hc3 : m ≤ 1000 ∨ (1000 < m ∧ m ≤ 1048576) ∨ 1048576 < m := by omega
  rcases hc3 with h1 | ⟨h1, h2⟩ | h1
  case' inl =>
    have g1 : ¬ (1000 : Int) < m := by omega
    go_upto_region 6 with fail
    have HM : Hid (m ≤ 1009 ∨ 1048576 < m) := by show _ ∨ _; omega
    clear h1 g1
  case' inr.inl =>
    go_upto_region 6 with fail
    generalize hm9 : (1009 : Int) = m9
    have HM : Hid (m9 ≤ 1009 ∨ 1048576 < m9) := by show _ ∨ _; omega
    clear h1 h2 hm9
    generalize m = m0
    clear m
    revert HM
    generalize m9 = m
    intro HM
  case' inr.inr =>
    have g1 : (1000 : Int) < m := by omega
    have g2 : ¬ m ≤ (1048576 : Int) := by omega
    go_upto_region 6 with fail
    have HM : Hid (m ≤ 1009 ∨ 1048576 < m) := by show _ ∨ _; omega
    clear h1 g1 g2
  all_goals
    go_upto_region 7 with (go_at_call 11; refine (HK.out _).mono ?_; rintro e w3 ⟨rfl, hB3⟩; have HB3 := Lib.hid hB3; clear hB3)
    have HE3 := Lib.hid ((HE2.out.below HB3.out).below (below_alloc w3 (.cells #[.int .u8 (kf 0).toNat, .int .u8 (kf 1).toNat, .int .u8 (kf 2).toNat, .int .u8 (kf 3).toNat, .int .u8 (kf 4).toNat, .int .u8 (kf 5).toNat, .int .u8 (kf 6).toNat, .int .u8 (kf 7).toNat, .int .u8 (kf 8).toNat, .int .u8 (kf 9).toNat, .int .u8 (kf 10).toNat, .int .u8 (kf 11).toNat, .int .u8 (kf 12).toNat, .int .u8 (kf 13).toNat, .int .u8 (kf 14).toNat, .int .u8 (kf 15).toNat] 26)))
    have HI3 := Lib.hid ((HI2.out.below HB3.out).below (below_alloc w3 (.cells #[.int .u8 (kf 0).toNat, .int .u8 (kf 1).toNat, .int .u8 (kf 2).toNat, .int .u8 (kf 3).toNat, .int .u8 (kf 4).toNat, .int .u8 (kf 5).toNat, .int .u8 (kf 6).toNat, .int .u8 (kf 7).toNat, .int .u8 (kf 8).toNat, .int .u8 (kf 9).toNat, .int .u8 (kf 10).toNat, .int .u8 (kf 11).toNat, .int .u8 (kf 12).toNat, .int .u8 (kf 13).toNat, .int .u8 (kf 14).toNat, .int .u8 (kf 15).toNat] 26)))
    have HKR : Hid (KeyRow (w3.alloc (.cells #[.int .u8 (kf 0).toNat, .int .u8 (kf 1).toNat, .int .u8 (kf 2).toNat, .int .u8 (kf 3).toNat, .int .u8 (kf 4).toNat, .int .u8 (kf 5).toNat, .int .u8 (kf 6).toNat, .int .u8 (kf 7).toNat, .int .u8 (kf 8).toNat, .int .u8 (kf 9).toNat, .int .u8 (kf 10).toNat, .int .u8 (kf 11).toNat, .int .u8 (kf 12).toNat, .int .u8 (kf 13).toNat, .int .u8 (kf 14).toNat, .int .u8 (kf 15).toNat] 26)) w3.heap.size kf) := Row.new w3 _ _
    have HBK := Lib.hid (HB2.out.trans ((HB3.out.alloc HB3.out.size (.cells #[.int .u8 (kf 0).toNat, .int .u8 (kf 1).toNat, .int .u8 (kf 2).toNat, .int .u8 (kf 3).toNat, .int .u8 (kf 4).toNat, .int .u8 (kf 5).toNat, .int .u8 (kf 6).toNat, .int .u8 (kf 7).toNat, .int .u8 (kf 8).toNat, .int .u8 (kf 9).toNat, .int .u8 (kf 10).toNat, .int .u8 (kf 11).toNat, .int .u8 (kf 12).toNat, .int .u8 (kf 13).toNat, .int .u8 (kf 14).toNat, .int .u8 (kf 15).toNat] 26)).mono HB2.out.size))
    have HKS : Hid (w3.heap.size < (w3.alloc (.cells #[.int .u8 (kf 0).toNat, .int .u8 (kf 1).toNat, .int .u8 (kf 2).toNat, .int .u8 (kf 3).toNat, .int .u8 (kf 4).toNat, .int .u8 (kf 5).toNat, .int .u8 (kf 6).toNat, .int .u8 (kf 7).toNat, .int .u8 (kf 8).toNat, .int .u8 (kf 9).toNat, .int .u8 (kf 10).toNat, .int .u8 (kf 11).toNat, .int .u8 (kf 12).toNat, .int .u8 (kf 13).toNat, .int .u8 (kf 14).toNat, .int .u8 (kf 15).toNat] 26)).heap.size) := by show _ < _; simp
    clear HB3 HE2 HI2 HK
    generalize w3.alloc (.cells #[.int .u8 (kf 0).toNat, .int .u8 (kf 1).toNat, .int .u8 (kf 2).toNat, .int .u8 (kf 3).toNat, .int .u8 (kf 4).toNat, .int .u8 (kf 5).toNat, .int .u8 (kf 6).toNat, .int .u8 (kf 7).toNat, .int .u8 (kf 8).toNat, .int .u8 (kf 9).toNat, .int .u8 (kf 10).toNat, .int .u8 (kf 11).toNat, .int .u8 (kf 12).toNat, .int .u8 (kf 13).toNat, .int .u8 (kf 14).toNat, .int .u8 (kf 15).toNat] 26) = WK at *
    generalize w3.heap.size = kb at *
    by_cases hc : chkB ys m = true
    case neg =>
      have hc : chkB ys m = false := by simpa using hc
      have hck := check8 au cu ys (by omega) m
      rw [hc] at hck
      have HCK : Hid (∀ W, IsEnts W au cu ys → Calls Tryd.prog 14 #[.slice au ys.length cu, .int .i64 m] W fun e w' => e = .returned (.int .i64 1) ∧ Below W.heap.size W w') := hck
      have HBLD : Hid (∀ a5 c5 w9, Ini w9 → IsEnts w9 a5 c5 ys → Calls Tryd.prog 12 #[keyVal kf, .slice a5 ys.length c5, .int .i64 m] w9 fun e w' => ∃ p, e = .returned (.tuple #[p, .int .i64 1]) ∧ NilR p w' ∧ Below w9.heap.size w9 w') := fun a5 c5 w9 _ hx => (build8_bad kf ys hkl HZ.out m hc a5 c5 w9 hx).mono fun _ _ ⟨h1, h2⟩ => ⟨_, h1, rfl, h2⟩
      clear hck hc
      go_wp2_with fail
      refine region_mixt 9 [some (.agg #[.int .u8 (kf 0).toNat, .int .u8 (kf 1).toNat, .int .u8 (kf 2).toNat, .int .u8 (kf 3).toNat, .int .u8 (kf 4).toNat, .int .u8 (kf 5).toNat, .int .u8 (kf 6).toNat, .int .u8 (kf 7).toNat, .int .u8 (kf 8).toNat, .int .u8 (kf 9).toNat, .int .u8 (kf 10).toNat, .int .u8 (kf 11).toNat, .int .u8 (kf 12).toNat, .int .u8 (kf 13).toNat, .int .u8 (kf 14).toNat, .int .u8 (kf 15).toNat]), some (.slice au ys.length cu), none, some (.int .i64 m), none, none, none, some (.int .i64 1), none]
        [[false, false, false, false, false, false, false, false, false], [false, false, false, false, false, false, false, false, false], [false, true, false, false, false, false, false, false, false], [false, false, false, false, false, false, false, false, false], [true, false, true, true, false, false, false, false, false], [false, false, false, false, true, false, false, false, false], [false, false, false, false, false, true, false, false, false], [false, false, false, false, false, true, false, false, false], [true, true, true, true, true, true, true, false, false]]
        (fun LL xx w9 => KoS WK ys 4 1 NilR LL xx w9)
        (by kernel_rfl) (by kernel_rfl) (by kernel_rfl) (by kernel_rfl) (by kernel_rfl) (by decide) ?_ ?_ ?_
      · intro x
        exact KoS.start _ _ _ _ _ _
      · simp only [List.take_succ_cons, List.take_zero]
        refine ⟨?_, ?_, ?_, ?_, ?_, ?_, ?_, ?_, ?_, trivial⟩
        all_goals
          intro L x w9 hS hl hp K9 hK9
          have hs : KoS WK ys 4 1 NilR L x w9 := hS
          clear hS
          replace hK9 := hK9.out
          simp only [actMix, pickV, List.tail_cons, List.headD_cons, Act.put, List.setIfInBounds_toArray, List.set_cons_zero, List.set_cons_succ] at hK9 ⊢
        · clear hp
          have hkr := HKR.out.below hs.bel
          rw [if_pos (by rfl)]
          refine wp_load_mid 26 _ rfl kb 0 rfl [.int .u8 (kf 0).toNat, .int .u8 (kf 1).toNat, .int .u8 (kf 2).toNat, .int .u8 (kf 3).toNat, .int .u8 (kf 4).toNat, .int .u8 (kf 5).toNat, .int .u8 (kf 6).toNat, .int .u8 (kf 7).toNat, .int .u8 (kf 8).toNat, .int .u8 (kf 9).toNat, .int .u8 (kf 10).toNat, .int .u8 (kf 11).toNat, .int .u8 (kf 12).toNat, .int .u8 (kf 13).toNat, .int .u8 (kf 14).toNat, .int .u8 (kf 15).toNat] _ (key_range hkr.isKey) Tryd.underlying26 rfl (by kernel_rfl) ?_
          simp only [Act.put, List.setIfInBounds_toArray, List.set_cons_zero, List.set_cons_succ]
          with_reducible refine hK9 _ ?_
          exact hs.next 0 _ (by decide) (by decide) (by decide) (by decide) (by decide)
        · clear hp
          go_simp
          with_reducible refine hK9 _ ?_
          exact hs.next 1 _ (by decide) (by decide) (by decide) (by decide) (by decide)
        · clear hp
          go_simp
          refine (own11 au cu ys (by omega) w9 (HE3.out.below hs.bel)).mono ?_
          rintro e w5 ⟨a5, c5, rfl, hE5, hB5⟩
          go_simp
          with_reducible refine hK9 _ _ ?_
          exact hs.put NilR.below (by decide) hE5 hB5
        · clear hp
          go_simp
          with_reducible refine hK9 _ ?_
          exact hs.next 3 _ (by decide) (by decide) (by decide) (by decide) (by decide)
        · obtain ⟨a5, c5, hx5, hE5⟩ := hs.own (allL_mem hp 2 (by decide +kernel))
          clear hp
          rw [hx5] at hK9 ⊢
          go_simp
          refine (HBLD.out a5 c5 w9 (HI3.out.below hs.bel) hE5).mono ?_
          rintro e w5 ⟨p5, rfl, hR5, hB5⟩
          go_simp
          with_reducible refine hK9 _ _ ?_
          exact hs.built NilR.below (by decide) hR5 hB5
        · obtain ⟨p5, hx5, hR5⟩ := hs.tup (allL_mem hp 4 (by decide +kernel))
          clear hp
          rw [hx5] at hK9 ⊢
          go_simp
          with_reducible refine hK9 _ _ ?_
          exact hs.moved (by decide) hR5
        · obtain ⟨p5, hx5, hR5⟩ := hs.mv (allL_mem hp 5 (by decide +kernel))
          clear hp
          rw [hx5] at hK9 ⊢
          go_simp
          with_reducible refine hK9 _ _ ?_
          exact hs.first (by decide) hR5
        · obtain ⟨p5, hx5, hR5⟩ := hs.mv (allL_mem hp 5 (by decide +kernel))
          clear hp
          rw [hx5] at hK9 ⊢
          go_simp
          with_reducible refine hK9 _ ?_
          exact hs.next 7 _ (by decide) (by decide) (by decide) (by decide) (by decide)
        · have hR5 := hs.ex (allL_mem hp 6 (by decide +kernel))
          clear hp
          go_simp
          with_reducible refine hK9 _ _ ?_
          exact hs.assign (by decide) hR5
      intro L x w9 hS hL
      have hs : KoS WK ys 4 1 NilR L x w9 := hS
      have hR9 := hs.asg (hL 8 (by decide))
      simp only [actMix, pickV, List.tail_cons, List.headD_cons, Act.put, List.setIfInBounds_toArray, List.set_cons_zero, List.set_cons_succ, List.replicate_succ, List.replicate_zero, List.drop_succ_cons, List.drop_zero, List.take_succ_cons, List.take_zero]
      generalize x 4 = xa
      generalize x 5 = xb
      generalize x 6 = xc
      generalize x 8 = xd at *
      have HI9 := Lib.hid (HI3.out.below hs.bel)
      have HKR9 := Lib.hid (HKR.out.below hs.bel)
      have HE9 := Lib.hid (HE3.out.below hs.bel)
      have HB9 := Lib.hid (HBK.out.trans (hs.bel.mono (Nat.le_trans HBK.out.size (Nat.le_refl _))))
      clear hS hs hL HKR HE3 HI3 HBK HBLD
      obtain rfl : xd = .pointer none := hR9
      go_wp2_with (go_at_call 14; refine (HCK.out _ HE9.out).mono ?_; rintro e w7 ⟨rfl, hB7⟩)
      go_ret
      exact ⟨rfl, HB9.out.trans (hB7.mono HB9.out.size)⟩
    obtain ⟨m2, m20, hpm, h100, hvb⟩ := chkB_yes hc
    have hm9 : m ≤ 1009 := by rcases HM.out with h | h <;> omega
    obtain ⟨n, rfl⟩ : ∃ n : Nat, m = (n : Int) := ⟨m.toNat, by omega⟩
    rw [Int.toNat_natCast] at hpm
    have HPM := Lib.hid hpm
    have HVB := Lib.hid hvb
    have hck := check8 au cu ys (by omega) (n : Int)
    rw [hc] at hck
    have HCK : Hid (∀ W, IsEnts W au cu ys → Calls Tryd.prog 14 #[.slice au ys.length cu, .int .i64 (n : Int)] W fun e w' => e = .returned (.int .i64 0) ∧ Below W.heap.size W w') := hck
    have HBLD : Hid (∀ a5 c5 w9, Ini w9 → IsEnts w9 a5 c5 ys → Calls Tryd.prog 12 #[keyVal kf, .slice a5 ys.length c5, .int .i64 (n : Int)] w9 fun e w' => ∃ p, e = .returned (.tuple #[p, .int .i64 0]) ∧ TabR kf ys n p w' ∧ Below w9.heap.size w9 w') := fun a5 c5 w9 hi hx => build8_tab kf ys hkl HZ.out n (by omega) hpm (by omega) hvb a5 c5 w9 hi hx
    clear hck hc m20 hpm hvb HM
    case pos =>
      go_wp2_with fail
      refine region_mixt 9 [some (.agg #[.int .u8 (kf 0).toNat, .int .u8 (kf 1).toNat, .int .u8 (kf 2).toNat, .int .u8 (kf 3).toNat, .int .u8 (kf 4).toNat, .int .u8 (kf 5).toNat, .int .u8 (kf 6).toNat, .int .u8 (kf 7).toNat, .int .u8 (kf 8).toNat, .int .u8 (kf 9).toNat, .int .u8 (kf 10).toNat, .int .u8 (kf 11).toNat, .int .u8 (kf 12).toNat, .int .u8 (kf 13).toNat, .int .u8 (kf 14).toNat, .int .u8 (kf 15).toNat]), some (.slice au ys.length cu), none, some (.int .i64 (n : Int)), none, none, none, some (.int .i64 0), none]
        [[false, false, false, false, false, false, false, false, false], [false, false, false, false, false, false, false, false, false], [false, true, false, false, false, false, false, false, false], [false, false, false, false, false, false, false, false, false], [true, false, true, true, false, false, false, false, false], [false, false, false, false, true, false, false, false, false], [false, false, false, false, false, true, false, false, false], [false, false, false, false, false, true, false, false, false], [true, true, true, true, true, true, true, false, false]]
        (fun LL xx w9 => KoS WK ys 4 0 (TabR kf ys n) LL xx w9)
        (by kernel_rfl) (by kernel_rfl) (by kernel_rfl) (by kernel_rfl) (by kernel_rfl) (by decide) ?_ ?_ ?_
      · intro x
        exact KoS.start _ _ _ _ _ _
      · simp only [List.take_succ_cons, List.take_zero]
        refine ⟨?_, ?_, ?_, ?_, ?_, ?_, ?_, ?_, ?_, trivial⟩
        all_goals
          intro L x w9 hS hl hp K9 hK9
          have hs : KoS WK ys 4 0 (TabR kf ys n) L x w9 := hS
          clear hS
          replace hK9 := hK9.out
          simp only [actMix, pickV, List.tail_cons, List.headD_cons, Act.put, List.setIfInBounds_toArray, List.set_cons_zero, List.set_cons_succ] at hK9 ⊢
        · clear hp
          have hkr := HKR.out.below hs.bel
          rw [if_pos (by rfl)]
          refine wp_load_mid 26 _ rfl kb 0 rfl [.int .u8 (kf 0).toNat, .int .u8 (kf 1).toNat, .int .u8 (kf 2).toNat, .int .u8 (kf 3).toNat, .int .u8 (kf 4).toNat, .int .u8 (kf 5).toNat, .int .u8 (kf 6).toNat, .int .u8 (kf 7).toNat, .int .u8 (kf 8).toNat, .int .u8 (kf 9).toNat, .int .u8 (kf 10).toNat, .int .u8 (kf 11).toNat, .int .u8 (kf 12).toNat, .int .u8 (kf 13).toNat, .int .u8 (kf 14).toNat, .int .u8 (kf 15).toNat] _ (key_range hkr.isKey) Tryd.underlying26 rfl (by kernel_rfl) ?_
          simp only [Act.put, List.setIfInBounds_toArray, List.set_cons_zero, List.set_cons_succ]
          with_reducible refine hK9 _ ?_
          exact hs.next 0 _ (by decide) (by decide) (by decide) (by decide) (by decide)
        · clear hp
          go_simp
          with_reducible refine hK9 _ ?_
          exact hs.next 1 _ (by decide) (by decide) (by decide) (by decide) (by decide)
        · clear hp
          go_simp
          refine (own11 au cu ys (by omega) w9 (HE3.out.below hs.bel)).mono ?_
          rintro e w5 ⟨a5, c5, rfl, hE5, hB5⟩
          go_simp
          with_reducible refine hK9 _ _ ?_
          exact hs.put TabR.below (by decide) hE5 hB5
        · clear hp
          go_simp
          with_reducible refine hK9 _ ?_
          exact hs.next 3 _ (by decide) (by decide) (by decide) (by decide) (by decide)
        · obtain ⟨a5, c5, hx5, hE5⟩ := hs.own (allL_mem hp 2 (by decide +kernel))
          clear hp
          rw [hx5] at hK9 ⊢
          go_simp
          refine (HBLD.out a5 c5 w9 (HI3.out.below hs.bel) hE5).mono ?_
          rintro e w5 ⟨p5, rfl, hR5, hB5⟩
          go_simp
          with_reducible refine hK9 _ _ ?_
          exact hs.built TabR.below (by decide) hR5 hB5
        · obtain ⟨p5, hx5, hR5⟩ := hs.tup (allL_mem hp 4 (by decide +kernel))
          clear hp
          rw [hx5] at hK9 ⊢
          go_simp
          with_reducible refine hK9 _ _ ?_
          exact hs.moved (by decide) hR5
        · obtain ⟨p5, hx5, hR5⟩ := hs.mv (allL_mem hp 5 (by decide +kernel))
          clear hp
          rw [hx5] at hK9 ⊢
          go_simp
          with_reducible refine hK9 _ _ ?_
          exact hs.first (by decide) hR5
        · obtain ⟨p5, hx5, hR5⟩ := hs.mv (allL_mem hp 5 (by decide +kernel))
          clear hp
          rw [hx5] at hK9 ⊢
          go_simp
          with_reducible refine hK9 _ ?_
          exact hs.next 7 _ (by decide) (by decide) (by decide) (by decide) (by decide)
        · have hR5 := hs.ex (allL_mem hp 6 (by decide +kernel))
          clear hp
          go_simp
          with_reducible refine hK9 _ _ ?_
          exact hs.assign (by decide) hR5
      intro L x w9 hS hL
      have hs : KoS WK ys 4 0 (TabR kf ys n) L x w9 := hS
      have hR9 := hs.asg (hL 8 (by decide))
      simp only [actMix, pickV, List.tail_cons, List.headD_cons, Act.put, List.setIfInBounds_toArray, List.set_cons_zero, List.set_cons_succ, List.replicate_succ, List.replicate_zero, List.drop_succ_cons, List.drop_zero, List.take_succ_cons, List.take_zero]
      generalize x 4 = xa
      generalize x 5 = xb
      generalize x 6 = xc
      generalize x 8 = xd at *
      have HI9 := Lib.hid (HI3.out.below hs.bel)
      have HKR9 := Lib.hid (HKR.out.below hs.bel)
      have HE9 := Lib.hid (HE3.out.below hs.bel)
      have HB9 := Lib.hid (HBK.out.trans (hs.bel.mono (Nat.le_trans HBK.out.size (Nat.le_refl _))))
      clear hS hs hL HKR HE3 HI3 HBK HBLD

      obtain ⟨tb, own, rfl, hAS, hTA⟩ := hR9
      have HAS := Lib.hid hAS
      have HTA := Lib.hid hTA
      clear hAS hTA
      go_upto_region 11 with (go_at_call 14; refine (HCK.out _ HE9.out).mono ?_; rintro e w7 ⟨rfl, hB7⟩; have HTA7 := Lib.hid (HTA.out.below hB7); have HE7 := Lib.hid (HE9.out.below hB7); have HK7 := Lib.hid (HKR9.out.below hB7); have HB7 := Lib.hid (HB9.out.trans (hB7.mono HB9.out.size)); clear hB7)
      clear HCK HTA HE9 HKR9 HB9 HI9
      have hcv := key_all HK7.out.isKey
      have huk := Tryd.underlying26
      have HRB := Lib.hid (rbuild12 kf (keyStr kf) (keyStr_size kf) (keyStr_a kf) (keyStr_b kf) ys hkl HZ.out (valid_parts HVB.out).1 n (by omega) HPM.out au cu w7 HE7.out)
      go_wp2_with (first
        | (go_at_call 15; refine (size11 tb n _ own w7 HTA7.out).mono ?_; rintro e w8 ⟨rfl, hw8⟩; subst hw8)
        | (go_at_call 16; refine HRB.out.mono ?_; rintro e w9 ⟨ap, cp, own2, rfl, hA2, hS2, hB9⟩; have HA2 := Lib.hid hA2; have HS2 := Lib.hid hS2; have HTA9 := Lib.hid (HTA7.out.below hB9); have HB9 := Lib.hid (HB7.out.trans (hB9.mono HB7.out.size)); clear hA2 hS2 hB9))
      obtain rfl : own2 = own := HA2.out.uniq HAS.out
      have hok : OwnOk (srtE ys).length n own2 := HAS.out.ok HPM.out (fun e he => (valid_parts HVB.out).1 e (((srtE_spec ys).1.mem_iff).1 he))
      have hsl : (srtE ys).length ≤ 6 := by have := (srtE_spec ys).1.length_eq; omega
      have HNL : Hid (((srtE ys).map (·.1)).length ≤ 1000 ∧ OwnOk ((srtE ys).map (·.1)).length n own2) := by rw [List.length_map]; exact ⟨by omega, hok⟩
      have HPX : Hid (∀ j, j < n → (placesL (srtE ys) n own2)[j]? = some (atN ((srtE ys).map (·.1)) n own2 (j : Int))) := fun j hj => by
        unfold placesL
        rw [List.getElem?_map, List.getElem?_range hj]; rfl
      have hpl := placesL_len (srtE ys) n own2
      generalize placesL (srtE ys) n own2 = pl at *
      generalize (srtE ys).map (·.1) = ns at *
      clear HRB HB7 HTA7 HE7 HK7 hcv huk HAS HA2 HZ HPM HVB hok hsl
      have HBZ := Lib.hid HB9.out.size
      go_loopw [66] (fun i wr => ∃ j : Nat, j ≤ n ∧ i = .int .i64 (j : Int) ∧ Hid (Below w9.heap.size w9 wr)) (fun i _ => n - (intOf i).toNat)
      case atStart => exact ⟨0, Nat.zero_le _, rfl, Below.refl _ _⟩
      case round =>
        obtain ⟨j, hj, rfl, HB⟩ := hrel
        by_cases hlt : j < n
        · obtain h0 | ⟨bk, o, rfl, hbk, hcp, hcell⟩ := HS2.out.below HB.out
          · rw [h0] at hpl; simp at hpl; omega
          have c1 := hcell j _ (HPX.out j hlt)
          have j1 : (j : Int) < n := by omega
          have HAT := Lib.hid (fun W hT => at13 tb n ns HNL.out.1 own2 HNL.out.2 (j : Int) W hT)
          generalize atN ns n own2 (j : Int) = N at *
          have hne : (N.toList != N.toList) = false := by simp
          have HTR := Lib.hid (HTA9.out.below HB.out)
          clear hcell
          go_wp2_with (go_at_call 17; refine (HAT.out _ HTR.out).mono ?_; rintro e wx ⟨rfl, hBx⟩; have HBx := Lib.hid (HB.out.trans (hBx.mono HB.out.size)); clear hBx)
          go_roundw
          case rel => exact ⟨j + 1, hlt, by go_num, HBx⟩
          case measure => simp [intOf]; omega
        · obtain rfl : j = n := by omega
          have hne : ¬ (j : Int) < j := by omega
          have HTR := Lib.hid (HTA9.out.below HB.out)
          have HA1 := Lib.hid (at13 tb j ns HNL.out.1 own2 HNL.out.2 (-1) wr HTR.out)
          have HAN := Lib.hid (fun W hT => at13 tb j ns HNL.out.1 own2 HNL.out.2 (j : Int) W hT)
          rw [show atN ns j own2 (-1) = ⟨#[]⟩ by unfold atN; rw [if_pos (by omega)]] at HA1
          rw [show atN ns j own2 (j : Int) = ⟨#[]⟩ by unfold atN; rw [if_pos (by omega)]] at HAN
          have k1 := 0
          go_wp2_with (first
            | (go_at_call 17; refine HA1.out.mono ?_; rintro e wx ⟨rfl, hBx⟩; have HTX := Lib.hid (HTR.out.below hBx); have HBx := Lib.hid (HB.out.trans (hBx.mono HB.out.size)); clear hBx HA1)
            | (go_at_call 17; refine (HAN.out _ HTX.out).mono ?_; rintro e wy ⟨rfl, hBy⟩))
          go_ret
          exact ⟨rfl, HB9.out.trans ((HBx.out.trans (hBy.mono HBx.out.size)).mono HBZ.out)⟩
end Go.Proofs.YtlcpkplipfcdaaaDoor
