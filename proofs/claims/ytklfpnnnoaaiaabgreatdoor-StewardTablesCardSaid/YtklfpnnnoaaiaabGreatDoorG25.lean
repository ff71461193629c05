/- stewardtop.StewardTables (written by genlawst.py). -/
import Derived.Test.YtklfpnnnoaaiaabGreatDoorG19
import Derived.Test.YtklfpnnnoaaiaabGreatDoorG23
import Derived.Test.YtklfpnnnoaaiaabGreatDoorG24
namespace Go.Proofs.YtklfpnnnoaaiaabGreatDoor
open Go.RowKit

theorem prime401 : primeB 401 = true := by decide +kernel
theorem below_fix (z n : Int) (hz : z = 9223372036854775808) (hn : n = 10) (W : World) : Calls Tryz.prog 7 #[.int .u64 z, .int .i64 n] W fun e w' => e = .returned (.int .i64 5) ∧ w' = W := by
  have h := below15 9223372036854775808 10 (by decide) (by decide) (by decide) W
  subst hz hn
  exact h.mono fun e w' ⟨h1, h2⟩ => ⟨h1, h2.symm⟩
theorem row_fix (W : World) : Calls Tryz.prog 8 #[.int .i64 5, .int .i64 3, .int .i64 2] W fun e w' => ∃ a c, e = .returned (.slice a 5 c) ∧ Below W.heap.size W w' := by
  have h := row12 5 3 2 3 2 (by decide) (by decide) (by decide) (by decide) W
  refine h.mono ?_
  rintro e w' ⟨a, c, h1, h2, h3⟩
  exact ⟨a, c, h1, h3⟩
set_option maxRecDepth 100000 in
set_option maxHeartbeats 8000000 in
theorem lawStewardTables (s : ByteArray) (a : Option Addr) (c : Nat) (es : List Ent) (hfl : es.length ≤ 9223372036854775807) (x : Int) (hx0 : 0 ≤ x) (hx1 : x < 18446744073709551616) (w : World) (hI : Ini w) (hP : Pow w) (hf : IsEnts w a c es) :
    Calls Tryz.prog 3 #[.string s, .slice a es.length c, .int .u64 x] w fun e w' => e = .returned (.bool true) ∧ Below w.heap.size w w' := by
  obtain ⟨num, rfl⟩ : ∃ n : Nat, x = (n : Int) := ⟨x.toNat, by omega⟩
  have hnx : num < 18446744073709551616 := by omega
  have HNX := Lib.hid hnx
  have HI0 : Hid (IniP w) := ⟨hI, hP⟩
  have HF0 := Lib.hid hf
  have hfew : ∀ W, IsEnts W a c es → Calls Tryz.prog 6 #[.slice a es.length c, .int .i64 4] W fun e w' => ∃ a' c', e = .returned (.slice a' (fewE es 4).length c') ∧ IsEnts w' a' c' (fewE es 4) ∧ Below W.heap.size W w' := fun W hE => (few7 a c es 4 (by decide) hfl W hE).mono fun e w' ⟨u, h1, h2, h3⟩ => by
    obtain ⟨a', c', rfl⟩ := own_slice h2
    exact ⟨a', c', h1, (isEnts_own h2).2.1, h3⟩
  have HFEW := Lib.hid hfew
  have HCX : Hid (∀ W, Calls Tryz.prog 5 #[.string s, .int .i64 20] W fun e w' => e = .returned (.string (cutS s 20)) ∧ W = w') := fun W => cut11 s 20 W
  generalize cutS s 20 = sc at *
  have hkf := fun W => key17 sc W
  generalize (fun i => sc.data.toList.getD i 0) = kf at hkf
  have HK : Hid (∀ W, Calls Tryz.prog 4 #[.string sc] W fun e w' => e = .returned (.agg #[.int .u8 (kf 0).toNat, .int .u8 (kf 1).toNat, .int .u8 (kf 2).toNat, .int .u8 (kf 3).toNat, .int .u8 (kf 4).toNat, .int .u8 (kf 5).toNat, .int .u8 (kf 6).toNat, .int .u8 (kf 7).toNat, .int .u8 (kf 8).toNat, .int .u8 (kf 9).toNat, .int .u8 (kf 10).toNat, .int .u8 (kf 11).toNat, .int .u8 (kf 12).toNat, .int .u8 (kf 13).toNat, .int .u8 (kf 14).toNat, .int .u8 (kf 15).toNat]) ∧ Below W.heap.size W w') := hkf
  have hkl : (fewE es 4).length ≤ 4 := by unfold fewE; simp; omega
  have HZ : Hid (∀ e ∈ fewE es 4, e.1.size ≤ 1000) := by
    intro e he
    obtain ⟨g, _, rfl⟩ := List.mem_map.1 he
    exact Nat.le_trans (cutE_size g) (by decide)
  generalize fewE es 4 = ys at *
  have HB0 := Lib.hid (Below.refl w.heap.size w)
  clear hI hP hf hfl hkf hx0 hx1 hfew hnx
  go_enter Tryz.func3, Tryz.ntmps3
  go_upto_region 2 with (first
    | (go_at_call 5; refine (HCX.out _).mono ?_; rintro e w1 ⟨rfl, hw1⟩; subst w1)
    | (go_at_call 4; refine (HK.out _).mono ?_; rintro e w3 ⟨rfl, hB3⟩; have HB3 := Lib.hid hB3; clear hB3))
  have HF1 := Lib.hid ((HF0.out.below HB3.out).below (below_alloc w3 (.cells #[.int .u8 (kf 0).toNat, .int .u8 (kf 1).toNat, .int .u8 (kf 2).toNat, .int .u8 (kf 3).toNat, .int .u8 (kf 4).toNat, .int .u8 (kf 5).toNat, .int .u8 (kf 6).toNat, .int .u8 (kf 7).toNat, .int .u8 (kf 8).toNat, .int .u8 (kf 9).toNat, .int .u8 (kf 10).toNat, .int .u8 (kf 11).toNat, .int .u8 (kf 12).toNat, .int .u8 (kf 13).toNat, .int .u8 (kf 14).toNat, .int .u8 (kf 15).toNat] 25)))
  have HI1 := Lib.hid ((HI0.out.below HB3.out).below (below_alloc w3 (.cells #[.int .u8 (kf 0).toNat, .int .u8 (kf 1).toNat, .int .u8 (kf 2).toNat, .int .u8 (kf 3).toNat, .int .u8 (kf 4).toNat, .int .u8 (kf 5).toNat, .int .u8 (kf 6).toNat, .int .u8 (kf 7).toNat, .int .u8 (kf 8).toNat, .int .u8 (kf 9).toNat, .int .u8 (kf 10).toNat, .int .u8 (kf 11).toNat, .int .u8 (kf 12).toNat, .int .u8 (kf 13).toNat, .int .u8 (kf 14).toNat, .int .u8 (kf 15).toNat] 25)))
  have HKR1 : Hid (KeyRow (w3.alloc (.cells #[.int .u8 (kf 0).toNat, .int .u8 (kf 1).toNat, .int .u8 (kf 2).toNat, .int .u8 (kf 3).toNat, .int .u8 (kf 4).toNat, .int .u8 (kf 5).toNat, .int .u8 (kf 6).toNat, .int .u8 (kf 7).toNat, .int .u8 (kf 8).toNat, .int .u8 (kf 9).toNat, .int .u8 (kf 10).toNat, .int .u8 (kf 11).toNat, .int .u8 (kf 12).toNat, .int .u8 (kf 13).toNat, .int .u8 (kf 14).toNat, .int .u8 (kf 15).toNat] 25)) w3.heap.size kf) := Row.new w3 _ _
  have HB1 := Lib.hid (HB3.out.alloc HB3.out.size (.cells #[.int .u8 (kf 0).toNat, .int .u8 (kf 1).toNat, .int .u8 (kf 2).toNat, .int .u8 (kf 3).toNat, .int .u8 (kf 4).toNat, .int .u8 (kf 5).toNat, .int .u8 (kf 6).toNat, .int .u8 (kf 7).toNat, .int .u8 (kf 8).toNat, .int .u8 (kf 9).toNat, .int .u8 (kf 10).toNat, .int .u8 (kf 11).toNat, .int .u8 (kf 12).toNat, .int .u8 (kf 13).toNat, .int .u8 (kf 14).toNat, .int .u8 (kf 15).toNat] 25))
  clear HB3 HF0 HI0 HK HCX HB0
  generalize w3.alloc (.cells #[.int .u8 (kf 0).toNat, .int .u8 (kf 1).toNat, .int .u8 (kf 2).toNat, .int .u8 (kf 3).toNat, .int .u8 (kf 4).toNat, .int .u8 (kf 5).toNat, .int .u8 (kf 6).toNat, .int .u8 (kf 7).toNat, .int .u8 (kf 8).toNat, .int .u8 (kf 9).toNat, .int .u8 (kf 10).toNat, .int .u8 (kf 11).toNat, .int .u8 (kf 12).toNat, .int .u8 (kf 13).toNat, .int .u8 (kf 14).toNat, .int .u8 (kf 15).toNat] 25) = WK0 at *
  generalize w3.heap.size = kb at *
  go_upto_region 3 with (go_at_call 6; refine (HFEW.out _ HF1.out).mono ?_; rintro e w4 ⟨au, cu, rfl, hE4, hB4⟩; have HE4 := Lib.hid hE4; have HI4 := Lib.hid (HI1.out.below hB4); have HKR4 := Lib.hid (HKR1.out.below hB4); have HB4 := Lib.hid (HB1.out.trans (hB4.mono HB1.out.size)); clear hE4 hB4)
  clear HFEW HF1 HI1 HKR1 HB1
  go_upto_region 5 with (first
    | (go_at_call 7; refine (below_fix _ _ rfl rfl _).mono ?_; rintro e w1 ⟨rfl, hw1⟩; subst w1)
    | (go_at_call 8; refine (row_fix _).mono ?_; rintro e w5 ⟨ar, cr, rfl, hB5⟩; have HE5 := Lib.hid (HE4.out.below hB5); have HI5 := Lib.hid (HI4.out.below hB5); have HKR5 := Lib.hid (HKR4.out.below hB5); have HB5 := Lib.hid (HB4.out.trans (hB5.mono HB4.out.size)); clear hB5))
  clear HE4 HI4 HKR4 HB4
  have hck := check8 au cu ys (by omega) 401 w5 HE5.out
  by_cases hc : chkB ys 401 = true
  case neg =>
    have hc : chkB ys 401 = false := by simpa using hc
    rw [hc] at hck
    have HCK : Hid (Calls Tryz.prog 9 #[.slice au ys.length cu, .int .i64 401] w5 fun e w' => e = .returned (.int .i64 1) ∧ Below w5.heap.size w5 w') := hck
    have HBLD : Hid (∀ a5 c5 w9, IniP w9 → IsEnts w9 a5 c5 ys → Calls Tryz.prog 10 #[keyVal kf, .slice a5 ys.length c5, .int .i64 401] w9 fun e w' => ∃ p, e = .returned (.tuple #[p, .int .i64 1]) ∧ NilR p w' ∧ Below w9.heap.size w9 w') := fun a5 c5 w9 _ hx => (build8_bad kf ys (by omega) HZ.out 401 hc a5 c5 w9 hx).mono fun _ _ ⟨h1, h2⟩ => ⟨_, h1, rfl, h2⟩
    clear hck hc
    go_upto_region 6 with (go_at_call 9; refine HCK.out.mono ?_; rintro e WK ⟨rfl, hB6⟩; have HE3 := Lib.hid (HE5.out.below hB6); have HI3 := Lib.hid (HI5.out.below hB6); have HKR := Lib.hid (HKR5.out.below hB6); have HBK := Lib.hid (HB5.out.trans (hB6.mono HB5.out.size)); clear hB6)
    refine region_mixt 8 [some (.agg #[.int .u8 (kf 0).toNat, .int .u8 (kf 1).toNat, .int .u8 (kf 2).toNat, .int .u8 (kf 3).toNat, .int .u8 (kf 4).toNat, .int .u8 (kf 5).toNat, .int .u8 (kf 6).toNat, .int .u8 (kf 7).toNat, .int .u8 (kf 8).toNat, .int .u8 (kf 9).toNat, .int .u8 (kf 10).toNat, .int .u8 (kf 11).toNat, .int .u8 (kf 12).toNat, .int .u8 (kf 13).toNat, .int .u8 (kf 14).toNat, .int .u8 (kf 15).toNat]), some (.slice au ys.length cu), none, none, none, none, some (.int .i64 1), none]
      [[false, false, false, false, false, false, false, false], [false, false, false, false, false, false, false, false], [false, true, false, false, false, false, false, false], [true, false, true, false, false, false, false, false], [false, false, false, true, false, false, false, false], [false, false, false, false, true, false, false, false], [false, false, false, false, true, false, false, false], [true, true, true, true, true, true, false, false]]
      (fun LL xx w9 => KoS WK ys 3 1 NilR LL xx w9)
      (by kernel_rfl) (by kernel_rfl) (by kernel_rfl) (by kernel_rfl) (by kernel_rfl) (by decide) ?_ ?_ ?_
    · intro x
      exact KoS.start _ _ _ _ _ _
    · simp only [List.take_succ_cons, List.take_zero]
      refine ⟨?_, ?_, ?_, ?_, ?_, ?_, ?_, ?_, trivial⟩
      all_goals
        intro L x w9 hS hl hp K9 hK9
        have hs : KoS WK ys 3 1 NilR L x w9 := hS
        clear hS
        replace hK9 := hK9.out
        simp only [actMix, pickV, List.tail_cons, List.headD_cons, Act.put, List.setIfInBounds_toArray, List.set_cons_zero, List.set_cons_succ] at hK9 ⊢
      · clear hp
        have hkr := HKR.out.below hs.bel
        rw [if_pos (by rfl)]
        refine wp_load_mid 25 _ rfl kb 0 rfl [.int .u8 (kf 0).toNat, .int .u8 (kf 1).toNat, .int .u8 (kf 2).toNat, .int .u8 (kf 3).toNat, .int .u8 (kf 4).toNat, .int .u8 (kf 5).toNat, .int .u8 (kf 6).toNat, .int .u8 (kf 7).toNat, .int .u8 (kf 8).toNat, .int .u8 (kf 9).toNat, .int .u8 (kf 10).toNat, .int .u8 (kf 11).toNat, .int .u8 (kf 12).toNat, .int .u8 (kf 13).toNat, .int .u8 (kf 14).toNat, .int .u8 (kf 15).toNat] _ (key_range hkr.isKey) Tryz.underlying25 rfl (by kernel_rfl) ?_
        simp only [Act.put, List.setIfInBounds_toArray, List.set_cons_zero, List.set_cons_succ]
        with_reducible refine hK9 _ ?_
        exact hs.next 0 _ (by decide) (by decide) (by decide) (by decide) (by decide)
      · clear hp
        go_simp
        with_reducible refine hK9 _ ?_
        exact hs.next 1 _ (by decide) (by decide) (by decide) (by decide) (by decide)
      · clear hp
        go_simp
        refine (own11 au cu ys (by omega) w9 (HE3.out.below hs.bel)).mono ?_
        rintro e w5 ⟨a5, c5, rfl, hE5, hB5⟩
        go_simp
        with_reducible refine hK9 _ _ ?_
        exact hs.put NilR.below (by decide) hE5 hB5
      · obtain ⟨a5, c5, hx5, hE5⟩ := hs.own (allL_mem hp 2 (by decide +kernel))
        clear hp
        rw [hx5] at hK9 ⊢
        go_simp
        refine (HBLD.out a5 c5 w9 (HI3.out.below hs.bel) hE5).mono ?_
        rintro e w5 ⟨p5, rfl, hR5, hB5⟩
        go_simp
        with_reducible refine hK9 _ _ ?_
        exact hs.built NilR.below (by decide) hR5 hB5
      · obtain ⟨p5, hx5, hR5⟩ := hs.tup (allL_mem hp 3 (by decide +kernel))
        clear hp
        rw [hx5] at hK9 ⊢
        go_simp
        with_reducible refine hK9 _ _ ?_
        exact hs.moved (by decide) hR5
      · obtain ⟨p5, hx5, hR5⟩ := hs.mv (allL_mem hp 4 (by decide +kernel))
        clear hp
        rw [hx5] at hK9 ⊢
        go_simp
        with_reducible refine hK9 _ _ ?_
        exact hs.first (by decide) hR5
      · obtain ⟨p5, hx5, hR5⟩ := hs.mv (allL_mem hp 4 (by decide +kernel))
        clear hp
        rw [hx5] at hK9 ⊢
        go_simp
        with_reducible refine hK9 _ ?_
        exact hs.next 6 _ (by decide) (by decide) (by decide) (by decide) (by decide)
      · have hR5 := hs.ex (allL_mem hp 5 (by decide +kernel))
        clear hp
        go_simp
        with_reducible refine hK9 _ _ ?_
        exact hs.assign (by decide) hR5
    intro L x w9 hS hL
    have hs : KoS WK ys 3 1 NilR L x w9 := hS
    have hR9 := hs.asg (hL 7 (by decide))
    simp only [actMix, pickV, List.tail_cons, List.headD_cons, Act.put, List.setIfInBounds_toArray, List.set_cons_zero, List.set_cons_succ, List.replicate_succ, List.replicate_zero, List.drop_succ_cons, List.drop_zero, List.take_succ_cons, List.take_zero]
    generalize x 3 = xa
    generalize x 4 = xb
    generalize x 5 = xc
    generalize x 7 = xd at *
    have HI9 := Lib.hid (HI3.out.below hs.bel)
    have HKR9 := Lib.hid (HKR.out.below hs.bel)
    have HE9 := Lib.hid (HE3.out.below hs.bel)
    have HB9 := Lib.hid (HBK.out.trans (hs.bel.mono (Nat.le_trans HBK.out.size (Nat.le_refl _))))
    clear hS hs hL HKR HE3 HI3 HBK HBLD
    obtain rfl : xd = .pointer none := hR9
    go_wp2_with fail
    go_ret
    exact ⟨rfl, HB9.out⟩
  obtain ⟨m2, m20, hpm0, h100, hvb⟩ := chkB_yes hc
  have HVB := Lib.hid hvb
  rw [hc] at hck
  have HCK : Hid (Calls Tryz.prog 9 #[.slice au ys.length cu, .int .i64 401] w5 fun e w' => e = .returned (.int .i64 0) ∧ Below w5.heap.size w5 w') := hck
  have HBLD : Hid (∀ a5 c5 w9, IniP w9 → IsEnts w9 a5 c5 ys → Calls Tryz.prog 10 #[keyVal kf, .slice a5 ys.length c5, .int .i64 401] w9 fun e w' => ∃ p, e = .returned (.tuple #[p, .int .i64 0]) ∧ TabR kf ys 401 p w' ∧ Below w9.heap.size w9 w') := fun a5 c5 w9 hi hx => build8_tab kf ys (by omega) HZ.out 401 (by omega) prime401 (by omega) hvb a5 c5 w9 hi.1 hx
  have hp2 : min (max (5 : Int) 1) 256 = ((5 : Nat) : Int) := by decide
  have hbl := fun (a5 : Option Addr) (c5 : Nat) (w9 : World) (hi : IniP w9) (hx : IsEnts w9 a5 c5 ys) => ringBuild27 kf ys (by omega) HZ.out HVB.out 5 5 hp2 a5 c5 w9 hi.1 hi.2 hx
  obtain ⟨hok, hap⟩ := valid_parts hvb
  have hri := srtP_rise (ptsL kf 5 (gmE ys).toNat ys)
  have hplP : (srtP (ptsL kf 5 (gmE ys).toNat ys)).length ≤ 100000 := by
    rw [(srtP_perm _).length_eq]
    have h1 := ptsL_le (k := kf) (p := 5) (G := (gmE ys).toNat) (es := ys) (fun e he => by
      have h2 : 1 ≤ e.2 ∧ e.2 ≤ 65535 := by have := hok e he; unfold okW at this; simpa using this
      have h3 := gmE_ge he
      have := cnt_le (p := 5) (W := e.2.toNat) (G := (gmE ys).toNat) (by omega) (by omega)
      omega)
    omega
  have hnm : ∀ p ∈ srtP (ptsL kf 5 (gmE ys).toNat ys), p.2.size ≤ 1000 := fun p hp => by
    obtain ⟨e, he, h2⟩ := ptsL_name ((srtP_perm _).mem_iff.1 hp)
    rw [h2]; exact HZ.out e he
  have hct := fun st => nmL_count (k := kf) (p := 5) (G := (gmE ys).toNat) hap st
  have hmemR : ∀ st, ∀ N ∈ nmL (arL (srtP (ptsL kf 5 (gmE ys).toNat ys)) st), hasN ys N = true := fun st N hN => by
    obtain ⟨q, hq, rfl⟩ := ((nmL_spec _).2 N).1 hN
    rw [arL_mem, (srtP_perm _).mem_iff] at hq
    obtain ⟨e, he, h2⟩ := ptsL_name hq
    unfold hasN
    rw [List.any_eq_true]
    exact ⟨e, he, decide_eq_true h2.symm⟩
  have hn0 : ys = [] → srtP (ptsL kf 5 (gmE ys).toNat ys) = [] := fun h => by subst h; exact srtP_nil
  generalize srtP (ptsL kf 5 (gmE ys).toNat ys) = PP at *
  obtain ⟨st, hst⟩ := lowAt_ex hri num
  have hrl := hct st
  have hrh : ys ≠ [] → (nmL (arL PP st)).head? = some (pickP PP st) := fun h => by
    have hp : nmL (arL PP st) ≠ [] := fun h2 => by rw [h2] at hrl; exact h (List.eq_nil_of_length_eq_zero hrl.symm)
    rw [nmL_head]
    unfold pickP
    cases h3 : arL PP st with
    | nil => rw [h3] at hp; exact absurd rfl hp
    | cons y l => rfl
  have hr0 : ys = [] → pickP PP st = ⟨#[]⟩ := fun h => by rw [hn0 h]; rfl
  have HPKr := Lib.hid (fun tb W hT => pickW tb ys.length PP hplP hri num st hst W hT)
  have hwk := fun tb W hT => walkW tb ys.length PP hplP hri num st hst W hnm (hct st) hT
  have hrnd := (nmL_spec (arL PP st)).1
  have hrm := hmemR st
  generalize nmL (arL PP st) = bl at *
  generalize pickP PP st = BN at *
  simp only [hrl] at hwk
  have HWKr := Lib.hid hwk
  have HRH := Lib.hid hrh
  have HR0 := Lib.hid hr0
  have HRL := Lib.hid hrl
  have HRO := Lib.hid (fun a c b d W h1 h2 => once18 a c bl b d ys (by omega) (by omega) hrnd hrm W h1 h2)
  simp only [hrl] at HRO
  have HBLR : Hid (∀ a5 c5 w9, IniP w9 → IsEnts w9 a5 c5 ys → Calls Tryz.prog 13 #[keyVal kf, .slice a5 ys.length c5, .int .i64 5] w9 fun e w' => ∃ p, e = .returned (.tuple #[p, .int .i64 0]) ∧ RinR PP ys.length p w' ∧ Below w9.heap.size w9 w') := fun a5 c5 w9 hi hx => (hbl a5 c5 w9 hi hx).mono fun _ _ ⟨rb, h1, h2, h3⟩ => ⟨_, h1, ⟨rb, rfl, h2⟩, h3⟩
  clear hck hc m2 m20 hpm0 h100 hp2 hbl hri hplP hnm hct hmemR hn0 hst hrl hrh hr0 hwk hrnd hrm
  case pos =>
    go_upto_region 8 with (go_at_call 9; refine HCK.out.mono ?_; rintro e WK ⟨rfl, hB6⟩; have HE3 := Lib.hid (HE5.out.below hB6); have HI3 := Lib.hid (HI5.out.below hB6); have HKR := Lib.hid (HKR5.out.below hB6); have HBK := Lib.hid (HB5.out.trans (hB6.mono HB5.out.size)); clear hB6)
    clear HCK HE5 HI5 HKR5 HB5
    refine region_mixt 9 [some (.agg #[.int .u8 (kf 0).toNat, .int .u8 (kf 1).toNat, .int .u8 (kf 2).toNat, .int .u8 (kf 3).toNat, .int .u8 (kf 4).toNat, .int .u8 (kf 5).toNat, .int .u8 (kf 6).toNat, .int .u8 (kf 7).toNat, .int .u8 (kf 8).toNat, .int .u8 (kf 9).toNat, .int .u8 (kf 10).toNat, .int .u8 (kf 11).toNat, .int .u8 (kf 12).toNat, .int .u8 (kf 13).toNat, .int .u8 (kf 14).toNat, .int .u8 (kf 15).toNat]), some (.slice au ys.length cu), none, some (.int .i64 401), none, none, none, some (.int .i64 0), none]
      [[false, false, false, false, false, false, false, false, false], [false, false, false, false, false, false, false, false, false], [false, true, false, false, false, false, false, false, false], [false, false, true, false, false, false, false, false, false], [true, false, true, true, false, false, false, false, false], [false, false, false, false, true, false, false, false, false], [false, false, false, false, false, true, false, false, false], [false, false, false, false, false, true, false, false, false], [true, true, true, true, true, true, true, false, false]]
      (fun LL xx w9 => KoS WK ys 4 0 (TabR kf ys 401) LL xx w9)
      (by kernel_rfl) (by kernel_rfl) (by kernel_rfl) (by kernel_rfl) (by kernel_rfl) (by decide) ?_ ?_ ?_
    · intro x
      exact KoS.start _ _ _ _ _ _
    · simp only [List.take_succ_cons, List.take_zero]
      refine ⟨?_, ?_, ?_, ?_, ?_, ?_, ?_, ?_, ?_, trivial⟩
      all_goals
        intro L x w9 hS hl hp K9 hK9
        have hs : KoS WK ys 4 0 (TabR kf ys 401) L x w9 := hS
        clear hS
        replace hK9 := hK9.out
        simp only [actMix, pickV, List.tail_cons, List.headD_cons, Act.put, List.setIfInBounds_toArray, List.set_cons_zero, List.set_cons_succ] at hK9 ⊢
      · clear hp
        have hkr := HKR.out.below hs.bel
        rw [if_pos (by rfl)]
        refine wp_load_mid 25 _ rfl kb 0 rfl [.int .u8 (kf 0).toNat, .int .u8 (kf 1).toNat, .int .u8 (kf 2).toNat, .int .u8 (kf 3).toNat, .int .u8 (kf 4).toNat, .int .u8 (kf 5).toNat, .int .u8 (kf 6).toNat, .int .u8 (kf 7).toNat, .int .u8 (kf 8).toNat, .int .u8 (kf 9).toNat, .int .u8 (kf 10).toNat, .int .u8 (kf 11).toNat, .int .u8 (kf 12).toNat, .int .u8 (kf 13).toNat, .int .u8 (kf 14).toNat, .int .u8 (kf 15).toNat] _ (key_range hkr.isKey) Tryz.underlying25 rfl (by kernel_rfl) ?_
        simp only [Act.put, List.setIfInBounds_toArray, List.set_cons_zero, List.set_cons_succ]
        with_reducible refine hK9 _ ?_
        exact hs.next 0 _ (by decide) (by decide) (by decide) (by decide) (by decide)
      · clear hp
        go_simp
        with_reducible refine hK9 _ ?_
        exact hs.next 1 _ (by decide) (by decide) (by decide) (by decide) (by decide)
      · clear hp
        go_simp
        refine (own11 au cu ys (by omega) w9 (HE3.out.below hs.bel)).mono ?_
        rintro e w5 ⟨a5, c5, rfl, hE5, hB5⟩
        go_simp
        with_reducible refine hK9 _ _ ?_
        exact hs.put TabR.below (by decide) hE5 hB5
      · clear hp
        go_simp
        refine (next401 w9).mono ?_
        rintro e w8 ⟨rfl, hw8⟩
        subst w8
        go_simp
        with_reducible refine hK9 _ ?_
        exact hs.next 3 _ (by decide) (by decide) (by decide) (by decide) (by decide)
      · obtain ⟨a5, c5, hx5, hE5⟩ := hs.own (allL_mem hp 2 (by decide +kernel))
        clear hp
        rw [hx5] at hK9 ⊢
        go_simp
        refine (HBLD.out a5 c5 w9 (HI3.out.below hs.bel) hE5).mono ?_
        rintro e w5 ⟨p5, rfl, hR5, hB5⟩
        go_simp
        with_reducible refine hK9 _ _ ?_
        exact hs.built TabR.below (by decide) hR5 hB5
      · obtain ⟨p5, hx5, hR5⟩ := hs.tup (allL_mem hp 4 (by decide +kernel))
        clear hp
        rw [hx5] at hK9 ⊢
        go_simp
        with_reducible refine hK9 _ _ ?_
        exact hs.moved (by decide) hR5
      · obtain ⟨p5, hx5, hR5⟩ := hs.mv (allL_mem hp 5 (by decide +kernel))
        clear hp
        rw [hx5] at hK9 ⊢
        go_simp
        with_reducible refine hK9 _ _ ?_
        exact hs.first (by decide) hR5
      · obtain ⟨p5, hx5, hR5⟩ := hs.mv (allL_mem hp 5 (by decide +kernel))
        clear hp
        rw [hx5] at hK9 ⊢
        go_simp
        with_reducible refine hK9 _ ?_
        exact hs.next 7 _ (by decide) (by decide) (by decide) (by decide) (by decide)
      · have hR5 := hs.ex (allL_mem hp 6 (by decide +kernel))
        clear hp
        go_simp
        with_reducible refine hK9 _ _ ?_
        exact hs.assign (by decide) hR5
    intro L x w9 hS hL
    have hs : KoS WK ys 4 0 (TabR kf ys 401) L x w9 := hS
    have hR9 := hs.asg (hL 8 (by decide))
    simp only [actMix, pickV, List.tail_cons, List.headD_cons, Act.put, List.setIfInBounds_toArray, List.set_cons_zero, List.set_cons_succ, List.replicate_succ, List.replicate_zero, List.drop_succ_cons, List.drop_zero, List.take_succ_cons, List.take_zero]
    generalize x 4 = xa
    generalize x 5 = xb
    generalize x 6 = xc
    generalize x 8 = xd at *
    have HI9 := Lib.hid (HI3.out.below hs.bel)
    have HKR9 := Lib.hid (HKR.out.below hs.bel)
    have HE9 := Lib.hid (HE3.out.below hs.bel)
    have HB9 := Lib.hid (HBK.out.trans (hs.bel.mono (Nat.le_trans HBK.out.size (Nat.le_refl _))))
    clear hS hs hL HKR HE3 HI3 HBK HBLD
    obtain ⟨tb, own, rfl, hAS, hTA⟩ := hR9
    have HTA := Lib.hid hTA
    have HAS := Lib.hid hAS
    have HKR := Lib.hid HKR9.out
    have HI3 := Lib.hid HI9.out
    have HBK := Lib.hid HB9.out
    have HE3 := Lib.hid HE9.out
    have HBLD := Lib.hid HBLR.out
    clear hTA hAS HE9 HKR9 HI9 HB9 HBLR
    obtain ⟨WC, rfl⟩ : ∃ WC, WC = w9 := ⟨w9, rfl⟩
    go_wp2_with fail
    refine region_mixt 8 [some (.agg #[.int .u8 (kf 0).toNat, .int .u8 (kf 1).toNat, .int .u8 (kf 2).toNat, .int .u8 (kf 3).toNat, .int .u8 (kf 4).toNat, .int .u8 (kf 5).toNat, .int .u8 (kf 6).toNat, .int .u8 (kf 7).toNat, .int .u8 (kf 8).toNat, .int .u8 (kf 9).toNat, .int .u8 (kf 10).toNat, .int .u8 (kf 11).toNat, .int .u8 (kf 12).toNat, .int .u8 (kf 13).toNat, .int .u8 (kf 14).toNat, .int .u8 (kf 15).toNat]), some (.slice au ys.length cu), none, none, none, none, some (.int .i64 0), none]
      [[false, false, false, false, false, false, false, false], [false, false, false, false, false, false, false, false], [false, true, false, false, false, false, false, false], [true, false, true, false, false, false, false, false], [false, false, false, true, false, false, false, false], [false, false, false, false, true, false, false, false], [false, false, false, false, true, false, false, false], [true, true, true, true, true, true, false, false]]
      (fun LL xx w9 => KoS WC ys 3 0 (RinR PP ys.length) LL xx w9)
      (by kernel_rfl) (by kernel_rfl) (by kernel_rfl) (by kernel_rfl) (by kernel_rfl) (by decide) ?_ ?_ ?_
    · intro x
      exact KoS.start _ _ _ _ _ _
    · simp only [List.take_succ_cons, List.take_zero]
      refine ⟨?_, ?_, ?_, ?_, ?_, ?_, ?_, ?_, trivial⟩
      all_goals
        intro L x w9 hS hl hp K9 hK9
        have hs : KoS WC ys 3 0 (RinR PP ys.length) L x w9 := hS
        clear hS
        replace hK9 := hK9.out
        simp only [actMix, pickV, List.tail_cons, List.headD_cons, Act.put, List.setIfInBounds_toArray, List.set_cons_zero, List.set_cons_succ] at hK9 ⊢
      · clear hp
        have hkr := HKR.out.below hs.bel
        rw [if_pos (by rfl)]
        refine wp_load_mid 25 _ rfl kb 0 rfl [.int .u8 (kf 0).toNat, .int .u8 (kf 1).toNat, .int .u8 (kf 2).toNat, .int .u8 (kf 3).toNat, .int .u8 (kf 4).toNat, .int .u8 (kf 5).toNat, .int .u8 (kf 6).toNat, .int .u8 (kf 7).toNat, .int .u8 (kf 8).toNat, .int .u8 (kf 9).toNat, .int .u8 (kf 10).toNat, .int .u8 (kf 11).toNat, .int .u8 (kf 12).toNat, .int .u8 (kf 13).toNat, .int .u8 (kf 14).toNat, .int .u8 (kf 15).toNat] _ (key_range hkr.isKey) Tryz.underlying25 rfl (by kernel_rfl) ?_
        simp only [Act.put, List.setIfInBounds_toArray, List.set_cons_zero, List.set_cons_succ]
        with_reducible refine hK9 _ ?_
        exact hs.next 0 _ (by decide) (by decide) (by decide) (by decide) (by decide)
      · clear hp
        go_simp
        with_reducible refine hK9 _ ?_
        exact hs.next 1 _ (by decide) (by decide) (by decide) (by decide) (by decide)
      · clear hp
        go_simp
        refine (own28 au cu ys (by omega) w9 (HE3.out.below hs.bel)).mono ?_
        rintro e w5 ⟨a5, c5, rfl, hE5, hB5⟩
        go_simp
        with_reducible refine hK9 _ _ ?_
        exact hs.put RinR.below (by decide) hE5 hB5
      · obtain ⟨a5, c5, hx5, hE5⟩ := hs.own (allL_mem hp 2 (by decide +kernel))
        clear hp
        rw [hx5] at hK9 ⊢
        go_simp
        refine (HBLD.out a5 c5 w9 (HI3.out.below hs.bel) hE5).mono ?_
        rintro e w5 ⟨p5, rfl, hR5, hB5⟩
        go_simp
        with_reducible refine hK9 _ _ ?_
        exact hs.built RinR.below (by decide) hR5 hB5
      · obtain ⟨p5, hx5, hR5⟩ := hs.tup (allL_mem hp 3 (by decide +kernel))
        clear hp
        rw [hx5] at hK9 ⊢
        go_simp
        with_reducible refine hK9 _ _ ?_
        exact hs.moved (by decide) hR5
      · obtain ⟨p5, hx5, hR5⟩ := hs.mv (allL_mem hp 4 (by decide +kernel))
        clear hp
        rw [hx5] at hK9 ⊢
        go_simp
        with_reducible refine hK9 _ _ ?_
        exact hs.first (by decide) hR5
      · obtain ⟨p5, hx5, hR5⟩ := hs.mv (allL_mem hp 4 (by decide +kernel))
        clear hp
        rw [hx5] at hK9 ⊢
        go_simp
        with_reducible refine hK9 _ ?_
        exact hs.next 6 _ (by decide) (by decide) (by decide) (by decide) (by decide)
      · have hR5 := hs.ex (allL_mem hp 5 (by decide +kernel))
        clear hp
        go_simp
        with_reducible refine hK9 _ _ ?_
        exact hs.assign (by decide) hR5
    intro L x w9 hS hL
    have hs : KoS WC ys 3 0 (RinR PP ys.length) L x w9 := hS
    have hR9 := hs.asg (hL 7 (by decide))
    simp only [actMix, pickV, List.tail_cons, List.headD_cons, Act.put, List.setIfInBounds_toArray, List.set_cons_zero, List.set_cons_succ, List.replicate_succ, List.replicate_zero, List.drop_succ_cons, List.drop_zero, List.take_succ_cons, List.take_zero]
    generalize x 3 = xa
    generalize x 4 = xb
    generalize x 5 = xc
    generalize x 7 = xd at *
    have HI9 := Lib.hid (HI3.out.below hs.bel)
    have HKR9 := Lib.hid (HKR.out.below hs.bel)
    have HE9 := Lib.hid (HE3.out.below hs.bel)
    have HB9 := Lib.hid (HBK.out.trans (hs.bel.mono (Nat.le_trans HBK.out.size (Nat.le_refl _))))
    have HTA2 := Lib.hid (HTA.out.below hs.bel)
    clear hS hs hL HTA HKR HE3 HI3 HBK HBLD
    obtain ⟨tb2, rfl, hTB⟩ := hR9
    have HTB := Lib.hid hTB
    clear hTB HKR9 HI9
    have hok : OwnOk (srtE ys).length 401 own := HAS.out.ok prime401 (fun e he => (valid_parts HVB.out).1 e (((srtE_spec ys).1.mem_iff).1 he))
    have hlen := (srtE_spec ys).1.length_eq
    have hFU := HAS.out.fullT prime401 (fun e he => (valid_parts HVB.out).1 e (((srtE_spec ys).1.mem_iff).1 he)) (((apart_perm (srtE_spec ys).1).2 (valid_parts HVB.out).2))
    have hSZ : ∀ n ∈ (srtE ys).map (·.1), n.size ≤ 1000 := fun n hn => by
      obtain ⟨e, he, rfl⟩ := List.mem_map.1 hn
      exact HZ.out e (((srtE_spec ys).1.mem_iff).1 he)
    have hNS : ∀ N ∈ (srtE ys).map (·.1), hasN ys N = true := fun N hN => by
      obtain ⟨e, he, rfl⟩ := List.mem_map.1 hN
      unfold hasN
      rw [List.any_eq_true]
      exact ⟨e, ((srtE_spec ys).1.mem_iff).1 he, decide_eq_true rfl⟩
    have hnl : ((srtE ys).map (·.1)).length = ys.length := by rw [List.length_map, hlen]
    rw [hlen, ← hnl] at hok
    clear hlen HAS HVB HZ
    generalize (srtE ys).map (·.1) = ns at *
    have hn4 : ns.length ≤ 4 := by omega
    have HSH := Lib.hid (fun W hT => shares16 tb 401 (by omega) ns (by omega) own hok W hT)
    have hwl := fun W hT => walkM tb 401 (by decide) (by decide) ns (by omega) hSZ own hok num HNX.out W hT
    obtain ⟨hwd, hws, hwc⟩ := wkS_whole hFU (by decide) (num * 401 / 18446744073709551616)
    have hst : num * 401 / 18446744073709551616 < 401 := belowN_lt num 401 HNX.out (by decide)
    have hbn2 : belowN num 401 = ((num * 401 / 18446744073709551616 : Nat) : Int) := rfl
    have hpk := fun W hT => pick26 tb 401 (by decide) (by decide) ns (by omega) own hok num HNX.out W hT
    rw [hbn2] at hpk
    generalize num * 401 / 18446744073709551616 = st at *
    have hwh : ns ≠ [] → (wkS ns 401 own st 401).head? = some (atN ns 401 own (st : Int)) := fun h => wkS_head h hst
    have hw0 : ns = [] → atN ns 401 own (st : Int) = ⟨#[]⟩ := fun h => by
      subst h
      unfold atN
      split
      · rfl
      · split
        · rfl
        · simp
    have hwle : (wkS ns 401 own st 401).length ≤ 4 := by have := wkS_le (ns := ns) (m := 401) (own := own) (st := st) 401; omega
    have hwm : ∀ N ∈ wkS ns 401 own st 401, hasN ys N = true := fun N hN => hNS N (hws N hN)
    generalize wkS ns 401 own st 401 = wl at *
    generalize atN ns 401 own (st : Int) = N at *
    have HTO := Lib.hid (fun a c b d W h1 h2 => once18 a c wl b d ys (by omega) (by omega) hwd hwm W h1 h2)
    have HWL := Lib.hid hwl
    have HPK := Lib.hid hpk
    have HWH := Lib.hid hwh
    have HW0 := Lib.hid hw0
    have HWC := Lib.hid hwc
    have HWLE := Lib.hid hwle
    have HNL := Lib.hid hnl
    clear hok hFU hSZ hNS hwl hwd hws hwc hst hbn2 hpk hwh hw0 hwle hwm HNX hnl
    obtain ⟨WD, rfl⟩ : ∃ WD, WD = w9 := ⟨w9, rfl⟩
    go_wp2_with (go_at_call 15; refine (HSH.out _ HTA2.out).mono ?_; rintro e wy ⟨sb, rfl, hRS, hBy⟩; have HRS := Lib.hid hRS; have HTAy := Lib.hid (HTA2.out.below hBy); have HTBy := Lib.hid (HTB.out.below hBy); have HEy := Lib.hid (HE9.out.below hBy); have HBy := Lib.hid (HB9.out.trans (hBy.mono HB9.out.size)); clear hRS hBy)
    clear HTA2 HTB HE9 HB9 HSH
    go_loopw [15, 76] (fun v i wr => ∃ q : Nat, q ≤ ns.length ∧ v = .int .i64 (cntF (fun i => decide (0 < shN own i 401)) q : Nat) ∧ i = .int .i64 (q : Int) ∧ Hid (wr = wy)) (fun _ i _ => ns.length - (intOf i).toNat)
    case atStart => exact ⟨0, Nat.zero_le _, rfl, rfl, rfl⟩
    case round =>
      rename_i wr0
      obtain ⟨q, hq, rfl, rfl, hwr⟩ := hrel
      obtain rfl := hwr.out
      clear hwr
      by_cases hlt : q < ns.length
      · have c3 : wr.cell? ⟨sb, q, none⟩ = some (.int .i64 (shN own q 401 : Nat)) := by rw [HRS.out.cell q, List.getElem?_toArray, shV_at hlt]
        have q1 : (q : Int) < ns.length := by omega
        have hle := cntF_le (fun i => decide (0 < shN own i 401)) q
        by_cases hp : 0 < shN own q 401
        · have hc2 : cntF (fun i => decide (0 < shN own i 401)) (q + 1) = cntF (fun i => decide (0 < shN own i 401)) q + 1 := by rw [cntF, if_pos (decide_eq_true hp)]
          have HC2 := Lib.hid hc2
          have hp1 : (0 : Int) < (shN own q 401 : Nat) := by omega
          generalize shN own q 401 = sq at *
          generalize cntF (fun i => decide (0 < shN own i 401)) q = cq at *
          clear hc2 hp
          go_wp2_with fail
          go_roundw
          case rel => exact ⟨q + 1, hlt, by rw [HC2.out]; go_num, by go_num, trivial⟩
          case measure => simp [intOf]; omega
        · have hc2 : cntF (fun i => decide (0 < shN own i 401)) (q + 1) = cntF (fun i => decide (0 < shN own i 401)) q := by rw [cntF, decide_eq_false hp]; rfl
          have HC2 := Lib.hid hc2
          have hp1 : ¬ (0 : Int) < (shN own q 401 : Nat) := by omega
          generalize shN own q 401 = sq at *
          generalize cntF (fun i => decide (0 < shN own i 401)) q = cq at *
          clear hc2 hp
          go_wp2_with fail
          go_roundw
          case rel => exact ⟨q + 1, hlt, by rw [HC2.out], by go_num, trivial⟩
          case measure => simp [intOf]; omega
      · obtain rfl : q = ns.length := by omega
        have hne : ¬ (ns.length : Int) < ns.length := by omega
        rw [← HWC.out]
        clear HWC HRS
        have hne3 : (((wl.length : Nat) : Int) != ((wl.length : Nat) : Int)) = false := by simp
        have hne4 : (((ys.length : Nat) : Int) != ((ys.length : Nat) : Int)) = false := by simp
        have TK1 : Hid True := trivial
        go_upto_region 22 with (first
          | (go_at_call 16; refine (HWL.out _ HTAy.out).mono ?_; rintro e wa ⟨aw, cw, rfl, hSa, hBa⟩; have HSa := Lib.hid hSa; have HTAa := Lib.hid (HTAy.out.below hBa); have HTBa := Lib.hid (HTBy.out.below hBa); have HEa := Lib.hid (HEy.out.below hBa); have HBa := Lib.hid (HBy.out.trans (hBa.mono HBy.out.size)); clear hSa hBa)
          | (go_at_call 17; refine (HWKr.out tb2 _ HTBa.out).mono ?_; rintro e wb ⟨ab, cb, rfl, hSb, hBb⟩; have HSb := Lib.hid hSb; have HSA := Lib.hid (HSa.out.below hBb); have HTAb := Lib.hid (HTAa.out.below hBb); have HTBb := Lib.hid (HTBa.out.below hBb); have HEb := Lib.hid (HEa.out.below hBb); have HBb := Lib.hid (HBa.out.trans (hBb.mono HBa.out.size)); clear hSb hBb)
          | (go_at_call 18; clear TK1; refine (HTO.out _ _ _ _ _ HSA.out HEb.out).mono ?_; rintro e wc ⟨rfl, hBc⟩; have HSBc := Lib.hid (HSb.out.below hBc); have HSAc := Lib.hid (HSA.out.below hBc); have HTAc := Lib.hid (HTAb.out.below hBc); have HTBc := Lib.hid (HTBb.out.below hBc); have HEc := Lib.hid (HEb.out.below hBc); have HBc := Lib.hid (HBb.out.trans (hBc.mono HBb.out.size)); clear hBc)
          | (go_at_call 18; refine (HRO.out _ _ _ _ _ HSBc.out HEc.out).mono ?_; rintro e wd ⟨rfl, hBd⟩; have HSB := Lib.hid (HSBc.out.below hBd); have HSC := Lib.hid (HSAc.out.below hBd); have HTA := Lib.hid (HTAc.out.below hBd); have HTB := Lib.hid (HTBc.out.below hBd); have HB := Lib.hid (HBc.out.trans (hBd.mono HBc.out.size)); clear hBd))
        have hN0 : ys.length = 0 → N = ⟨#[]⟩ := fun h => HW0.out (List.eq_nil_of_length_eq_zero (by have := HNL.out; omega))
        have hB0 : ys.length = 0 → BN = ⟨#[]⟩ := fun h => HR0.out (List.eq_nil_of_length_eq_zero h)
        have hN1 : 0 < ys.length → wl.head? = some N := fun h => HWH.out (fun e => by have h1 := HNL.out; rw [e, List.length_nil] at h1; omega)
        have hB1 : 0 < ys.length → bl.head? = some BN := fun h => HRH.out (fun e => by rw [e, List.length_nil] at h; omega)
        have hwl4 := HWLE.out
        have hbl4 := HRL.out
        clear HW0 HR0 HWH HRH HNL HTO HRO HWL HWKr HRL HWLE HTAy HTBy HEy HBy HSa HTAa HTBa HEa HBa HSb HSA HTAb HTBb HEb HBb HSBc HSAc HTAc HTBc HEc HBc hvb hok hap hne3 hne4 hne
        generalize ys.length = n at *
        rcases Nat.eq_zero_or_pos n with hn0 | hn0
        · have e1 := hN0 hn0
          have e2 := hB0 hn0
          clear hN0 hB0 hN1 hB1
          subst hn0
          rw [e1] at HPK
          rw [e2] at HPKr
          simp only [show ((0 : Nat) : Int) = 0 from rfl]
          refine region_mixt 38 [some (.slice au 0 cu), some (.int .i64 0), some (.bool true), some (.bool true), some (.pointer (some ⟨tb, 0, none⟩)), some (.int .u64 (num : Nat)), some (.string ⟨#[]⟩), some (.bool true), some (.bool true), some (.bool true), some (.pointer (some ⟨tb2, 0, none⟩)), some (.int .u64 (num : Nat)), some (.string ⟨#[]⟩), some (.bool true), some (.bool true), some (.bool true), some (undef), some (undef), some (undef), some (undef), some (undef), some (undef), some (undef), some (undef), some (undef), some (undef), some (undef), some (undef), some (undef), some (undef), some (undef), some (undef), some (undef), some (undef), some (undef), some (undef), some (undef), some (.bool true)]
            [[false, false, false, false, false, false, false, false, false, false, false, false, false, false, false, false, false, false, false, false, false, false, false, false, false, false, false, false, false, false, false, false, false, false, false, false, false, false], [true, false, false, false, false, false, false, false, false, false, false, false, false, false, false, false, false, false, false, false, false, false, false, false, false, false, false, false, false, false, false, false, false, false, false, false, false, false], [false, true, false, false, false, false, false, false, false, false, false, false, false, false, false, false, false, false, false, false, false, false, false, false, false, false, false, false, false, false, false, false, false, false, false, false, false, false], [false, false, true, false, false, false, false, false, false, false, false, false, false, false, false, false, false, false, false, false, false, false, false, false, false, false, false, false, false, false, false, false, false, false, false, false, false, false], [false, false, false, true, false, false, false, false, false, false, false, false, false, false, false, false, false, false, false, false, false, false, false, false, false, false, false, false, false, false, false, false, false, false, false, false, false, false], [false, false, false, true, false, false, false, false, false, false, false, false, false, false, false, false, false, false, false, false, false, false, false, false, false, false, false, false, false, false, false, false, false, false, false, false, false, false], [false, false, false, true, true, true, false, false, false, false, false, false, false, false, false, false, false, false, false, false, false, false, false, false, false, false, false, false, false, false, false, false, false, false, false, false, false, false], [false, false, false, true, false, false, true, false, false, false, false, false, false, false, false, false, false, false, false, false, false, false, false, false, false, false, false, false, false, false, false, false, false, false, false, false, false, false], [false, false, false, true, false, false, false, true, false, false, false, false, false, false, false, false, false, false, false, false, false, false, false, false, false, false, false, false, false, false, false, false, false, false, false, false, false, false], [false, false, false, false, false, false, true, false, true, false, false, false, false, false, false, false, false, false, false, false, false, false, false, false, false, false, false, false, false, false, false, false, false, false, false, false, false, false], [false, false, false, false, false, false, false, false, false, true, false, false, false, false, false, false, false, false, false, false, false, false, false, false, false, false, false, false, false, false, false, false, false, false, false, false, false, false], [false, false, false, false, false, false, false, false, false, true, false, false, false, false, false, false, false, false, false, false, false, false, false, false, false, false, false, false, false, false, false, false, false, false, false, false, false, false], [false, false, false, false, false, false, false, false, false, true, true, true, false, false, false, false, false, false, false, false, false, false, false, false, false, false, false, false, false, false, false, false, false, false, false, false, false, false], [false, false, false, false, false, false, false, false, false, true, false, false, true, false, false, false, false, false, false, false, false, false, false, false, false, false, false, false, false, false, false, false, false, false, false, false, false, false], [false, false, false, false, false, false, false, false, false, true, false, false, false, true, false, false, false, false, false, false, false, false, false, false, false, false, false, false, false, false, false, false, false, false, false, false, false, false], [false, false, false, false, false, false, false, false, false, false, false, false, true, false, true, false, false, false, false, false, false, false, false, false, false, false, false, false, false, false, false, false, false, false, false, false, false, false], [false, false, false, false, false, false, false, false, false, false, false, false, false, false, false, true, false, false, false, false, false, false, false, false, false, false, false, false, false, false, false, false, false, false, false, false, false, false], [false, false, false, false, false, false, false, false, false, false, false, false, false, false, false, true, true, false, false, false, false, false, false, false, false, false, false, false, false, false, false, false, false, false, false, false, false, false], [false, false, false, false, false, false, false, false, false, false, false, false, false, false, false, true, false, true, false, false, false, false, false, false, false, false, false, false, false, false, false, false, false, false, false, false, false, false], [false, false, false, false, false, false, false, false, false, false, false, false, false, false, false, true, false, false, true, false, false, false, false, false, false, false, false, false, false, false, false, false, false, false, false, false, false, false], [false, false, false, false, false, false, false, false, false, false, false, false, false, false, false, false, false, false, false, true, false, false, false, false, false, false, false, false, false, false, false, false, false, false, false, false, false, false], [false, false, false, false, false, false, false, false, false, false, false, false, false, false, false, false, false, false, false, true, false, false, false, false, false, false, false, false, false, false, false, false, false, false, false, false, false, false], [false, false, false, false, false, false, false, false, false, false, false, false, false, false, false, false, false, false, false, true, true, true, false, false, false, false, false, false, false, false, false, false, false, false, false, false, false, false], [false, false, false, false, false, false, false, false, false, false, false, false, false, false, false, false, false, false, false, true, false, false, false, false, false, false, false, false, false, false, false, false, false, false, false, false, false, false], [false, false, false, false, false, false, false, false, false, false, false, false, false, false, false, false, false, false, false, true, false, false, false, true, false, false, false, false, false, false, false, false, false, false, false, false, false, false], [false, false, false, false, false, false, false, false, false, false, false, false, false, false, false, false, false, false, false, true, false, false, false, false, true, false, false, false, false, false, false, false, false, false, false, false, false, false], [false, false, false, false, false, false, false, false, false, false, false, false, false, false, false, false, false, false, false, true, false, false, true, false, false, true, false, false, false, false, false, false, false, false, false, false, false, false], [false, false, false, false, false, false, false, false, false, false, false, false, false, false, false, true, false, false, false, true, false, false, false, false, false, false, true, false, false, false, false, false, false, false, false, false, false, false], [false, false, false, false, false, false, false, false, false, false, false, false, false, false, false, true, false, false, false, false, false, false, true, false, false, false, false, true, false, false, false, false, false, false, false, false, false, false], [false, false, false, false, false, false, false, false, false, false, false, false, false, false, false, false, false, false, false, false, false, false, false, false, false, false, false, false, true, false, false, false, false, false, false, false, false, false], [false, false, false, false, false, false, false, false, false, false, false, false, false, false, false, false, false, false, false, false, false, false, false, false, false, false, false, false, true, false, false, false, false, false, false, false, false, false], [false, false, false, false, false, false, false, false, false, false, false, false, false, false, false, false, false, false, false, false, false, false, false, false, false, false, false, false, true, true, true, false, false, false, false, false, false, false], [false, false, false, false, false, false, false, false, false, false, false, false, false, false, false, false, false, false, false, false, false, false, false, false, false, false, false, false, true, false, false, false, false, false, false, false, false, false], [false, false, false, false, false, false, false, false, false, false, false, false, false, false, false, false, false, false, false, false, false, false, false, false, false, false, false, false, true, false, false, false, true, false, false, false, false, false], [false, false, false, false, false, false, false, false, false, false, false, false, false, false, false, false, false, false, false, false, false, false, false, false, false, false, false, false, true, false, false, false, false, true, false, false, false, false], [false, false, false, false, false, false, false, false, false, false, false, false, false, false, false, false, false, false, false, false, false, false, false, false, false, false, false, false, true, false, false, true, false, false, true, false, false, false], [false, false, false, false, false, false, false, false, false, false, false, false, false, false, false, true, false, false, false, false, false, false, false, false, false, false, false, false, true, false, false, false, false, false, false, true, false, false], [false, false, false, false, false, false, false, false, false, false, false, false, false, false, false, true, false, false, false, false, false, false, false, false, false, false, false, false, false, false, false, false, false, false, false, false, true, false]]
            (fun LL xx w9 => MxS wd [] [] LL xx w9)
            (by kernel_rfl) (by kernel_rfl) (by kernel_rfl) (by kernel_rfl) (by kernel_rfl) (by decide) ?_ ?_ ?_
          · intro x
            exact MxS.start (by simp)
          · simp only [List.take_succ_cons, List.take_zero]
            refine ⟨?_, ?_, ?_, ?_, ?_, ?_, ?_, ?_, ?_, ?_, ?_, ?_, ?_, ?_, ?_, ?_, ?_, ?_, ?_, ?_, ?_, ?_, ?_, ?_, ?_, ?_, ?_, ?_, ?_, ?_, ?_, ?_, ?_, ?_, ?_, ?_, ?_, ?_, trivial⟩
            all_goals
              intro L x w9 hS hl hp K9 hK9
              have hs : MxS wd [] [] L x w9 := hS
              clear hS
              replace hK9 := hK9.out
              simp only [actMix, pickV, List.tail_cons, List.headD_cons, Act.put, List.setIfInBounds_toArray, List.set_cons_zero, List.set_cons_succ] at hK9 ⊢
            · clear hp
              go_simp
              with_reducible refine hK9 _ ?_
              exact hs.next 0 _ (by simp [MxI])
            · clear hp
              go_simp
              with_reducible refine hK9 _ ?_
              exact hs.next 1 _ (by simp [MxI])
            · clear hp
              go_simp
              with_reducible refine hK9 _ ?_
              exact hs.next 2 _ (by simp [MxI])
            · clear hp
              go_simp
              with_reducible refine hK9 _ ?_
              exact hs.next 3 _ (by simp [MxI])
            · clear hp
              go_simp
              with_reducible refine hK9 _ ?_
              exact hs.next 4 _ (by simp [MxI])
            · clear hp
              go_simp
              with_reducible refine hK9 _ ?_
              exact hs.next 5 _ (by simp [MxI])
            · clear hp
              go_simp
              refine (HPK.out w9 (HTA.out.below hs.bel0)).mono ?_
              rintro e w8 ⟨rfl, hB8⟩
              go_simp
              with_reducible refine hK9 _ ?_
              exact (hs.below hB8).next 6 _ (by simp [MxI])
            · clear hp
              go_simp
              with_reducible refine hK9 _ ?_
              exact hs.next 7 _ (by simp [MxI])
            · clear hp
              go_simp
              with_reducible refine hK9 _ ?_
              exact hs.next 8 _ (by simp [MxI])
            · clear hp
              go_simp
              with_reducible refine hK9 _ ?_
              exact hs.next 9 _ (by simp [MxI])
            · clear hp
              go_simp
              with_reducible refine hK9 _ ?_
              exact hs.next 10 _ (by simp [MxI])
            · clear hp
              go_simp
              with_reducible refine hK9 _ ?_
              exact hs.next 11 _ (by simp [MxI])
            · clear hp
              go_simp
              refine (HPKr.out tb2 w9 (HTB.out.below hs.bel0)).mono ?_
              rintro e w8 ⟨rfl, hB8⟩
              go_simp
              with_reducible refine hK9 _ ?_
              exact (hs.below hB8).next 12 _ (by simp [MxI])
            · clear hp
              go_simp
              with_reducible refine hK9 _ ?_
              exact hs.next 13 _ (by simp [MxI])
            · clear hp
              go_simp
              with_reducible refine hK9 _ ?_
              exact hs.next 14 _ (by simp [MxI])
            · clear hp
              go_simp
              with_reducible refine hK9 _ ?_
              exact hs.next 15 _ (by simp [MxI])
            · clear hp
              go_simp
              with_reducible refine hK9 _ ?_
              exact hs.next 16 _ (by simp [MxI])
            · clear hp
              go_simp
              with_reducible refine hK9 _ ?_
              exact hs.next 17 _ (by simp [MxI])
            · clear hp
              go_simp
              with_reducible refine hK9 _ ?_
              exact hs.next 18 _ (by simp [MxI])
            · clear hp
              go_simp
              with_reducible refine hK9 _ ?_
              exact hs.next 19 _ (by simp [MxI])
            · clear hp
              go_simp
              rw [if_neg (by first | decide | (intro h; cases h) | simp [undef])]
              with_reducible refine hK9 _ ?_
              exact hs.next 20 _ (by simp [MxI])
            · clear hp
              go_simp
              rw [if_neg (by first | decide | (intro h; cases h) | simp [undef])]
              with_reducible refine hK9 _ ?_
              exact hs.next 21 _ (by simp [MxI])
            · clear hp
              go_simp
              rw [if_neg (by first | decide | (intro h; cases h) | simp [undef])]
              with_reducible refine hK9 _ ?_
              exact hs.next 22 _ (by simp [MxI])
            · clear hp
              go_simp
              rw [if_neg (by first | decide | (intro h; cases h) | simp [undef])]
              with_reducible refine hK9 _ ?_
              exact hs.next 23 _ (by simp [MxI])
            · clear hp
              go_simp
              rw [if_neg (by first | decide | (intro h; cases h) | simp [undef])]
              with_reducible refine hK9 _ ?_
              exact hs.next 24 _ (by simp [MxI])
            · clear hp
              go_simp
              rw [if_neg (by first | decide | (intro h; cases h) | simp [undef])]
              with_reducible refine hK9 _ ?_
              exact hs.next 25 _ (by simp [MxI])
            · clear hp
              go_simp
              rw [if_neg (by first | decide | (intro h; cases h) | simp [undef])]
              with_reducible refine hK9 _ ?_
              exact hs.next 26 _ (by simp [MxI])
            · clear hp
              go_simp
              with_reducible refine hK9 _ ?_
              exact hs.next 27 _ (by simp [MxI])
            · clear hp
              go_simp
              with_reducible refine hK9 _ ?_
              exact hs.next 28 _ (by simp [MxI])
            · clear hp
              go_simp
              rw [if_neg (by first | decide | (intro h; cases h) | simp [undef])]
              with_reducible refine hK9 _ ?_
              exact hs.next 29 _ (by simp [MxI])
            · clear hp
              go_simp
              rw [if_neg (by first | decide | (intro h; cases h) | simp [undef])]
              with_reducible refine hK9 _ ?_
              exact hs.next 30 _ (by simp [MxI])
            · clear hp
              go_simp
              rw [if_neg (by first | decide | (intro h; cases h) | simp [undef])]
              with_reducible refine hK9 _ ?_
              exact hs.next 31 _ (by simp [MxI])
            · clear hp
              go_simp
              rw [if_neg (by first | decide | (intro h; cases h) | simp [undef])]
              with_reducible refine hK9 _ ?_
              exact hs.next 32 _ (by simp [MxI])
            · clear hp
              go_simp
              rw [if_neg (by first | decide | (intro h; cases h) | simp [undef])]
              with_reducible refine hK9 _ ?_
              exact hs.next 33 _ (by simp [MxI])
            · clear hp
              go_simp
              rw [if_neg (by first | decide | (intro h; cases h) | simp [undef])]
              with_reducible refine hK9 _ ?_
              exact hs.next 34 _ (by simp [MxI])
            · clear hp
              go_simp
              rw [if_neg (by first | decide | (intro h; cases h) | simp [undef])]
              with_reducible refine hK9 _ ?_
              exact hs.next 35 _ (by simp [MxI])
            · clear hp
              go_simp
              with_reducible refine hK9 _ ?_
              exact hs.next 36 _ (by simp [MxI])
            · clear hp
              go_simp
              with_reducible refine hK9 _ ?_
              exact hs.next 37 _ (by simp [MxI])
          intro L x w9 hS hL
          have hs : MxS wd [] [] L x w9 := hS
          clear hS
          simp only [actMix, pickV, List.tail_cons, List.headD_cons, Act.put, List.setIfInBounds_toArray, List.set_cons_zero, List.set_cons_succ, List.replicate_succ, List.replicate_zero, List.drop_succ_cons, List.drop_zero, List.take_succ_cons, List.take_zero]
          have HBE := Lib.hid (HB.out.trans (hs.bel0.mono HB.out.size))
          clear hs hL
          go_wp2_with fail
          go_ret
          exact ⟨rfl, HBE.out⟩
        · have hN := hN1 hn0
          have hB := hB1 hn0
          clear hN0 hB0 hN1 hB1
          obtain h0 | ⟨b1, o1, rfl, hk1, hc1, hcell1⟩ := HSC.out
          · rw [h0] at hN; cases hN
          have HC1 : Hid (wd.cell? ⟨b1, o1, none⟩ = some (.string N)) := hcell1 0 N (by rw [← List.head?_eq_getElem?]; exact hN)
          obtain h0 | ⟨b2, o2, rfl, hk2, hc2, hcell2⟩ := HSB.out
          · rw [h0] at hB; cases hB
          have HC2 : Hid (wd.cell? ⟨b2, o2, none⟩ = some (.string BN)) := hcell2 0 BN (by rw [← List.head?_eq_getElem?]; exact hB)
          have HK1 := Lib.hid hk1
          have HK2 := Lib.hid hk2
          have hw1 : 0 < wl.length := by cases wl with
            | nil => cases hN
            | cons _ _ => exact Nat.succ_pos _
          have hw2 : (0 : Int) < wl.length := by omega
          have hn1 : (0 : Int) < n := by omega
          have hn2 : ¬ (n : Int) = 0 := by omega
          have hn3 : ((n : Int) == 0) = false := by simpa using hn2
          have hNN : (N.toList == N.toList) = true := by simp
          have hBB : (BN.toList == BN.toList) = true := by simp
          clear hcell1 hcell2 hc1 hc2 hk1 hk2 hN hB HSB HSC
          refine region_mixt 38 [some (.slice au n cu), some (.int .i64 (n : Nat)), some (.bool false), some (.bool false), some (undef), some (undef), some (undef), some (undef), some (.bool false), some (.bool false), some (undef), some (undef), some (undef), some (undef), some (.bool false), some (.bool false), some (.slice au n cu), some (.int .i64 (n : Nat)), some (.bool true), some (.bool true), some (.pointer (some ⟨tb, 0, none⟩)), some (.int .u64 (num : Nat)), some (.string N), some (.slice (some ⟨b1, o1, none⟩) wl.length cw), some (.pointer (some ⟨b1, o1, none⟩)), some (.string N), some (.bool true), some (.bool true), some (.bool true), some (.pointer (some ⟨tb2, 0, none⟩)), some (.int .u64 (num : Nat)), some (.string BN), some (.slice (some ⟨b2, o2, none⟩) n cb), some (.pointer (some ⟨b2, o2, none⟩)), some (.string BN), some (.bool true), some (.bool true), some (.bool true)]
            [[false, false, false, false, false, false, false, false, false, false, false, false, false, false, false, false, false, false, false, false, false, false, false, false, false, false, false, false, false, false, false, false, false, false, false, false, false, false], [true, false, false, false, false, false, false, false, false, false, false, false, false, false, false, false, false, false, false, false, false, false, false, false, false, false, false, false, false, false, false, false, false, false, false, false, false, false], [false, true, false, false, false, false, false, false, false, false, false, false, false, false, false, false, false, false, false, false, false, false, false, false, false, false, false, false, false, false, false, false, false, false, false, false, false, false], [false, false, true, false, false, false, false, false, false, false, false, false, false, false, false, false, false, false, false, false, false, false, false, false, false, false, false, false, false, false, false, false, false, false, false, false, false, false], [false, false, false, true, false, false, false, false, false, false, false, false, false, false, false, false, false, false, false, false, false, false, false, false, false, false, false, false, false, false, false, false, false, false, false, false, false, false], [false, false, false, true, false, false, false, false, false, false, false, false, false, false, false, false, false, false, false, false, false, false, false, false, false, false, false, false, false, false, false, false, false, false, false, false, false, false], [false, false, false, true, true, true, false, false, false, false, false, false, false, false, false, false, false, false, false, false, false, false, false, false, false, false, false, false, false, false, false, false, false, false, false, false, false, false], [false, false, false, true, false, false, true, false, false, false, false, false, false, false, false, false, false, false, false, false, false, false, false, false, false, false, false, false, false, false, false, false, false, false, false, false, false, false], [false, false, false, true, false, false, false, true, false, false, false, false, false, false, false, false, false, false, false, false, false, false, false, false, false, false, false, false, false, false, false, false, false, false, false, false, false, false], [false, false, false, false, false, false, true, false, true, false, false, false, false, false, false, false, false, false, false, false, false, false, false, false, false, false, false, false, false, false, false, false, false, false, false, false, false, false], [false, false, false, false, false, false, false, false, false, true, false, false, false, false, false, false, false, false, false, false, false, false, false, false, false, false, false, false, false, false, false, false, false, false, false, false, false, false], [false, false, false, false, false, false, false, false, false, true, false, false, false, false, false, false, false, false, false, false, false, false, false, false, false, false, false, false, false, false, false, false, false, false, false, false, false, false], [false, false, false, false, false, false, false, false, false, true, true, true, false, false, false, false, false, false, false, false, false, false, false, false, false, false, false, false, false, false, false, false, false, false, false, false, false, false], [false, false, false, false, false, false, false, false, false, true, false, false, true, false, false, false, false, false, false, false, false, false, false, false, false, false, false, false, false, false, false, false, false, false, false, false, false, false], [false, false, false, false, false, false, false, false, false, true, false, false, false, true, false, false, false, false, false, false, false, false, false, false, false, false, false, false, false, false, false, false, false, false, false, false, false, false], [false, false, false, false, false, false, false, false, false, false, false, false, true, false, true, false, false, false, false, false, false, false, false, false, false, false, false, false, false, false, false, false, false, false, false, false, false, false], [false, false, false, false, false, false, false, false, false, false, false, false, false, false, false, true, false, false, false, false, false, false, false, false, false, false, false, false, false, false, false, false, false, false, false, false, false, false], [false, false, false, false, false, false, false, false, false, false, false, false, false, false, false, true, true, false, false, false, false, false, false, false, false, false, false, false, false, false, false, false, false, false, false, false, false, false], [false, false, false, false, false, false, false, false, false, false, false, false, false, false, false, true, false, true, false, false, false, false, false, false, false, false, false, false, false, false, false, false, false, false, false, false, false, false], [false, false, false, false, false, false, false, false, false, false, false, false, false, false, false, true, false, false, true, false, false, false, false, false, false, false, false, false, false, false, false, false, false, false, false, false, false, false], [false, false, false, false, false, false, false, false, false, false, false, false, false, false, false, false, false, false, false, true, false, false, false, false, false, false, false, false, false, false, false, false, false, false, false, false, false, false], [false, false, false, false, false, false, false, false, false, false, false, false, false, false, false, false, false, false, false, true, false, false, false, false, false, false, false, false, false, false, false, false, false, false, false, false, false, false], [false, false, false, false, false, false, false, false, false, false, false, false, false, false, false, false, false, false, false, true, true, true, false, false, false, false, false, false, false, false, false, false, false, false, false, false, false, false], [false, false, false, false, false, false, false, false, false, false, false, false, false, false, false, false, false, false, false, true, false, false, false, false, false, false, false, false, false, false, false, false, false, false, false, false, false, false], [false, false, false, false, false, false, false, false, false, false, false, false, false, false, false, false, false, false, false, true, false, false, false, true, false, false, false, false, false, false, false, false, false, false, false, false, false, false], [false, false, false, false, false, false, false, false, false, false, false, false, false, false, false, false, false, false, false, true, false, false, false, false, true, false, false, false, false, false, false, false, false, false, false, false, false, false], [false, false, false, false, false, false, false, false, false, false, false, false, false, false, false, false, false, false, false, true, false, false, true, false, false, true, false, false, false, false, false, false, false, false, false, false, false, false], [false, false, false, false, false, false, false, false, false, false, false, false, false, false, false, true, false, false, false, true, false, false, false, false, false, false, true, false, false, false, false, false, false, false, false, false, false, false], [false, false, false, false, false, false, false, false, false, false, false, false, false, false, false, true, false, false, false, false, false, false, true, false, false, false, false, true, false, false, false, false, false, false, false, false, false, false], [false, false, false, false, false, false, false, false, false, false, false, false, false, false, false, false, false, false, false, false, false, false, false, false, false, false, false, false, true, false, false, false, false, false, false, false, false, false], [false, false, false, false, false, false, false, false, false, false, false, false, false, false, false, false, false, false, false, false, false, false, false, false, false, false, false, false, true, false, false, false, false, false, false, false, false, false], [false, false, false, false, false, false, false, false, false, false, false, false, false, false, false, false, false, false, false, false, false, false, false, false, false, false, false, false, true, true, true, false, false, false, false, false, false, false], [false, false, false, false, false, false, false, false, false, false, false, false, false, false, false, false, false, false, false, false, false, false, false, false, false, false, false, false, true, false, false, false, false, false, false, false, false, false], [false, false, false, false, false, false, false, false, false, false, false, false, false, false, false, false, false, false, false, false, false, false, false, false, false, false, false, false, true, false, false, false, true, false, false, false, false, false], [false, false, false, false, false, false, false, false, false, false, false, false, false, false, false, false, false, false, false, false, false, false, false, false, false, false, false, false, true, false, false, false, false, true, false, false, false, false], [false, false, false, false, false, false, false, false, false, false, false, false, false, false, false, false, false, false, false, false, false, false, false, false, false, false, false, false, true, false, false, true, false, false, true, false, false, false], [false, false, false, false, false, false, false, false, false, false, false, false, false, false, false, true, false, false, false, false, false, false, false, false, false, false, false, false, true, false, false, false, false, false, false, true, false, false], [false, false, false, false, false, false, false, false, false, false, false, false, false, false, false, true, false, false, false, false, false, false, false, false, false, false, false, false, false, false, false, false, false, false, false, false, true, false]]
            (fun LL xx w9 => MxS wd [] [] LL xx w9)
            (by kernel_rfl) (by kernel_rfl) (by kernel_rfl) (by kernel_rfl) (by kernel_rfl) (by decide) ?_ ?_ ?_
          · intro x
            exact MxS.start (by simp)
          · simp only [List.take_succ_cons, List.take_zero]
            refine ⟨?_, ?_, ?_, ?_, ?_, ?_, ?_, ?_, ?_, ?_, ?_, ?_, ?_, ?_, ?_, ?_, ?_, ?_, ?_, ?_, ?_, ?_, ?_, ?_, ?_, ?_, ?_, ?_, ?_, ?_, ?_, ?_, ?_, ?_, ?_, ?_, ?_, ?_, trivial⟩
            all_goals
              intro L x w9 hS hl hp K9 hK9
              have hs : MxS wd [] [] L x w9 := hS
              clear hS
              replace hK9 := hK9.out
              simp only [actMix, pickV, List.tail_cons, List.headD_cons, Act.put, List.setIfInBounds_toArray, List.set_cons_zero, List.set_cons_succ] at hK9 ⊢
            · clear hp
              go_simp
              with_reducible refine hK9 _ ?_
              exact hs.next 0 _ (by simp [MxI])
            · clear hp
              go_simp
              with_reducible refine hK9 _ ?_
              exact hs.next 1 _ (by simp [MxI])
            · clear hp
              go_simp
              with_reducible refine hK9 _ ?_
              exact hs.next 2 _ (by simp [MxI])
            · clear hp
              go_simp
              with_reducible refine hK9 _ ?_
              exact hs.next 3 _ (by simp [MxI])
            · clear hp
              go_simp
              with_reducible refine hK9 _ ?_
              exact hs.next 4 _ (by simp [MxI])
            · clear hp
              go_simp
              with_reducible refine hK9 _ ?_
              exact hs.next 5 _ (by simp [MxI])
            · clear hp
              go_simp
              with_reducible refine hK9 _ ?_
              exact hs.next 6 _ (by simp [MxI])
            · clear hp
              go_simp
              with_reducible refine hK9 _ ?_
              exact hs.next 7 _ (by simp [MxI])
            · clear hp
              go_simp
              with_reducible refine hK9 _ ?_
              exact hs.next 8 _ (by simp [MxI])
            · clear hp
              go_simp
              with_reducible refine hK9 _ ?_
              exact hs.next 9 _ (by simp [MxI])
            · clear hp
              go_simp
              with_reducible refine hK9 _ ?_
              exact hs.next 10 _ (by simp [MxI])
            · clear hp
              go_simp
              with_reducible refine hK9 _ ?_
              exact hs.next 11 _ (by simp [MxI])
            · clear hp
              go_simp
              with_reducible refine hK9 _ ?_
              exact hs.next 12 _ (by simp [MxI])
            · clear hp
              go_simp
              with_reducible refine hK9 _ ?_
              exact hs.next 13 _ (by simp [MxI])
            · clear hp
              go_simp
              with_reducible refine hK9 _ ?_
              exact hs.next 14 _ (by simp [MxI])
            · clear hp
              go_simp
              with_reducible refine hK9 _ ?_
              exact hs.next 15 _ (by simp [MxI])
            · clear hp
              go_simp
              with_reducible refine hK9 _ ?_
              exact hs.next 16 _ (by simp [MxI])
            · clear hp
              go_simp
              with_reducible refine hK9 _ ?_
              exact hs.next 17 _ (by simp [MxI])
            · clear hp
              go_simp
              with_reducible refine hK9 _ ?_
              exact hs.next 18 _ (by simp [MxI])
            · clear hp
              go_simp
              with_reducible refine hK9 _ ?_
              exact hs.next 19 _ (by simp [MxI])
            · clear hp
              go_simp
              with_reducible refine hK9 _ ?_
              exact hs.next 20 _ (by simp [MxI])
            · clear hp
              go_simp
              with_reducible refine hK9 _ ?_
              exact hs.next 21 _ (by simp [MxI])
            · clear hp
              go_simp
              refine (HPK.out w9 (HTA.out.below hs.bel0)).mono ?_
              rintro e w8 ⟨rfl, hB8⟩
              go_simp
              with_reducible refine hK9 _ ?_
              exact (hs.below hB8).next 22 _ (by simp [MxI])
            · clear hp
              go_simp
              with_reducible refine hK9 _ ?_
              exact hs.next 23 _ (by simp [MxI])
            · clear hp
              go_simp
              with_reducible refine hK9 _ ?_
              exact hs.next 24 _ (by simp [MxI])
            · clear hp
              have cx : w9.cell? ⟨b1, o1, none⟩ = some (.string N) := by rw [(bcell hs.bel0).1 _ _ HK1.out]; exact HC1.out
              go_simp
              with_reducible refine hK9 _ ?_
              exact hs.next 25 _ (by simp [MxI])
            · clear hp
              go_simp
              with_reducible refine hK9 _ ?_
              exact hs.next 26 _ (by simp [MxI])
            · clear hp
              go_simp
              with_reducible refine hK9 _ ?_
              exact hs.next 27 _ (by simp [MxI])
            · clear hp
              go_simp
              with_reducible refine hK9 _ ?_
              exact hs.next 28 _ (by simp [MxI])
            · clear hp
              go_simp
              with_reducible refine hK9 _ ?_
              exact hs.next 29 _ (by simp [MxI])
            · clear hp
              go_simp
              with_reducible refine hK9 _ ?_
              exact hs.next 30 _ (by simp [MxI])
            · clear hp
              go_simp
              refine (HPKr.out tb2 w9 (HTB.out.below hs.bel0)).mono ?_
              rintro e w8 ⟨rfl, hB8⟩
              go_simp
              with_reducible refine hK9 _ ?_
              exact (hs.below hB8).next 31 _ (by simp [MxI])
            · clear hp
              go_simp
              with_reducible refine hK9 _ ?_
              exact hs.next 32 _ (by simp [MxI])
            · clear hp
              go_simp
              with_reducible refine hK9 _ ?_
              exact hs.next 33 _ (by simp [MxI])
            · clear hp
              have cx : w9.cell? ⟨b2, o2, none⟩ = some (.string BN) := by rw [(bcell hs.bel0).1 _ _ HK2.out]; exact HC2.out
              go_simp
              with_reducible refine hK9 _ ?_
              exact hs.next 34 _ (by simp [MxI])
            · clear hp
              go_simp
              with_reducible refine hK9 _ ?_
              exact hs.next 35 _ (by simp [MxI])
            · clear hp
              go_simp
              with_reducible refine hK9 _ ?_
              exact hs.next 36 _ (by simp [MxI])
            · clear hp
              go_simp
              with_reducible refine hK9 _ ?_
              exact hs.next 37 _ (by simp [MxI])
          intro L x w9 hS hL
          have hs : MxS wd [] [] L x w9 := hS
          clear hS
          simp only [actMix, pickV, List.tail_cons, List.headD_cons, Act.put, List.setIfInBounds_toArray, List.set_cons_zero, List.set_cons_succ, List.replicate_succ, List.replicate_zero, List.drop_succ_cons, List.drop_zero, List.take_succ_cons, List.take_zero]
          have HBE := Lib.hid (HB.out.trans (hs.bel0.mono HB.out.size))
          clear hs hL
          go_wp2_with fail
          go_ret
          exact ⟨rfl, HBE.out⟩
end Go.Proofs.YtklfpnnnoaaiaabGreatDoor

