/- stewardlaw19.RingBuilds (written by genlawrb.py). -/
import Derived.Test.YtlcpkplipfcdaaaDoorG08
import Derived.Test.YtlcpkplipfcdaaaDoorH01
namespace Go.Proofs.YtlcpkplipfcdaaaDoor
open Go.RowKit

/-- A ring was built. -/
def RinR (P : List Pt) (n : Nat) (p : Value) (w : World) : Prop := ∃ rb, p = .pointer (some ⟨rb, 0, none⟩) ∧ RingAt w rb P n
theorem RinR.below {P : List Pt} {n : Nat} (p : Value) (w w' : World) (h : RinR P n p w) (hb : Below w.heap.size w w') : RinR P n p w' := by
  obtain ⟨rb, h1, h2⟩ := h
  exact ⟨rb, h1, h2.below hb⟩
/-- The tables. -/
def IniP (w : World) : Prop := Ini w ∧ Pow w
theorem IniP.below {w w' : World} (h : IniP w) (hb : Below w.heap.size w w') : IniP w' := ⟨h.1.below hb, h.2.below hb⟩
theorem and15R (x : Int) : ∃ k : Nat, k ≤ 15 ∧ bits .and .i64 x 15 = (k : Int) := by
  have h : (BitVec.ofInt 64 x &&& BitVec.ofInt 64 15).toNat ≤ 15 := by
    rw [BitVec.toNat_and]
    exact Nat.le_trans Nat.and_le_right (by decide)
  refine ⟨(BitVec.ofInt 64 x &&& BitVec.ofInt 64 15).toNat, h, ?_⟩
  show IntKind.i64.wrap (((BitVec.ofInt 64 x &&& BitVec.ofInt 64 15).toNat : Nat) : Int) = _
  exact IntWalk.i64_in _ (by omega)
theorem ptAt_nat {P : List Pt} {j : Nat} (h : j < P.length) : ptAt P (j : Int) = P[j] := by
  unfold ptAt
  rw [if_neg (by omega), Int.toNat_natCast, List.getD_eq_getElem?_getD, List.getElem?_eq_getElem h, Option.getD_some]
theorem ptAt_end (P : List Pt) : ptAt P (P.length : Int) = (0, ⟨#[]⟩) := by unfold ptAt; rw [if_pos (.inr (Int.le_refl _))]
set_option maxRecDepth 100000 in
set_option maxHeartbeats 8000000 in
theorem lawRingBuilds (s : ByteArray) (a : Option Addr) (c : Nat) (es : List Ent) (hfl : es.length ≤ 9223372036854775807) (m : Int) (w : World) (hI : Ini w) (hP : Pow w) (hf : IsEnts w a c es) :
    Calls Tryd.prog 5 #[.string s, .slice a es.length c, .int .i64 m] w fun e w' => e = .returned (.bool true) ∧ Below w.heap.size w w' := by
  have HAW := Lib.hid (awake26 w hI hP)
  have HI : Hid (IniP w) := ⟨hI, hP⟩
  have HF := Lib.hid hf
  have HL := Lib.hid hfl
  have hkf := fun W => key17 s W
  generalize (fun i => s.data.toList.getD i 0) = kf at hkf
  have HK : Hid (∀ W, Calls Tryd.prog 11 #[.string s] W fun e w' => e = .returned (.agg #[.int .u8 (kf 0).toNat, .int .u8 (kf 1).toNat, .int .u8 (kf 2).toNat, .int .u8 (kf 3).toNat, .int .u8 (kf 4).toNat, .int .u8 (kf 5).toNat, .int .u8 (kf 6).toNat, .int .u8 (kf 7).toNat, .int .u8 (kf 8).toNat, .int .u8 (kf 9).toNat, .int .u8 (kf 10).toNat, .int .u8 (kf 11).toNat, .int .u8 (kf 12).toNat, .int .u8 (kf 13).toNat, .int .u8 (kf 14).toNat, .int .u8 (kf 15).toNat]) ∧ Below W.heap.size W w') := hkf
  clear hI hP hf hfl hkf
  go_enter Tryd.func5, Tryd.ntmps5
  go_upto_region 4 with (first
    | (go_at_call 26; refine HAW.out.mono ?_; rintro e w1 ⟨rfl, hB1⟩; have HB1 := Lib.hid hB1; clear hB1)
    | (go_at_call 10; refine (few7 a c es 5 (by decide) HL.out w1 (HF.out.below HB1.out)).mono ?_; rintro e w2 ⟨u, rfl, ho2, hB2⟩; obtain ⟨au, cu, rfl⟩ := own_slice ho2; have HE2 := Lib.hid (isEnts_own ho2).2.1; have HB2 := Lib.hid (HB1.out.trans (hB2.mono HB1.out.size)); clear ho2 hB2))
  have hkl : (fewE es 5).length ≤ 6 := by unfold fewE; simp; omega
  have HZ : Hid (∀ e ∈ fewE es 5, e.1.size ≤ 1000) := by
    intro e he
    obtain ⟨g, _, rfl⟩ := List.mem_map.1 he
    exact Nat.le_trans (cutE_size g) (by decide)
  generalize fewE es 5 = ys at *
  have HI2 := Lib.hid (HI.out.below HB2.out)
  clear HAW HF HL HB1 HI
  obtain ⟨kk, hkk, hbt⟩ := and15R m
  have hc3 : m ≤ 20 ∨ 20 < m := by omega
  rcases hc3 with h1 | h1
  case' inl =>
    have g1 : ¬ (20 : Int) < m := by omega
    go_upto_region 6 with fail
    have HM : Hid (m ≤ 35) := by show _ ≤ _; omega
    clear h1 g1 hbt hkk kk
  case' inr =>
    go_upto_region 6 with fail
    generalize hm9 : (20 : Int) + (kk : Int) = m9
    have HM : Hid (m9 ≤ 35) := by show _ ≤ _; omega
    clear h1 hm9 hbt hkk
    generalize m = m0
    clear m
    revert HM
    generalize m9 = m
    intro HM
  all_goals
    go_upto_region 7 with (go_at_call 11; refine (HK.out _).mono ?_; rintro e w3 ⟨rfl, hB3⟩; have HB3 := Lib.hid hB3; clear hB3)
    have HE3 := Lib.hid ((HE2.out.below HB3.out).below (below_alloc w3 (.cells #[.int .u8 (kf 0).toNat, .int .u8 (kf 1).toNat, .int .u8 (kf 2).toNat, .int .u8 (kf 3).toNat, .int .u8 (kf 4).toNat, .int .u8 (kf 5).toNat, .int .u8 (kf 6).toNat, .int .u8 (kf 7).toNat, .int .u8 (kf 8).toNat, .int .u8 (kf 9).toNat, .int .u8 (kf 10).toNat, .int .u8 (kf 11).toNat, .int .u8 (kf 12).toNat, .int .u8 (kf 13).toNat, .int .u8 (kf 14).toNat, .int .u8 (kf 15).toNat] 26)))
    have HI3 := Lib.hid ((HI2.out.below HB3.out).below (below_alloc w3 (.cells #[.int .u8 (kf 0).toNat, .int .u8 (kf 1).toNat, .int .u8 (kf 2).toNat, .int .u8 (kf 3).toNat, .int .u8 (kf 4).toNat, .int .u8 (kf 5).toNat, .int .u8 (kf 6).toNat, .int .u8 (kf 7).toNat, .int .u8 (kf 8).toNat, .int .u8 (kf 9).toNat, .int .u8 (kf 10).toNat, .int .u8 (kf 11).toNat, .int .u8 (kf 12).toNat, .int .u8 (kf 13).toNat, .int .u8 (kf 14).toNat, .int .u8 (kf 15).toNat] 26)))
    have HKR : Hid (KeyRow (w3.alloc (.cells #[.int .u8 (kf 0).toNat, .int .u8 (kf 1).toNat, .int .u8 (kf 2).toNat, .int .u8 (kf 3).toNat, .int .u8 (kf 4).toNat, .int .u8 (kf 5).toNat, .int .u8 (kf 6).toNat, .int .u8 (kf 7).toNat, .int .u8 (kf 8).toNat, .int .u8 (kf 9).toNat, .int .u8 (kf 10).toNat, .int .u8 (kf 11).toNat, .int .u8 (kf 12).toNat, .int .u8 (kf 13).toNat, .int .u8 (kf 14).toNat, .int .u8 (kf 15).toNat] 26)) w3.heap.size kf) := Row.new w3 _ _
    have HBK := Lib.hid (HB2.out.trans ((HB3.out.alloc HB3.out.size (.cells #[.int .u8 (kf 0).toNat, .int .u8 (kf 1).toNat, .int .u8 (kf 2).toNat, .int .u8 (kf 3).toNat, .int .u8 (kf 4).toNat, .int .u8 (kf 5).toNat, .int .u8 (kf 6).toNat, .int .u8 (kf 7).toNat, .int .u8 (kf 8).toNat, .int .u8 (kf 9).toNat, .int .u8 (kf 10).toNat, .int .u8 (kf 11).toNat, .int .u8 (kf 12).toNat, .int .u8 (kf 13).toNat, .int .u8 (kf 14).toNat, .int .u8 (kf 15).toNat] 26)).mono HB2.out.size))
    have HKS : Hid (w3.heap.size < (w3.alloc (.cells #[.int .u8 (kf 0).toNat, .int .u8 (kf 1).toNat, .int .u8 (kf 2).toNat, .int .u8 (kf 3).toNat, .int .u8 (kf 4).toNat, .int .u8 (kf 5).toNat, .int .u8 (kf 6).toNat, .int .u8 (kf 7).toNat, .int .u8 (kf 8).toNat, .int .u8 (kf 9).toNat, .int .u8 (kf 10).toNat, .int .u8 (kf 11).toNat, .int .u8 (kf 12).toNat, .int .u8 (kf 13).toNat, .int .u8 (kf 14).toNat, .int .u8 (kf 15).toNat] 26)).heap.size) := by show _ < _; simp
    clear HB3 HE2 HI2 HK
    generalize w3.alloc (.cells #[.int .u8 (kf 0).toNat, .int .u8 (kf 1).toNat, .int .u8 (kf 2).toNat, .int .u8 (kf 3).toNat, .int .u8 (kf 4).toNat, .int .u8 (kf 5).toNat, .int .u8 (kf 6).toNat, .int .u8 (kf 7).toNat, .int .u8 (kf 8).toNat, .int .u8 (kf 9).toNat, .int .u8 (kf 10).toNat, .int .u8 (kf 11).toNat, .int .u8 (kf 12).toNat, .int .u8 (kf 13).toNat, .int .u8 (kf 14).toNat, .int .u8 (kf 15).toNat] 26) = WK at *
    generalize w3.heap.size = kb at *
    have hck := fun W h => check29 au cu ys (by omega) W h
    by_cases hc : validB ys = true
    case neg =>
      have hc : validB ys = false := by simpa using hc
      rw [hc] at hck
      have HCK : Hid (∀ W, IsEnts W au cu ys → Calls Tryd.prog 29 #[.slice au ys.length cu] W fun e w' => e = .returned (.int .i64 1) ∧ Below W.heap.size W w') := hck
      have HBLD : Hid (∀ a5 c5 w9, IniP w9 → IsEnts w9 a5 c5 ys → Calls Tryd.prog 27 #[keyVal kf, .slice a5 ys.length c5, .int .i64 m] w9 fun e w' => ∃ p, e = .returned (.tuple #[p, .int .i64 1]) ∧ NilR p w' ∧ Below w9.heap.size w9 w') := fun a5 c5 w9 _ hx => (ringBuild27_bad kf ys hkl HZ.out hc m a5 c5 w9 hx).mono fun _ _ ⟨h1, h2⟩ => ⟨_, h1, rfl, h2⟩
      clear hck hc
      go_wp2_with fail
      refine region_mixt 9 [some (.agg #[.int .u8 (kf 0).toNat, .int .u8 (kf 1).toNat, .int .u8 (kf 2).toNat, .int .u8 (kf 3).toNat, .int .u8 (kf 4).toNat, .int .u8 (kf 5).toNat, .int .u8 (kf 6).toNat, .int .u8 (kf 7).toNat, .int .u8 (kf 8).toNat, .int .u8 (kf 9).toNat, .int .u8 (kf 10).toNat, .int .u8 (kf 11).toNat, .int .u8 (kf 12).toNat, .int .u8 (kf 13).toNat, .int .u8 (kf 14).toNat, .int .u8 (kf 15).toNat]), some (.slice au ys.length cu), none, some (.int .i64 m), none, none, none, some (.int .i64 1), none]
        [[false, false, false, false, false, false, false, false, false], [false, false, false, false, false, false, false, false, false], [false, true, false, false, false, false, false, false, false], [false, false, false, false, false, false, false, false, false], [true, false, true, true, false, false, false, false, false], [false, false, false, false, true, false, false, false, false], [false, false, false, false, false, true, false, false, false], [false, false, false, false, false, true, false, false, false], [true, true, true, true, true, true, true, false, false]]
        (fun LL xx w9 => KoS WK ys 4 1 NilR LL xx w9)
        (by kernel_rfl) (by kernel_rfl) (by kernel_rfl) (by kernel_rfl) (by kernel_rfl) (by decide) ?_ ?_ ?_
      · intro x
        exact KoS.start _ _ _ _ _ _
      · simp only [List.take_succ_cons, List.take_zero]
        refine ⟨?_, ?_, ?_, ?_, ?_, ?_, ?_, ?_, ?_, trivial⟩
        all_goals
          intro L x w9 hS hl hp K9 hK9
          have hs : KoS WK ys 4 1 NilR L x w9 := hS
          clear hS
          replace hK9 := hK9.out
          simp only [actMix, pickV, List.tail_cons, List.headD_cons, Act.put, List.setIfInBounds_toArray, List.set_cons_zero, List.set_cons_succ] at hK9 ⊢
        · clear hp
          have hkr := HKR.out.below hs.bel
          rw [if_pos (by rfl)]
          refine wp_load_mid 26 _ rfl kb 0 rfl [.int .u8 (kf 0).toNat, .int .u8 (kf 1).toNat, .int .u8 (kf 2).toNat, .int .u8 (kf 3).toNat, .int .u8 (kf 4).toNat, .int .u8 (kf 5).toNat, .int .u8 (kf 6).toNat, .int .u8 (kf 7).toNat, .int .u8 (kf 8).toNat, .int .u8 (kf 9).toNat, .int .u8 (kf 10).toNat, .int .u8 (kf 11).toNat, .int .u8 (kf 12).toNat, .int .u8 (kf 13).toNat, .int .u8 (kf 14).toNat, .int .u8 (kf 15).toNat] _ (key_range hkr.isKey) Tryd.underlying26 rfl (by kernel_rfl) ?_
          simp only [Act.put, List.setIfInBounds_toArray, List.set_cons_zero, List.set_cons_succ]
          with_reducible refine hK9 _ ?_
          exact hs.next 0 _ (by decide) (by decide) (by decide) (by decide) (by decide)
        · clear hp
          go_simp
          with_reducible refine hK9 _ ?_
          exact hs.next 1 _ (by decide) (by decide) (by decide) (by decide) (by decide)
        · clear hp
          go_simp
          refine (own28 au cu ys (by omega) w9 (HE3.out.below hs.bel)).mono ?_
          rintro e w5 ⟨a5, c5, rfl, hE5, hB5⟩
          go_simp
          with_reducible refine hK9 _ _ ?_
          exact hs.put NilR.below (by decide) hE5 hB5
        · clear hp
          go_simp
          with_reducible refine hK9 _ ?_
          exact hs.next 3 _ (by decide) (by decide) (by decide) (by decide) (by decide)
        · obtain ⟨a5, c5, hx5, hE5⟩ := hs.own (allL_mem hp 2 (by decide +kernel))
          clear hp
          rw [hx5] at hK9 ⊢
          go_simp
          refine (HBLD.out a5 c5 w9 (HI3.out.below hs.bel) hE5).mono ?_
          rintro e w5 ⟨p5, rfl, hR5, hB5⟩
          go_simp
          with_reducible refine hK9 _ _ ?_
          exact hs.built NilR.below (by decide) hR5 hB5
        · obtain ⟨p5, hx5, hR5⟩ := hs.tup (allL_mem hp 4 (by decide +kernel))
          clear hp
          rw [hx5] at hK9 ⊢
          go_simp
          with_reducible refine hK9 _ _ ?_
          exact hs.moved (by decide) hR5
        · obtain ⟨p5, hx5, hR5⟩ := hs.mv (allL_mem hp 5 (by decide +kernel))
          clear hp
          rw [hx5] at hK9 ⊢
          go_simp
          with_reducible refine hK9 _ _ ?_
          exact hs.first (by decide) hR5
        · obtain ⟨p5, hx5, hR5⟩ := hs.mv (allL_mem hp 5 (by decide +kernel))
          clear hp
          rw [hx5] at hK9 ⊢
          go_simp
          with_reducible refine hK9 _ ?_
          exact hs.next 7 _ (by decide) (by decide) (by decide) (by decide) (by decide)
        · have hR5 := hs.ex (allL_mem hp 6 (by decide +kernel))
          clear hp
          go_simp
          with_reducible refine hK9 _ _ ?_
          exact hs.assign (by decide) hR5
      intro L x w9 hS hL
      have hs : KoS WK ys 4 1 NilR L x w9 := hS
      have hR9 := hs.asg (hL 8 (by decide))
      simp only [actMix, pickV, List.tail_cons, List.headD_cons, Act.put, List.setIfInBounds_toArray, List.set_cons_zero, List.set_cons_succ, List.replicate_succ, List.replicate_zero, List.drop_succ_cons, List.drop_zero, List.take_succ_cons, List.take_zero]
      generalize x 4 = xa
      generalize x 5 = xb
      generalize x 6 = xc
      generalize x 8 = xd at *
      have HI9 := Lib.hid (HI3.out.below hs.bel)
      have HKR9 := Lib.hid (HKR.out.below hs.bel)
      have HE9 := Lib.hid (HE3.out.below hs.bel)
      have HB9 := Lib.hid (HBK.out.trans (hs.bel.mono (Nat.le_trans HBK.out.size (Nat.le_refl _))))
      clear hS hs hL HKR HE3 HI3 HBK HBLD
      obtain rfl : xd = .pointer none := hR9
      go_wp2_with (go_at_call 29; refine (HCK.out _ HE9.out).mono ?_; rintro e w7 ⟨rfl, hB7⟩)
      go_ret
      exact ⟨rfl, HB9.out.trans (hB7.mono HB9.out.size)⟩
    rw [hc] at hck
    have HVB := Lib.hid hc
    have HCK : Hid (∀ W, IsEnts W au cu ys → Calls Tryd.prog 29 #[.slice au ys.length cu] W fun e w' => e = .returned (.int .i64 0) ∧ Below W.heap.size W w') := hck
    obtain ⟨p, hp1⟩ : ∃ p : Nat, max 1 (min m 256) = (p : Int) := ⟨(max 1 (min m 256)).toNat, by omega⟩
    have HPP : Hid (max 1 (min m 256) = (p : Int)) := hp1
    have hp2 : min (max m 1) 256 = (p : Int) := by omega
    have HPE : Hid (srtP (ptsL kf p (gmE ys).toNat ys) = srtP (ptsL kf p (gmE ys).toNat ys)) := rfl
    have HRB := Lib.hid (fun w7 (hE : IsEnts w7 au cu ys) => refBuild30 kf (keyStr kf) (keyStr_size kf) (keyStr_a kf) (keyStr_b kf) ys hkl HZ.out HVB.out m p HPP.out au cu w7 hE)
    have hbl := fun (a5 : Option Addr) (c5 : Nat) (w9 : World) (hi : IniP w9) (hx : IsEnts w9 a5 c5 ys) => ringBuild27 kf ys hkl HZ.out HVB.out m p hp2 a5 c5 w9 hi.1 hi.2 hx
    have HPL : Hid ((srtP (ptsL kf p (gmE ys).toNat ys)).length ≤ 2000) := by
      show _ ≤ _
      rw [(srtP_perm _).length_eq]
      have hok : ∀ e ∈ ys, 1 ≤ e.2 ∧ e.2 ≤ 65535 := fun e he => by
        have := (valid_parts hc).1 e he
        unfold okW at this; simpa using this
      have h1 := ptsL_le (k := kf) (p := p) (G := (gmE ys).toNat) (es := ys) (fun e he => by
        have h2 := hok e he
        have h3 := gmE_ge he
        have := cnt_le (p := p) (W := e.2.toNat) (G := (gmE ys).toNat) (by omega) (by omega)
        omega)
      omega
    generalize srtP (ptsL kf p (gmE ys).toNat ys) = P at *
    have HBLD : Hid (∀ a5 c5 w9, IniP w9 → IsEnts w9 a5 c5 ys → Calls Tryd.prog 27 #[keyVal kf, .slice a5 ys.length c5, .int .i64 m] w9 fun e w' => ∃ p, e = .returned (.tuple #[p, .int .i64 0]) ∧ RinR P ys.length p w' ∧ Below w9.heap.size w9 w') := fun a5 c5 w9 hi hx => (hbl a5 c5 w9 hi hx).mono fun _ _ ⟨rb, h1, h2, h3⟩ => ⟨_, h1, ⟨rb, rfl, h2⟩, h3⟩
    clear hck hc HM hbl hp1 hp2 HPP HPE
    case pos =>
      go_wp2_with fail
      refine region_mixt 9 [some (.agg #[.int .u8 (kf 0).toNat, .int .u8 (kf 1).toNat, .int .u8 (kf 2).toNat, .int .u8 (kf 3).toNat, .int .u8 (kf 4).toNat, .int .u8 (kf 5).toNat, .int .u8 (kf 6).toNat, .int .u8 (kf 7).toNat, .int .u8 (kf 8).toNat, .int .u8 (kf 9).toNat, .int .u8 (kf 10).toNat, .int .u8 (kf 11).toNat, .int .u8 (kf 12).toNat, .int .u8 (kf 13).toNat, .int .u8 (kf 14).toNat, .int .u8 (kf 15).toNat]), some (.slice au ys.length cu), none, some (.int .i64 m), none, none, none, some (.int .i64 0), none]
        [[false, false, false, false, false, false, false, false, false], [false, false, false, false, false, false, false, false, false], [false, true, false, false, false, false, false, false, false], [false, false, false, false, false, false, false, false, false], [true, false, true, true, false, false, false, false, false], [false, false, false, false, true, false, false, false, false], [false, false, false, false, false, true, false, false, false], [false, false, false, false, false, true, false, false, false], [true, true, true, true, true, true, true, false, false]]
        (fun LL xx w9 => KoS WK ys 4 0 (RinR P ys.length) LL xx w9)
        (by kernel_rfl) (by kernel_rfl) (by kernel_rfl) (by kernel_rfl) (by kernel_rfl) (by decide) ?_ ?_ ?_
      · intro x
        exact KoS.start _ _ _ _ _ _
      · simp only [List.take_succ_cons, List.take_zero]
        refine ⟨?_, ?_, ?_, ?_, ?_, ?_, ?_, ?_, ?_, trivial⟩
        all_goals
          intro L x w9 hS hl hp K9 hK9
          have hs : KoS WK ys 4 0 (RinR P ys.length) L x w9 := hS
          clear hS
          replace hK9 := hK9.out
          simp only [actMix, pickV, List.tail_cons, List.headD_cons, Act.put, List.setIfInBounds_toArray, List.set_cons_zero, List.set_cons_succ] at hK9 ⊢
        · clear hp
          have hkr := HKR.out.below hs.bel
          rw [if_pos (by rfl)]
          refine wp_load_mid 26 _ rfl kb 0 rfl [.int .u8 (kf 0).toNat, .int .u8 (kf 1).toNat, .int .u8 (kf 2).toNat, .int .u8 (kf 3).toNat, .int .u8 (kf 4).toNat, .int .u8 (kf 5).toNat, .int .u8 (kf 6).toNat, .int .u8 (kf 7).toNat, .int .u8 (kf 8).toNat, .int .u8 (kf 9).toNat, .int .u8 (kf 10).toNat, .int .u8 (kf 11).toNat, .int .u8 (kf 12).toNat, .int .u8 (kf 13).toNat, .int .u8 (kf 14).toNat, .int .u8 (kf 15).toNat] _ (key_range hkr.isKey) Tryd.underlying26 rfl (by kernel_rfl) ?_
          simp only [Act.put, List.setIfInBounds_toArray, List.set_cons_zero, List.set_cons_succ]
          with_reducible refine hK9 _ ?_
          exact hs.next 0 _ (by decide) (by decide) (by decide) (by decide) (by decide)
        · clear hp
          go_simp
          with_reducible refine hK9 _ ?_
          exact hs.next 1 _ (by decide) (by decide) (by decide) (by decide) (by decide)
        · clear hp
          go_simp
          refine (own28 au cu ys (by omega) w9 (HE3.out.below hs.bel)).mono ?_
          rintro e w5 ⟨a5, c5, rfl, hE5, hB5⟩
          go_simp
          with_reducible refine hK9 _ _ ?_
          exact hs.put RinR.below (by decide) hE5 hB5
        · clear hp
          go_simp
          with_reducible refine hK9 _ ?_
          exact hs.next 3 _ (by decide) (by decide) (by decide) (by decide) (by decide)
        · obtain ⟨a5, c5, hx5, hE5⟩ := hs.own (allL_mem hp 2 (by decide +kernel))
          clear hp
          rw [hx5] at hK9 ⊢
          go_simp
          refine (HBLD.out a5 c5 w9 (HI3.out.below hs.bel) hE5).mono ?_
          rintro e w5 ⟨p5, rfl, hR5, hB5⟩
          go_simp
          with_reducible refine hK9 _ _ ?_
          exact hs.built RinR.below (by decide) hR5 hB5
        · obtain ⟨p5, hx5, hR5⟩ := hs.tup (allL_mem hp 4 (by decide +kernel))
          clear hp
          rw [hx5] at hK9 ⊢
          go_simp
          with_reducible refine hK9 _ _ ?_
          exact hs.moved (by decide) hR5
        · obtain ⟨p5, hx5, hR5⟩ := hs.mv (allL_mem hp 5 (by decide +kernel))
          clear hp
          rw [hx5] at hK9 ⊢
          go_simp
          with_reducible refine hK9 _ _ ?_
          exact hs.first (by decide) hR5
        · obtain ⟨p5, hx5, hR5⟩ := hs.mv (allL_mem hp 5 (by decide +kernel))
          clear hp
          rw [hx5] at hK9 ⊢
          go_simp
          with_reducible refine hK9 _ ?_
          exact hs.next 7 _ (by decide) (by decide) (by decide) (by decide) (by decide)
        · have hR5 := hs.ex (allL_mem hp 6 (by decide +kernel))
          clear hp
          go_simp
          with_reducible refine hK9 _ _ ?_
          exact hs.assign (by decide) hR5
      intro L x w9 hS hL
      have hs : KoS WK ys 4 0 (RinR P ys.length) L x w9 := hS
      have hR9 := hs.asg (hL 8 (by decide))
      simp only [actMix, pickV, List.tail_cons, List.headD_cons, Act.put, List.setIfInBounds_toArray, List.set_cons_zero, List.set_cons_succ, List.replicate_succ, List.replicate_zero, List.drop_succ_cons, List.drop_zero, List.take_succ_cons, List.take_zero]
      generalize x 4 = xa
      generalize x 5 = xb
      generalize x 6 = xc
      generalize x 8 = xd at *
      have HI9 := Lib.hid (HI3.out.below hs.bel)
      have HKR9 := Lib.hid (HKR.out.below hs.bel)
      have HE9 := Lib.hid (HE3.out.below hs.bel)
      have HB9 := Lib.hid (HBK.out.trans (hs.bel.mono (Nat.le_trans HBK.out.size (Nat.le_refl _))))
      clear hS hs hL HKR HE3 HI3 HBK HBLD

      obtain ⟨tb, rfl, hTA⟩ := hR9
      have HTA := Lib.hid hTA
      clear hTA
      go_upto_region 13 with (go_at_call 29; refine (HCK.out _ HE9.out).mono ?_; rintro e w7 ⟨rfl, hB7⟩; have HTA7 := Lib.hid (HTA.out.below hB7); have HE7 := Lib.hid (HE9.out.below hB7); have HK7 := Lib.hid (HKR9.out.below hB7); have HB7 := Lib.hid (HB9.out.trans (hB7.mono HB9.out.size)); clear hB7)
      clear HCK HTA HE9 HKR9 HB9 HI9
      have hcv := key_all HK7.out.isKey
      have huk := Tryd.underlying26
      have hnn : ((P.length : Int) != (P.length : Int)) = false := by simp
      go_wp2_with (first
        | (go_at_call 30; refine (HRB.out _ HE7.out).mono ?_; rintro e w9 ⟨ap, cp, rfl, hS2, hB9⟩; have HS2 := Lib.hid hS2; have HTA9 := Lib.hid (HTA7.out.below hB9); have HB9 := Lib.hid (HB7.out.trans (hB9.mono HB7.out.size)); clear hS2 hB9)
        | (go_at_call 31; refine (len31 tb ys.length P w9 HTA9.out).mono ?_; rintro e w8 ⟨rfl, hw8⟩; subst hw8))
      clear HRB HB7 HTA7 HE7 HK7 hcv huk HZ HVB
      have HBZ := Lib.hid HB9.out.size
      go_loopw [67] (fun i wr => ∃ j : Nat, j ≤ P.length ∧ i = .int .i64 (j : Int) ∧ Hid (Below w8.heap.size w8 wr)) (fun i _ => P.length - (intOf i).toNat)
      case atStart => exact ⟨0, Nat.zero_le _, rfl, Below.refl _ _⟩
      case round =>
        obtain ⟨j, hj, rfl, HB⟩ := hrel
        have hpl := HPL.out
        by_cases hlt : j < P.length
        · obtain h0 | ⟨bk, o, rfl, hbk, hcp, hcell⟩ := HS2.out.below HB.out
          · rw [h0] at hlt; simp at hlt
          obtain ⟨c1, c2⟩ := hcell j _ (List.getElem?_eq_getElem hlt)
          have j1 : (j : Int) < P.length := by omega
          have HAT := Lib.hid (fun W hT => point32 tb ys.length P (j : Int) W hT)
          rw [ptAt_nat hlt] at HAT
          generalize P[j] = q at *
          obtain ⟨v, N⟩ := q
          simp only at c1 c2 HAT
          have n1 : ((v : Int) != (v : Int)) = false := by simp
          have n2 : (N.toList != N.toList) = false := by simp
          have HTR := Lib.hid ((HTA9.out.below HB.out).below (below_alloc wr (.cells #[.int .u64 (v : Nat), .string N] 63)))
          have HBa := Lib.hid (HB.out.alloc HB.out.size (.cells #[.int .u64 (v : Nat), .string N] 63))
          have HRP := Lib.hid (Row.new wr 63 #[.int .u64 (v : Nat), .string N])
          clear hcell
          go_upto_region 19 with fail
          clear c1 c2
          generalize wr.heap.size = pb at *
          generalize wr.alloc (.cells #[.int .u64 (v : Nat), .string N] 63) = wa at *
          go_wp2_with (go_at_call 32; refine (HAT.out _ HTR.out).mono ?_; rintro e wx ⟨rfl, hBx⟩; have HBx := Lib.hid (HBa.out.trans (hBx.mono HBa.out.size)); have r0 : wx.cell? ⟨pb, 0, none⟩ = some (.int .u64 (v : Nat)) := (by rw [(HRP.out.below hBx).cell]; rfl); have r1 : wx.cell? ⟨pb, 1, none⟩ = some (.string N) := (by rw [(HRP.out.below hBx).cell]; rfl); clear hBx)
          go_roundw
          case rel => exact ⟨j + 1, hlt, by go_num, HBx⟩
          case measure => simp [intOf]; omega
        · obtain rfl : j = P.length := by omega
          have hne : ¬ (P.length : Int) < P.length := by omega
          have HTR := Lib.hid (HTA9.out.below HB.out)
          have HAN := Lib.hid (point32 tb ys.length P (P.length : Int) wr HTR.out)
          rw [ptAt_end P] at HAN
          go_wp2_with (go_at_call 32; refine HAN.out.mono ?_; rintro e wy ⟨rfl, hBy⟩)
          go_ret
          exact ⟨rfl, HB9.out.trans ((HB.out.trans (hBy.mono HB.out.size)).mono HBZ.out)⟩
end Go.Proofs.YtlcpkplipfcdaaaDoor

