/- stewardlaw18.MaglevPicks (written by genlawmp.py). -/
import Derived.Test.YtlcpkplipfcdaaaDoorMgWs
namespace Go.Proofs.YtlcpkplipfcdaaaDoor
open Go.RowKit

theorem prime401 : primeB 401 = true := by decide +kernel
/-- What is there while the last comparisons are evaluated. -/
structure PkS (W : World) (ns wl : List ByteArray) (L : Nat → Bool) (x : Nat → Value) (w : World) : Prop where
  bel : Below W.heap.size W w
  z10 : L 10 = true → ∃ a c, x 10 = .slice a ns.length c ∧ IsStrs w a c ns
  z17 : L 17 = true → ∃ a c, x 17 = .slice a wl.length c ∧ IsStrs w a c wl
  z21 : L 21 = true → ∃ a c, x 21 = .slice a wl.length c ∧ IsStrs w a c wl
section
variable {W : World} {ns wl : List ByteArray} {L : Nat → Bool} {x : Nat → Value} {w w' : World}
theorem PkS.below (h : PkS W ns wl L x w) (hb : Below w.heap.size w w') : PkS W ns wl L x w' :=
  ⟨h.bel.trans (hb.mono h.bel.size), fun e => by obtain ⟨a, c, h1, h2⟩ := h.z10 e; exact ⟨a, c, h1, h2.below hb⟩, fun e => by obtain ⟨a, c, h1, h2⟩ := h.z17 e; exact ⟨a, c, h1, h2.below hb⟩, fun e => by obtain ⟨a, c, h1, h2⟩ := h.z21 e; exact ⟨a, c, h1, h2.below hb⟩⟩
theorem PkS.at_ (h : PkS W ns wl L x w) (i : Nat) (u : Value) (h1 : i = 10 → ∃ a c, u = .slice a ns.length c ∧ IsStrs w a c ns) (h2 : i = 17 → ∃ a c, u = .slice a wl.length c ∧ IsStrs w a c wl) (h3 : i = 21 → ∃ a c, u = .slice a wl.length c ∧ IsStrs w a c wl) : PkS W ns wl (setL L i) (updV x i u) w := by
  have hs : ∀ j, j ≠ i → setL L i j = true → L j = true := fun j hj e => by simpa [setL, hj] using e
  have hu : ∀ j, j ≠ i → updV x i u j = x j := fun j hj => by simp [updV, hj]
  have hi : updV x i u i = u := by simp [updV]
  refine ⟨h.bel, fun e => ?_, fun e => ?_, fun e => ?_⟩
  · by_cases q : 10 = i
    · subst q; rw [hi]; exact h1 rfl
    · rw [hu _ q]; exact h.z10 (hs _ q e)
  · by_cases q : 17 = i
    · subst q; rw [hi]; exact h2 rfl
    · rw [hu _ q]; exact h.z17 (hs _ q e)
  · by_cases q : 21 = i
    · subst q; rw [hi]; exact h3 rfl
    · rw [hu _ q]; exact h.z21 (hs _ q e)
theorem PkS.next (h : PkS W ns wl L x w) (i : Nat) (u : Value) (h1 : i ≠ 10) (h2 : i ≠ 17) (h3 : i ≠ 21) : PkS W ns wl (setL L i) (updV x i u) w :=
  h.at_ i u (fun e => absurd e h1) (fun e => absurd e h2) (fun e => absurd e h3)
theorem PkS.put10 (h : PkS W ns wl L x w) {a : Option Addr} {c : Nat} (he : IsStrs w' a c ns) (hb : Below w.heap.size w w') : PkS W ns wl (setL L 10) (updV x 10 (.slice a ns.length c)) w' :=
  (h.below hb).at_ 10 _ (fun _ => ⟨a, c, rfl, he⟩) (fun e => by omega) (fun e => by omega)
theorem PkS.put17 (h : PkS W ns wl L x w) {a : Option Addr} {c : Nat} (he : IsStrs w' a c wl) (hb : Below w.heap.size w w') : PkS W ns wl (setL L 17) (updV x 17 (.slice a wl.length c)) w' :=
  (h.below hb).at_ 17 _ (fun e => by omega) (fun _ => ⟨a, c, rfl, he⟩) (fun e => by omega)
theorem PkS.put21 (h : PkS W ns wl L x w) {a : Option Addr} {c : Nat} (he : IsStrs w' a c wl) (hb : Below w.heap.size w w') : PkS W ns wl (setL L 21) (updV x 21 (.slice a wl.length c)) w' :=
  (h.below hb).at_ 21 _ (fun e => by omega) (fun e => by omega) (fun _ => ⟨a, c, rfl, he⟩)
end
set_option maxRecDepth 100000 in
set_option maxHeartbeats 8000000 in
theorem lawMaglevPicks (s : ByteArray) (a : Option Addr) (c : Nat) (es : List Ent) (hfl : es.length ≤ 9223372036854775807) (x : Int) (hx0 : 0 ≤ x) (hx1 : x < 18446744073709551616) (w : World) (hI : Ini w) (hf : IsEnts w a c es) :
    Calls Tryd.prog 4 #[.string s, .slice a es.length c, .int .u64 x] w fun e w' => e = .returned (.bool true) ∧ Below w.heap.size w w' := by
  obtain ⟨num, rfl⟩ : ∃ n : Nat, x = (n : Int) := ⟨x.toNat, by omega⟩
  have hxx : num < 18446744073709551616 := by omega
  have HXX := Lib.hid hxx
  have HAW := Lib.hid (awake6 w hI)
  have HI := Lib.hid hI
  have HF := Lib.hid hf
  have HL := Lib.hid hfl
  have hkf := fun W => key17 s W
  generalize (fun i => s.data.toList.getD i 0) = kf at hkf
  have HK : Hid (∀ W, Calls Tryd.prog 11 #[.string s] W fun e w' => e = .returned (.agg #[.int .u8 (kf 0).toNat, .int .u8 (kf 1).toNat, .int .u8 (kf 2).toNat, .int .u8 (kf 3).toNat, .int .u8 (kf 4).toNat, .int .u8 (kf 5).toNat, .int .u8 (kf 6).toNat, .int .u8 (kf 7).toNat, .int .u8 (kf 8).toNat, .int .u8 (kf 9).toNat, .int .u8 (kf 10).toNat, .int .u8 (kf 11).toNat, .int .u8 (kf 12).toNat, .int .u8 (kf 13).toNat, .int .u8 (kf 14).toNat, .int .u8 (kf 15).toNat]) ∧ Below W.heap.size W w') := hkf
  clear hI hf hfl hkf hx0 hx1 hxx
  go_enter Tryd.func4, Tryd.ntmps4
  go_upto_region 4 with (first
    | (go_at_call 9; refine HAW.out.mono ?_; rintro e w1 ⟨rfl, hB1⟩; have HB1 := Lib.hid hB1; clear hB1)
    | (go_at_call 10; refine (few7 a c es 4 (by decide) HL.out w1 (HF.out.below HB1.out)).mono ?_; rintro e w2 ⟨u, rfl, ho2, hB2⟩; obtain ⟨au, cu, rfl⟩ := own_slice ho2; have HE2 := Lib.hid (isEnts_own ho2).2.1; have HB2 := Lib.hid (HB1.out.trans (hB2.mono HB1.out.size)); clear ho2 hB2))
  have hkl : (fewE es 4).length ≤ 4 := by unfold fewE; simp; omega
  have HZ : Hid (∀ e ∈ fewE es 4, e.1.size ≤ 1000) := by
    intro e he
    obtain ⟨g, _, rfl⟩ := List.mem_map.1 he
    exact Nat.le_trans (cutE_size g) (by decide)
  generalize fewE es 4 = ys at *
  have HI2 := Lib.hid (HI.out.below HB2.out)
  clear HAW HF HL HB1 HI
  go_upto_region 5 with (go_at_call 11; refine (HK.out _).mono ?_; rintro e w3 ⟨rfl, hB3⟩; have HB3 := Lib.hid hB3; clear hB3)
  have HE3 := Lib.hid ((HE2.out.below HB3.out).below (below_alloc w3 (.cells #[.int .u8 (kf 0).toNat, .int .u8 (kf 1).toNat, .int .u8 (kf 2).toNat, .int .u8 (kf 3).toNat, .int .u8 (kf 4).toNat, .int .u8 (kf 5).toNat, .int .u8 (kf 6).toNat, .int .u8 (kf 7).toNat, .int .u8 (kf 8).toNat, .int .u8 (kf 9).toNat, .int .u8 (kf 10).toNat, .int .u8 (kf 11).toNat, .int .u8 (kf 12).toNat, .int .u8 (kf 13).toNat, .int .u8 (kf 14).toNat, .int .u8 (kf 15).toNat] 26)))
  have HI3 := Lib.hid ((HI2.out.below HB3.out).below (below_alloc w3 (.cells #[.int .u8 (kf 0).toNat, .int .u8 (kf 1).toNat, .int .u8 (kf 2).toNat, .int .u8 (kf 3).toNat, .int .u8 (kf 4).toNat, .int .u8 (kf 5).toNat, .int .u8 (kf 6).toNat, .int .u8 (kf 7).toNat, .int .u8 (kf 8).toNat, .int .u8 (kf 9).toNat, .int .u8 (kf 10).toNat, .int .u8 (kf 11).toNat, .int .u8 (kf 12).toNat, .int .u8 (kf 13).toNat, .int .u8 (kf 14).toNat, .int .u8 (kf 15).toNat] 26)))
  have HKR : Hid (KeyRow (w3.alloc (.cells #[.int .u8 (kf 0).toNat, .int .u8 (kf 1).toNat, .int .u8 (kf 2).toNat, .int .u8 (kf 3).toNat, .int .u8 (kf 4).toNat, .int .u8 (kf 5).toNat, .int .u8 (kf 6).toNat, .int .u8 (kf 7).toNat, .int .u8 (kf 8).toNat, .int .u8 (kf 9).toNat, .int .u8 (kf 10).toNat, .int .u8 (kf 11).toNat, .int .u8 (kf 12).toNat, .int .u8 (kf 13).toNat, .int .u8 (kf 14).toNat, .int .u8 (kf 15).toNat] 26)) w3.heap.size kf) := Row.new w3 _ _
  have HBK := Lib.hid (HB2.out.trans ((HB3.out.alloc HB3.out.size (.cells #[.int .u8 (kf 0).toNat, .int .u8 (kf 1).toNat, .int .u8 (kf 2).toNat, .int .u8 (kf 3).toNat, .int .u8 (kf 4).toNat, .int .u8 (kf 5).toNat, .int .u8 (kf 6).toNat, .int .u8 (kf 7).toNat, .int .u8 (kf 8).toNat, .int .u8 (kf 9).toNat, .int .u8 (kf 10).toNat, .int .u8 (kf 11).toNat, .int .u8 (kf 12).toNat, .int .u8 (kf 13).toNat, .int .u8 (kf 14).toNat, .int .u8 (kf 15).toNat] 26)).mono HB2.out.size))
  clear HB3 HE2 HI2 HK
  generalize w3.alloc (.cells #[.int .u8 (kf 0).toNat, .int .u8 (kf 1).toNat, .int .u8 (kf 2).toNat, .int .u8 (kf 3).toNat, .int .u8 (kf 4).toNat, .int .u8 (kf 5).toNat, .int .u8 (kf 6).toNat, .int .u8 (kf 7).toNat, .int .u8 (kf 8).toNat, .int .u8 (kf 9).toNat, .int .u8 (kf 10).toNat, .int .u8 (kf 11).toNat, .int .u8 (kf 12).toNat, .int .u8 (kf 13).toNat, .int .u8 (kf 14).toNat, .int .u8 (kf 15).toNat] 26) = WK at *
  generalize w3.heap.size = kb at *
  by_cases hc : chkB ys 401 = true
  case neg =>
    have hc : chkB ys 401 = false := by simpa using hc
    have hck := check8 au cu ys (by omega) 401
    rw [hc] at hck
    have HCK : Hid (∀ W, IsEnts W au cu ys → Calls Tryd.prog 14 #[.slice au ys.length cu, .int .i64 401] W fun e w' => e = .returned (.int .i64 1) ∧ Below W.heap.size W w') := hck
    have HBLD : Hid (∀ a5 c5 w9, Ini w9 → IsEnts w9 a5 c5 ys → Calls Tryd.prog 12 #[keyVal kf, .slice a5 ys.length c5, .int .i64 401] w9 fun e w' => ∃ p, e = .returned (.tuple #[p, .int .i64 1]) ∧ NilR p w' ∧ Below w9.heap.size w9 w') := fun a5 c5 w9 _ hx => (build8_bad kf ys (by omega) HZ.out 401 hc a5 c5 w9 hx).mono fun _ _ ⟨h1, h2⟩ => ⟨_, h1, rfl, h2⟩
    clear hck hc
    go_wp2_with fail
    refine region_mixt 8 [some (.agg #[.int .u8 (kf 0).toNat, .int .u8 (kf 1).toNat, .int .u8 (kf 2).toNat, .int .u8 (kf 3).toNat, .int .u8 (kf 4).toNat, .int .u8 (kf 5).toNat, .int .u8 (kf 6).toNat, .int .u8 (kf 7).toNat, .int .u8 (kf 8).toNat, .int .u8 (kf 9).toNat, .int .u8 (kf 10).toNat, .int .u8 (kf 11).toNat, .int .u8 (kf 12).toNat, .int .u8 (kf 13).toNat, .int .u8 (kf 14).toNat, .int .u8 (kf 15).toNat]), some (.slice au ys.length cu), none, none, none, none, some (.int .i64 1), none]
      [[false, false, false, false, false, false, false, false], [false, false, false, false, false, false, false, false], [false, true, false, false, false, false, false, false], [true, false, true, false, false, false, false, false], [false, false, false, true, false, false, false, false], [false, false, false, false, true, false, false, false], [false, false, false, false, true, false, false, false], [true, true, true, true, true, true, false, false]]
      (fun LL xx w9 => KoS WK ys 3 1 NilR LL xx w9)
      (by kernel_rfl) (by kernel_rfl) (by kernel_rfl) (by kernel_rfl) (by kernel_rfl) (by decide) ?_ ?_ ?_
    · intro x
      exact KoS.start _ _ _ _ _ _
    · simp only [List.take_succ_cons, List.take_zero]
      refine ⟨?_, ?_, ?_, ?_, ?_, ?_, ?_, ?_, trivial⟩
      all_goals
        intro L x w9 hS hl hp K9 hK9
        have hs : KoS WK ys 3 1 NilR L x w9 := hS
        clear hS
        replace hK9 := hK9.out
        simp only [actMix, pickV, List.tail_cons, List.headD_cons, Act.put, List.setIfInBounds_toArray, List.set_cons_zero, List.set_cons_succ] at hK9 ⊢
      · clear hp
        have hkr := HKR.out.below hs.bel
        rw [if_pos (by rfl)]
        refine wp_load_mid 26 _ rfl kb 0 rfl [.int .u8 (kf 0).toNat, .int .u8 (kf 1).toNat, .int .u8 (kf 2).toNat, .int .u8 (kf 3).toNat, .int .u8 (kf 4).toNat, .int .u8 (kf 5).toNat, .int .u8 (kf 6).toNat, .int .u8 (kf 7).toNat, .int .u8 (kf 8).toNat, .int .u8 (kf 9).toNat, .int .u8 (kf 10).toNat, .int .u8 (kf 11).toNat, .int .u8 (kf 12).toNat, .int .u8 (kf 13).toNat, .int .u8 (kf 14).toNat, .int .u8 (kf 15).toNat] _ (key_range hkr.isKey) Tryd.underlying26 rfl (by kernel_rfl) ?_
        simp only [Act.put, List.setIfInBounds_toArray, List.set_cons_zero, List.set_cons_succ]
        with_reducible refine hK9 _ ?_
        exact hs.next 0 _ (by decide) (by decide) (by decide) (by decide) (by decide)
      · clear hp
        go_simp
        with_reducible refine hK9 _ ?_
        exact hs.next 1 _ (by decide) (by decide) (by decide) (by decide) (by decide)
      · clear hp
        go_simp
        refine (own11 au cu ys (by omega) w9 (HE3.out.below hs.bel)).mono ?_
        rintro e w5 ⟨a5, c5, rfl, hE5, hB5⟩
        go_simp
        with_reducible refine hK9 _ _ ?_
        exact hs.put NilR.below (by decide) hE5 hB5
      · obtain ⟨a5, c5, hx5, hE5⟩ := hs.own (allL_mem hp 2 (by decide +kernel))
        clear hp
        rw [hx5] at hK9 ⊢
        go_simp
        refine (HBLD.out a5 c5 w9 (HI3.out.below hs.bel) hE5).mono ?_
        rintro e w5 ⟨p5, rfl, hR5, hB5⟩
        go_simp
        with_reducible refine hK9 _ _ ?_
        exact hs.built NilR.below (by decide) hR5 hB5
      · obtain ⟨p5, hx5, hR5⟩ := hs.tup (allL_mem hp 3 (by decide +kernel))
        clear hp
        rw [hx5] at hK9 ⊢
        go_simp
        with_reducible refine hK9 _ _ ?_
        exact hs.moved (by decide) hR5
      · obtain ⟨p5, hx5, hR5⟩ := hs.mv (allL_mem hp 4 (by decide +kernel))
        clear hp
        rw [hx5] at hK9 ⊢
        go_simp
        with_reducible refine hK9 _ _ ?_
        exact hs.first (by decide) hR5
      · obtain ⟨p5, hx5, hR5⟩ := hs.mv (allL_mem hp 4 (by decide +kernel))
        clear hp
        rw [hx5] at hK9 ⊢
        go_simp
        with_reducible refine hK9 _ ?_
        exact hs.next 6 _ (by decide) (by decide) (by decide) (by decide) (by decide)
      · have hR5 := hs.ex (allL_mem hp 5 (by decide +kernel))
        clear hp
        go_simp
        with_reducible refine hK9 _ _ ?_
        exact hs.assign (by decide) hR5
    intro L x w9 hS hL
    have hs : KoS WK ys 3 1 NilR L x w9 := hS
    have hR9 := hs.asg (hL 7 (by decide))
    simp only [actMix, pickV, List.tail_cons, List.headD_cons, Act.put, List.setIfInBounds_toArray, List.set_cons_zero, List.set_cons_succ, List.replicate_succ, List.replicate_zero, List.drop_succ_cons, List.drop_zero, List.take_succ_cons, List.take_zero]
    generalize x 3 = xa
    generalize x 4 = xb
    generalize x 5 = xc
    generalize x 7 = xd at *
    have HI9 := Lib.hid (HI3.out.below hs.bel)
    have HKR9 := Lib.hid (HKR.out.below hs.bel)
    have HE9 := Lib.hid (HE3.out.below hs.bel)
    have HB9 := Lib.hid (HBK.out.trans (hs.bel.mono (Nat.le_trans HBK.out.size (Nat.le_refl _))))
    clear hS hs hL HKR HE3 HI3 HBK HBLD
    obtain rfl : xd = .pointer none := hR9
    go_wp2_with (go_at_call 14; refine (HCK.out _ HE9.out).mono ?_; rintro e w7 ⟨rfl, hB7⟩)
    go_ret
    exact ⟨rfl, HB9.out.trans (hB7.mono HB9.out.size)⟩
  obtain ⟨m2, m20, hpm0, h100, hvb⟩ := chkB_yes hc
  have hpm := prime401
  have HPM := Lib.hid hpm
  have HVB := Lib.hid hvb
  have hck := check8 au cu ys (by omega) 401
  rw [hc] at hck
  have HCK : Hid (∀ W, IsEnts W au cu ys → Calls Tryd.prog 14 #[.slice au ys.length cu, .int .i64 401] W fun e w' => e = .returned (.int .i64 0) ∧ Below W.heap.size W w') := hck
  have HBLD : Hid (∀ a5 c5 w9, Ini w9 → IsEnts w9 a5 c5 ys → Calls Tryd.prog 12 #[keyVal kf, .slice a5 ys.length c5, .int .i64 401] w9 fun e w' => ∃ p, e = .returned (.tuple #[p, .int .i64 0]) ∧ TabR kf ys 401 p w' ∧ Below w9.heap.size w9 w') := fun a5 c5 w9 hi hx => build8_tab kf ys (by omega) HZ.out 401 (by omega) hpm (by omega) hvb a5 c5 w9 hi hx
  clear hck hc m20 hpm hvb hpm0 h100 m2
  case pos =>
    go_wp2_with fail
    refine region_mixt 8 [some (.agg #[.int .u8 (kf 0).toNat, .int .u8 (kf 1).toNat, .int .u8 (kf 2).toNat, .int .u8 (kf 3).toNat, .int .u8 (kf 4).toNat, .int .u8 (kf 5).toNat, .int .u8 (kf 6).toNat, .int .u8 (kf 7).toNat, .int .u8 (kf 8).toNat, .int .u8 (kf 9).toNat, .int .u8 (kf 10).toNat, .int .u8 (kf 11).toNat, .int .u8 (kf 12).toNat, .int .u8 (kf 13).toNat, .int .u8 (kf 14).toNat, .int .u8 (kf 15).toNat]), some (.slice au ys.length cu), none, none, none, none, some (.int .i64 0), none]
      [[false, false, false, false, false, false, false, false], [false, false, false, false, false, false, false, false], [false, true, false, false, false, false, false, false], [true, false, true, false, false, false, false, false], [false, false, false, true, false, false, false, false], [false, false, false, false, true, false, false, false], [false, false, false, false, true, false, false, false], [true, true, true, true, true, true, false, false]]
      (fun LL xx w9 => KoS WK ys 3 0 (TabR kf ys 401) LL xx w9)
      (by kernel_rfl) (by kernel_rfl) (by kernel_rfl) (by kernel_rfl) (by kernel_rfl) (by decide) ?_ ?_ ?_
    · intro x
      exact KoS.start _ _ _ _ _ _
    · simp only [List.take_succ_cons, List.take_zero]
      refine ⟨?_, ?_, ?_, ?_, ?_, ?_, ?_, ?_, trivial⟩
      all_goals
        intro L x w9 hS hl hp K9 hK9
        have hs : KoS WK ys 3 0 (TabR kf ys 401) L x w9 := hS
        clear hS
        replace hK9 := hK9.out
        simp only [actMix, pickV, List.tail_cons, List.headD_cons, Act.put, List.setIfInBounds_toArray, List.set_cons_zero, List.set_cons_succ] at hK9 ⊢
      · clear hp
        have hkr := HKR.out.below hs.bel
        rw [if_pos (by rfl)]
        refine wp_load_mid 26 _ rfl kb 0 rfl [.int .u8 (kf 0).toNat, .int .u8 (kf 1).toNat, .int .u8 (kf 2).toNat, .int .u8 (kf 3).toNat, .int .u8 (kf 4).toNat, .int .u8 (kf 5).toNat, .int .u8 (kf 6).toNat, .int .u8 (kf 7).toNat, .int .u8 (kf 8).toNat, .int .u8 (kf 9).toNat, .int .u8 (kf 10).toNat, .int .u8 (kf 11).toNat, .int .u8 (kf 12).toNat, .int .u8 (kf 13).toNat, .int .u8 (kf 14).toNat, .int .u8 (kf 15).toNat] _ (key_range hkr.isKey) Tryd.underlying26 rfl (by kernel_rfl) ?_
        simp only [Act.put, List.setIfInBounds_toArray, List.set_cons_zero, List.set_cons_succ]
        with_reducible refine hK9 _ ?_
        exact hs.next 0 _ (by decide) (by decide) (by decide) (by decide) (by decide)
      · clear hp
        go_simp
        with_reducible refine hK9 _ ?_
        exact hs.next 1 _ (by decide) (by decide) (by decide) (by decide) (by decide)
      · clear hp
        go_simp
        refine (own11 au cu ys (by omega) w9 (HE3.out.below hs.bel)).mono ?_
        rintro e w5 ⟨a5, c5, rfl, hE5, hB5⟩
        go_simp
        with_reducible refine hK9 _ _ ?_
        exact hs.put TabR.below (by decide) hE5 hB5
      · obtain ⟨a5, c5, hx5, hE5⟩ := hs.own (allL_mem hp 2 (by decide +kernel))
        clear hp
        rw [hx5] at hK9 ⊢
        go_simp
        refine (HBLD.out a5 c5 w9 (HI3.out.below hs.bel) hE5).mono ?_
        rintro e w5 ⟨p5, rfl, hR5, hB5⟩
        go_simp
        with_reducible refine hK9 _ _ ?_
        exact hs.built TabR.below (by decide) hR5 hB5
      · obtain ⟨p5, hx5, hR5⟩ := hs.tup (allL_mem hp 3 (by decide +kernel))
        clear hp
        rw [hx5] at hK9 ⊢
        go_simp
        with_reducible refine hK9 _ _ ?_
        exact hs.moved (by decide) hR5
      · obtain ⟨p5, hx5, hR5⟩ := hs.mv (allL_mem hp 4 (by decide +kernel))
        clear hp
        rw [hx5] at hK9 ⊢
        go_simp
        with_reducible refine hK9 _ _ ?_
        exact hs.first (by decide) hR5
      · obtain ⟨p5, hx5, hR5⟩ := hs.mv (allL_mem hp 4 (by decide +kernel))
        clear hp
        rw [hx5] at hK9 ⊢
        go_simp
        with_reducible refine hK9 _ ?_
        exact hs.next 6 _ (by decide) (by decide) (by decide) (by decide) (by decide)
      · have hR5 := hs.ex (allL_mem hp 5 (by decide +kernel))
        clear hp
        go_simp
        with_reducible refine hK9 _ _ ?_
        exact hs.assign (by decide) hR5
    intro L x w9 hS hL
    have hs : KoS WK ys 3 0 (TabR kf ys 401) L x w9 := hS
    have hR9 := hs.asg (hL 7 (by decide))
    simp only [actMix, pickV, List.tail_cons, List.headD_cons, Act.put, List.setIfInBounds_toArray, List.set_cons_zero, List.set_cons_succ, List.replicate_succ, List.replicate_zero, List.drop_succ_cons, List.drop_zero, List.take_succ_cons, List.take_zero]
    generalize x 3 = xa
    generalize x 4 = xb
    generalize x 5 = xc
    generalize x 7 = xd at *
    have HI9 := Lib.hid (HI3.out.below hs.bel)
    have HKR9 := Lib.hid (HKR.out.below hs.bel)
    have HE9 := Lib.hid (HE3.out.below hs.bel)
    have HB9 := Lib.hid (HBK.out.trans (hs.bel.mono (Nat.le_trans HBK.out.size (Nat.le_refl _))))
    clear hS hs hL HKR HE3 HI3 HBK HBLD
    obtain ⟨tb, own, rfl, hAS, hTA⟩ := hR9
    have HAS := Lib.hid hAS
    have HTA := Lib.hid hTA
    clear hAS hTA
    go_upto_region 8 with (go_at_call 14; refine (HCK.out _ HE9.out).mono ?_; rintro e w7 ⟨rfl, hB7⟩; have HTA7 := Lib.hid (HTA.out.below hB7); have HE7 := Lib.hid (HE9.out.below hB7); have HK7 := Lib.hid (HKR9.out.below hB7); have HB7 := Lib.hid (HB9.out.trans (hB7.mono HB9.out.size)); clear hB7)
    clear HCK HTA HE9 HKR9 HB9 HI9
    have hcv := key_all HK7.out.isKey
    have huk := Tryd.underlying26
    have HRB := Lib.hid (rbuild12 kf (keyStr kf) (keyStr_size kf) (keyStr_a kf) (keyStr_b kf) ys (by omega) HZ.out (valid_parts HVB.out).1 401 (by omega) HPM.out au cu w7 HE7.out)
    have HSR := Lib.hid (fun W hE => sortedR au cu ys (by omega) W hE)
    have hok : OwnOk (srtE ys).length 401 own := HAS.out.ok HPM.out (fun e he => (valid_parts HVB.out).1 e (((srtE_spec ys).1.mem_iff).1 he))
    have hlen := (srtE_spec ys).1.length_eq
    have HFU := Lib.hid (HAS.out.fullT HPM.out (fun e he => (valid_parts HVB.out).1 e (((srtE_spec ys).1.mem_iff).1 he)) (((apart_perm (srtE_spec ys).1).2 (valid_parts HVB.out).2)))
    have HSZ : Hid (∀ n ∈ (srtE ys).map (·.1), n.size ≤ 1000) := fun n hn => by
      obtain ⟨e, he, rfl⟩ := List.mem_map.1 hn
      exact HZ.out e (((srtE_spec ys).1.mem_iff).1 he)
    go_upto_region 12 with (go_at_call 16; refine HRB.out.mono ?_; rintro e w9 ⟨ap, cp, own2, rfl, hA2, hS2, hB9⟩; have HA2 := Lib.hid hA2; have HS2 := Lib.hid hS2; have HTA9 := Lib.hid (HTA7.out.below hB9); have HE9 := Lib.hid (HE7.out.below hB9); have HB9 := Lib.hid (HB7.out.trans (hB9.mono HB7.out.size)); clear hA2 hS2 hB9)
    obtain rfl : own2 = own := HA2.out.uniq HAS.out
    clear HRB HB7 HTA7 HE7 HK7 hcv huk HAS HA2 HZ HPM
    obtain ⟨i0, hi, hz0, hz1, hz2⟩ := info_parts infoSt
    go_wp2_with (go_at_call 18; refine (HSR.out _ HE9.out).mono ?_; rintro e wb ⟨a2, c2, rfl, hO2, hB2⟩; have HO2 := Lib.hid hO2; have HBb := Lib.hid hB2; clear hO2 hB2)
    have ho2 := HO2.out
    rw [← hlen] at ho2
    have HEA := Lib.hid (isEnts_own ho2).2.1
    rw [← hlen]
    clear ho2 HO2 HSR HE9 HVB
    have hl4 : (srtE ys).length ≤ 4 := by omega
    have HHL := Lib.hid hlen
    clear hlen
    generalize srtE ys = all at *
    have HN0 : Hid (wb.ownsRow wb.heap.size 9 1 (.slice none 0 0) 0 (nmsV (all.take 0))) := World.ownsRow_nil _ _ _ _
    go_loopw [12, 49] (fun v i wr => ∃ q : Nat, q ≤ all.length ∧ i = .int .i64 (q : Int) ∧ Hid (wr.ownsRow wb.heap.size 9 1 v q (nmsV (all.take q))) ∧ Hid (Below wb.heap.size wb wr)) (fun _ i _ => all.length - (intOf i).toNat)
    case atStart => exact ⟨0, Nat.zero_le _, rfl, HN0, Below.refl _ _⟩
    case round =>
      clear HN0
      obtain ⟨q, hq, rfl, HO, HB⟩ := hrel
      by_cases hlt : q < all.length
      · obtain h0 | ⟨bk, o, rfl, hbk, hcc, hcell⟩ := HEA.out.below HB.out
        · subst h0; simp at hlt
        obtain ⟨c1, c2'⟩ := hcell q all[q] (by simp [hlt])
        have HST := Lib.hid (nmsV_step hlt)
        have q1 : (q : Int) < all.length := by omega
        generalize all[q] = e at *
        obtain ⟨N, V⟩ := e
        simp only at c1 c2' HST
        have b1 := below_alloc wr (.cells #[.string N, .int .i64 V] 44)
        have b2 := b1.alloc b1.size (.cells #[.string N] 9)
        have HOA := Lib.hid ((HO.out.alloc (.cells #[.string N, .int .i64 V] 44)).alloc (.cells #[.string N] 9))
        have HBA := Lib.hid (HB.out.trans (b2.mono HB.out.size))
        have HRW := Lib.hid (Row.new wr 44 #[.string N, .int .i64 V])
        clear b1 b2 hcell
        go_upto_region 15 with fail
        clear c1 c2'
        generalize wr.heap.size = eb at *
        generalize wr.alloc (.cells #[.string N, .int .i64 V] 44) = wa at *
        have d1 : wa.cell? ⟨eb, 0, none⟩ = some (.string N) := by rw [HRW.out.cell]; rfl
        have HSC := Lib.hid (cells_str wa N 9)
        have HON : Hid (∀ u ∈ [Value.string N], u.oneCell' = true) := by intro u hu; simp at hu; subst hu; rfl
        go_wp2_with (at_builtin; refine wpList_append_own _ rfl _ _ 36 rfl wb.heap.size 9 i0 (.string ⟨#[]⟩) 1 16 Tryd.underlying36 hi hz0 hz1 hz2 rfl (by decide) _ _ _ rfl HOA.out ⟨wa.heap.size, 0, none⟩ 1 1 [.string N] rfl rfl HSC.out HON.out (by unfold maxLen; omega) (by omega) HBA.out.size ?_; intro v' w10 hown' hgrow _)
        have HB10 := Lib.hid (HBA.out.grown hgrow HBA.out.size (fun k e => (HOA.out.lt k e).1))
        rw [← HST.out] at hown'
        have HO10 := Lib.hid hown'
        clear hown' hgrow
        go_roundw
        case rel => exact ⟨q + 1, hlt, by go_num, HO10, HB10⟩
        case measure => simp [intOf]; omega
      · obtain rfl : q = all.length := by omega
        have hne : ¬ (all.length : Int) < all.length := by omega
        have ho := HO.out
        rw [List.take_length] at ho
        obtain ⟨an, cn, rfl⟩ := own_slice ho
        have hlm : (all.map (·.1)).length = all.length := List.length_map ..
        have hnm : nmsV all = (all.map (·.1)).map Value.string := by unfold nmsV; rw [List.map_map]; rfl
        rw [hnm, ← hlm] at ho
        have HSN := Lib.hid (isStrs_ownM ho).2
        have HPX : Hid (∀ j : Nat, j < 401 → (placesL all 401 own2)[j]? = some (atN (all.map (·.1)) 401 own2 (j : Int))) := fun j hj => by
          unfold placesL
          rw [List.getElem?_map, List.getElem?_range hj]; rfl
        have hpl := placesL_len all 401 own2
        have HPD := Lib.hid hpl
        rw [← hlm] at hok hl4 ⊢
        clear ho HO hnm HEA hlm HHL
        generalize placesL all 401 own2 = pl at *
        generalize all.map (·.1) = ns at *
        have HTAr := Lib.hid (HTA9.out.below (HBb.out.trans (HB.out.mono HBb.out.size)))
        have HSPr := Lib.hid (HS2.out.below (HBb.out.trans (HB.out.mono HBb.out.size)))
        have HB11 := Lib.hid (HB9.out.trans ((HBb.out.trans (HB.out.mono HBb.out.size)).mono HB9.out.size))
        have HOK := Lib.hid hok
        have hbw := fun W => below16 num 401 HXX.out (by decide) (by decide) W
        simp only [show ((401 : Nat) : Int) = 401 from rfl] at hbw
        have HBW : Hid (∀ W, Calls Tryd.prog 19 #[.int .u64 num, .int .i64 401] W fun e w' => e = .returned (.int .i64 (belowN num 401)) ∧ W = w') := hbw
        have HSH := Lib.hid (fun W hT => shares16 tb 401 (by omega) ns (by omega) own2 hok W hT)
        clear HTA9 HS2 HB HBb HB9 hbw hok
        go_wp2_with (first
          | (go_at_call 19; refine (HBW.out _).mono ?_; rintro e wx ⟨rfl, hwx⟩; subst hwx)
          | (go_at_call 20; refine (HSH.out _ HTAr.out).mono ?_; rintro e wy ⟨sb, rfl, hRS, hBy⟩; have HRS := Lib.hid hRS; have HTAy := Lib.hid (HTAr.out.below hBy); have HSPy := Lib.hid (HSPr.out.below hBy); have HSNy := Lib.hid (HSN.out.below hBy); have HBy := Lib.hid (HB11.out.trans (hBy.mono HB11.out.size)); clear hRS hBy))
        obtain h0 | ⟨bp, op, rfl, hbp, hcp, hcell⟩ := HSPy.out
        · have := HPD.out; rw [h0] at this; simp at this
        have HCL : Hid (∀ j : Nat, j < 401 → wy.cell? ⟨bp, op + j, none⟩ = some (.string (atN ns 401 own2 (j : Int)))) := fun j hj => hcell j _ (HPX.out j hj)
        have HPL := Lib.hid hbp
        clear hbp hcp hcell HTAr HSPr HB11 HSN HBW HSH hpl
        go_wp2_with fail
        go_loopw [70] (fun i wr => ∃ q : Nat, q ≤ ns.length ∧ i = .int .i64 (q : Int) ∧ Hid (wr = wy)) (fun i _ => ns.length - (intOf i).toNat)
        case atStart => exact ⟨0, Nat.zero_le _, rfl, rfl⟩
        case round =>
          rename_i wr0
          obtain ⟨q, hq, rfl, hwr⟩ := hrel
          obtain rfl := hwr.out
          clear hwr
          by_cases hlt : q < ns.length
          · obtain h0 | ⟨bn, on, rfl, hbn, hcn, hncell⟩ := HSNy.out
            · subst h0; simp at hlt
            have c1 := hncell q ns[q] (by simp [hlt])
            have HEQ := Lib.hid (fun j hj => HFU.out.eq (q := j) hj hlt)
            have c3 : wr.cell? ⟨sb, q, none⟩ = some (.int .i64 (shN own2 q 401 : Nat)) := by rw [HRS.out.cell q, List.getElem?_toArray, shV_at hlt]
            have q1 : (q : Int) < ns.length := by omega
            generalize ns[q] = M at *
            clear hncell hcn
            have HC1 := Lib.hid c1
            have HC3 := Lib.hid c3
            go_wp2_with fail
            go_loopw [19, 77] (fun h i w' => ∃ j : Nat, j ≤ 401 ∧ h = .int .i64 (shN own2 q j : Nat) ∧ i = .int .i64 (j : Int) ∧ Hid (w' = wr)) (fun _ i _ => 401 - (intOf i).toNat)
            case atStart => exact ⟨0, Nat.zero_le _, rfl, rfl, rfl⟩
            case round =>
              rename_i wr1
              obtain ⟨j, hj, rfl, rfl, hwr⟩ := hrel
              obtain rfl := hwr.out
              clear hwr
              by_cases hj2 : j < 401
              · have c2 := HCL.out j hj2
                have he := HEQ.out j hj2
                have hs := shN_step own2 q j
                have hle := shN_le own2 q j
                have j1 : (j : Int) < 401 := by omega
                have hse := strEqM (atN ns 401 own2 (j : Int)) M
                rw [he] at hse
                generalize atN ns 401 own2 (j : Int) = N at *
                by_cases ho : own2 j = (q : Int)
                · rw [if_pos ho] at hs
                  rw [decide_eq_true ho] at hse
                  have HS1 := Lib.hid hs
                  have hw5 := wrapI ((shN own2 q j : Nat) + 1) (by omega) (by omega)
                  clear he hs ho
                  go_wp2_with fail
                  go_roundw
                  case rel => exact ⟨j + 1, hj2, congrArg (Value.int .i64) (by have := HS1.out; omega), by go_num, trivial⟩
                  case measure => simp [intOf]; omega
                · rw [if_neg ho, Nat.add_zero] at hs
                  rw [decide_eq_false ho] at hse
                  have HS1 := Lib.hid hs
                  clear he hs ho
                  go_wp2_with fail
                  go_roundw
                  case rel => exact ⟨j + 1, hj2, congrArg (Value.int .i64) (by have := HS1.out; omega), by go_num, trivial⟩
                  case measure => simp [intOf]; omega
              · obtain rfl : j = 401 := by omega
                have hne3 : (((shN own2 q 401 : Nat) : Int) != ((shN own2 q 401 : Nat) : Int)) = false := by simp
                have c3 := HC3.out
                generalize shN own2 q 401 = sq at *
                go_wp2_with fail
                go_roundw
                case rel => exact ⟨q + 1, hlt, by go_num, trivial⟩
                case measure => simp [intOf]; omega
          · obtain rfl : q = ns.length := by omega
            have hne : ¬ (ns.length : Int) < ns.length := by omega
            have hwl := fun W hT => walkM tb 401 (by decide) (by decide) ns (by omega) HSZ.out own2 HOK.out num HXX.out W hT
            have hws := walk_same (num * 401 / 18446744073709551616) (by decide) HPD.out (fun k hk => by rw [List.getD_eq_getElem?_getD, HPX.out k hk]; rfl) HFU.out.mem 401
            have hst : num * 401 / 18446744073709551616 < 401 := belowN_lt num 401 HXX.out (by decide)
            have hbn2 : belowN num 401 = ((num * 401 / 18446744073709551616 : Nat) : Int) := rfl
            have hpk := fun W hT => pick26 tb 401 (by decide) (by decide) ns (by omega) own2 HOK.out num HXX.out W hT
            rw [hbn2] at hpk ⊢
            generalize num * 401 / 18446744073709551616 = st at *
            have hwr := fun W hp hq => walkR pl ns (by rw [HPD.out]; decide) (by rw [HPD.out]; decide) (by omega) st (by rw [HPD.out]; exact hst) (some ⟨bp, op, none⟩) cp an cn W hp hq
            rw [HPD.out, hws.1] at hwr
            have HWL : Hid ((wkS ns 401 own2 st 401).length ≤ 1000) := by have := wkS_le (ns := ns) (m := 401) (own := own2) (st := st) 401; show _ ≤ _; omega
            have hpn := HCL.out st hst
            generalize wkS ns 401 own2 st 401 = wl at *
            generalize atN ns 401 own2 (st : Int) = N at *
            have HWM := Lib.hid hwl
            have HWR := Lib.hid hwr
            have HPK := Lib.hid hpk
            have HPN := Lib.hid hpn
            have HNL : Hid (ns.length ≤ 1000 ∧ True) := ⟨by omega, trivial⟩
            have HTAR := Lib.hid HTAy.out
            have HSN := Lib.hid HSNy.out
            have HSP := Lib.hid HSPy.out
            have hNN : (N.toList == N.toList) = true := by simp
            have s1 : (st : Int) < 401 := by omega
            clear hwl hws hst hpk hwr hpn HTAy HSNy HSPy HPX HFU HOK HCL HRS HPD HSZ HXX
            go_wp2_with fail
            refine region_mixt 24 [some (.pointer (some ⟨tb, 0, none⟩)), some (.int .u64 num), some (.string N), some (.slice (some ⟨bp, op, none⟩) 401 cp), some (.int .i64 (st : Nat)), some (.pointer (some ⟨bp, op + st, none⟩)), some (.string N), some (.bool true), some (.bool true), some (.pointer (some ⟨tb, 0, none⟩)), none, some (.slice an ns.length cn), some (.bool true), some (.bool true), some (.bool true), some (.pointer (some ⟨tb, 0, none⟩)), some (.int .u64 num), none, some (.slice (some ⟨bp, op, none⟩) 401 cp), some (.slice an ns.length cn), some (.int .i64 (st : Nat)), none, some (.bool true), some (.bool true)]
              [[false, false, false, false, false, false, false, false, false, false, false, false, false, false, false, false, false, false, false, false, false, false, false, false], [false, false, false, false, false, false, false, false, false, false, false, false, false, false, false, false, false, false, false, false, false, false, false, false], [true, true, false, false, false, false, false, false, false, false, false, false, false, false, false, false, false, false, false, false, false, false, false, false], [false, false, false, false, false, false, false, false, false, false, false, false, false, false, false, false, false, false, false, false, false, false, false, false], [false, false, false, false, false, false, false, false, false, false, false, false, false, false, false, false, false, false, false, false, false, false, false, false], [false, false, false, true, true, false, false, false, false, false, false, false, false, false, false, false, false, false, false, false, false, false, false, false], [false, false, false, false, false, true, false, false, false, false, false, false, false, false, false, false, false, false, false, false, false, false, false, false], [false, false, true, false, false, false, true, false, false, false, false, false, false, false, false, false, false, false, false, false, false, false, false, false], [false, false, true, false, false, false, false, true, false, false, false, false, false, false, false, false, false, false, false, false, false, false, false, false], [false, false, false, false, false, false, false, false, true, false, false, false, false, false, false, false, false, false, false, false, false, false, false, false], [false, false, false, false, false, false, false, false, true, true, false, false, false, false, false, false, false, false, false, false, false, false, false, false], [false, false, false, false, false, false, false, false, true, false, false, false, false, false, false, false, false, false, false, false, false, false, false, false], [false, false, false, false, false, false, false, false, true, false, true, true, false, false, false, false, false, false, false, false, false, false, false, false], [false, false, false, false, false, false, false, false, true, false, false, false, true, false, false, false, false, false, false, false, false, false, false, false], [false, false, false, false, false, false, false, false, false, false, false, false, true, true, false, false, false, false, false, false, false, false, false, false], [false, false, false, false, false, false, false, false, false, false, false, false, false, false, true, false, false, false, false, false, false, false, false, false], [false, false, false, false, false, false, false, false, false, false, false, false, false, false, true, false, false, false, false, false, false, false, false, false], [false, false, false, false, false, false, false, false, false, false, false, false, false, false, true, true, true, false, false, false, false, false, false, false], [false, false, false, false, false, false, false, false, false, false, false, false, false, false, true, false, false, false, false, false, false, false, false, false], [false, false, false, false, false, false, false, false, false, false, false, false, false, false, true, false, false, false, false, false, false, false, false, false], [false, false, false, false, false, false, false, false, false, false, false, false, false, false, true, false, false, false, false, false, false, false, false, false], [false, false, false, false, false, false, false, false, false, false, false, false, false, false, true, false, false, true, true, true, true, false, false, false], [false, false, false, false, false, false, false, false, false, false, false, false, false, false, true, false, false, true, false, false, false, true, false, false], [false, false, false, false, false, false, false, false, false, false, false, false, false, false, true, false, false, false, false, false, false, false, true, false]]
              (fun LL xx w9 => PkS wr ns wl LL xx w9)
              (by kernel_rfl) (by kernel_rfl) (by kernel_rfl) (by kernel_rfl) (by kernel_rfl) (by decide) ?_ ?_ ?_
            · intro x
              exact ⟨(Below.refl _ _).drew, (fun h => by cases h), (fun h => by cases h), (fun h => by cases h)⟩
            · simp only [List.take_succ_cons, List.take_zero]
              refine ⟨?_, ?_, ?_, ?_, ?_, ?_, ?_, ?_, ?_, ?_, ?_, ?_, ?_, ?_, ?_, ?_, ?_, ?_, ?_, ?_, ?_, ?_, ?_, ?_, trivial⟩
              all_goals
                intro L x w9 hS hl hp K9 hK9
                have hs : PkS wr ns wl L x w9 := hS
                clear hS
                replace hK9 := hK9.out
                simp only [actMix, pickV, List.tail_cons, List.headD_cons, Act.put, List.setIfInBounds_toArray, List.set_cons_zero, List.set_cons_succ] at hK9 ⊢
              · clear hp
                go_simp
                with_reducible refine hK9 _ ?_
                exact hs.next 0 _ (by decide) (by decide) (by decide)
              · clear hp
                go_simp
                with_reducible refine hK9 _ ?_
                exact hs.next 1 _ (by decide) (by decide) (by decide)
              · clear hp
                go_simp
                refine (HPK.out w9 (HTAR.out.below hs.bel)).mono ?_
                rintro e w8 ⟨rfl, hB8⟩
                go_simp
                with_reducible refine hK9 _ ?_
                exact (hs.below hB8).next 2 _ (by decide) (by decide) (by decide)
              · clear hp
                go_simp
                with_reducible refine hK9 _ ?_
                exact hs.next 3 _ (by decide) (by decide) (by decide)
              · clear hp
                go_simp
                with_reducible refine hK9 _ ?_
                exact hs.next 4 _ (by decide) (by decide) (by decide)
              · clear hp
                go_simp
                with_reducible refine hK9 _ ?_
                exact hs.next 5 _ (by decide) (by decide) (by decide)
              · have q1 : w9.cell? ⟨bp, op + st, none⟩ = some (.string N) := by rw [(bcell hs.bel).1 _ _ HPL.out]; exact HPN.out
                clear hp
                go_simp
                with_reducible refine hK9 _ ?_
                exact hs.next 6 _ (by decide) (by decide) (by decide)
              · clear hp
                go_simp
                with_reducible refine hK9 _ ?_
                exact hs.next 7 _ (by decide) (by decide) (by decide)
              · clear hp
                go_simp
                with_reducible refine hK9 _ ?_
                exact hs.next 8 _ (by decide) (by decide) (by decide)
              · clear hp
                go_simp
                with_reducible refine hK9 _ ?_
                exact hs.next 9 _ (by decide) (by decide) (by decide)
              · clear hp
                go_simp
                refine (namesM tb 401 ns HNL.out.1 own2 w9 (HTAR.out.below hs.bel)).mono ?_
                rintro e w8 ⟨a8, c8, rfl, hS8, hB8⟩
                go_simp
                with_reducible refine hK9 _ _ ?_
                exact hs.put10 hS8 hB8
              · clear hp
                go_simp
                with_reducible refine hK9 _ ?_
                exact hs.next 11 _ (by decide) (by decide) (by decide)
              · obtain ⟨a8, c8, hx8, hS8⟩ := hs.z10 (allL_mem hp 10 (by decide +kernel))
                clear hp
                rw [hx8] at hK9 ⊢
                go_simp
                refine (sameM a8 c8 ns an cn ns true (by simp) (by have := HNL.out.1; omega) (by have := HNL.out.1; omega) w9 hS8 (HSN.out.below hs.bel)).mono ?_
                rintro e w8 ⟨rfl, hB8⟩
                go_simp
                with_reducible refine hK9 _ ?_
                exact (hs.below hB8).next 12 _ (by decide) (by decide) (by decide)
              · clear hp
                go_simp
                with_reducible refine hK9 _ ?_
                exact hs.next 13 _ (by decide) (by decide) (by decide)
              · clear hp
                go_simp
                with_reducible refine hK9 _ ?_
                exact hs.next 14 _ (by decide) (by decide) (by decide)
              · clear hp
                go_simp
                with_reducible refine hK9 _ ?_
                exact hs.next 15 _ (by decide) (by decide) (by decide)
              · clear hp
                go_simp
                with_reducible refine hK9 _ ?_
                exact hs.next 16 _ (by decide) (by decide) (by decide)
              · clear hp
                go_simp
                refine (HWM.out w9 (HTAR.out.below hs.bel)).mono ?_
                rintro e w8 ⟨a8, c8, rfl, hS8, hB8⟩
                go_simp
                with_reducible refine hK9 _ _ ?_
                exact hs.put17 hS8 hB8
              · clear hp
                go_simp
                with_reducible refine hK9 _ ?_
                exact hs.next 18 _ (by decide) (by decide) (by decide)
              · clear hp
                go_simp
                with_reducible refine hK9 _ ?_
                exact hs.next 19 _ (by decide) (by decide) (by decide)
              · clear hp
                go_simp
                with_reducible refine hK9 _ ?_
                exact hs.next 20 _ (by decide) (by decide) (by decide)
              · clear hp
                go_simp
                refine (HWR.out w9 (HSP.out.below hs.bel) (HSN.out.below hs.bel)).mono ?_
                rintro e w8 ⟨a8, c8, rfl, hS8, hB8⟩
                go_simp
                with_reducible refine hK9 _ _ ?_
                exact hs.put21 hS8 hB8
              · obtain ⟨a8, c8, hx8, hS8⟩ := hs.z17 (allL_mem hp 17 (by decide +kernel))
                obtain ⟨a7, c7, hx7, hS7⟩ := hs.z21 (allL_mem hp 21 (by decide +kernel))
                clear hp
                rw [hx8, hx7] at hK9 ⊢
                go_simp
                refine (sameM a8 c8 wl a7 c7 wl true (by simp) (by have := HWL.out; omega) (by have := HWL.out; omega) w9 hS8 hS7).mono ?_
                rintro e w8 ⟨rfl, hB8⟩
                go_simp
                with_reducible refine hK9 _ ?_
                exact (hs.below hB8).next 22 _ (by decide) (by decide) (by decide)
              · clear hp
                go_simp
                with_reducible refine hK9 _ ?_
                exact hs.next 23 _ (by decide) (by decide) (by decide)
            intro L x w9 hS hL
            have hs : PkS wr ns wl L x w9 := hS
            simp only [actMix, pickV, List.tail_cons, List.headD_cons, Act.put, List.setIfInBounds_toArray, List.set_cons_zero, List.set_cons_succ, List.replicate_succ, List.replicate_zero, List.drop_succ_cons, List.drop_zero, List.take_succ_cons, List.take_zero]
            generalize x 10 = xa
            generalize x 17 = xb
            generalize x 21 = xc
            have HBE := Lib.hid (HBy.out.trans (hs.bel.mono HBy.out.size))
            clear hS hs hL
            go_wp2_with fail
            go_ret
            exact ⟨rfl, HBE.out⟩
end Go.Proofs.YtlcpkplipfcdaaaDoor
