/- stewardlaw21.ProbeRows (written by genpg.py). -/
import Derived.Test.YtklfpnnnoaaiaaaPoE
import Derived.IntWalk
namespace Go.Proofs.Ytklfpnnnoaaiaaa
open Go.RowKit

theorem and7 (x : Int) : ∃ n : Nat, n ≤ 7 ∧ bits .and .i64 x 7 = (n : Int) := by
  have h : (BitVec.ofInt 64 x &&& BitVec.ofInt 64 7).toNat ≤ 7 := by
    rw [BitVec.toNat_and]
    exact Nat.le_trans Nat.and_le_right (by decide)
  refine ⟨(BitVec.ofInt 64 x &&& BitVec.ofInt 64 7).toNat, h, ?_⟩
  show IntKind.i64.wrap (((BitVec.ofInt 64 x &&& BitVec.ofInt 64 7).toNat : Nat) : Int) = _
  exact IntWalk.i64_in _ (by omega)
/-- What the law has in memory. -/
structure RwS (w0 w : World) (b7 b8 : Nat) (q c : Array Value) : Prop where
  bel : Below w0.heap.size w0 w
  q7 : Row w b7 45 q
  c8 : Row w b8 48 c
  ne : b7 ≠ b8
  l7 : w0.heap.size ≤ b7
section
variable {w0 w w' : World} {b7 b8 : Nat} {q c : Array Value}
theorem RwS.below (h : RwS w0 w b7 b8 q c) (hb : Below w.heap.size w w') : RwS w0 w' b7 b8 q c :=
  ⟨h.bel.trans (hb.mono h.bel.size), h.q7.below hb, h.c8.below hb, h.ne, h.l7⟩
theorem RwS.put (h : RwS w0 w b7 b8 q c) (hs : q.size = 4) (x y z t : Value) : RwS w0 ((((w.setCell ⟨b7, 0, none⟩ x).setCell ⟨b7, 1, none⟩ y).setCell ⟨b7, 2, none⟩ z).setCell ⟨b7, 3, none⟩ t) b7 b8 #[x, y, z, t] c :=
  ⟨bel4 h.bel h.l7 _ _ _ _, row4 h.q7 hs _ _ _ _, row4far h.c8 (fun e => h.ne e.symm) _ _ _ _, h.ne, h.l7⟩
end
set_option maxRecDepth 100000 in
set_option maxHeartbeats 8000000 in
theorem lawProbeRows (up0 : Bool) (rise fall : Int) (a : Option Addr) (cap : Nat) (xs : List Bool) (hl : xs.length ≤ 9223372036854775807) (w : World) (hx : IsBools w a cap xs) :
    Calls Try.prog 6 #[.agg #[.bool up0, .int .i64 rise, .int .i64 fall, .slice a xs.length cap]] w fun e w' => e = .returned (.bool true) ∧ Below w.heap.size w w' := by
  obtain ⟨r0, hr0, er⟩ := and7 rise
  obtain ⟨f0, hf0, ef⟩ := and7 fall
  obtain ⟨r, hr⟩ : ∃ r, r = r0 + 1 := ⟨_, rfl⟩
  obtain ⟨f, hf⟩ : ∃ f, f = f0 + 1 := ⟨_, rfl⟩
  have hr2 : (1 : Int) + (r0 : Int) = (r : Int) := by omega
  have hf2 : (1 : Int) + (f0 : Int) = (f : Int) := by omega
  have HRB : Hid (1 ≤ r ∧ r ≤ 8 ∧ 1 ≤ f ∧ f ≤ 8) := by show _ ∧ _; omega
  have HRC := Lib.hid (fun q good now W => resultC q ⟨0, 0, (r : Int), (f : Int)⟩ good now W)
  have e1 : limN (r : Int) 1000 = (r : Int) := by unfold limN; omega
  have e2 : limN (f : Int) 1000 = (f : Int) := by unfold limN; omega
  unfold cfgV prbV resV at HRC
  simp only at HRC
  rw [e1, e2] at HRC
  have HX := Lib.hid hx
  have HL := Lib.hid hl
  have HB0 := Lib.hid (below_alloc w (.cells #[.bool up0, .int .i64 rise, .int .i64 fall, .slice a xs.length cap] 57))
  have HA0 := Lib.hid (Row.new w 57 #[.bool up0, .int .i64 rise, .int .i64 fall, .slice a xs.length cap])
  clear hx hl e1 e2 hr hf
  go_enter Try.func6, Try.ntmps6
  go_wp2_with (go_at_call 16; refine (awake21 _).mono ?_; rintro e w1 ⟨rfl, hB1⟩; have HA1 := Lib.hid (HA0.out.below hB1); obtain ⟨p0, p1, p2, p3⟩ := pcell HA1.out; have HB1 := Lib.hid (HB0.out.trans (hB1.mono HB0.out.size)); clear hB1)
  clear HA0 HB0
  go_quiet (fail)
  have HB2 : Hid (Below w.heap.size w (w1.drewN nq)) := HB1.out.trans ⟨rfl, rfl, rfl, Nat.le_refl _, fun _ _ => rfl⟩
  clear p0 p1 p2 p3 HA1 HB1 er ef hr0 hf0
  generalize w1.drewN nq = w2 at *
  go_upto_region 6 with (go_at_call 22; refine (newC _ _ _).mono ?_; rintro e w3 ⟨rfl, hw3⟩; subst w3)
  have hrs : RwS w (((w2.alloc (.cells #[.bool up0, .int .i64 0, .int .i64 0, .int .i64 0] 45)).alloc (.cells #[.bool up0, .int .i64 0, .int .i64 0, .int .i64 0] 45)).alloc (.cells #[.int .i64 0, .int .i64 0, .int .i64 (r : Nat), .int .i64 (f : Nat)] 48)) (w2.heap.size + 1) (w2.heap.size + 1 + 1) #[.bool up0, .int .i64 0, .int .i64 0, .int .i64 0] #[.int .i64 0, .int .i64 0, .int .i64 (r : Nat), .int .i64 (f : Nat)] := by
    have h1 := (Row.new (w2.alloc (.cells #[.bool up0, .int .i64 0, .int .i64 0, .int .i64 0] 45)) 45 #[.bool up0, .int .i64 0, .int .i64 0, .int .i64 0]).alloc (.cells #[.int .i64 0, .int .i64 0, .int .i64 (r : Nat), .int .i64 (f : Nat)] 48)
    have h2 := Row.new ((w2.alloc (.cells #[.bool up0, .int .i64 0, .int .i64 0, .int .i64 0] 45)).alloc (.cells #[.bool up0, .int .i64 0, .int .i64 0, .int .i64 0] 45)) 48 #[.int .i64 0, .int .i64 0, .int .i64 (r : Nat), .int .i64 (f : Nat)]
    rw [World.size_alloc] at h1
    rw [World.size_alloc, World.size_alloc] at h2
    have hz := HB2.out.size
    exact ⟨HB2.out.trans ((below_a3 w2 _ _ _).mono hz), h1, h2, by omega, by omega⟩
  have HRS := Lib.hid hrs
  clear hrs HB2
  generalize ((w2.alloc (.cells #[.bool up0, .int .i64 0, .int .i64 0, .int .i64 0] 45)).alloc (.cells #[.bool up0, .int .i64 0, .int .i64 0, .int .i64 0] 45)).alloc (.cells #[.int .i64 0, .int .i64 0, .int .i64 (r : Nat), .int .i64 (f : Nat)] 48) = w3 at *
  generalize hb7 : w2.heap.size + 1 = b7 at *
  generalize b7 + 1 = b8 at *
  clear hb7
  go_wp2_with fail
  go_loopw [5, 9, 10] (fun u n i wr => ∃ (j m : Nat) (up : Bool) (s : Int), j ≤ xs.length ∧ j ≤ 80 ∧ u = .bool up ∧ n = .int .i64 (m : Int) ∧ i = .int .i64 (j : Int) ∧ Hid (m < if up = true then f else r) ∧ Hid (RwS w wr b7 b8 #[.bool up, .int .i64 ((if up = true then 0 else m : Nat) : Int), .int .i64 ((if up = true then m else 0 : Nat) : Int), .int .i64 s] #[.int .i64 0, .int .i64 0, .int .i64 (r : Nat), .int .i64 (f : Nat)])) (fun _ _ i _ => 80 - (intOf i).toNat)
  case atStart =>
    refine ⟨0, 0, up0, 0, Nat.zero_le _, Nat.zero_le _, rfl, rfl, rfl, ?_, ?_⟩
    · show _ < _
      have := HRB.out
      split <;> omega
    · cases up0
      · exact HRS
      · exact HRS
  case round =>
    clear HRS
    obtain ⟨j, m, up, s, hj, hj8, rfl, rfl, rfl, HM, HS⟩ := hrel
    have hll := HL.out
    by_cases hlt : j < xs.length
    · have j1 : (j : Int) < xs.length := by omega
      by_cases h80 : j < 80
      · have j2 : (j : Int) < 80 := by omega
        obtain h0 | ⟨bk, o, rfl, hbk, hc, hcell⟩ := HX.out.below HS.out.bel
        · rw [h0] at hlt; simp at hlt
        have cx0 := hcell j _ (List.getElem?_eq_getElem hlt)
        have HBK := Lib.hid hbk
        have hrb := HRB.out
        have hm9 : m ≤ 8 := by have := HM.out; split at this <;> omega
        generalize xs[j] = gd at *
        have HCX := Lib.hid cx0
        clear hcell hbk
        have hmu := HM.out
        clear HM HRB
        cases up with
        | true =>
          simp only [if_true] at HS hmu
          replace HS : Hid (RwS w wr b7 b8 #[.bool true, .int .i64 0, .int .i64 ((m : Nat) : Int), .int .i64 s] #[.int .i64 0, .int .i64 0, .int .i64 (r : Nat), .int .i64 (f : Nat)]) := HS
          cases gd with
          | true =>
            have hres : resP ⟨true, 0, (m : Int), s⟩ (r : Int) (f : Int) true (j : Int) = (⟨true, 0, 0, s⟩, false) := by
              unfold resP resG resB one1
              simp
            have HR := Lib.hid (HRC.out ⟨true, 0, (m : Int), s⟩ true (j : Int))
            rw [hres] at HR
            simp only at HR
            clear hres
            have cx0 := HCX.out
            go_wp2_with fail
            refine region_mixt 13 [some (.agg #[.bool true, .int .i64 0, .int .i64 ((m : Nat) : Int), .int .i64 s]), some (.agg #[.int .i64 0, .int .i64 0, .int .i64 (r : Nat), .int .i64 (f : Nat)]), some (.slice (some ⟨bk, o, none⟩) xs.length cap), some (.int .i64 (j : Int)), some (.pointer (some ⟨bk, o + j, none⟩)), some (.bool true), some (.int .i64 (j : Int)), some (.tuple #[.agg #[.bool true, .int .i64 0, .int .i64 0, .int .i64 s], .bool false]), some (.tuple #[.agg #[.bool true, .int .i64 0, .int .i64 0, .int .i64 s], .bool false]), some (.agg #[.bool true, .int .i64 0, .int .i64 0, .int .i64 s]), some (.bool false), none, none]
              [[false, false, false, false, false, false, false, false, false, false, false, false, false], [false, false, false, false, false, false, false, false, false, false, false, false, false], [false, false, false, false, false, false, false, false, false, false, false, false, false], [false, false, false, false, false, false, false, false, false, false, false, false, false], [false, false, true, true, false, false, false, false, false, false, false, false, false], [false, false, false, false, true, false, false, false, false, false, false, false, false], [false, false, false, false, false, false, false, false, false, false, false, false, false], [true, true, false, false, false, true, true, false, false, false, false, false, false], [false, false, false, false, false, false, false, true, false, false, false, false, false], [false, false, false, false, false, false, false, false, true, false, false, false, false], [false, false, false, false, false, false, false, false, true, false, false, false, false], [false, false, false, false, false, false, false, false, false, false, false, false, false], [true, true, true, true, true, true, true, true, true, true, false, true, false]]
              (fun LL xx w9 => MxS wr [] [⟨11, 12, 45, #[.bool false, .int .i64 0, .int .i64 0, .int .i64 0], #[.bool true, .int .i64 0, .int .i64 0, .int .i64 s]⟩] LL xx w9)
              (by kernel_rfl) (by kernel_rfl) (by kernel_rfl) (by kernel_rfl) (by kernel_rfl) (by decide) ?_ ?_ ?_
            · intro x
              exact MxS.start (by simp)
            · simp only [List.take_succ_cons, List.take_zero]
              refine ⟨?_, ?_, ?_, ?_, ?_, ?_, ?_, ?_, ?_, ?_, ?_, ?_, ?_, trivial⟩
              all_goals
                intro L x w9 hS hl hp K9 hK9
                have hs : MxS wr [] [⟨11, 12, 45, #[.bool false, .int .i64 0, .int .i64 0, .int .i64 0], #[.bool true, .int .i64 0, .int .i64 0, .int .i64 s]⟩] L x w9 := hS
                clear hS
                replace hK9 := hK9.out
                simp only [actMix, pickV, List.tail_cons, List.headD_cons, Act.put, List.setIfInBounds_toArray, List.set_cons_zero, List.set_cons_succ] at hK9 ⊢
              · clear hp
                obtain ⟨p0, p1, p2, p3⟩ := pcell (hs.row HS.out.q7 (by simp))
                go_simp
                with_reducible refine hK9 _ ?_
                exact hs.next 0 _ (by simp [MxI])
              · clear hp
                obtain ⟨k0, k1, k2, k3⟩ := pcell (hs.row HS.out.c8 (by simp))
                go_simp
                with_reducible refine hK9 _ ?_
                exact hs.next 1 _ (by simp [MxI])
              · clear hp
                go_simp
                with_reducible refine hK9 _ ?_
                exact hs.next 2 _ (by simp [MxI])
              · clear hp
                go_simp
                with_reducible refine hK9 _ ?_
                exact hs.next 3 _ (by simp [MxI])
              · clear hp
                go_simp
                with_reducible refine hK9 _ ?_
                exact hs.next 4 _ (by simp [MxI])
              · clear hp
                have cx : w9.cell? ⟨bk, o + j, none⟩ = some (.bool true) := by rw [(bcell hs.bel0).1 _ _ HBK.out]; exact HCX.out
                go_simp
                with_reducible refine hK9 _ ?_
                exact hs.next 5 _ (by simp [MxI])
              · clear hp
                go_simp
                with_reducible refine hK9 _ ?_
                exact hs.next 6 _ (by simp [MxI])
              · clear hp
                go_simp
                refine (HR.out w9).mono ?_
                rintro e w8 ⟨rfl, hB8⟩
                go_simp
                with_reducible refine hK9 _ ?_
                exact (hs.below hB8).next 7 _ (by simp [MxI])
              · clear hp
                go_simp
                with_reducible refine hK9 _ ?_
                exact hs.next 8 _ (by simp [MxI])
              · clear hp
                go_simp
                with_reducible refine hK9 _ ?_
                exact hs.next 9 _ (by simp [MxI])
              · clear hp
                go_simp
                with_reducible refine hK9 _ ?_
                exact hs.next 10 _ (by simp [MxI])
              · clear hp
                go_simp
                with_reducible refine hK9 _ _ ?_
                exact hs.alloc (n := ⟨11, 12, 45, #[.bool false, .int .i64 0, .int .i64 0, .int .i64 0], #[.bool true, .int .i64 0, .int .i64 0, .int .i64 s]⟩) (by simp) hl (by simp) (by simp) (by simp)
              · have hA := allL_mem hp 11 (by decide +kernel)
                obtain ⟨bA, hxA, hgA, hrA⟩ := hs.new ⟨11, 12, 45, #[.bool false, .int .i64 0, .int .i64 0, .int .i64 0], #[.bool true, .int .i64 0, .int .i64 0, .int .i64 s]⟩ (by simp) hA
                clear hp
                simp only at hxA hrA hl
                rw [hl, if_neg (by simp)] at hrA
                rw [hxA] at hK9 ⊢
                rw [if_pos (by rfl)]
                refine wp_store_row 45 _ _ rfl bA #[.bool true, .int .i64 0, .int .i64 0, .int .i64 s] rfl rfl 45 #[.bool false, .int .i64 0, .int .i64 0, .int .i64 0] hrA infoPb rfl (by simp [Value.oneCell']) ?_
                simp only [Act.put]
                with_reducible refine hK9 undef _ ?_
                exact hs.write (n := ⟨11, 12, 45, #[.bool false, .int .i64 0, .int .i64 0, .int .i64 0], #[.bool true, .int .i64 0, .int .i64 0, .int .i64 s]⟩) (by simp) hxA hA (by simp) (by simp) (by simp) _ (by simp)
            intro L x w9 hS hL
            have hs : MxS wr [] [⟨11, 12, 45, #[.bool false, .int .i64 0, .int .i64 0, .int .i64 0], #[.bool true, .int .i64 0, .int .i64 0, .int .i64 s]⟩] L x w9 := hS
            clear hS
            simp only [actMix, pickV, List.tail_cons, List.headD_cons, Act.put, List.setIfInBounds_toArray, List.set_cons_zero, List.set_cons_succ, List.replicate_succ, List.replicate_zero, List.drop_succ_cons, List.drop_zero, List.take_succ_cons, List.take_zero]
            obtain ⟨b11, h11, g11, r11⟩ := hs.new ⟨11, 12, 45, #[.bool false, .int .i64 0, .int .i64 0, .int .i64 0], #[.bool true, .int .i64 0, .int .i64 0, .int .i64 s]⟩ (by simp) (hL 11 (by decide))
            simp only at h11 r11
            rw [if_pos (hL 12 (by decide))] at r11
            rw [h11]
            have HS2 := Lib.hid (HS.out.below hs.bel0)
            have cx : w9.cell? ⟨bk, o + j, none⟩ = some (.bool true) := by rw [(bcell hs.bel0).1 _ _ HBK.out]; exact HCX.out
            have h7l := HS.out.q7.lt
            have n1 : ¬ b7 = b11 := by omega
            have n2 : ¬ b11 = b7 := by omega
            obtain ⟨d0, d1, d2, d3⟩ := pcell r11
            obtain ⟨q0, q1, q2, q3⟩ := pcell HS2.out.q7
            have fq := HS2.out.q7.free
            clear hs hL h11 r11 HS HCX HBK HR h7l g11 cx0
            have HS3 := Lib.hid (HS2.out.put rfl (.bool true) (.int .i64 0) (.int .i64 0) (.int .i64 s))
            clear HS2
            go_wp2_with fail
            go_roundw
            case rel => exact ⟨j + 1, 0, true, s, hlt, h80, rfl, rfl, by go_num, (by show _ < _; simp; omega), HS3⟩
            case measure => simp [intOf]; omega
          | false =>
            by_cases hh : m + 1 = f
            · have hh2 : ¬ m + 1 < f := by omega
              have hres : resP ⟨true, 0, (m : Int), s⟩ (r : Int) (f : Int) false (j : Int) = (⟨false, 0, 0, (j : Int)⟩, true) := by
                unfold resP resG resB one1
                have q1 : max (m : Int) 0 + 1 = (m : Int) + 1 := by omega
                have q2 : ¬ (m : Int) + 1 < (f : Int) := by omega
                first | (simp [q2]; done) | (simp [q1, q2]; done)
              have HR := Lib.hid (HRC.out ⟨true, 0, (m : Int), s⟩ false (j : Int))
              rw [hres] at HR
              simp only at HR
              clear hres
              have hb1 : ((m : Int) + 1 == (f : Int)) = true := by simp; omega
              have cx0 := HCX.out
              go_wp2_with fail
              refine region_mixt 13 [some (.agg #[.bool true, .int .i64 0, .int .i64 ((m : Nat) : Int), .int .i64 s]), some (.agg #[.int .i64 0, .int .i64 0, .int .i64 (r : Nat), .int .i64 (f : Nat)]), some (.slice (some ⟨bk, o, none⟩) xs.length cap), some (.int .i64 (j : Int)), some (.pointer (some ⟨bk, o + j, none⟩)), some (.bool false), some (.int .i64 (j : Int)), some (.tuple #[.agg #[.bool false, .int .i64 0, .int .i64 0, .int .i64 (j : Int)], .bool true]), some (.tuple #[.agg #[.bool false, .int .i64 0, .int .i64 0, .int .i64 (j : Int)], .bool true]), some (.agg #[.bool false, .int .i64 0, .int .i64 0, .int .i64 (j : Int)]), some (.bool true), none, none]
                [[false, false, false, false, false, false, false, false, false, false, false, false, false], [false, false, false, false, false, false, false, false, false, false, false, false, false], [false, false, false, false, false, false, false, false, false, false, false, false, false], [false, false, false, false, false, false, false, false, false, false, false, false, false], [false, false, true, true, false, false, false, false, false, false, false, false, false], [false, false, false, false, true, false, false, false, false, false, false, false, false], [false, false, false, false, false, false, false, false, false, false, false, false, false], [true, true, false, false, false, true, true, false, false, false, false, false, false], [false, false, false, false, false, false, false, true, false, false, false, false, false], [false, false, false, false, false, false, false, false, true, false, false, false, false], [false, false, false, false, false, false, false, false, true, false, false, false, false], [false, false, false, false, false, false, false, false, false, false, false, false, false], [true, true, true, true, true, true, true, true, true, true, false, true, false]]
                (fun LL xx w9 => MxS wr [] [⟨11, 12, 45, #[.bool false, .int .i64 0, .int .i64 0, .int .i64 0], #[.bool false, .int .i64 0, .int .i64 0, .int .i64 (j : Int)]⟩] LL xx w9)
                (by kernel_rfl) (by kernel_rfl) (by kernel_rfl) (by kernel_rfl) (by kernel_rfl) (by decide) ?_ ?_ ?_
              · intro x
                exact MxS.start (by simp)
              · simp only [List.take_succ_cons, List.take_zero]
                refine ⟨?_, ?_, ?_, ?_, ?_, ?_, ?_, ?_, ?_, ?_, ?_, ?_, ?_, trivial⟩
                all_goals
                  intro L x w9 hS hl hp K9 hK9
                  have hs : MxS wr [] [⟨11, 12, 45, #[.bool false, .int .i64 0, .int .i64 0, .int .i64 0], #[.bool false, .int .i64 0, .int .i64 0, .int .i64 (j : Int)]⟩] L x w9 := hS
                  clear hS
                  replace hK9 := hK9.out
                  simp only [actMix, pickV, List.tail_cons, List.headD_cons, Act.put, List.setIfInBounds_toArray, List.set_cons_zero, List.set_cons_succ] at hK9 ⊢
                · clear hp
                  obtain ⟨p0, p1, p2, p3⟩ := pcell (hs.row HS.out.q7 (by simp))
                  go_simp
                  with_reducible refine hK9 _ ?_
                  exact hs.next 0 _ (by simp [MxI])
                · clear hp
                  obtain ⟨k0, k1, k2, k3⟩ := pcell (hs.row HS.out.c8 (by simp))
                  go_simp
                  with_reducible refine hK9 _ ?_
                  exact hs.next 1 _ (by simp [MxI])
                · clear hp
                  go_simp
                  with_reducible refine hK9 _ ?_
                  exact hs.next 2 _ (by simp [MxI])
                · clear hp
                  go_simp
                  with_reducible refine hK9 _ ?_
                  exact hs.next 3 _ (by simp [MxI])
                · clear hp
                  go_simp
                  with_reducible refine hK9 _ ?_
                  exact hs.next 4 _ (by simp [MxI])
                · clear hp
                  have cx : w9.cell? ⟨bk, o + j, none⟩ = some (.bool false) := by rw [(bcell hs.bel0).1 _ _ HBK.out]; exact HCX.out
                  go_simp
                  with_reducible refine hK9 _ ?_
                  exact hs.next 5 _ (by simp [MxI])
                · clear hp
                  go_simp
                  with_reducible refine hK9 _ ?_
                  exact hs.next 6 _ (by simp [MxI])
                · clear hp
                  go_simp
                  refine (HR.out w9).mono ?_
                  rintro e w8 ⟨rfl, hB8⟩
                  go_simp
                  with_reducible refine hK9 _ ?_
                  exact (hs.below hB8).next 7 _ (by simp [MxI])
                · clear hp
                  go_simp
                  with_reducible refine hK9 _ ?_
                  exact hs.next 8 _ (by simp [MxI])
                · clear hp
                  go_simp
                  with_reducible refine hK9 _ ?_
                  exact hs.next 9 _ (by simp [MxI])
                · clear hp
                  go_simp
                  with_reducible refine hK9 _ ?_
                  exact hs.next 10 _ (by simp [MxI])
                · clear hp
                  go_simp
                  with_reducible refine hK9 _ _ ?_
                  exact hs.alloc (n := ⟨11, 12, 45, #[.bool false, .int .i64 0, .int .i64 0, .int .i64 0], #[.bool false, .int .i64 0, .int .i64 0, .int .i64 (j : Int)]⟩) (by simp) hl (by simp) (by simp) (by simp)
                · have hA := allL_mem hp 11 (by decide +kernel)
                  obtain ⟨bA, hxA, hgA, hrA⟩ := hs.new ⟨11, 12, 45, #[.bool false, .int .i64 0, .int .i64 0, .int .i64 0], #[.bool false, .int .i64 0, .int .i64 0, .int .i64 (j : Int)]⟩ (by simp) hA
                  clear hp
                  simp only at hxA hrA hl
                  rw [hl, if_neg (by simp)] at hrA
                  rw [hxA] at hK9 ⊢
                  rw [if_pos (by rfl)]
                  refine wp_store_row 45 _ _ rfl bA #[.bool false, .int .i64 0, .int .i64 0, .int .i64 (j : Int)] rfl rfl 45 #[.bool false, .int .i64 0, .int .i64 0, .int .i64 0] hrA infoPb rfl (by simp [Value.oneCell']) ?_
                  simp only [Act.put]
                  with_reducible refine hK9 undef _ ?_
                  exact hs.write (n := ⟨11, 12, 45, #[.bool false, .int .i64 0, .int .i64 0, .int .i64 0], #[.bool false, .int .i64 0, .int .i64 0, .int .i64 (j : Int)]⟩) (by simp) hxA hA (by simp) (by simp) (by simp) _ (by simp)
              intro L x w9 hS hL
              have hs : MxS wr [] [⟨11, 12, 45, #[.bool false, .int .i64 0, .int .i64 0, .int .i64 0], #[.bool false, .int .i64 0, .int .i64 0, .int .i64 (j : Int)]⟩] L x w9 := hS
              clear hS
              simp only [actMix, pickV, List.tail_cons, List.headD_cons, Act.put, List.setIfInBounds_toArray, List.set_cons_zero, List.set_cons_succ, List.replicate_succ, List.replicate_zero, List.drop_succ_cons, List.drop_zero, List.take_succ_cons, List.take_zero]
              obtain ⟨b11, h11, g11, r11⟩ := hs.new ⟨11, 12, 45, #[.bool false, .int .i64 0, .int .i64 0, .int .i64 0], #[.bool false, .int .i64 0, .int .i64 0, .int .i64 (j : Int)]⟩ (by simp) (hL 11 (by decide))
              simp only at h11 r11
              rw [if_pos (hL 12 (by decide))] at r11
              rw [h11]
              have HS2 := Lib.hid (HS.out.below hs.bel0)
              have cx : w9.cell? ⟨bk, o + j, none⟩ = some (.bool false) := by rw [(bcell hs.bel0).1 _ _ HBK.out]; exact HCX.out
              have h7l := HS.out.q7.lt
              have n1 : ¬ b7 = b11 := by omega
              have n2 : ¬ b11 = b7 := by omega
              obtain ⟨d0, d1, d2, d3⟩ := pcell r11
              obtain ⟨q0, q1, q2, q3⟩ := pcell HS2.out.q7
              have fq := HS2.out.q7.free
              clear hs hL h11 r11 HS HCX HBK HR h7l g11 cx0
              have HS3 := Lib.hid (HS2.out.put rfl (.bool false) (.int .i64 0) (.int .i64 0) (.int .i64 (j : Int)))
              clear HS2
              go_wp2_with fail
              go_roundw
              case rel => exact ⟨j + 1, 0, false, (j : Int), hlt, h80, rfl, rfl, by go_num, (by show _ < _; simp; omega), HS3⟩
              case measure => simp [intOf]; omega
            · have hh2 : m + 1 < f := by omega
              have hres : resP ⟨true, 0, (m : Int), s⟩ (r : Int) (f : Int) false (j : Int) = (⟨true, 0, ((m : Int) + 1), s⟩, false) := by
                unfold resP resG resB one1
                have q1 : max (m : Int) 0 + 1 = (m : Int) + 1 := by omega
                have q2 : (m : Int) + 1 < (f : Int) := by omega
                first | (simp [q2]; done) | (simp [q1, q2]; done)
              have HR := Lib.hid (HRC.out ⟨true, 0, (m : Int), s⟩ false (j : Int))
              rw [hres] at HR
              simp only at HR
              clear hres
              have hb1 : ((m : Int) + 1 == (f : Int)) = false := by rw [beq_eq_false_iff_ne]; omega
              have cx0 := HCX.out
              go_wp2_with fail
              refine region_mixt 13 [some (.agg #[.bool true, .int .i64 0, .int .i64 ((m : Nat) : Int), .int .i64 s]), some (.agg #[.int .i64 0, .int .i64 0, .int .i64 (r : Nat), .int .i64 (f : Nat)]), some (.slice (some ⟨bk, o, none⟩) xs.length cap), some (.int .i64 (j : Int)), some (.pointer (some ⟨bk, o + j, none⟩)), some (.bool false), some (.int .i64 (j : Int)), some (.tuple #[.agg #[.bool true, .int .i64 0, .int .i64 ((m : Int) + 1), .int .i64 s], .bool false]), some (.tuple #[.agg #[.bool true, .int .i64 0, .int .i64 ((m : Int) + 1), .int .i64 s], .bool false]), some (.agg #[.bool true, .int .i64 0, .int .i64 ((m : Int) + 1), .int .i64 s]), some (.bool false), none, none]
                [[false, false, false, false, false, false, false, false, false, false, false, false, false], [false, false, false, false, false, false, false, false, false, false, false, false, false], [false, false, false, false, false, false, false, false, false, false, false, false, false], [false, false, false, false, false, false, false, false, false, false, false, false, false], [false, false, true, true, false, false, false, false, false, false, false, false, false], [false, false, false, false, true, false, false, false, false, false, false, false, false], [false, false, false, false, false, false, false, false, false, false, false, false, false], [true, true, false, false, false, true, true, false, false, false, false, false, false], [false, false, false, false, false, false, false, true, false, false, false, false, false], [false, false, false, false, false, false, false, false, true, false, false, false, false], [false, false, false, false, false, false, false, false, true, false, false, false, false], [false, false, false, false, false, false, false, false, false, false, false, false, false], [true, true, true, true, true, true, true, true, true, true, false, true, false]]
                (fun LL xx w9 => MxS wr [] [⟨11, 12, 45, #[.bool false, .int .i64 0, .int .i64 0, .int .i64 0], #[.bool true, .int .i64 0, .int .i64 ((m : Int) + 1), .int .i64 s]⟩] LL xx w9)
                (by kernel_rfl) (by kernel_rfl) (by kernel_rfl) (by kernel_rfl) (by kernel_rfl) (by decide) ?_ ?_ ?_
              · intro x
                exact MxS.start (by simp)
              · simp only [List.take_succ_cons, List.take_zero]
                refine ⟨?_, ?_, ?_, ?_, ?_, ?_, ?_, ?_, ?_, ?_, ?_, ?_, ?_, trivial⟩
                all_goals
                  intro L x w9 hS hl hp K9 hK9
                  have hs : MxS wr [] [⟨11, 12, 45, #[.bool false, .int .i64 0, .int .i64 0, .int .i64 0], #[.bool true, .int .i64 0, .int .i64 ((m : Int) + 1), .int .i64 s]⟩] L x w9 := hS
                  clear hS
                  replace hK9 := hK9.out
                  simp only [actMix, pickV, List.tail_cons, List.headD_cons, Act.put, List.setIfInBounds_toArray, List.set_cons_zero, List.set_cons_succ] at hK9 ⊢
                · clear hp
                  obtain ⟨p0, p1, p2, p3⟩ := pcell (hs.row HS.out.q7 (by simp))
                  go_simp
                  with_reducible refine hK9 _ ?_
                  exact hs.next 0 _ (by simp [MxI])
                · clear hp
                  obtain ⟨k0, k1, k2, k3⟩ := pcell (hs.row HS.out.c8 (by simp))
                  go_simp
                  with_reducible refine hK9 _ ?_
                  exact hs.next 1 _ (by simp [MxI])
                · clear hp
                  go_simp
                  with_reducible refine hK9 _ ?_
                  exact hs.next 2 _ (by simp [MxI])
                · clear hp
                  go_simp
                  with_reducible refine hK9 _ ?_
                  exact hs.next 3 _ (by simp [MxI])
                · clear hp
                  go_simp
                  with_reducible refine hK9 _ ?_
                  exact hs.next 4 _ (by simp [MxI])
                · clear hp
                  have cx : w9.cell? ⟨bk, o + j, none⟩ = some (.bool false) := by rw [(bcell hs.bel0).1 _ _ HBK.out]; exact HCX.out
                  go_simp
                  with_reducible refine hK9 _ ?_
                  exact hs.next 5 _ (by simp [MxI])
                · clear hp
                  go_simp
                  with_reducible refine hK9 _ ?_
                  exact hs.next 6 _ (by simp [MxI])
                · clear hp
                  go_simp
                  refine (HR.out w9).mono ?_
                  rintro e w8 ⟨rfl, hB8⟩
                  go_simp
                  with_reducible refine hK9 _ ?_
                  exact (hs.below hB8).next 7 _ (by simp [MxI])
                · clear hp
                  go_simp
                  with_reducible refine hK9 _ ?_
                  exact hs.next 8 _ (by simp [MxI])
                · clear hp
                  go_simp
                  with_reducible refine hK9 _ ?_
                  exact hs.next 9 _ (by simp [MxI])
                · clear hp
                  go_simp
                  with_reducible refine hK9 _ ?_
                  exact hs.next 10 _ (by simp [MxI])
                · clear hp
                  go_simp
                  with_reducible refine hK9 _ _ ?_
                  exact hs.alloc (n := ⟨11, 12, 45, #[.bool false, .int .i64 0, .int .i64 0, .int .i64 0], #[.bool true, .int .i64 0, .int .i64 ((m : Int) + 1), .int .i64 s]⟩) (by simp) hl (by simp) (by simp) (by simp)
                · have hA := allL_mem hp 11 (by decide +kernel)
                  obtain ⟨bA, hxA, hgA, hrA⟩ := hs.new ⟨11, 12, 45, #[.bool false, .int .i64 0, .int .i64 0, .int .i64 0], #[.bool true, .int .i64 0, .int .i64 ((m : Int) + 1), .int .i64 s]⟩ (by simp) hA
                  clear hp
                  simp only at hxA hrA hl
                  rw [hl, if_neg (by simp)] at hrA
                  rw [hxA] at hK9 ⊢
                  rw [if_pos (by rfl)]
                  refine wp_store_row 45 _ _ rfl bA #[.bool true, .int .i64 0, .int .i64 ((m : Int) + 1), .int .i64 s] rfl rfl 45 #[.bool false, .int .i64 0, .int .i64 0, .int .i64 0] hrA infoPb rfl (by simp [Value.oneCell']) ?_
                  simp only [Act.put]
                  with_reducible refine hK9 undef _ ?_
                  exact hs.write (n := ⟨11, 12, 45, #[.bool false, .int .i64 0, .int .i64 0, .int .i64 0], #[.bool true, .int .i64 0, .int .i64 ((m : Int) + 1), .int .i64 s]⟩) (by simp) hxA hA (by simp) (by simp) (by simp) _ (by simp)
              intro L x w9 hS hL
              have hs : MxS wr [] [⟨11, 12, 45, #[.bool false, .int .i64 0, .int .i64 0, .int .i64 0], #[.bool true, .int .i64 0, .int .i64 ((m : Int) + 1), .int .i64 s]⟩] L x w9 := hS
              clear hS
              simp only [actMix, pickV, List.tail_cons, List.headD_cons, Act.put, List.setIfInBounds_toArray, List.set_cons_zero, List.set_cons_succ, List.replicate_succ, List.replicate_zero, List.drop_succ_cons, List.drop_zero, List.take_succ_cons, List.take_zero]
              obtain ⟨b11, h11, g11, r11⟩ := hs.new ⟨11, 12, 45, #[.bool false, .int .i64 0, .int .i64 0, .int .i64 0], #[.bool true, .int .i64 0, .int .i64 ((m : Int) + 1), .int .i64 s]⟩ (by simp) (hL 11 (by decide))
              simp only at h11 r11
              rw [if_pos (hL 12 (by decide))] at r11
              rw [h11]
              have HS2 := Lib.hid (HS.out.below hs.bel0)
              have cx : w9.cell? ⟨bk, o + j, none⟩ = some (.bool false) := by rw [(bcell hs.bel0).1 _ _ HBK.out]; exact HCX.out
              have h7l := HS.out.q7.lt
              have n1 : ¬ b7 = b11 := by omega
              have n2 : ¬ b11 = b7 := by omega
              obtain ⟨d0, d1, d2, d3⟩ := pcell r11
              obtain ⟨q0, q1, q2, q3⟩ := pcell HS2.out.q7
              have fq := HS2.out.q7.free
              clear hs hL h11 r11 HS HCX HBK HR h7l g11 cx0
              have HS3 := Lib.hid (HS2.out.put rfl (.bool true) (.int .i64 0) (.int .i64 ((m : Int) + 1)) (.int .i64 s))
              clear HS2
              go_wp2_with fail
              go_roundw
              case rel => exact ⟨j + 1, (m + 1), true, s, hlt, h80, rfl, by go_num, by go_num, (by show _ < _; simp; omega), HS3⟩
              case measure => simp [intOf]; omega
        | false =>
          simp only [Bool.false_eq_true, if_false] at HS hmu
          replace HS : Hid (RwS w wr b7 b8 #[.bool false, .int .i64 ((m : Nat) : Int), .int .i64 0, .int .i64 s] #[.int .i64 0, .int .i64 0, .int .i64 (r : Nat), .int .i64 (f : Nat)]) := HS
          cases gd with
          | true =>
            by_cases hh : m + 1 = r
            · have hh2 : ¬ m + 1 < r := by omega
              have hres : resP ⟨false, (m : Int), 0, s⟩ (r : Int) (f : Int) true (j : Int) = (⟨true, 0, 0, (j : Int)⟩, true) := by
                unfold resP resG resB one1
                have q1 : max (m : Int) 0 + 1 = (m : Int) + 1 := by omega
                have q2 : ¬ (m : Int) + 1 < (r : Int) := by omega
                first | (simp [q2]; done) | (simp [q1, q2]; done)
              have HR := Lib.hid (HRC.out ⟨false, (m : Int), 0, s⟩ true (j : Int))
              rw [hres] at HR
              simp only at HR
              clear hres
              have hb1 : ((m : Int) + 1 == (r : Int)) = true := by simp; omega
              have cx0 := HCX.out
              go_wp2_with fail
              refine region_mixt 13 [some (.agg #[.bool false, .int .i64 ((m : Nat) : Int), .int .i64 0, .int .i64 s]), some (.agg #[.int .i64 0, .int .i64 0, .int .i64 (r : Nat), .int .i64 (f : Nat)]), some (.slice (some ⟨bk, o, none⟩) xs.length cap), some (.int .i64 (j : Int)), some (.pointer (some ⟨bk, o + j, none⟩)), some (.bool true), some (.int .i64 (j : Int)), some (.tuple #[.agg #[.bool true, .int .i64 0, .int .i64 0, .int .i64 (j : Int)], .bool true]), some (.tuple #[.agg #[.bool true, .int .i64 0, .int .i64 0, .int .i64 (j : Int)], .bool true]), some (.agg #[.bool true, .int .i64 0, .int .i64 0, .int .i64 (j : Int)]), some (.bool true), none, none]
                [[false, false, false, false, false, false, false, false, false, false, false, false, false], [false, false, false, false, false, false, false, false, false, false, false, false, false], [false, false, false, false, false, false, false, false, false, false, false, false, false], [false, false, false, false, false, false, false, false, false, false, false, false, false], [false, false, true, true, false, false, false, false, false, false, false, false, false], [false, false, false, false, true, false, false, false, false, false, false, false, false], [false, false, false, false, false, false, false, false, false, false, false, false, false], [true, true, false, false, false, true, true, false, false, false, false, false, false], [false, false, false, false, false, false, false, true, false, false, false, false, false], [false, false, false, false, false, false, false, false, true, false, false, false, false], [false, false, false, false, false, false, false, false, true, false, false, false, false], [false, false, false, false, false, false, false, false, false, false, false, false, false], [true, true, true, true, true, true, true, true, true, true, false, true, false]]
                (fun LL xx w9 => MxS wr [] [⟨11, 12, 45, #[.bool false, .int .i64 0, .int .i64 0, .int .i64 0], #[.bool true, .int .i64 0, .int .i64 0, .int .i64 (j : Int)]⟩] LL xx w9)
                (by kernel_rfl) (by kernel_rfl) (by kernel_rfl) (by kernel_rfl) (by kernel_rfl) (by decide) ?_ ?_ ?_
              · intro x
                exact MxS.start (by simp)
              · simp only [List.take_succ_cons, List.take_zero]
                refine ⟨?_, ?_, ?_, ?_, ?_, ?_, ?_, ?_, ?_, ?_, ?_, ?_, ?_, trivial⟩
                all_goals
                  intro L x w9 hS hl hp K9 hK9
                  have hs : MxS wr [] [⟨11, 12, 45, #[.bool false, .int .i64 0, .int .i64 0, .int .i64 0], #[.bool true, .int .i64 0, .int .i64 0, .int .i64 (j : Int)]⟩] L x w9 := hS
                  clear hS
                  replace hK9 := hK9.out
                  simp only [actMix, pickV, List.tail_cons, List.headD_cons, Act.put, List.setIfInBounds_toArray, List.set_cons_zero, List.set_cons_succ] at hK9 ⊢
                · clear hp
                  obtain ⟨p0, p1, p2, p3⟩ := pcell (hs.row HS.out.q7 (by simp))
                  go_simp
                  with_reducible refine hK9 _ ?_
                  exact hs.next 0 _ (by simp [MxI])
                · clear hp
                  obtain ⟨k0, k1, k2, k3⟩ := pcell (hs.row HS.out.c8 (by simp))
                  go_simp
                  with_reducible refine hK9 _ ?_
                  exact hs.next 1 _ (by simp [MxI])
                · clear hp
                  go_simp
                  with_reducible refine hK9 _ ?_
                  exact hs.next 2 _ (by simp [MxI])
                · clear hp
                  go_simp
                  with_reducible refine hK9 _ ?_
                  exact hs.next 3 _ (by simp [MxI])
                · clear hp
                  go_simp
                  with_reducible refine hK9 _ ?_
                  exact hs.next 4 _ (by simp [MxI])
                · clear hp
                  have cx : w9.cell? ⟨bk, o + j, none⟩ = some (.bool true) := by rw [(bcell hs.bel0).1 _ _ HBK.out]; exact HCX.out
                  go_simp
                  with_reducible refine hK9 _ ?_
                  exact hs.next 5 _ (by simp [MxI])
                · clear hp
                  go_simp
                  with_reducible refine hK9 _ ?_
                  exact hs.next 6 _ (by simp [MxI])
                · clear hp
                  go_simp
                  refine (HR.out w9).mono ?_
                  rintro e w8 ⟨rfl, hB8⟩
                  go_simp
                  with_reducible refine hK9 _ ?_
                  exact (hs.below hB8).next 7 _ (by simp [MxI])
                · clear hp
                  go_simp
                  with_reducible refine hK9 _ ?_
                  exact hs.next 8 _ (by simp [MxI])
                · clear hp
                  go_simp
                  with_reducible refine hK9 _ ?_
                  exact hs.next 9 _ (by simp [MxI])
                · clear hp
                  go_simp
                  with_reducible refine hK9 _ ?_
                  exact hs.next 10 _ (by simp [MxI])
                · clear hp
                  go_simp
                  with_reducible refine hK9 _ _ ?_
                  exact hs.alloc (n := ⟨11, 12, 45, #[.bool false, .int .i64 0, .int .i64 0, .int .i64 0], #[.bool true, .int .i64 0, .int .i64 0, .int .i64 (j : Int)]⟩) (by simp) hl (by simp) (by simp) (by simp)
                · have hA := allL_mem hp 11 (by decide +kernel)
                  obtain ⟨bA, hxA, hgA, hrA⟩ := hs.new ⟨11, 12, 45, #[.bool false, .int .i64 0, .int .i64 0, .int .i64 0], #[.bool true, .int .i64 0, .int .i64 0, .int .i64 (j : Int)]⟩ (by simp) hA
                  clear hp
                  simp only at hxA hrA hl
                  rw [hl, if_neg (by simp)] at hrA
                  rw [hxA] at hK9 ⊢
                  rw [if_pos (by rfl)]
                  refine wp_store_row 45 _ _ rfl bA #[.bool true, .int .i64 0, .int .i64 0, .int .i64 (j : Int)] rfl rfl 45 #[.bool false, .int .i64 0, .int .i64 0, .int .i64 0] hrA infoPb rfl (by simp [Value.oneCell']) ?_
                  simp only [Act.put]
                  with_reducible refine hK9 undef _ ?_
                  exact hs.write (n := ⟨11, 12, 45, #[.bool false, .int .i64 0, .int .i64 0, .int .i64 0], #[.bool true, .int .i64 0, .int .i64 0, .int .i64 (j : Int)]⟩) (by simp) hxA hA (by simp) (by simp) (by simp) _ (by simp)
              intro L x w9 hS hL
              have hs : MxS wr [] [⟨11, 12, 45, #[.bool false, .int .i64 0, .int .i64 0, .int .i64 0], #[.bool true, .int .i64 0, .int .i64 0, .int .i64 (j : Int)]⟩] L x w9 := hS
              clear hS
              simp only [actMix, pickV, List.tail_cons, List.headD_cons, Act.put, List.setIfInBounds_toArray, List.set_cons_zero, List.set_cons_succ, List.replicate_succ, List.replicate_zero, List.drop_succ_cons, List.drop_zero, List.take_succ_cons, List.take_zero]
              obtain ⟨b11, h11, g11, r11⟩ := hs.new ⟨11, 12, 45, #[.bool false, .int .i64 0, .int .i64 0, .int .i64 0], #[.bool true, .int .i64 0, .int .i64 0, .int .i64 (j : Int)]⟩ (by simp) (hL 11 (by decide))
              simp only at h11 r11
              rw [if_pos (hL 12 (by decide))] at r11
              rw [h11]
              have HS2 := Lib.hid (HS.out.below hs.bel0)
              have cx : w9.cell? ⟨bk, o + j, none⟩ = some (.bool true) := by rw [(bcell hs.bel0).1 _ _ HBK.out]; exact HCX.out
              have h7l := HS.out.q7.lt
              have n1 : ¬ b7 = b11 := by omega
              have n2 : ¬ b11 = b7 := by omega
              obtain ⟨d0, d1, d2, d3⟩ := pcell r11
              obtain ⟨q0, q1, q2, q3⟩ := pcell HS2.out.q7
              have fq := HS2.out.q7.free
              clear hs hL h11 r11 HS HCX HBK HR h7l g11 cx0
              have HS3 := Lib.hid (HS2.out.put rfl (.bool true) (.int .i64 0) (.int .i64 0) (.int .i64 (j : Int)))
              clear HS2
              go_wp2_with fail
              go_roundw
              case rel => exact ⟨j + 1, 0, true, (j : Int), hlt, h80, rfl, rfl, by go_num, (by show _ < _; simp; omega), HS3⟩
              case measure => simp [intOf]; omega
            · have hh2 : m + 1 < r := by omega
              have hres : resP ⟨false, (m : Int), 0, s⟩ (r : Int) (f : Int) true (j : Int) = (⟨false, ((m : Int) + 1), 0, s⟩, false) := by
                unfold resP resG resB one1
                have q1 : max (m : Int) 0 + 1 = (m : Int) + 1 := by omega
                have q2 : (m : Int) + 1 < (r : Int) := by omega
                first | (simp [q2]; done) | (simp [q1, q2]; done)
              have HR := Lib.hid (HRC.out ⟨false, (m : Int), 0, s⟩ true (j : Int))
              rw [hres] at HR
              simp only at HR
              clear hres
              have hb1 : ((m : Int) + 1 == (r : Int)) = false := by rw [beq_eq_false_iff_ne]; omega
              have cx0 := HCX.out
              go_wp2_with fail
              refine region_mixt 13 [some (.agg #[.bool false, .int .i64 ((m : Nat) : Int), .int .i64 0, .int .i64 s]), some (.agg #[.int .i64 0, .int .i64 0, .int .i64 (r : Nat), .int .i64 (f : Nat)]), some (.slice (some ⟨bk, o, none⟩) xs.length cap), some (.int .i64 (j : Int)), some (.pointer (some ⟨bk, o + j, none⟩)), some (.bool true), some (.int .i64 (j : Int)), some (.tuple #[.agg #[.bool false, .int .i64 ((m : Int) + 1), .int .i64 0, .int .i64 s], .bool false]), some (.tuple #[.agg #[.bool false, .int .i64 ((m : Int) + 1), .int .i64 0, .int .i64 s], .bool false]), some (.agg #[.bool false, .int .i64 ((m : Int) + 1), .int .i64 0, .int .i64 s]), some (.bool false), none, none]
                [[false, false, false, false, false, false, false, false, false, false, false, false, false], [false, false, false, false, false, false, false, false, false, false, false, false, false], [false, false, false, false, false, false, false, false, false, false, false, false, false], [false, false, false, false, false, false, false, false, false, false, false, false, false], [false, false, true, true, false, false, false, false, false, false, false, false, false], [false, false, false, false, true, false, false, false, false, false, false, false, false], [false, false, false, false, false, false, false, false, false, false, false, false, false], [true, true, false, false, false, true, true, false, false, false, false, false, false], [false, false, false, false, false, false, false, true, false, false, false, false, false], [false, false, false, false, false, false, false, false, true, false, false, false, false], [false, false, false, false, false, false, false, false, true, false, false, false, false], [false, false, false, false, false, false, false, false, false, false, false, false, false], [true, true, true, true, true, true, true, true, true, true, false, true, false]]
                (fun LL xx w9 => MxS wr [] [⟨11, 12, 45, #[.bool false, .int .i64 0, .int .i64 0, .int .i64 0], #[.bool false, .int .i64 ((m : Int) + 1), .int .i64 0, .int .i64 s]⟩] LL xx w9)
                (by kernel_rfl) (by kernel_rfl) (by kernel_rfl) (by kernel_rfl) (by kernel_rfl) (by decide) ?_ ?_ ?_
              · intro x
                exact MxS.start (by simp)
              · simp only [List.take_succ_cons, List.take_zero]
                refine ⟨?_, ?_, ?_, ?_, ?_, ?_, ?_, ?_, ?_, ?_, ?_, ?_, ?_, trivial⟩
                all_goals
                  intro L x w9 hS hl hp K9 hK9
                  have hs : MxS wr [] [⟨11, 12, 45, #[.bool false, .int .i64 0, .int .i64 0, .int .i64 0], #[.bool false, .int .i64 ((m : Int) + 1), .int .i64 0, .int .i64 s]⟩] L x w9 := hS
                  clear hS
                  replace hK9 := hK9.out
                  simp only [actMix, pickV, List.tail_cons, List.headD_cons, Act.put, List.setIfInBounds_toArray, List.set_cons_zero, List.set_cons_succ] at hK9 ⊢
                · clear hp
                  obtain ⟨p0, p1, p2, p3⟩ := pcell (hs.row HS.out.q7 (by simp))
                  go_simp
                  with_reducible refine hK9 _ ?_
                  exact hs.next 0 _ (by simp [MxI])
                · clear hp
                  obtain ⟨k0, k1, k2, k3⟩ := pcell (hs.row HS.out.c8 (by simp))
                  go_simp
                  with_reducible refine hK9 _ ?_
                  exact hs.next 1 _ (by simp [MxI])
                · clear hp
                  go_simp
                  with_reducible refine hK9 _ ?_
                  exact hs.next 2 _ (by simp [MxI])
                · clear hp
                  go_simp
                  with_reducible refine hK9 _ ?_
                  exact hs.next 3 _ (by simp [MxI])
                · clear hp
                  go_simp
                  with_reducible refine hK9 _ ?_
                  exact hs.next 4 _ (by simp [MxI])
                · clear hp
                  have cx : w9.cell? ⟨bk, o + j, none⟩ = some (.bool true) := by rw [(bcell hs.bel0).1 _ _ HBK.out]; exact HCX.out
                  go_simp
                  with_reducible refine hK9 _ ?_
                  exact hs.next 5 _ (by simp [MxI])
                · clear hp
                  go_simp
                  with_reducible refine hK9 _ ?_
                  exact hs.next 6 _ (by simp [MxI])
                · clear hp
                  go_simp
                  refine (HR.out w9).mono ?_
                  rintro e w8 ⟨rfl, hB8⟩
                  go_simp
                  with_reducible refine hK9 _ ?_
                  exact (hs.below hB8).next 7 _ (by simp [MxI])
                · clear hp
                  go_simp
                  with_reducible refine hK9 _ ?_
                  exact hs.next 8 _ (by simp [MxI])
                · clear hp
                  go_simp
                  with_reducible refine hK9 _ ?_
                  exact hs.next 9 _ (by simp [MxI])
                · clear hp
                  go_simp
                  with_reducible refine hK9 _ ?_
                  exact hs.next 10 _ (by simp [MxI])
                · clear hp
                  go_simp
                  with_reducible refine hK9 _ _ ?_
                  exact hs.alloc (n := ⟨11, 12, 45, #[.bool false, .int .i64 0, .int .i64 0, .int .i64 0], #[.bool false, .int .i64 ((m : Int) + 1), .int .i64 0, .int .i64 s]⟩) (by simp) hl (by simp) (by simp) (by simp)
                · have hA := allL_mem hp 11 (by decide +kernel)
                  obtain ⟨bA, hxA, hgA, hrA⟩ := hs.new ⟨11, 12, 45, #[.bool false, .int .i64 0, .int .i64 0, .int .i64 0], #[.bool false, .int .i64 ((m : Int) + 1), .int .i64 0, .int .i64 s]⟩ (by simp) hA
                  clear hp
                  simp only at hxA hrA hl
                  rw [hl, if_neg (by simp)] at hrA
                  rw [hxA] at hK9 ⊢
                  rw [if_pos (by rfl)]
                  refine wp_store_row 45 _ _ rfl bA #[.bool false, .int .i64 ((m : Int) + 1), .int .i64 0, .int .i64 s] rfl rfl 45 #[.bool false, .int .i64 0, .int .i64 0, .int .i64 0] hrA infoPb rfl (by simp [Value.oneCell']) ?_
                  simp only [Act.put]
                  with_reducible refine hK9 undef _ ?_
                  exact hs.write (n := ⟨11, 12, 45, #[.bool false, .int .i64 0, .int .i64 0, .int .i64 0], #[.bool false, .int .i64 ((m : Int) + 1), .int .i64 0, .int .i64 s]⟩) (by simp) hxA hA (by simp) (by simp) (by simp) _ (by simp)
              intro L x w9 hS hL
              have hs : MxS wr [] [⟨11, 12, 45, #[.bool false, .int .i64 0, .int .i64 0, .int .i64 0], #[.bool false, .int .i64 ((m : Int) + 1), .int .i64 0, .int .i64 s]⟩] L x w9 := hS
              clear hS
              simp only [actMix, pickV, List.tail_cons, List.headD_cons, Act.put, List.setIfInBounds_toArray, List.set_cons_zero, List.set_cons_succ, List.replicate_succ, List.replicate_zero, List.drop_succ_cons, List.drop_zero, List.take_succ_cons, List.take_zero]
              obtain ⟨b11, h11, g11, r11⟩ := hs.new ⟨11, 12, 45, #[.bool false, .int .i64 0, .int .i64 0, .int .i64 0], #[.bool false, .int .i64 ((m : Int) + 1), .int .i64 0, .int .i64 s]⟩ (by simp) (hL 11 (by decide))
              simp only at h11 r11
              rw [if_pos (hL 12 (by decide))] at r11
              rw [h11]
              have HS2 := Lib.hid (HS.out.below hs.bel0)
              have cx : w9.cell? ⟨bk, o + j, none⟩ = some (.bool true) := by rw [(bcell hs.bel0).1 _ _ HBK.out]; exact HCX.out
              have h7l := HS.out.q7.lt
              have n1 : ¬ b7 = b11 := by omega
              have n2 : ¬ b11 = b7 := by omega
              obtain ⟨d0, d1, d2, d3⟩ := pcell r11
              obtain ⟨q0, q1, q2, q3⟩ := pcell HS2.out.q7
              have fq := HS2.out.q7.free
              clear hs hL h11 r11 HS HCX HBK HR h7l g11 cx0
              have HS3 := Lib.hid (HS2.out.put rfl (.bool false) (.int .i64 ((m : Int) + 1)) (.int .i64 0) (.int .i64 s))
              clear HS2
              go_wp2_with fail
              go_roundw
              case rel => exact ⟨j + 1, (m + 1), false, s, hlt, h80, rfl, by go_num, by go_num, (by show _ < _; simp; omega), HS3⟩
              case measure => simp [intOf]; omega
          | false =>
            have hres : resP ⟨false, (m : Int), 0, s⟩ (r : Int) (f : Int) false (j : Int) = (⟨false, 0, 0, s⟩, false) := by
              unfold resP resG resB one1
              simp
            have HR := Lib.hid (HRC.out ⟨false, (m : Int), 0, s⟩ false (j : Int))
            rw [hres] at HR
            simp only at HR
            clear hres
            have cx0 := HCX.out
            go_wp2_with fail
            refine region_mixt 13 [some (.agg #[.bool false, .int .i64 ((m : Nat) : Int), .int .i64 0, .int .i64 s]), some (.agg #[.int .i64 0, .int .i64 0, .int .i64 (r : Nat), .int .i64 (f : Nat)]), some (.slice (some ⟨bk, o, none⟩) xs.length cap), some (.int .i64 (j : Int)), some (.pointer (some ⟨bk, o + j, none⟩)), some (.bool false), some (.int .i64 (j : Int)), some (.tuple #[.agg #[.bool false, .int .i64 0, .int .i64 0, .int .i64 s], .bool false]), some (.tuple #[.agg #[.bool false, .int .i64 0, .int .i64 0, .int .i64 s], .bool false]), some (.agg #[.bool false, .int .i64 0, .int .i64 0, .int .i64 s]), some (.bool false), none, none]
              [[false, false, false, false, false, false, false, false, false, false, false, false, false], [false, false, false, false, false, false, false, false, false, false, false, false, false], [false, false, false, false, false, false, false, false, false, false, false, false, false], [false, false, false, false, false, false, false, false, false, false, false, false, false], [false, false, true, true, false, false, false, false, false, false, false, false, false], [false, false, false, false, true, false, false, false, false, false, false, false, false], [false, false, false, false, false, false, false, false, false, false, false, false, false], [true, true, false, false, false, true, true, false, false, false, false, false, false], [false, false, false, false, false, false, false, true, false, false, false, false, false], [false, false, false, false, false, false, false, false, true, false, false, false, false], [false, false, false, false, false, false, false, false, true, false, false, false, false], [false, false, false, false, false, false, false, false, false, false, false, false, false], [true, true, true, true, true, true, true, true, true, true, false, true, false]]
              (fun LL xx w9 => MxS wr [] [⟨11, 12, 45, #[.bool false, .int .i64 0, .int .i64 0, .int .i64 0], #[.bool false, .int .i64 0, .int .i64 0, .int .i64 s]⟩] LL xx w9)
              (by kernel_rfl) (by kernel_rfl) (by kernel_rfl) (by kernel_rfl) (by kernel_rfl) (by decide) ?_ ?_ ?_
            · intro x
              exact MxS.start (by simp)
            · simp only [List.take_succ_cons, List.take_zero]
              refine ⟨?_, ?_, ?_, ?_, ?_, ?_, ?_, ?_, ?_, ?_, ?_, ?_, ?_, trivial⟩
              all_goals
                intro L x w9 hS hl hp K9 hK9
                have hs : MxS wr [] [⟨11, 12, 45, #[.bool false, .int .i64 0, .int .i64 0, .int .i64 0], #[.bool false, .int .i64 0, .int .i64 0, .int .i64 s]⟩] L x w9 := hS
                clear hS
                replace hK9 := hK9.out
                simp only [actMix, pickV, List.tail_cons, List.headD_cons, Act.put, List.setIfInBounds_toArray, List.set_cons_zero, List.set_cons_succ] at hK9 ⊢
              · clear hp
                obtain ⟨p0, p1, p2, p3⟩ := pcell (hs.row HS.out.q7 (by simp))
                go_simp
                with_reducible refine hK9 _ ?_
                exact hs.next 0 _ (by simp [MxI])
              · clear hp
                obtain ⟨k0, k1, k2, k3⟩ := pcell (hs.row HS.out.c8 (by simp))
                go_simp
                with_reducible refine hK9 _ ?_
                exact hs.next 1 _ (by simp [MxI])
              · clear hp
                go_simp
                with_reducible refine hK9 _ ?_
                exact hs.next 2 _ (by simp [MxI])
              · clear hp
                go_simp
                with_reducible refine hK9 _ ?_
                exact hs.next 3 _ (by simp [MxI])
              · clear hp
                go_simp
                with_reducible refine hK9 _ ?_
                exact hs.next 4 _ (by simp [MxI])
              · clear hp
                have cx : w9.cell? ⟨bk, o + j, none⟩ = some (.bool false) := by rw [(bcell hs.bel0).1 _ _ HBK.out]; exact HCX.out
                go_simp
                with_reducible refine hK9 _ ?_
                exact hs.next 5 _ (by simp [MxI])
              · clear hp
                go_simp
                with_reducible refine hK9 _ ?_
                exact hs.next 6 _ (by simp [MxI])
              · clear hp
                go_simp
                refine (HR.out w9).mono ?_
                rintro e w8 ⟨rfl, hB8⟩
                go_simp
                with_reducible refine hK9 _ ?_
                exact (hs.below hB8).next 7 _ (by simp [MxI])
              · clear hp
                go_simp
                with_reducible refine hK9 _ ?_
                exact hs.next 8 _ (by simp [MxI])
              · clear hp
                go_simp
                with_reducible refine hK9 _ ?_
                exact hs.next 9 _ (by simp [MxI])
              · clear hp
                go_simp
                with_reducible refine hK9 _ ?_
                exact hs.next 10 _ (by simp [MxI])
              · clear hp
                go_simp
                with_reducible refine hK9 _ _ ?_
                exact hs.alloc (n := ⟨11, 12, 45, #[.bool false, .int .i64 0, .int .i64 0, .int .i64 0], #[.bool false, .int .i64 0, .int .i64 0, .int .i64 s]⟩) (by simp) hl (by simp) (by simp) (by simp)
              · have hA := allL_mem hp 11 (by decide +kernel)
                obtain ⟨bA, hxA, hgA, hrA⟩ := hs.new ⟨11, 12, 45, #[.bool false, .int .i64 0, .int .i64 0, .int .i64 0], #[.bool false, .int .i64 0, .int .i64 0, .int .i64 s]⟩ (by simp) hA
                clear hp
                simp only at hxA hrA hl
                rw [hl, if_neg (by simp)] at hrA
                rw [hxA] at hK9 ⊢
                rw [if_pos (by rfl)]
                refine wp_store_row 45 _ _ rfl bA #[.bool false, .int .i64 0, .int .i64 0, .int .i64 s] rfl rfl 45 #[.bool false, .int .i64 0, .int .i64 0, .int .i64 0] hrA infoPb rfl (by simp [Value.oneCell']) ?_
                simp only [Act.put]
                with_reducible refine hK9 undef _ ?_
                exact hs.write (n := ⟨11, 12, 45, #[.bool false, .int .i64 0, .int .i64 0, .int .i64 0], #[.bool false, .int .i64 0, .int .i64 0, .int .i64 s]⟩) (by simp) hxA hA (by simp) (by simp) (by simp) _ (by simp)
            intro L x w9 hS hL
            have hs : MxS wr [] [⟨11, 12, 45, #[.bool false, .int .i64 0, .int .i64 0, .int .i64 0], #[.bool false, .int .i64 0, .int .i64 0, .int .i64 s]⟩] L x w9 := hS
            clear hS
            simp only [actMix, pickV, List.tail_cons, List.headD_cons, Act.put, List.setIfInBounds_toArray, List.set_cons_zero, List.set_cons_succ, List.replicate_succ, List.replicate_zero, List.drop_succ_cons, List.drop_zero, List.take_succ_cons, List.take_zero]
            obtain ⟨b11, h11, g11, r11⟩ := hs.new ⟨11, 12, 45, #[.bool false, .int .i64 0, .int .i64 0, .int .i64 0], #[.bool false, .int .i64 0, .int .i64 0, .int .i64 s]⟩ (by simp) (hL 11 (by decide))
            simp only at h11 r11
            rw [if_pos (hL 12 (by decide))] at r11
            rw [h11]
            have HS2 := Lib.hid (HS.out.below hs.bel0)
            have cx : w9.cell? ⟨bk, o + j, none⟩ = some (.bool false) := by rw [(bcell hs.bel0).1 _ _ HBK.out]; exact HCX.out
            have h7l := HS.out.q7.lt
            have n1 : ¬ b7 = b11 := by omega
            have n2 : ¬ b11 = b7 := by omega
            obtain ⟨d0, d1, d2, d3⟩ := pcell r11
            obtain ⟨q0, q1, q2, q3⟩ := pcell HS2.out.q7
            have fq := HS2.out.q7.free
            clear hs hL h11 r11 HS HCX HBK HR h7l g11 cx0
            have HS3 := Lib.hid (HS2.out.put rfl (.bool false) (.int .i64 0) (.int .i64 0) (.int .i64 s))
            clear HS2
            go_wp2_with fail
            go_roundw
            case rel => exact ⟨j + 1, 0, false, s, hlt, h80, rfl, rfl, by go_num, (by show _ < _; simp; omega), HS3⟩
            case measure => simp [intOf]; omega
      · have j2 : ¬ (j : Int) < 80 := by omega
        have HBE := Lib.hid HS.out.bel
        go_wp2_with fail
        go_ret
        exact ⟨rfl, HBE.out⟩
    · have j1 : ¬ (j : Int) < xs.length := by omega
      have HBE := Lib.hid HS.out.bel
      go_wp2_with fail
      go_ret
      exact ⟨rfl, HBE.out⟩
end Go.Proofs.Ytklfpnnnoaaiaaa
