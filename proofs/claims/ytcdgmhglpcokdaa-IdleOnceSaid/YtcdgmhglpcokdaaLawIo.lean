/- The law IdleOnce (written by genlawio.py). -/
import Derived.Test.YtcdgmhglpcokdaaIdJ
namespace Go.Proofs.Ytcdgmhglpcokdaa
open Go.RowKit Go.Maps

/-- A map's function is what waits. -/
def inF (L : List Cn) (Fi : Int → Option ByteArray) : Prop := ∀ c nm, Fi c = some nm ↔ ∃ e ∈ L, e.cn = c ∧ e.nm = nm
theorem inF.has {L : List Cn} {Fi : Int → Option ByteArray} (h : inF L Fi) (c : Int) : (Fi c).isSome = waits L c := by
  cases hf : Fi c with
  | none =>
    cases hx : waits L c with
    | false => rfl
    | true =>
      obtain ⟨e, he, h2⟩ := waits_iff.1 hx
      have := (h c e.nm).2 ⟨e, he, h2, rfl⟩
      rw [hf] at this; cases this
  | some nm =>
    obtain ⟨e, he, h2, _⟩ := (h c nm).1 hf
    rw [waits_iff.2 ⟨e, he, h2⟩]; rfl
theorem inF.drop {L : List Cn} {Fi : Int → Option ByteArray} (h : inF L Fi) (c : Int) : inF (dropI L c) (updK Fi c none) := fun c' nm => by
  by_cases hc : c' = c
  · subst hc
    rw [updK_same]
    exact ⟨(fun h => by cases h), fun ⟨f, hf, h1, h2⟩ => absurd h1 (mem_dropI.1 hf).2⟩
  · rw [updK_other Fi _ hc, h]
    constructor
    · rintro ⟨f, hf, rfl, h2⟩; exact ⟨f, mem_dropI.2 ⟨hf, hc⟩, rfl, h2⟩
    · rintro ⟨f, hf, h1, h2⟩; exact ⟨f, (mem_dropI.1 hf).1, h1, h2⟩
theorem inF.cntDrop {L : List Cn} {Fi : Int → Option ByteArray} (h : inF L Fi) {s : Int} (hg : GoodI s L) (c : Int) : (if (Fi c).isSome then L.length - 1 else L.length) = (dropI L c).length := by
  rw [h.has]
  cases hx : waits L c with
  | false => rw [if_neg (by simp), dropI_none (waits_no hx)]
  | true =>
    have := dropI_len hg.key (waits_iff.1 hx)
    rw [if_pos rfl]; omega
theorem inF.add {L : List Cn} {Fi : Int → Option ByteArray} (h : inF L Fi) (nm : ByteArray) (c now b s : Int) : inF (addL L nm c now b s) (updK Fi c (some nm)) := fun c' nm' => by
  unfold addL
  by_cases hc : c' = c
  · subst hc
    rw [updK_same]
    constructor
    · intro h9; injection h9 with h9; exact ⟨⟨nm, c', clampA (clampA now + b), s⟩, by simp, rfl, h9⟩
    · rintro ⟨f, hf, h1, h2⟩
      rcases List.mem_append.1 hf with hf | hf
      · exact absurd h1 (mem_dropI.1 hf).2
      · simp at hf; subst hf; rw [← h2]
  · rw [updK_other Fi _ hc, h]
    constructor
    · rintro ⟨f, hf, rfl, h2⟩; exact ⟨f, List.mem_append.2 (.inl (mem_dropI.2 ⟨hf, hc⟩)), rfl, h2⟩
    · rintro ⟨f, hf, h1, h2⟩
      rcases List.mem_append.1 hf with hf | hf
      · exact ⟨f, (mem_dropI.1 hf).1, h1, h2⟩
      · simp at hf; subst hf; exact absurd h1.symm hc
theorem inF.cntAdd {L : List Cn} {Fi : Int → Option ByteArray} (h : inF L Fi) {s0 : Int} (hg : GoodI s0 L) (nm : ByteArray) (c now b s : Int) : (if (Fi c).isSome then L.length else L.length + 1) = (addL L nm c now b s).length := by
  have h1 := h.cntDrop hg c
  unfold addL
  rw [List.length_append, ← h1]
  rw [h.has]
  cases hx : waits L c with
  | false => rfl
  | true =>
    have := dropI_len hg.key (waits_iff.1 hx)
    rw [if_pos rfl, if_pos rfl]; simp; omega
theorem IdP.keepX {W w w' : World} {X G : Nat → Prop} {ab t : Nat} {a b : Int} {L : List Cn} (h : IdP W X ab a b t L w) (hk : Keep G w w') (hG : ∀ k, G k → X k ∧ W.heap.size ≤ k) : IdP W X ab a b t L w' := by
  obtain ⟨N, s, q1, q2, q3, q4, h1, h2⟩ := h
  obtain ⟨wmv, bmv, F, G', r1, r2, r3⟩ := h1.ex
  refine ⟨N, s, q1, q2, q3, q4, ⟨wmv, bmv, F, G', r1.keepO hk (fun k hk2 => ⟨.inl (hG k hk2).1, (hG k hk2).2⟩) (fun k hk2 => ⟨Nat.lt_of_lt_of_le (r1.oth k hk2) hk.size, .inl hk2⟩), r2.keep hk (fun k hk2 hg => (r3 k hk2).2 (hG k hg).1), r3⟩, h2⟩
set_option maxHeartbeats 8000000 in
set_option maxRecDepth 100000 in
theorem lawIdleOnce (most : Int) (a : Option Addr) (c : Nat) (ats : List IAct) (W : World) (hA : IsIacts W a c ats) :
    Calls Try.prog 3 #[.int .i64 most, .slice a ats.length c] W fun e w' => e = .returned (.bool true) ∧ Below W.heap.size W w' := by
  have HA := Lib.hid hA
  clear hA
  obtain ⟨A, hAe⟩ : ∃ A, clI most 0 1024 = A := ⟨_, rfl⟩
  have e1 : max 0 (min most 1024) = A := by rw [← hAe]; unfold clI; split <;> (try split) <;> omega
  have HNI := Lib.hid (fun w2 hb => IdP.new W (fun _ => False) most 1000 w2 hb (fun _ h => h.elim))
  rw [hAe] at HNI
  clear hAe
  go_enter Try.func3, Try.ntmps3
  go_wp2_with fail
  refine (awake25 W).mono ?_
  rintro e w1 ⟨rfl, hb1⟩
  have HN1 := Lib.hid (HNI.out w1 hb1)
  clear hb1 HNI
  go_wp2_with fail
  refine HN1.out.mono ?_
  rintro e w2 ⟨ab, rfl, h2, -⟩
  obtain ⟨w3, hw3⟩ : ∃ w3, w2.alloc (.map #[] 0) = w3 := ⟨_, rfl⟩
  obtain ⟨inb, hib⟩ : ∃ inb, w2.heap.size = inb := ⟨_, rfl⟩
  have hmk : (Instr.makeMap 26 none).run Try.prog w2 = .ok (.map (some inb)) w3 := by rw [← hw3, ← hib]; rfl
  have hb3 : Below w2.heap.size w2 w3 := by rw [← hw3]; exact below_alloc _ _
  have HP3 : Hid (IdP W (fun k => k = inb) ab A 1000 0 [] w3) := h2.belowX hb3 (fun k hk => by
    refine ⟨?_, .inr (by omega)⟩
    rw [← hw3, World.size_alloc]; omega)
  have HM3 : Hid (MapC MBI w3 inb 0 0 (fun _ => none)) := by rw [← hw3, ← hib]; exact MapC.new MBI w2
  have HIB : Hid (W.heap.size ≤ inb) := by show W.heap.size ≤ inb; have := h2.bel.size; omega
  clear h2 hb3 hw3 hib HN1
  go_wp2_with fail
  clear hmk
  go_loopw [7] (fun i wr => ∃ (t M : Nat) (L : List Cn) (Fi : Int → Option ByteArray), t ≤ 50 ∧ t ≤ ats.length ∧ M ≤ 4 * t ∧ i = .int .i64 (t : Int) ∧ Hid (IdP W (fun k => k = inb) ab A 1000 t L wr) ∧ Hid (MapC MBI wr inb M L.length Fi) ∧ Hid (inF L Fi)) (fun i _ => 50 - (intOf i).toNat)
  case atStart => exact ⟨0, 0, [], fun _ => none, by omega, Nat.zero_le _, Nat.le_refl _, rfl, HP3, HM3, fun c nm => ⟨(fun h => by cases h), fun ⟨_, h, _⟩ => by cases h⟩⟩
  case round =>
    obtain ⟨t, M, L, Fi, ht, ht2, hMt, rfl, hS, hM, hF⟩ := hrel
    clear HP3 HM3
    by_cases hlt : t < 50 ∧ t < ats.length
    · obtain ⟨hlt1, hlt2⟩ := hlt
      have j1 : (t : Int) < 50 := by omega
      have j2 : (t : Int) < (ats.length : Int) := by omega
      obtain ⟨bk, oo, rfl, x0, x1, x2, x3, hcc, hcw⟩ := iact_in (HA.out.below hS.out.bel) hlt2
      obtain ⟨kd, hkd⟩ : ∃ y, y = ats[t].k := ⟨_, rfl⟩
      obtain ⟨cc, hcc9⟩ : ∃ y, y = ats[t].c := ⟨_, rfl⟩
      obtain ⟨nn, hnn⟩ : ∃ y, y = ats[t].n := ⟨_, rfl⟩
      obtain ⟨nm0, hnm0⟩ : ∃ y, y = ats[t].nm := ⟨_, rfl⟩
      rw [← hkd] at x0
      rw [← hcc9] at x1 hcw
      rw [← hnn] at x2
      rw [← hnm0] at x3
      clear hkd hcc9 hnn hnm0
      obtain ⟨w4, hw4⟩ : ∃ w4, wr.alloc (.cells #[.int .i64 kd, .int .i64 cc, .int .i64 nn, .string nm0] 28) = w4 := ⟨_, rfl⟩
      obtain ⟨sb, hsb⟩ : ∃ sb, wr.heap.size = sb := ⟨_, rfl⟩
      have hrow : Row w4 sb 28 #[.int .i64 kd, .int .i64 cc, .int .i64 nn, .string nm0] := by rw [← hw4, ← hsb]; exact Row.new _ _ _
      have hb4 : Below wr.heap.size wr w4 := by rw [← hw4]; exact below_alloc _ _
      have hib : inb < wr.heap.size := hS.out.oth inb rfl
      have HP4 : Hid (IdP W (fun k => k = inb ∨ k = sb) ab A 1000 t L w4) := hS.out.belowX hb4 (fun k hk => by
        rcases hk with rfl | rfl
        · exact ⟨Nat.lt_of_lt_of_le hib hb4.size, .inl rfl⟩
        · exact ⟨hrow.lt, .inr (by omega)⟩)
      have HM4 := Lib.hid (hM.out.below hb4)
      have HRW := Lib.hid hrow
      have HNE : Hid (sb ≠ inb) := by show sb ≠ inb; omega
      have HWS : Hid (W.heap.size ≤ inb ∧ W.heap.size ≤ sb) := ⟨HIB.out, by have := hS.out.bel.size; omega⟩
      have HCW : Hid (KN.ok cc) := hcw
      have HJ : Hid (t < 50 ∧ t < ats.length ∧ M ≤ 4 * t) := ⟨hlt1, hlt2, hMt⟩
      have y0 : w4.cell? ⟨sb, 0, none⟩ = some (.int .i64 kd) := hrow.cell 0
      have y1 : w4.cell? ⟨sb, 1, none⟩ = some (.int .i64 cc) := hrow.cell 1
      have y3 : w4.cell? ⟨sb, 3, none⟩ = some (.string nm0) := hrow.cell 3
      obtain ⟨gs, hgs⟩ := hS.out.good
      have HGS := Lib.hid hgs
      clear hgs hrow hb4 hib hcw hlt1 hlt2 hMt hS hM ht ht2
      obtain ⟨nm, hnm⟩ : ∃ nm, cutS nm0 12 = nm := ⟨_, rfl⟩
      have HOK : Hid (KS.ok nm) := by rw [← hnm]; exact Lib.hid (cut12_ok nm0)
      have HCU : Hid (Calls Try.prog 7 #[.string nm0, .int .i64 12] w4 fun e w' => e = .returned (.string nm) ∧ w' = w4) := by rw [← hnm]; exact Lib.hid (calls_flip (cut11 nm0 12 w4))
      have HNN : Hid (M < maxLen) := by show M < maxLen; have := HJ.out; unfold maxLen; omega
      clear hnm
      go_wp2_with fail
      refine HCU.out.mono ?_
      rintro e w9 ⟨rfl, rfl⟩
      clear HCU y3
      by_cases hk0 : kd = 0
      · subst hk0
        have HF1 : Hid (inF (addL L nm cc 0 1000 0) (updK Fi cc (some nm))) := hF.out.add nm cc 0 1000 0
        have HLN : Hid ((if (Fi cc).isSome then L.length else L.length + 1) = (addL L nm cc 0 1000 0).length) := hF.out.cntAdd HGS.out nm cc 0 1000 0
        clear HF1
        go_wp2_with (at_mapUpdate; refine wpl_storeC MBI _ rfl _ _ _ rfl inb M L.length Fi rfl HM4.out HNN.out cc nm rfl rfl HCW.out ?_; intro w5 m5 g5; have HK5 : Hid (Keep (fun x => x = inb) w9 w5) := Keep.turnedK g5 rfl; have HM5 : Hid (MapC MBI w5 inb (M + 1) (addL L nm cc 0 1000 0).length (updK Fi cc (some nm))) := (by have := m5; rw [HLN.out] at this; exact this); clear m5 g5; have y1' : w5.cell? ⟨sb, 1, none⟩ = some (.int .i64 cc) := (HRW.out.keep HK5.out HNE.out).cell 1; have HP5 := Lib.hid (HP4.out.keepX HK5.out (fun k hk => (by rw [hk]; exact ⟨.inl rfl, HWS.out.1⟩))))
        refine (HP5.out.put (by have := HJ.out; omega) nm HOK.out cc HCW.out 0).mono ?_
        rintro o w6 ⟨v6, s6, rfl, htu, ho6, h6, hk6⟩
        have hlenE : (addL L nm cc 0 1000 s6).length = (addL L nm cc 0 1000 0).length := by unfold addL; simp
        have hf6 : inF (addL L nm cc 0 1000 s6) (updK Fi cc (some nm)) := hF.out.add nm cc 0 1000 s6
        have hm6 : MapC MBI w6 inb (M + 1) (addL L nm cc 0 1000 s6).length (updK Fi cc (some nm)) := by rw [hlenE]; exact HM5.out.keep hk6 (fun h => h (.inl rfl))
        have hg6 : GoodI s6 (addL L nm cc 0 1000 s6) := by
          have hq : GoodI (s6 - 1) L := ⟨HGS.out.key, HGS.out.tur, fun e he => by have := htu e he; omega, HGS.out.nok, HGS.out.cok⟩
          have := (hq.drop cc).add (ti := clampA (clampA 0 + 1000)) (fun e he => (mem_dropI.1 he).2) HOK.out HCW.out
          rw [show s6 - 1 + 1 = s6 by omega] at this
          exact this
        obtain ⟨L1, hL1⟩ : ∃ L1, addL L nm cc 0 1000 s6 = L1 := ⟨_, rfl⟩
        rw [hL1] at ho6 h6 hf6 hm6 hg6
        clear hlenE hL1 htu y0 y1 y1' HLN HP5 HM5 HP4 HM4
        obtain ⟨FA, hFA⟩ : ∃ FA, updK Fi cc (some nm) = FA := ⟨_, rfl⟩
        rw [hFA] at hf6 hm6
        clear hFA
        have HP6 := Lib.hid h6
        have HM6 := Lib.hid hm6
        have HF6 := Lib.hid hf6
        have HG6 := Lib.hid hg6
        by_cases hx : ((ofI L1 nm).length : Int) ≤ A
        · have hR : putR A L1 nm = (L1, []) := if_pos hx
          rw [hR] at ho6 h6
          rw [hR] at HP6
          obtain ⟨a6, c6, rfl⟩ := own_slice ho6
          have HPZ : Hid (IdP W (XV (fun k => k = inb ∨ k = sb) (.slice a6 0 c6)) ab A 1000 (t + 1) L1 w6) := HP6
          have HMZ := HM6
          have HFZ := HF6
          clear ho6 h6 hm6 hf6 hg6 hk6 hx hR HP6
          go_wp2_with fail
          go_loopw [72] (fun i wq => i = .int .i64 0 ∧ wq = w6) (fun _ _ => 0)
          case atStart => exact ⟨rfl, rfl⟩
          case round =>
            obtain ⟨rfl, rfl⟩ := hrel
            obtain ⟨LZ, hLZ⟩ : ∃ LZ, L1 = LZ := ⟨_, rfl⟩
            rw [hLZ] at HPZ HMZ HFZ
            clear hLZ
            have HLE := Lib.hid HPZ.out.lenC
            have hln : ∀ ty, (Builtin.len_ #[26] ty #[.map (some inb)]).run Try.prog wr = .ok (.int .i64 (LZ.length : Int)) wr := fun ty => HMZ.out.len ty
            have HOF := Lib.hid (HPZ.out.of (by have := HJ.out; omega) nm HOK.out)
            have hca := HPZ.out.cap nm
            have hdc : decide (A < ((ofI LZ nm).length : Int)) = false := decide_eq_false (by omega)
            obtain ⟨nz, hnz⟩ : ∃ nz, (ofI LZ nm).length = nz := ⟨_, rfl⟩
            rw [hnz] at HOF hdc
            obtain ⟨lz, hlz⟩ : ∃ lz, LZ.length = lz := ⟨_, rfl⟩
            rw [hlz] at HLE hln
            have hsame : ((lz : Int) == (lz : Int)) = true := by simp
            clear hca hnz hlz
            go_wp2_with fail
            refine HLE.out.mono ?_
            rintro o w9 ⟨rfl, rfl⟩
            clear HLE
            go_wp2_with fail
            refine HOF.out.mono ?_
            rintro o wo ⟨vz, rfl, hoz, hbz⟩
            obtain ⟨az, cz, rfl⟩ := own_slice hoz
            have HPY : Hid (IdP W (fun k => k = inb) ab A 1000 (t + 1) LZ wo) := HPZ.out.belowX hbz (fun k hk => by
              subst hk
              exact ⟨Nat.lt_of_lt_of_le HMZ.out.lt hbz.size, .inl (.inl (.inl rfl))⟩)
            have HMY := Lib.hid (HMZ.out.below hbz)
            clear hoz hbz HOF hln
            go_wp2_with fail
            go_roundw
            case rel => exact ⟨t + 1, M + 1, LZ, FA, HJ.out.1, HJ.out.2.1, (by have := HJ.out; omega), by go_num, HPY, HMY, HFZ⟩
            case measure => have := HJ.out; simp [intOf]; omega
        · cases hof : ofI L1 nm with
          | nil => rw [hof] at hx; have := HP6.out.cap nm; have h0 : (0 : Int) ≤ A := by have := Int.natCast_nonneg (ofI (putR A L1 nm).1 nm).length; omega
                   simp at hx; omega
          | cons h r =>
            have hR : putR A L1 nm = (dropI L1 h, [h]) := by unfold putR; rw [if_neg hx, hof]
            rw [hR] at ho6 h6
            rw [hR] at HP6
            obtain ⟨a6, c6, rfl, hn6⟩ := isNs_own (l := [h]) ho6
            obtain ⟨g6, o6, rfl, hlt6, hcap6, hcl6⟩ : ∃ g6 o6, a6 = some ⟨g6, o6, none⟩ ∧ g6 < w6.heap.size ∧ 1 ≤ c6 ∧ w6.cell? ⟨g6, o6, none⟩ = some (.int .i64 h) := by
              rcases hn6 with h9 | ⟨g6, o6, e, q1, q2, q3⟩
              · cases h9
              · exact ⟨g6, o6, e, q1, q2, q3 0 h rfl⟩
            obtain ⟨e9, he9, hnm9, hcn9⟩ := mem_ofI.1 (show h ∈ ofI L1 nm by rw [hof]; simp)
            have hFh : FA h = some nm := (hf6 h nm).2 ⟨e9, he9, hcn9, hnm9⟩
            have HHW : Hid (KN.ok h) := by rw [← hcn9]; exact Lib.hid (hg6.cok e9 he9)
            have lkh : (Instr.lookup 26 (.map (some inb)) (.int .i64 h) false).run Try.prog w6 = .ok (.string nm) w6 := by
              have := hm6.k.look (s := h) HHW.out
              rw [hFh] at this
              exact this
            have HCD : Hid ((if (FA h).isSome then L1.length - 1 else L1.length) = (dropI L1 h).length) := hf6.cntDrop hg6 h
            have HFZ : Hid (inF (dropI L1 h) (updK FA h none)) := hf6.drop h
            have same : (nm.toList == nm.toList) = true := by simp
            have HGI : Hid (W.heap.size ≤ inb) := HWS.out.1
            clear ho6 h6 hm6 hf6 hg6 hk6 hx hR hn6 hof he9 hnm9 hcn9 hFh HF6
            go_wp2_with fail
            go_loopw [72] (fun i wq => (i = .int .i64 0 ∧ wq = w6) ∨ (i = .int .i64 1 ∧ Hid (IdP W (XV (fun k => k = inb ∨ k = sb) (.slice (some ⟨g6, o6, none⟩) 1 c6)) ab A 1000 (t + 1) (dropI L1 h) wq) ∧ Hid (MapC MBI wq inb (M + 1) (dropI L1 h).length (updK FA h none)))) (fun i _ => 1 - (intOf i).toNat)
            case atStart => exact .inl ⟨rfl, rfl⟩
            case round =>
              rcases hrel with ⟨rfl, rfl⟩ | ⟨rfl, hPq, hMq⟩
              · go_wp2_with (at_delete; refine wpl_dropC MBI _ rfl _ _ rfl inb (M + 1) L1.length FA rfl HM6.out h rfl HHW.out ?_; intro w7 m7 g7; have HP7 := Lib.hid (HP6.out.keepX (G := fun x => x = inb) (Keep.turnedK g7 rfl) (fun k hk => (by rw [hk]; exact ⟨.inl (.inl rfl), HGI.out⟩))); have HM7 : Hid (MapC MBI w7 inb (M + 1) (dropI L1 h).length (updK FA h none)) := (by have := m7; rw [HCD.out] at this; exact this); clear m7 g7)
                go_roundw
                case rel => exact .inr ⟨rfl, HP7, HM7⟩
                case measure => decide
              · have HPZ := hPq
                have HMZ := hMq
                clear hPq hMq lkh hcl6
                obtain ⟨LZ, hLZ⟩ : ∃ LZ, dropI L1 h = LZ := ⟨_, rfl⟩
                rw [hLZ] at HPZ HMZ HFZ
                clear hLZ
                have HLE := Lib.hid HPZ.out.lenC
                have hln : ∀ ty, (Builtin.len_ #[26] ty #[.map (some inb)]).run Try.prog wr = .ok (.int .i64 (LZ.length : Int)) wr := fun ty => HMZ.out.len ty
                have HOF := Lib.hid (HPZ.out.of (by have := HJ.out; omega) nm HOK.out)
                have hca := HPZ.out.cap nm
                have hdc : decide (A < ((ofI LZ nm).length : Int)) = false := decide_eq_false (by omega)
                obtain ⟨nz, hnz⟩ : ∃ nz, (ofI LZ nm).length = nz := ⟨_, rfl⟩
                rw [hnz] at HOF hdc
                obtain ⟨lz, hlz⟩ : ∃ lz, LZ.length = lz := ⟨_, rfl⟩
                rw [hlz] at HLE hln
                have hsame : ((lz : Int) == (lz : Int)) = true := by simp
                clear hca hnz hlz
                go_wp2_with fail
                refine HLE.out.mono ?_
                rintro o w9 ⟨rfl, rfl⟩
                clear HLE
                go_wp2_with fail
                refine HOF.out.mono ?_
                rintro o wo ⟨vz, rfl, hoz, hbz⟩
                obtain ⟨az, cz, rfl⟩ := own_slice hoz
                have HPY : Hid (IdP W (fun k => k = inb) ab A 1000 (t + 1) LZ wo) := HPZ.out.belowX hbz (fun k hk => by
                  subst hk
                  exact ⟨Nat.lt_of_lt_of_le HMZ.out.lt hbz.size, .inl (.inl (.inl rfl))⟩)
                have HMY := Lib.hid (HMZ.out.below hbz)
                clear hoz hbz HOF hln
                go_wp2_with fail
                go_roundw
                case rel => exact ⟨t + 1, M + 1, LZ, updK FA h none, HJ.out.1, HJ.out.2.1, (by have := HJ.out; omega), by go_num, HPY, HMY, HFZ⟩
                case measure => have := HJ.out; simp [intOf]; omega
      · by_cases hk1 : kd = 1
        · subst hk1
          cases hof : (ofI L nm).reverse with
          | nil =>
            have h0 : ofI L nm = [] := by simpa using hof
            have HTK := Lib.hid (HP4.out.takeN nm HOK.out h0)
            have HPZ : Hid (IdP W (fun k => k = inb ∨ k = sb) ab A 1000 (t + 1) L w9) := HP4.out.more (Nat.le_succ t)
            have HMZ := HM4
            have HFZ := hF
            clear hof h0
            go_wp2_with fail
            refine HTK.out.mono ?_
            rintro o w8 ⟨rfl, rfl⟩
            clear HTK
            go_wp2_with fail
            obtain ⟨LZ, hLZ⟩ : ∃ LZ, L = LZ := ⟨_, rfl⟩
            rw [hLZ] at HPZ HMZ HFZ
            clear hLZ
            have HLE := Lib.hid HPZ.out.lenC
            have hln : ∀ ty, (Builtin.len_ #[26] ty #[.map (some inb)]).run Try.prog w8 = .ok (.int .i64 (LZ.length : Int)) w8 := fun ty => HMZ.out.len ty
            have HOF := Lib.hid (HPZ.out.of (by have := HJ.out; omega) nm HOK.out)
            have hca := HPZ.out.cap nm
            have hdc : decide (A < ((ofI LZ nm).length : Int)) = false := decide_eq_false (by omega)
            obtain ⟨nz, hnz⟩ : ∃ nz, (ofI LZ nm).length = nz := ⟨_, rfl⟩
            rw [hnz] at HOF hdc
            obtain ⟨lz, hlz⟩ : ∃ lz, LZ.length = lz := ⟨_, rfl⟩
            rw [hlz] at HLE hln
            have hsame : ((lz : Int) == (lz : Int)) = true := by simp
            clear hca hnz hlz
            go_wp2_with fail
            refine HLE.out.mono ?_
            rintro o w9 ⟨rfl, rfl⟩
            clear HLE
            go_wp2_with fail
            refine HOF.out.mono ?_
            rintro o wo ⟨vz, rfl, hoz, hbz⟩
            obtain ⟨az, cz, rfl⟩ := own_slice hoz
            have HPY : Hid (IdP W (fun k => k = inb) ab A 1000 (t + 1) LZ wo) := HPZ.out.belowX hbz (fun k hk => by
              subst hk
              exact ⟨Nat.lt_of_lt_of_le HMZ.out.lt hbz.size, .inl (.inl rfl)⟩)
            have HMY := Lib.hid (HMZ.out.below hbz)
            clear hoz hbz HOF hln
            go_wp2_with fail
            go_roundw
            case rel => exact ⟨t + 1, M, LZ, Fi, HJ.out.1, HJ.out.2.1, (by have := HJ.out; omega), by go_num, HPY, HMY, HFZ⟩
            case measure => have := HJ.out; simp [intOf]; omega
          | cons x r =>
            have h0 : ofI L nm = r.reverse ++ [x] := by
              have := congrArg List.reverse hof
              simpa using this
            obtain ⟨e9, he9, hnm9, hcn9⟩ := mem_ofI.1 (show x ∈ ofI L nm by rw [h0]; simp)
            have hFh : Fi x = some nm := (hF.out x nm).2 ⟨e9, he9, hcn9, hnm9⟩
            have HHW : Hid (KN.ok x) := by rw [← hcn9]; exact Lib.hid (HGS.out.cok e9 he9)
            have HTK := Lib.hid (HP4.out.takeS (by have := HJ.out; omega) nm HOK.out r.reverse x h0)
            have HCD : Hid ((if (Fi x).isSome then L.length - 1 else L.length) = (dropI L x).length) := hF.out.cntDrop HGS.out x
            have HFZ : Hid (inF (dropI L x) (updK Fi x none)) := hF.out.drop x
            have same : (nm.toList == nm.toList) = true := by simp
            have HFH := Lib.hid hFh
            clear hof h0 he9 hnm9 hcn9 hFh
            go_wp2_with fail
            refine HTK.out.mono ?_
            rintro o w8 ⟨rfl, h8, k8⟩
            have HP8 := Lib.hid h8
            have HM8 := Lib.hid (HM4.out.keep k8 (fun h => h (.inl rfl)))
            have lkh : (Instr.lookup 26 (.map (some inb)) (.int .i64 x) true).run Try.prog w8 = .ok (.tuple #[.string nm, .bool true]) w8 := by
              have := HM8.out.k.look_ok (s := x) HHW.out
              rw [HFH.out] at this
              exact this
            clear h8 k8 HTK
            go_wp2_with (at_delete; refine wpl_dropC MBI _ rfl _ _ rfl inb M L.length Fi rfl HM8.out x rfl HHW.out ?_; intro w7 m7 g7; have HPZ := Lib.hid (HP8.out.keepX (G := fun x => x = inb) (Keep.turnedK g7 rfl) (fun k hk => (by rw [hk]; exact ⟨.inl rfl, HWS.out.1⟩))); have HMZ : Hid (MapC MBI w7 inb M (dropI L x).length (updK Fi x none)) := (by have := m7; rw [HCD.out] at this; exact this); clear m7 g7)
            clear lkh
            obtain ⟨LZ, hLZ⟩ : ∃ LZ, dropI L x = LZ := ⟨_, rfl⟩
            rw [hLZ] at HPZ HMZ HFZ
            clear hLZ
            have HLE := Lib.hid HPZ.out.lenC
            have hln : ∀ ty, (Builtin.len_ #[26] ty #[.map (some inb)]).run Try.prog w7 = .ok (.int .i64 (LZ.length : Int)) w7 := fun ty => HMZ.out.len ty
            have HOF := Lib.hid (HPZ.out.of (by have := HJ.out; omega) nm HOK.out)
            have hca := HPZ.out.cap nm
            have hdc : decide (A < ((ofI LZ nm).length : Int)) = false := decide_eq_false (by omega)
            obtain ⟨nz, hnz⟩ : ∃ nz, (ofI LZ nm).length = nz := ⟨_, rfl⟩
            rw [hnz] at HOF hdc
            obtain ⟨lz, hlz⟩ : ∃ lz, LZ.length = lz := ⟨_, rfl⟩
            rw [hlz] at HLE hln
            have hsame : ((lz : Int) == (lz : Int)) = true := by simp
            clear hca hnz hlz
            go_wp2_with fail
            refine HLE.out.mono ?_
            rintro o w9 ⟨rfl, rfl⟩
            clear HLE
            go_wp2_with fail
            refine HOF.out.mono ?_
            rintro o wo ⟨vz, rfl, hoz, hbz⟩
            obtain ⟨az, cz, rfl⟩ := own_slice hoz
            have HPY : Hid (IdP W (fun k => k = inb) ab A 1000 (t + 1) LZ wo) := HPZ.out.belowX hbz (fun k hk => by
              subst hk
              exact ⟨Nat.lt_of_lt_of_le HMZ.out.lt hbz.size, .inl (.inl rfl)⟩)
            have HMY := Lib.hid (HMZ.out.below hbz)
            clear hoz hbz HOF hln
            go_wp2_with fail
            go_roundw
            case rel => exact ⟨t + 1, M, LZ, updK Fi x none, HJ.out.1, HJ.out.2.1, (by have := HJ.out; omega), by go_num, HPY, HMY, HFZ⟩
            case measure => have := HJ.out; simp [intOf]; omega
        · have k0 : (kd == 0) = false := by simpa using hk0
          have k1 : (kd == 1) = false := by simpa using hk1
          have lkc : ∃ s, (Instr.lookup 26 (.map (some inb)) (.int .i64 cc) true).run Try.prog w9 = .ok (.tuple #[.string s, .bool (waits L cc)]) w9 := by
            have := HM4.out.k.look_ok (s := cc) HCW.out
            rw [hF.out.has cc] at this
            exact ⟨_, this⟩
          obtain ⟨s9, lk9⟩ := lkc
          have HDR := Lib.hid (HP4.out.drop (by have := HJ.out; omega) cc HCW.out)
          have HCD : Hid ((if (Fi cc).isSome then L.length - 1 else L.length) = (dropI L cc).length) := hF.out.cntDrop HGS.out cc
          have HFZ : Hid (inF (dropI L cc) (updK Fi cc none)) := hF.out.drop cc
          obtain ⟨bw, hbw⟩ : ∃ bw, waits L cc = bw := ⟨_, rfl⟩
          rw [hbw] at lk9 HDR
          have sameb : (bw == bw) = true := by simp
          clear hbw hk0 hk1
          go_wp2_with fail
          refine HDR.out.mono ?_
          rintro o w8 ⟨rfl, h8, k8⟩
          have HP8 := Lib.hid h8
          have HM8 := Lib.hid (HM4.out.keep k8 (fun h => h (.inl rfl)))
          have y1' : w8.cell? ⟨sb, 1, none⟩ = some (.int .i64 cc) := (HRW.out.keep k8 (fun h => h (.inr rfl))).cell 1
          clear h8 k8 HDR lk9 y0 y1
          go_wp2_with (at_delete; refine wpl_dropC MBI _ rfl _ _ rfl inb M L.length Fi rfl HM8.out cc rfl HCW.out ?_; intro w7 m7 g7; have HPZ := Lib.hid (HP8.out.keepX (G := fun x => x = inb) (Keep.turnedK g7 rfl) (fun k hk => (by rw [hk]; exact ⟨.inl rfl, HWS.out.1⟩))); have HMZ : Hid (MapC MBI w7 inb M (dropI L cc).length (updK Fi cc none)) := (by have := m7; rw [HCD.out] at this; exact this); clear m7 g7)
          obtain ⟨LZ, hLZ⟩ : ∃ LZ, dropI L cc = LZ := ⟨_, rfl⟩
          rw [hLZ] at HPZ HMZ HFZ
          clear hLZ
          have HLE := Lib.hid HPZ.out.lenC
          have hln : ∀ ty, (Builtin.len_ #[26] ty #[.map (some inb)]).run Try.prog w7 = .ok (.int .i64 (LZ.length : Int)) w7 := fun ty => HMZ.out.len ty
          have HOF := Lib.hid (HPZ.out.of (by have := HJ.out; omega) nm HOK.out)
          have hca := HPZ.out.cap nm
          have hdc : decide (A < ((ofI LZ nm).length : Int)) = false := decide_eq_false (by omega)
          obtain ⟨nz, hnz⟩ : ∃ nz, (ofI LZ nm).length = nz := ⟨_, rfl⟩
          rw [hnz] at HOF hdc
          obtain ⟨lz, hlz⟩ : ∃ lz, LZ.length = lz := ⟨_, rfl⟩
          rw [hlz] at HLE hln
          have hsame : ((lz : Int) == (lz : Int)) = true := by simp
          clear hca hnz hlz
          go_wp2_with fail
          refine HLE.out.mono ?_
          rintro o w9 ⟨rfl, rfl⟩
          clear HLE
          go_wp2_with fail
          refine HOF.out.mono ?_
          rintro o wo ⟨vz, rfl, hoz, hbz⟩
          obtain ⟨az, cz, rfl⟩ := own_slice hoz
          have HPY : Hid (IdP W (fun k => k = inb) ab A 1000 (t + 1) LZ wo) := HPZ.out.belowX hbz (fun k hk => by
            subst hk
            exact ⟨Nat.lt_of_lt_of_le HMZ.out.lt hbz.size, .inl (.inl rfl)⟩)
          have HMY := Lib.hid (HMZ.out.below hbz)
          clear hoz hbz HOF hln
          go_wp2_with fail
          go_roundw
          case rel => exact ⟨t + 1, M, LZ, updK Fi cc none, HJ.out.1, HJ.out.2.1, (by have := HJ.out; omega), by go_num, HPY, HMY, HFZ⟩
          case measure => have := HJ.out; simp [intOf]; omega
    · have HBE := Lib.hid hS.out.bel
      by_cases hlt2 : t < ats.length
      · have j1 : ¬ (t : Int) < 50 := by omega
        have j2 : (t : Int) < (ats.length : Int) := by omega
        clear hlt hMt ht ht2
        go_wp2_with fail
        go_ret
        exact ⟨rfl, HBE.out⟩
      · have j2 : ¬ (t : Int) < (ats.length : Int) := by omega
        clear hlt hMt ht ht2
        go_wp2_with fail
        go_ret
        exact ⟨rfl, HBE.out⟩
end Go.Proofs.Ytcdgmhglpcokdaa
