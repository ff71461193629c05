/- Packed: RgW, LawRgOrder, Rec, MgEO. -/
import Derived.WideKeyArr2
import Derived.Deep.SlicePairs
import Derived.Deep.MidRow
import Derived.WideKeyArgs
import Derived.DataReads
import Derived.Test.YtlcpkplipfcdaaaDoorG00
import Derived.Test.YtlcpkplipfcdaaaDoorG05
import Derived.Test.YtlcpkplipfcdaaaDoorG07
/- ring: the reference's Check; the law's awake. -/
namespace Go.Proofs.YtlcpkplipfcdaaaDoor
open Go.RowKit

set_option maxHeartbeats 4000000 in
set_option maxRecDepth 100000 in
theorem check29 (a : Option Addr) (c : Nat) (es : List Ent) (hl : es.length ≤ 1000) (w : World) (hf : IsEnts w a c es) :
    Calls Tryd.prog 29 #[.slice a es.length c] w fun e w' => e = .returned (.int .i64 (if validB es then 0 else 1)) ∧ Below w.heap.size w w' := by
  have HF := Lib.hid hf
  clear hf
  have k1 : ¬ ((1024 : Int) < es.length) := by omega
  obtain ⟨r, hr⟩ : ∃ r : Int, r = (if validB es then 0 else 1) := ⟨_, rfl⟩
  have HRR := Lib.hid hr
  rw [← hr]
  clear hr
  go_enter Tryd.func29, Tryd.ntmps29
  go_wp2_with fail
  go_loopw [12] (fun p wr => ∃ i : Nat, i ≤ es.length ∧ p = .int .i64 (i : Int) ∧ Hid (∀ e ∈ es.take i, okW e = true) ∧ Hid (Apart (es.take i)) ∧ Hid (Below w.heap.size w wr)) (fun p _ => es.length - (intOf p).toNat)
  case atStart => exact ⟨0, Nat.zero_le _, rfl, (fun e he => by simp at he), (by simp [Hid, Apart]), Below.refl _ _⟩
  case round =>
    obtain ⟨i, hi, rfl, HW, HA, HB⟩ := hrel
    by_cases hlt : i < es.length
    · obtain h0 | ⟨bk, o, rfl, hbk, hc, hcell⟩ := HF.out
      · subst h0; simp at hlt
      have HC := Lib.hid hcell
      obtain ⟨d1, d2⟩ := hcell i es[i] (by simp [hlt])
      have c1 : wr.cell? ⟨bk, o + i * 2, none⟩ = some (.string es[i].1) := by rw [(bcell HB.out).1 _ _ hbk]; exact d1
      have c2 : wr.cell? ⟨bk, o + i * 2 + 1, none⟩ = some (.int .i64 es[i].2) := by rw [(bcell HB.out).1 _ _ hbk]; exact d2
      have j1 : (i : Int) < es.length := by omega
      have HBAD := Lib.hid (validB_bad (es := es) hlt)
      have HALL := Lib.hid (all_step (es := es) hlt HW.out)
      have hokd : okW es[i] = (decide (1 ≤ es[i].2) && decide (es[i].2 ≤ 65535)) := rfl
      obtain ⟨e, he⟩ : ∃ e, e = es[i] := ⟨_, rfl⟩
      have HE := Lib.hid he
      rw [← he] at c1 c2 HBAD HALL hokd
      clear hcell he d1 d2
      obtain ⟨N, V⟩ := e
      simp only at c1 c2 hokd
      have HBA := Lib.hid (HB.out.alloc HB.out.size (.cells #[.string N, .int .i64 V] 44))
      have HBX := Lib.hid (Row.new wr 44 #[.string N, .int .i64 V])
      have j2 : (i : Int) ≤ es.length := by omega
      have j3 : (i : Int) ≤ c := by omega
      have HOKD := Lib.hid hokd
      clear hokd
      go_wp2_with fail
      clear c1 c2
      generalize wr.alloc (.cells #[.string N, .int .i64 V] 44) = wa at *
      generalize wr.heap.size = eb at *
      go_loopw [21] (fun p w3 => ∃ q : Nat, q ≤ i ∧ p = .int .i64 (q : Int) ∧ Hid (∀ e ∈ es.take q, e.1 ≠ N) ∧ Hid (Row w3 eb 44 #[.string N, .int .i64 V]) ∧ Hid (Below w.heap.size w w3)) (fun p _ => i - (intOf p).toNat)
      case atStart => exact ⟨0, Nat.zero_le _, rfl, (fun e he => by simp at he), HBX, HBA⟩
      case round =>
        clear HBX HBA HB
        obtain ⟨q, hq, rfl, HN, HX, HB⟩ := hrel
        have e0 : wr.cell? ⟨eb, 0, none⟩ = some (.string N) := by rw [HX.out.cell]; rfl
        by_cases hqi : q < i
        · have hql : q < es.length := by omega
          obtain ⟨d1, d2⟩ := HC.out q es[q] (by simp [hql])
          have c1 : wr.cell? ⟨bk, o + q * 2, none⟩ = some (.string es[q].1) := by rw [(bcell HB.out).1 _ _ hbk]; exact d1
          have c2 : wr.cell? ⟨bk, o + q * 2 + 1, none⟩ = some (.int .i64 es[q].2) := by rw [(bcell HB.out).1 _ _ hbk]; exact d2
          have q1 : (q : Int) < i := by omega
          have HBD := Lib.hid (apart_bad (es := es) hqi hlt)
          have HNS := Lib.hid (name_step (es := es) (N := N) hql HN.out)
          have he := HE.out
          rw [← he] at HBD
          have e1 : (wr.alloc (.cells #[.string es[q].1, .int .i64 es[q].2] 44)).cell? ⟨eb, 0, none⟩ = some (.string N) := by rw [((HX.out.alloc _).cell 0)]; rfl
          have HX2 := Lib.hid (HX.out.alloc (.cells #[.string es[q].1, .int .i64 es[q].2] 44))
          have HB2 := Lib.hid (HB.out.alloc HB.out.size (.cells #[.string es[q].1, .int .i64 es[q].2] 44))
          clear d1 d2 he HB HX
          generalize es[q] = f at *
          obtain ⟨X, U⟩ := f
          simp only at *
          by_cases hx : X = N
          · subst hx
            have HV := Lib.hid (HBD.out rfl)
            clear HBD HNS
            go_wp2_with fail
            go_ret
            exact ⟨by rw [HRR.out, HV.out]; rfl, HB2.out⟩
          · have HN2 := Lib.hid (HNS.out hx)
            have hxb : (X.toList == N.toList) = false := by rw [strEqM]; exact decide_eq_false hx
            clear HBD HNS
            go_wp2_with fail
            go_roundw
            case rel => exact ⟨q + 1, hqi, by go_num, HN2, HX2, HB2⟩
            case measure => simp [intOf]; omega
        · obtain rfl : q = i := by omega
          have hne : ¬ (q : Int) < q := by omega
          have hnm := HN.out
          have he := HE.out
          have HA9 := Lib.hid (apart_next hlt HA.out (by rw [← he]; exact HN.out))
          clear he hnm
          have e1' : wr.cell? ⟨eb, 1, none⟩ = some (.int .i64 V) := by rw [HX.out.cell]; rfl
          have hokd := HOKD.out
          by_cases h1 : V < 1
          · have hb : okW (N, V) = false := by rw [hokd, decide_eq_false (by omega)]; rfl
            have HV := Lib.hid (HBAD.out hb)
            clear hokd
            go_wp2_with fail
            go_ret
            exact ⟨by rw [HRR.out, HV.out]; rfl, HB.out⟩
          by_cases h2 : 65535 < V
          · have hb : okW (N, V) = false := by rw [hokd, decide_eq_true (by omega), decide_eq_false (by omega)]; rfl
            have HV := Lib.hid (HBAD.out hb)
            clear hokd
            go_wp2_with fail
            go_ret
            exact ⟨by rw [HRR.out, HV.out]; rfl, HB.out⟩
          have hb : okW (N, V) = true := by rw [hokd, decide_eq_true (by omega), decide_eq_true (by omega)]; rfl
          have HA2 := Lib.hid (HALL.out hb)
          clear hokd
          go_wp2_with fail
          go_roundw
          case rel => exact ⟨q + 1, hlt, by go_num, HA2, HA9, HB⟩
          case measure => simp [intOf]; omega
    · obtain rfl : i = es.length := by omega
      have hne : ¬ (es.length : Int) < es.length := by omega
      have HV : Hid (validB es = true) := by
        have h1 := HW.out
        have h2 := HA.out
        rw [List.take_length] at h1 h2
        exact valid_all h1 h2
      go_wp2_with fail
      go_ret
      exact ⟨by rw [HRR.out, HV.out]; rfl, HB.out⟩
theorem isEnts_oneR (w : World) (n : ByteArray) (v : Int) (T : TypeId) : IsEnts (w.alloc (.cells #[.string n, .int .i64 v] T)) (some ⟨w.heap.size, 0, none⟩) 1 [(n, v)] := by
  refine .inr ⟨w.heap.size, 0, rfl, by simp, by simp, fun j e he => ?_⟩
  match j, he with
  | 0, he => obtain rfl : (n, v) = e := by simpa using he
             constructor <;> simp
  | j + 1, he => simp at he
/-- Whom a number is assigned to. -/
theorem pick_mem {ps : List Pt} (hne : ps ≠ []) (st : Nat) : ∃ p ∈ ps, pickP ps st = p.2 := by
  have hl : 0 < ps.length := List.length_pos_iff.2 hne
  have hm : (st + 0) % ps.length < ps.length := Nat.mod_lt _ hl
  refine ⟨ps[(st + 0) % ps.length], List.getElem_mem hm, ?_⟩
  unfold pickP
  have : (arL ps st).head? = some ps[(st + 0) % ps.length] := by
    rw [List.head?_eq_getElem?]
    unfold arL
    rw [List.getElem?_map, List.getElem?_range hl, Option.map_some, List.getD_eq_getElem?_getD, List.getElem?_eq_getElem hm, Option.getD_some]
  rw [this]; rfl
theorem ptsL_name {k : Nat → UInt8} {p G : Nat} {es : List Ent} {q : Pt} (h : q ∈ ptsL k p G es) : ∃ e ∈ es, q.2 = e.1 := by
  unfold ptsL at h
  obtain ⟨e, he, hq⟩ := List.mem_flatMap.1 h
  unfold ptsE at hq
  obtain ⟨i, _, rfl⟩ := List.mem_map.1 hq
  exact ⟨e, he, rfl⟩
set_option maxRecDepth 100000 in
set_option maxHeartbeats 4000000 in
theorem awake26 (w : World) (hi : Ini w) (hpw : Pow w) :
    Calls Tryd.prog 26 #[] w fun e w' => e = .returned (.bool true) ∧ Below w.heap.size w w' := by
  have hk := key17 ⟨#[107]⟩ w
  generalize (fun i => (⟨#[107]⟩ : ByteArray).data.toList.getD i 0) = kf at hk
  have HK := Lib.hid hk
  have HI := Lib.hid hi
  have HPW := Lib.hid hpw
  clear hk hi hpw
  have hck : validB [((⟨#[97]⟩ : ByteArray), (3 : Int))] = true := valid_all (by intro e he; obtain rfl : e = _ := (by simpa using he); rfl) (by unfold Apart; exact List.pairwise_singleton _ _)
  have hB : ∀ W, Ini W → Pow W → ∀ b c, IsEnts W (some ⟨b, 0, none⟩) c [((⟨#[97]⟩ : ByteArray), (3 : Int))] → Calls Tryd.prog 27 #[keyVal kf, .slice (some ⟨b, 0, none⟩) 1 c, .int .i64 4] W fun e w' => ∃ rb ps, e = .returned (.tuple #[.pointer (some ⟨rb, 0, none⟩), .int .i64 0]) ∧ RingAt w' rb ps 1 ∧ ps.length = 4 ∧ Rise ps ∧ (∀ p ∈ ps, p.2 = ⟨#[97]⟩) ∧ Below W.heap.size W w' := by
    intro W hI hP b c hE
    refine (ringBuild27 kf [((⟨#[97]⟩ : ByteArray), (3 : Int))] (by simp) (by intro e he; obtain rfl : e = _ := (by simpa using he); decide) hck 4 4 (by decide) (some ⟨b, 0, none⟩) c W hI hP hE).mono ?_
    rintro e w' ⟨rb, rfl, hr, hb⟩
    refine ⟨rb, _, rfl, hr, ?_, srtP_rise _, fun p hp => ?_, hb⟩
    · rw [(srtP_perm _).length_eq]
      show (ptsE kf 4 3 (⟨#[97]⟩, 3) ++ []).length = 4
      rw [List.append_nil, ptsE_len]
      decide
    · obtain ⟨e, he, h2⟩ := ptsL_name ((srtP_perm _).mem_iff.1 hp)
      obtain rfl : e = _ := (by simpa using he)
      exact h2
  have HB := Lib.hid hB
  clear hB hck
  have HLN : Hid (∀ (rb : Nat) (ps : List Pt) (W : World), RingAt W rb ps 1 → ps.length = 4 → Calls Tryd.prog 31 #[.pointer (some ⟨rb, 0, none⟩)] W fun e w' => e = .returned (.int .i64 4) ∧ w' = W) := fun rb ps W h h4 => by
    have := len31 rb 1 ps W h
    rw [h4] at this
    exact this
  have HPK : Hid (∀ (rb : Nat) (ps : List Pt) (x : Nat) (W : World), RingAt W rb ps 1 → ps.length = 4 → Rise ps → (∀ p ∈ ps, p.2 = ⟨#[97]⟩) → Calls Tryd.prog 34 #[.pointer (some ⟨rb, 0, none⟩), .int .u64 (x : Nat)] W fun e w' => e = .returned (.string ⟨#[97]⟩) ∧ Below W.heap.size W w') := fun rb ps x W h h4 hr hn => by
    refine (pick34 rb 1 ps (by omega) hr x W h).mono ?_
    rintro e w' ⟨st, _, rfl, hb⟩
    obtain ⟨p, hp, h2⟩ := pick_mem (ps := ps) (fun e => by rw [e] at h4; simp at h4) st
    rw [h2, hn p hp]
    exact ⟨rfl, hb⟩
  have eqa : ((⟨#[97]⟩ : ByteArray).toList == (⟨#[97]⟩ : ByteArray).toList) = true := by simp
  go_enter Tryd.func26, Tryd.ntmps26
  go_wp2_with (first
    | (go_at_call 11; refine HK.out.mono ?_; rintro e w1 ⟨rfl, hB1⟩; have HB1 := Lib.hid hB1; have HI1 := Lib.hid (HI.out.below hB1); have HP1 := Lib.hid (HPW.out.below hB1); clear hB1)
    | (go_at_call 27; have hba := below_alloc w1 (.cells #[.string ⟨#[97]⟩, .int .i64 3] 92); refine (HB.out _ (HI1.out.below hba) (HP1.out.below hba) _ 1 (isEnts_oneR w1 ⟨#[97]⟩ 3 92)).mono ?_; rintro e w2 ⟨rb, ps, rfl, hr, h4, hrs, hnm, hb⟩; have HR := Lib.hid hr; have H4 := Lib.hid h4; have HRS := Lib.hid hrs; have HNM := Lib.hid hnm; have HB2 := Lib.hid (HB1.out.trans ((hba.trans (hb.mono hba.size)).mono HB1.out.size)); clear hba hr h4 hrs hnm hb)
    | (go_at_call 31; refine (HLN.out rb ps _ HR.out H4.out).mono ?_; rintro e w3 ⟨rfl, hw3⟩; subst hw3)
    | (go_at_call 34; refine (HPK.out rb ps 0 _ HR.out H4.out HRS.out HNM.out).mono ?_; rintro e w4 ⟨rfl, hB4⟩; have HR4 := Lib.hid (HR.out.below hB4); have HB4 := Lib.hid (HB2.out.trans (hB4.mono HB2.out.size)); clear hB4 HR)
    | (go_at_call 34; refine (HPK.out rb ps 9223372036854775808 _ HR4.out H4.out HRS.out HNM.out).mono ?_; rintro e w5 ⟨rfl, hB5⟩))
  go_ret
  exact ⟨rfl, HB4.out.trans (hB5.mono HB4.out.size)⟩
end Go.Proofs.YtlcpkplipfcdaaaDoor

/- stewardlaw19.RingOrder (out of XLawMgOrder, by genlawro.py). -/
namespace Go.Proofs.YtlcpkplipfcdaaaDoor
open Go.RowKit

/-- Two rings in memory. -/
structure TwoR (w : World) (r1 r2 : Nat) (ps : List Pt) (n : Nat) : Prop where
  h1 : RingAt w r1 ps n
  h2 : RingAt w r2 ps n
theorem TwoR.below {w w' : World} {r1 r2 n : Nat} {ps : List Pt} (h : TwoR w r1 r2 ps n) (hb : Below w.heap.size w w') : TwoR w' r1 r2 ps n := ⟨h.h1.below hb, h.h2.below hb⟩
theorem TwoR.of {w : World} {r1 r2 n r : Nat} {ps : List Pt} (h : TwoR w r1 r2 ps n) (hr : r = r1 ∨ r = r2) : RingAt w r ps n := by
  rcases hr with rfl | rfl
  · exact h.h1
  · exact h.h2
theorem valid_permR {l l' : List Ent} (p : l.Perm l') : validB l = validB l' := by
  have ha : Apart l ↔ Apart l' := p.pairwise_iff (fun h => Ne.symm h)
  unfold validB
  rw [p.all_eq, decide_eq_decide.2 ha]
theorem valid_partsR {ys : List Ent} (h : validB ys = true) : ∀ e ∈ ys, 1 ≤ e.2 ∧ e.2 ≤ 65535 := by
  unfold validB at h
  rw [Bool.and_eq_true] at h
  exact fun e he => by have := List.all_eq_true.1 h.1 e he; unfold okW at this; simpa using this
theorem rev_cells {l : List Ent} {q : Nat} (hq : q < l.length) : cellsE (l.reverse.take (l.length - q)) = cellsE (l.reverse.take (l.length - (q + 1))) ++ [.string l[q].1, .int .i64 l[q].2] := by
  rw [show l.length - q = l.length - (q + 1) + 1 by omega, cellsE_step (by rw [List.length_reverse]; omega)]
  simp only [List.getElem_reverse]
  have : l.length - 1 - (l.length - (q + 1)) = q := by omega
  simp only [this]
set_option maxRecDepth 100000 in
set_option maxHeartbeats 4000000 in
theorem lawRingOrder (s : ByteArray) (a : Option Addr) (c : Nat) (es : List Ent) (hfl : es.length ≤ 9223372036854775807) (w : World) (hI : Ini w) (hP : Pow w) (hf : IsEnts w a c es) :
    Calls Tryd.prog 8 #[.string s, .slice a es.length c] w fun e w' => e = .returned (.bool true) ∧ Below w.heap.size w w' := by
  obtain ⟨i0, hi, hz0, hz1, hz2⟩ := info_parts infoXEnt
  have HAW := Lib.hid (awake26 w hI hP)
  have HI := Lib.hid hI
  have HP := Lib.hid hP
  have HF := Lib.hid hf
  have HL := Lib.hid hfl
  have hkf := fun W => key17 s W
  generalize (fun i => s.data.toList.getD i 0) = kf at hkf
  have HK : Hid (∀ W, Calls Tryd.prog 11 #[.string s] W fun e w' => e = .returned (keyVal kf) ∧ Below W.heap.size W w') := hkf
  clear hI hP hf hfl hkf
  go_enter Tryd.func8, Tryd.ntmps8
  go_wp2_with (first
    | (go_at_call 26; refine HAW.out.mono ?_; rintro e w1 ⟨rfl, hB1⟩; have HB1 := Lib.hid hB1; clear hB1)
    | (go_at_call 10; refine (few7 a c es 5 (by decide) HL.out w1 (HF.out.below HB1.out)).mono ?_; rintro e w2 ⟨u, rfl, ho2, hB2⟩; obtain ⟨au, cu, rfl⟩ := own_slice ho2; have HE2 := Lib.hid (isEnts_own ho2).2.1; have HB2 := Lib.hid (HB1.out.trans (hB2.mono HB1.out.size)); clear ho2 hB2))
  have hkl : (fewE es 5).length ≤ 5 := by unfold fewE; simp; omega
  have HZ : Hid (∀ e ∈ fewE es 5, e.1.size ≤ 1000) := by
    intro e he
    obtain ⟨g, _, rfl⟩ := List.mem_map.1 he
    exact Nat.le_trans (cutE_size g) (by decide)
  generalize fewE es 5 = xs at *
  clear HAW HF HL
  go_loopw [6, 7] (fun v i wr => ∃ p : Nat, p ≤ xs.length ∧ i = .int .i64 ((p : Int) - 1) ∧ Hid (wr.ownsRow w2.heap.size 44 2 v (xs.length - p) (cellsE (xs.reverse.take (xs.length - p)))) ∧ Hid (Below w2.heap.size w2 wr)) (fun _ i _ => (intOf i + 1).toNat)
  case atStart =>
    refine ⟨xs.length, Nat.le_refl _, congrArg (Value.int .i64) (IntWalk.wrap64_in ((xs.length : Int) - 1) (by omega)), ?_, Below.refl _ _⟩
    rw [Nat.sub_self]
    exact World.ownsRow_nil _ _ _ _
  case round =>
    obtain ⟨p, hp, rfl, HO, HB⟩ := hrel
    cases p with
    | succ q =>
      have hq : q < xs.length := by omega
      have hcast : (((q + 1 : Nat) : Int) - 1) = (q : Int) := by omega
      rw [hcast]
      obtain h0 | ⟨bk, o, rfl, hbk, hc, hcell⟩ := HE2.out
      · subst h0; simp at hq
      obtain ⟨d1, d2⟩ := hcell q xs[q] (by simp [hq])
      have c1 : wr.cell? ⟨bk, o + q * 2, none⟩ = some (.string xs[q].1) := by rw [(bcell HB.out).1 _ _ hbk]; exact d1
      have c2 : wr.cell? ⟨bk, o + q * 2 + 1, none⟩ = some (.int .i64 xs[q].2) := by rw [(bcell HB.out).1 _ _ hbk]; exact d2
      have q1 : (q : Int) < xs.length := by omega
      have hst := Lib.hid (rev_cells hq)
      generalize xs[q] = e at *
      obtain ⟨N, V⟩ := e
      simp only at c1 c2 hst
      have HOa := Lib.hid (HO.out.alloc (.cells #[.string N, .int .i64 V] 44))
      have HBa := Lib.hid (HB.out.alloc HB.out.size (.cells #[.string N, .int .i64 V] 44))
      have HNW := Lib.hid (cells_ent wr N V 44)
      clear hcell d1 d2 hcast HO HB
      go_wp2_with (at_builtin; refine wpList_append_own _ rfl _ _ 22 rfl w2.heap.size 44 i0 (.agg #[.string ⟨#[]⟩, .int .i64 0]) 2 24 Tryd.underlying22 hi hz0 hz1 hz2 rfl (by decide) _ _ _ rfl HOa.out ⟨wr.heap.size, 0, none⟩ 1 1 [.string N, .int .i64 V] rfl rfl HNW.out (ent_one _ _) (by unfold maxLen; omega) (by omega) HBa.out.size ?_; intro v' w4 hown' hgrow _)
      have HB5 : Hid (Below w2.heap.size w2 w4) := HBa.out.grown hgrow HBa.out.size (fun k hk => (HOa.out.lt k hk).1)
      have HO5 := Lib.hid hown'
      clear hown' hgrow HBa HOa
      go_roundw
      case rel =>
        refine ⟨q, by omega, rfl, ?_, HB5⟩
        rw [hst.out, show xs.length - q = xs.length - (q + 1) + 1 by omega]
        exact HO5
      case measure => simp [intOf]
    | zero =>
      have hcast : (((0 : Nat) : Int) - 1) = (-1 : Int) := rfl
      rw [hcast]
      have ho := HO.out
      rw [Nat.sub_zero, List.take_of_length_le (by simp)] at ho
      obtain ⟨ar, cr, rfl⟩ := own_slice ho
      have hlr : xs.reverse.length = xs.length := List.length_reverse
      rw [← hlr] at ho
      have HER := Lib.hid (isEnts_own ho).2.1
      have HEX := Lib.hid (HE2.out.below HB.out)
      have HBW := Lib.hid (HB2.out.trans (HB.out.mono HB2.out.size))
      have HIW := Lib.hid (HI.out.below HBW.out)
      have HPW := Lib.hid (HP.out.below HBW.out)
      have HCR : Hid (validB xs.reverse = validB xs) := by
        show _ = _
        exact valid_permR (List.reverse_perm xs)
      have HOW : Hid (∀ W (l : List Ent) b d, l.length = xs.length → IsEnts W b d l → Calls Tryd.prog 28 #[.slice b xs.length d] W fun e w' => ∃ a' c', e = .returned (.slice a' xs.length c') ∧ IsEnts w' a' c' l ∧ Below W.heap.size W w') := fun W l b d hl h => by
        have := own28 b d l (by omega) W h
        rw [hl] at this
        exact this
      have hck := fun W b d (h : IsEnts W b d xs) => check29 b d xs (by omega) W h
      clear ho HO hcast hp HB HE2
      by_cases hc : validB xs = true
      case neg =>
        have hc : validB xs = false := by simpa using hc
        have HCK : Hid (∀ W b d, IsEnts W b d xs → Calls Tryd.prog 29 #[.slice b xs.length d] W fun e w' => e = .returned (.int .i64 1) ∧ Below W.heap.size W w') := fun W b d h => by have := hck W b d h; rw [hc] at this; exact this
        have HBN : Hid (∀ W (l : List Ent) b d, l.Perm xs → IsEnts W b d l → Calls Tryd.prog 27 #[keyVal kf, .slice b xs.length d, .int .i64 8] W fun e w' => e = .returned (.tuple #[.pointer none, .int .i64 1]) ∧ Below W.heap.size W w') := fun W l b d hp h => by
          have := ringBuild27_bad kf l (by rw [hp.length_eq]; omega) (fun e he => HZ.out e ((hp.mem_iff).1 he)) (by rw [valid_permR hp]; exact hc) 8 b d W h
          rw [hp.length_eq] at this
          exact this
        clear hck hc
        go_upto_region 10 with (first
          | (go_at_call 11; refine (HK.out _).mono ?_; rintro e w4 ⟨rfl, hB4⟩; have HX4 := Lib.hid (HEX.out.below hB4); have HR4 := Lib.hid (HER.out.below hB4); have HB4 := Lib.hid (HBW.out.trans (hB4.mono HBW.out.size)); clear hB4)
          | (go_at_call 28; refine (HOW.out _ _ _ _ rfl HX4.out).mono ?_; rintro e w5 ⟨a5, c5, rfl, hE5, hB5⟩; have HE5 := Lib.hid hE5; have HX5 := Lib.hid (HX4.out.below hB5); have HR5 := Lib.hid (HR4.out.below hB5); have HB5 := Lib.hid (HB4.out.trans (hB5.mono HB4.out.size)); clear hE5 hB5)
          | (go_at_call 27; refine (HBN.out _ _ _ _ (List.Perm.refl _) HE5.out).mono ?_; rintro e w6 ⟨rfl, hB6⟩; have HX6 := Lib.hid (HX5.out.below hB6); have HR6 := Lib.hid (HR5.out.below hB6); have HB6 := Lib.hid (HB5.out.trans (hB6.mono HB5.out.size)); clear hB6))
        clear HX4 HR4 HB4 HE5 HX5 HR5 HB5
        go_wp2_with (first
          | (go_at_call 11; refine (HK.out _).mono ?_; rintro e w7 ⟨rfl, hB4⟩; have HX4 := Lib.hid (HX6.out.below hB4); have HR4 := Lib.hid (HR6.out.below hB4); have HB4 := Lib.hid (HB6.out.trans (hB4.mono HB6.out.size)); clear hB4)
          | (go_at_call 28; refine (HOW.out _ _ _ _ List.length_reverse HR4.out).mono ?_; rintro e w8 ⟨a5, c5, rfl, hE5, hB5⟩; have HE5 := Lib.hid hE5; have HX5 := Lib.hid (HX4.out.below hB5); have HB5 := Lib.hid (HB4.out.trans (hB5.mono HB4.out.size)); clear hE5 hB5)
          | (go_at_call 27; refine (HBN.out _ _ _ _ (List.reverse_perm _) HE5.out).mono ?_; rintro e w9 ⟨rfl, hB6⟩; have HX7 := Lib.hid (HX5.out.below hB6); have HB7 := Lib.hid (HB5.out.trans (hB6.mono HB5.out.size)); clear hB6)
          | (go_at_call 29; refine (HCK.out _ _ _ HX7.out).mono ?_; rintro e w10 ⟨rfl, hB8⟩; have HB8 := Lib.hid (HB7.out.trans (hB8.mono HB7.out.size)); clear hB8))
        go_ret
        exact ⟨rfl, HB8.out⟩
      have HCK : Hid (∀ W b d, IsEnts W b d xs → Calls Tryd.prog 29 #[.slice b xs.length d] W fun e w' => e = .returned (.int .i64 0) ∧ Below W.heap.size W w') := fun W b d h => by have := hck W b d h; rw [hc] at this; exact this
      have HVB := Lib.hid hc
      obtain ⟨P, hPe⟩ : ∃ P, P = srtP (ptsL kf 8 (gmE xs).toNat xs) := ⟨_, rfl⟩
      have HRI : Hid (Rise P) := by rw [hPe]; exact srtP_rise _
      have HPL : Hid (P.length ≤ 2000) := by
        show _ ≤ _
        rw [hPe, (srtP_perm _).length_eq]
        have hok := (valid_partsR hc)
        have h1 := ptsL_le (k := kf) (p := 8) (G := (gmE xs).toNat) (es := xs) (fun e he => by
          have h2 := hok e he
          have h3 := gmE_ge he
          have := cnt_le (p := 8) (W := e.2.toNat) (G := (gmE xs).toNat) (by decide) (by omega)
          omega)
        omega
      have HBD : Hid (∀ W (l : List Ent) b d, l.Perm xs → Ini W → Pow W → IsEnts W b d l → Calls Tryd.prog 27 #[keyVal kf, .slice b xs.length d, .int .i64 8] W fun e w' => ∃ rb, e = .returned (.tuple #[.pointer (some ⟨rb, 0, none⟩), .int .i64 0]) ∧ RingAt w' rb P xs.length ∧ Below W.heap.size W w') := fun W l b d hp hI hP h => by
        have hle := hp.length_eq
        have := ringBuild27 kf l (by omega) (fun e he => HZ.out e ((hp.mem_iff).1 he)) (by rw [valid_permR hp]; exact HVB.out) 8 8 (by decide) b d W hI hP h
        rw [hle, gmE_perm hp, srtP_uniq (ptsL_perm (k := kf) (p := 8) (G := (gmE xs).toNat) hp), ← hPe] at this
        exact this
      clear hck hc hPe
      go_upto_region 10 with (first
        | (go_at_call 11; refine (HK.out _).mono ?_; rintro e w4 ⟨rfl, hB4⟩; have HX4 := Lib.hid (HEX.out.below hB4); have HR4 := Lib.hid (HER.out.below hB4); have HI4 := Lib.hid (HIW.out.below hB4); have HP4 := Lib.hid (HPW.out.below hB4); have HB4 := Lib.hid (HBW.out.trans (hB4.mono HBW.out.size)); clear hB4)
        | (go_at_call 28; refine (HOW.out _ _ _ _ rfl HX4.out).mono ?_; rintro e w5 ⟨a5, c5, rfl, hE5, hB5⟩; have HE5 := Lib.hid hE5; have HX5 := Lib.hid (HX4.out.below hB5); have HR5 := Lib.hid (HR4.out.below hB5); have HI5 := Lib.hid (HI4.out.below hB5); have HP5 := Lib.hid (HP4.out.below hB5); have HB5 := Lib.hid (HB4.out.trans (hB5.mono HB4.out.size)); clear hE5 hB5)
        | (go_at_call 27; refine (HBD.out _ _ _ _ (List.Perm.refl _) HI5.out HP5.out HE5.out).mono ?_; rintro e w6 ⟨t1, rfl, ht1, hB6⟩; have HT1 := Lib.hid ht1; have HX6 := Lib.hid (HX5.out.below hB6); have HR6 := Lib.hid (HR5.out.below hB6); have HI6 := Lib.hid (HI5.out.below hB6); have HP6 := Lib.hid (HP5.out.below hB6); have HB6 := Lib.hid (HB5.out.trans (hB6.mono HB5.out.size)); clear ht1 hB6))
      clear HX4 HR4 HB4 HE5 HX5 HR5 HB5 HI4 HI5 HP4 HP5
      go_upto_region 11 with (first
        | (go_at_call 11; refine (HK.out _).mono ?_; rintro e w7 ⟨rfl, hB4⟩; have HX4 := Lib.hid (HX6.out.below hB4); have HR4 := Lib.hid (HR6.out.below hB4); have HI4 := Lib.hid (HI6.out.below hB4); have HP4 := Lib.hid (HP6.out.below hB4); have HT4 := Lib.hid (HT1.out.below hB4); have HB4 := Lib.hid (HB6.out.trans (hB4.mono HB6.out.size)); clear hB4)
        | (go_at_call 28; refine (HOW.out _ _ _ _ List.length_reverse HR4.out).mono ?_; rintro e w8 ⟨a5, c5, rfl, hE5, hB5⟩; have HE5 := Lib.hid hE5; have HX5 := Lib.hid (HX4.out.below hB5); have HI5 := Lib.hid (HI4.out.below hB5); have HP5 := Lib.hid (HP4.out.below hB5); have HT5 := Lib.hid (HT4.out.below hB5); have HB5 := Lib.hid (HB4.out.trans (hB5.mono HB4.out.size)); clear hE5 hB5)
        | (go_at_call 27; refine (HBD.out _ _ _ _ (List.reverse_perm _) HI5.out HP5.out HE5.out).mono ?_; rintro e w9 ⟨t2, rfl, ht1, hB6⟩; have HT2 := Lib.hid ht1; have HX7 := Lib.hid (HX5.out.below hB6); have HT6 := Lib.hid (HT5.out.below hB6); have HB7 := Lib.hid (HB5.out.trans (hB6.mono HB5.out.size)); clear ht1 hB6))
      have HTT : Hid (TwoR w9 t1 t2 P xs.length) := ⟨HT6.out, HT2.out⟩
      clear HT1 HT2 HT4 HT5 HT6 HB6 HB4 HB5 HX4 HX5 HX6 HR4 HR6 HI4 HI5 HI6 HP4 HP5 HP6 HE5 HBD
      have HPT : Hid (∀ W t p, TwoR W t1 t2 P xs.length → (t = t1 ∨ t = t2) → Calls Tryd.prog 32 #[.pointer (some ⟨t, 0, none⟩), .int .i64 p] W fun e w' => e = .returned (.tuple #[.int .u64 ((ptAt P p).1 : Nat), .string (ptAt P p).2]) ∧ Below W.heap.size W w') := fun W t p h ht => point32 t xs.length P p W (h.of ht)
      have HLN : Hid (∀ W t, TwoR W t1 t2 P xs.length → (t = t1 ∨ t = t2) → Calls Tryd.prog 31 #[.pointer (some ⟨t, 0, none⟩)] W fun e w' => e = .returned (.int .i64 (P.length : Nat)) ∧ w' = W) := fun W t h ht => len31 t xs.length P W (h.of ht)
      go_upto_region 16 with (first
        | (go_at_call 29; refine (HCK.out _ _ _ HX7.out).mono ?_; rintro e w10 ⟨rfl, hB8⟩; have HT8 := Lib.hid (HTT.out.below hB8); have HB8 := Lib.hid (HB7.out.trans (hB8.mono HB7.out.size)); clear hB8)
        | (go_at_call 31; refine (HLN.out _ _ HT8.out (.inl rfl)).mono ?_; rintro e w11 ⟨rfl, hw11⟩; subst hw11))
      clear HTT HB7 HX7 HCK HLN
      have HLN : Hid (∀ W t, TwoR W t1 t2 P xs.length → (t = t1 ∨ t = t2) → Calls Tryd.prog 31 #[.pointer (some ⟨t, 0, none⟩)] W fun e w' => e = .returned (.int .i64 (P.length : Nat)) ∧ w' = W) := fun W t h ht => len31 t xs.length P W (h.of ht)
      go_loopw [75] (fun i wr => ∃ j : Nat, j ≤ P.length ∧ i = .int .i64 (j : Int) ∧ Hid (TwoR wr t1 t2 P xs.length) ∧ Hid (Below w.heap.size w wr)) (fun i _ => P.length - (intOf i).toNat)
      case atStart => exact ⟨0, Nat.zero_le _, rfl, HT8, HB8⟩
      case round =>
        clear HT8 HB8
        obtain ⟨j, hj, rfl, HTC, HBC⟩ := hrel
        have hpl := HPL.out
        by_cases hlt : j < P.length
        · have j1 : (j : Int) < P.length := by omega
          have hle : (ptAt P ((j : Int) - 1)).1 ≤ (ptAt P (j : Int)).1 := by
            have e1 : ptAt P (j : Int) = P[j] := by
              unfold ptAt
              rw [if_neg (by omega), Int.toNat_natCast, List.getD_eq_getElem?_getD, List.getElem?_eq_getElem hlt, Option.getD_some]
            rw [e1]
            by_cases h0 : j = 0
            · subst h0
              have e0 : ptAt P (((0 : Nat) : Int) - 1) = (0, ⟨#[]⟩) := by unfold ptAt; rw [if_pos (by omega)]
              rw [e0]; exact Nat.zero_le _
            · have e0 : ptAt P ((j : Int) - 1) = P[j - 1] := by
                unfold ptAt
                rw [if_neg (by omega), show ((j : Int) - 1).toNat = j - 1 by omega, List.getD_eq_getElem?_getD, List.getElem?_eq_getElem (show j - 1 < P.length by omega), Option.getD_some]
              rw [e0]
              exact HRI.out (j - 1) j _ _ (List.getElem?_eq_getElem (by omega)) (List.getElem?_eq_getElem hlt) (by omega)
          have HP1 := Lib.hid (fun W t h ht => HPT.out W t (j : Int) h ht)
          have HP0 := Lib.hid (fun W t h ht => HPT.out W t ((j : Int) - 1) h ht)
          generalize ptAt P (j : Int) = p1 at *
          generalize ptAt P ((j : Int) - 1) = p0 at *
          obtain ⟨v, N⟩ := p1
          obtain ⟨v0, N0⟩ := p0
          simp only at hle HP1 HP0
          have g1 : ¬ ((v : Int) < (v0 : Int)) := by omega
          have n1 : ((v : Int) != (v : Int)) = false := by simp
          have n2 : (N.toList != N.toList) = false := by simp
          have hw1 := wrapR ((j : Int) - 1) (by omega) (by omega)
          clear hle
          have TK1 : Hid True := trivial
          have TK2 : Hid True := trivial
          go_wp2_with (first
            | (go_at_call 32; clear TK1; refine (HP1.out _ _ HTC.out (by first | exact .inl rfl | exact .inr rfl)).mono ?_; rintro e w11 ⟨rfl, hB⟩; have HBC := Lib.hid (HBC.out.trans (hB.mono HBC.out.size)); have HTC := Lib.hid (HTC.out.below hB); clear hB)
            | (go_at_call 32; clear TK2; refine (HP1.out _ _ HTC.out (by first | exact .inl rfl | exact .inr rfl)).mono ?_; rintro e w11 ⟨rfl, hB⟩; have HBC := Lib.hid (HBC.out.trans (hB.mono HBC.out.size)); have HTC := Lib.hid (HTC.out.below hB); clear hB)
            | (go_at_call 32; refine (HP0.out _ _ HTC.out (by first | exact .inl rfl | exact .inr rfl)).mono ?_; rintro e w11 ⟨rfl, hB⟩; have HBC := Lib.hid (HBC.out.trans (hB.mono HBC.out.size)); have HTC := Lib.hid (HTC.out.below hB); clear hB))
          go_roundw
          case rel => exact ⟨j + 1, hlt, by go_num, HTC, HBC⟩
          case measure => simp [intOf]; omega
        · obtain rfl : j = P.length := by omega
          have hne : ¬ (P.length : Int) < P.length := by omega
          go_wp2_with (go_at_call 31; refine (HLN.out _ _ HTC.out (by first | exact .inl rfl | exact .inr rfl)).mono ?_; rintro e w11 ⟨rfl, hw11⟩; subst hw11)
          go_ret
          exact ⟨by simp, HBC.out⟩
end Go.Proofs.YtlcpkplipfcdaaaDoor

/- Records of strings and numbers that are handed in by value. -/
namespace Go.Proofs.YtlcpkplipfcdaaaDoor
open Go.ChangeShapes Go.WideShapes Go.ChangeAt Go.RowKit

/-- The fields of a record: their types and offsets. -/
def fieldsOf (d : TypeDesc) : List (TypeId × Nat) := match d with
  | .struct fs => fs.toList.map fun f => (f.type, f.offset)
  | _ => []
theorem fieldsOf_struct {o : Option TypeDesc} {l : List (TypeId × Nat)} (h : o.map fieldsOf = some l) (hl : l ≠ []) : ∃ fs : Array Field, o = some (.struct fs) ∧ fs.toList.map (fun f => (f.type, f.offset)) = l := by
  cases o with
  | none => cases h
  | some d =>
    cases d with
    | struct fs => exact ⟨fs, rfl, Option.some.inj h⟩
    | _ => exact absurd (Option.some.inj h).symm hl
section
variable {H : Type} {enc : TypeId × Value → H} {P : Program} {t : TypeId} {W : World} {base : Nat} {sp : Nat → Bool} {held : Bool}
theorem rec_open {l : List (TypeId × Nat)} (hu : (P.underlying t).map fieldsOf = some l) (hl : l ≠ []) {r : Reach} {b0 : Nat} {v : Value} {d : DataW H} {ps : List MemPlace}
    (hval : Value.okWide P W r b0 t v) (hd : DataW.Trod enc P W base sp held t v d ps) :
    ∃ (cs : Array Value) (xs : List (DataW H × List MemPlace)) (n : Nat), v = .agg cs ∧ cs.toList.length = P.cellsOf t ∧ d = .agg (xs.map (·.1)) ∧ ps = xs.flatMap (·.2) ∧ xs.length = l.length ∧
      ∀ (i : Nat) (u : TypeId) (o : Nat), l[i]? = some (u, o) → DataW.trod enc P W base sp held n u ((cs.toList.drop o).take (P.cellsOf u)) = xs[i]? := by
  obtain ⟨fs, hs, rfl⟩ := fieldsOf_struct hu hl
  obtain ⟨cs, rfl, hc⟩ := okWide_struct hs hval
  obtain ⟨fuel, hf⟩ := hd
  obtain ⟨xs, n, _, hx, h1, h2, h3⟩ := DataW.trod_struct hs hf
  simp only [Prod.mk.injEq] at hx
  refine ⟨cs, xs, n, rfl, h1, hx.1, hx.2, by simpa using h2, fun i u o hi => ?_⟩
  rw [List.getElem?_map] at hi
  obtain ⟨f, hf', he⟩ := Option.map_eq_some_iff.1 hi
  simp only [Prod.mk.injEq] at he
  obtain ⟨rfl, rfl⟩ := he
  exact h3 i f (by simpa using hf')
theorem rec_shut {l : List (TypeId × Nat)} (hu : (P.underlying t).map fieldsOf = some l) (hl : l ≠ []) (cs : List Value) (xs : List (DataW H × List MemPlace)) (n : Nat) (hc : cs.length = P.cellsOf t)
    (hm : l.mapM (fun q => DataW.trod enc P W base sp held n q.1 ((cs.drop q.2).take (P.cellsOf q.1))) = some xs) : DataW.Trod enc P W base sp held t (.agg cs.toArray) (.agg (xs.map (·.1))) (xs.flatMap (·.2)) := by
  obtain ⟨fs, hs, rfl⟩ := fieldsOf_struct hu hl
  refine ⟨n + 1, ?_⟩
  have := trod_struct_mk (enc := enc) (w := W) (base := base) (spare := sp) (held := held) (n := n) (cs := cs) (xs := xs) hs hc (by rw [List.mapM_map] at hm; exact hm)
  exact this
end
theorem one_cellR {cs : List Value} {i : Nat} {v : Value} (h : (cs.drop i).take 1 = [v]) : cs[i]? = some v := by
  have h1 : ((cs.drop i).take 1)[0]? = some v := by rw [h]; rfl
  rw [List.getElem?_take, if_pos (by decide), List.getElem?_drop] at h1
  exact h1
end Go.Proofs.YtlcpkplipfcdaaaDoor

/- A slice of entries that is handed in. -/
namespace Go.Proofs.YtlcpkplipfcdaaaDoor
open Go.ChangeShapes Go.WideShapes Go.ChangeAt Go.RowKit

/-- A string's bytes, an integer. -/
def strV (v : Value) : ByteArray := match v with
  | .string s => s
  | _ => ⟨#[]⟩
def intV (v : Value) : Int := match v with
  | .int _ n => n
  | _ => 0
theorem ents_open {H : Type} {enc : TypeId × Value → H} {P : Program} {t e u i : TypeId} {W : World} {base : Nat} {held : Bool} (ht : P.underlying t = some (.slice e)) (hu : (P.underlying e).map fieldsOf = some [(u, 0), (i, 1)]) (hs : P.underlying u = some .string) (hi : P.underlying i = some (.int .i64)) (hc : P.cellsOf u = 1) (hci : P.cellsOf i = 1) (ce : P.cellsOf e = 2)
    {r : Reach} {b0 : Nat} {v : Value} {d : DataW H} {ps : List MemPlace} (hval : Value.okWide P W r b0 t v) (hd : DataW.Trod enc P W base (fun _ => true) held t v d ps) :
    ∃ a c fs, v = .slice a fs.length c ∧ IsEnts W a c fs ∧ fs.length ≤ maxLen := by
  obtain ⟨a, l, c, rfl⟩ := okWide_slice ht hval
  obtain ⟨fuel, hf⟩ := hd
  obtain ⟨fa, hfa, hm⟩ := fieldsOf_struct hu (List.cons_ne_nil _ _)
  obtain ⟨fl, hfl⟩ : ∃ fl, fl = fa.toList := ⟨_, rfl⟩
  rw [← hfl] at hm
  have hl2 : fl.length = 2 := by have := congrArg List.length hm; simpa using this
  match fl, hl2 with
  | [f0, f1], _ =>
    simp only [List.map_cons, List.map_nil, List.cons.injEq, Prod.mk.injEq, and_true] at hm
    obtain ⟨⟨t0, o0⟩, t1, o1⟩ := hm
    have hfa2 : fa = #[f0, f1] := by rw [← Array.toArray_toList (xs := fa), ← hfl]
    rw [hfa2] at hfa
    rcases Go.Deep.open_slice_pairs ht hfa ce o0 o1 (by rw [t0]; exact hc) (by rw [t1]; exact hci) hf with ⟨hcs, _⟩ | ⟨a', l', c', m, n, V0, V1, D0, D1, P0, P1, hcs, _, hl, hmx, hme, _, hcell⟩
    · simp [Value.cells] at hcs
      obtain ⟨rfl, rfl, rfl⟩ := hcs
      exact ⟨none, 0, [], rfl, .inl rfl, by simp⟩
    · simp [Value.cells] at hcs
      obtain ⟨rfl, h1, h2⟩ := hcs
      subst h1 h2
      simp only [if_true] at hme
      subst hme
      obtain ⟨fs, hfs⟩ : ∃ fs : List Ent, fs = (List.range l).map fun i => (strV (V0 i), intV (V1 i)) := ⟨_, rfl⟩
      have hlen : fs.length = l := by rw [hfs]; simp
      refine ⟨some a', m, fs, by rw [hlen], ?_, by rw [hlen]; omega⟩
      by_cases h0 : l = 0
      · left; rw [hfs, h0]; rfl
      · right
        have c0 := (hcell 0 (by omega)).1
        have hs0 := World.cell?_spot c0
        have ha0 : a'.add (0 * 2) = a' := by simp [Addr.add]
        rw [ha0] at hs0 c0
        obtain ⟨bk, o, sp⟩ := a'
        simp only at hs0
        subst hs0
        refine ⟨bk, o, rfl, World.block_lt_of_cell? W _ c0, by rw [hlen]; exact hl, fun j f hj => ?_⟩
        have hjl : j < l := by
          rcases Nat.lt_or_ge j l with h | h
          · exact h
          · rw [List.getElem?_eq_none (by omega)] at hj; cases hj
        obtain ⟨g0, g1, g2, g3⟩ := hcell j (by omega)
        rw [t0] at g2
        rw [t1] at g3
        obtain ⟨s0, e0, _, _⟩ := DataW.trod_string hs g2
        obtain ⟨s1, e1, _, _⟩ := DataW.trod_int hi g3
        simp only [List.cons.injEq, and_true] at e0 e1
        rw [hfs] at hj
        simp only [List.getElem?_map, List.getElem?_range hjl, Option.map_some, Option.some.injEq] at hj
        subst hj
        rw [Addr.add_mid] at g0 g1
        rw [e0] at g0
        rw [e1] at g1
        refine ⟨?_, ?_⟩
        · simp only [e0, strV]; exact g0
        · simp only [e1, intV]; rw [Nat.add_assoc]; exact g1
theorem u64_rng {z : Int} (h : (Lit.int .u64 z).wf = true) : 0 ≤ z ∧ z < 18446744073709551616 := by
  simp [Lit.wf, IntKind.min, IntKind.max, IntKind.signed, IntKind.bits] at h
  omega
end Go.Proofs.YtlcpkplipfcdaaaDoor

