/- stewardref18.Check; maglev.Build's errors; stewardlaw18.awake. -/
import Derived.Test.YtlcpkplipfcdaaaDoorMgO
import Derived.Test.YtlcpkplipfcdaaaDoorKey
import Derived.Lib.SlicesS
namespace Go.Proofs.YtlcpkplipfcdaaaDoor
open Go.RowKit

theorem strEqM (a b : ByteArray) : (a.toList == b.toList) = decide (a = b) := by
  by_cases h : a = b
  · subst h; simp
  · rw [decide_eq_false h]; exact (Lib.bytes_beq_false_iff a b).2 h
/-- May a table be made? -/
def chkB (es : List Ent) (m : Int) : Bool := isP m && decide (100 * (es.length : Int) ≤ m) && validB es
theorem apart_bad {es : List Ent} {q i : Nat} (hq : q < i) (hi : i < es.length) (h : (es[q]'(by omega)).1 = es[i].1) : validB es = false := by
  unfold validB
  have : ¬ Apart es := fun ha => by
    unfold Apart at ha
    rw [List.pairwise_iff_getElem] at ha
    exact ha q i (by omega) hi hq h
  rw [decide_eq_false this, Bool.and_false]
theorem valid_all {es : List Ent} (h1 : ∀ e ∈ es, okW e = true) (h2 : Apart es) : validB es = true := by
  unfold validB
  rw [List.all_eq_true.2 h1, Bool.true_and, decide_eq_true h2]
theorem apart_next {es : List Ent} {i : Nat} (hi : i < es.length) (h : Apart (es.take i)) (h2 : ∀ e ∈ es.take i, e.1 ≠ es[i].1) : Apart (es.take (i + 1)) := by
  rw [apart_step hi]
  refine ⟨h, List.any_eq_false.2 fun e he => ?_⟩
  simpa using h2 e he
theorem name_step {es : List Ent} {N : ByteArray} {q : Nat} (hq : q < es.length) (h : ∀ e ∈ es.take q, e.1 ≠ N) (h2 : es[q].1 ≠ N) : ∀ e ∈ es.take (q + 1), e.1 ≠ N := by
  intro e he
  rw [List.take_succ_eq_append_getElem hq] at he
  rcases List.mem_append.1 he with h3 | h3
  · exact h e h3
  · obtain rfl : e = es[q] := by simpa using h3
    exact h2
set_option maxHeartbeats 4000000 in
set_option maxRecDepth 100000 in
theorem check8 (a : Option Addr) (c : Nat) (es : List Ent) (hl : es.length ≤ 1000) (m : Int) (w : World) (hf : IsEnts w a c es) :
    Calls Tryd.prog 14 #[.slice a es.length c, .int .i64 m] w fun e w' => e = .returned (.int .i64 (if chkB es m then 0 else 1)) ∧ Below w.heap.size w w' := by
  have HF := Lib.hid hf
  clear hf
  have HQ := Lib.hid (refis11 m)
  have k1 : ¬ ((1024 : Int) < es.length) := by omega
  by_cases hp : isP m = true
  case neg =>
    have hp : isP m = false := by simpa using hp
    have HR : Hid ((if chkB es m then (0 : Int) else 1) = 1) := by show _ = _; unfold chkB; rw [hp]; rfl
    rw [hp] at HQ
    clear hp
    rw [HR.out]
    go_enter Tryd.func14, Tryd.ntmps14
    go_wp2_with (go_at_call 43; refine (HQ.out _).mono ?_; rintro e w' ⟨rfl, rfl⟩)
    go_ret
    exact ⟨rfl, Below.refl _ _⟩
  by_cases hm : 100 * (es.length : Int) ≤ m
  case neg =>
    have HR : Hid ((if chkB es m then (0 : Int) else 1) = 1) := by show _ = _; unfold chkB; rw [decide_eq_false hm]; simp
    rw [hp] at HQ
    clear hp
    rw [HR.out]
    go_enter Tryd.func14, Tryd.ntmps14
    go_wp2_with (go_at_call 43; refine (HQ.out _).mono ?_; rintro e w' ⟨rfl, rfl⟩)
    go_ret
    exact ⟨rfl, Below.refl _ _⟩
  have HR : Hid (chkB es m = validB es) := by show _ = _; unfold chkB; rw [hp, decide_eq_true hm]; rfl
  rw [hp] at HQ
  clear hp
  rw [HR.out]
  clear HR
  obtain ⟨r, hr⟩ : ∃ r : Int, r = (if validB es then 0 else 1) := ⟨_, rfl⟩
  have HRR := Lib.hid hr
  rw [← hr]
  clear hr
  have m1 : ¬ (m < 100 * (es.length : Int)) := by omega
  go_enter Tryd.func14, Tryd.ntmps14
  go_wp2_with (go_at_call 43; refine (HQ.out _).mono ?_; rintro e w' ⟨rfl, rfl⟩)
  go_loopw [26] (fun p wr => ∃ i : Nat, i ≤ es.length ∧ p = .int .i64 (i : Int) ∧ Hid (∀ e ∈ es.take i, okW e = true) ∧ Hid (Apart (es.take i)) ∧ Hid (Below w'.heap.size w' wr)) (fun p _ => es.length - (intOf p).toNat)
  case atStart => exact ⟨0, Nat.zero_le _, rfl, (fun e he => by simp at he), (by simp [Hid, Apart]), Below.refl _ _⟩
  case round =>
    obtain ⟨i, hi, rfl, HW, HA, HB⟩ := hrel
    by_cases hlt : i < es.length
    · obtain h0 | ⟨bk, o, rfl, hbk, hc, hcell⟩ := HF.out
      · subst h0; simp at hlt
      have HC := Lib.hid hcell
      obtain ⟨d1, d2⟩ := hcell i es[i] (by simp [hlt])
      have c1 : wr.cell? ⟨bk, o + i * 2, none⟩ = some (.string es[i].1) := by rw [(bcell HB.out).1 _ _ hbk]; exact d1
      have c2 : wr.cell? ⟨bk, o + i * 2 + 1, none⟩ = some (.int .i64 es[i].2) := by rw [(bcell HB.out).1 _ _ hbk]; exact d2
      have j1 : (i : Int) < es.length := by omega
      have HBAD := Lib.hid (validB_bad (es := es) hlt)
      have HALL := Lib.hid (all_step (es := es) hlt HW.out)
      have hokd : okW es[i] = (decide (1 ≤ es[i].2) && decide (es[i].2 ≤ 65535)) := rfl
      obtain ⟨e, he⟩ : ∃ e, e = es[i] := ⟨_, rfl⟩
      have HE := Lib.hid he
      rw [← he] at c1 c2 HBAD HALL hokd
      clear hcell he d1 d2
      obtain ⟨N, V⟩ := e
      simp only at c1 c2 hokd
      have HBA := Lib.hid (HB.out.alloc HB.out.size (.cells #[.string N, .int .i64 V] 44))
      have HBX := Lib.hid (Row.new wr 44 #[.string N, .int .i64 V])
      by_cases h1 : V < 1
      · have hb : okW (N, V) = false := by rw [hokd, decide_eq_false (by omega)]; rfl
        have HV := Lib.hid (HBAD.out hb)
        clear hokd
        go_wp2_with fail
        go_ret
        exact ⟨by rw [HRR.out, HV.out]; rfl, HBA.out⟩
      by_cases h2 : 65535 < V
      · have hb : okW (N, V) = false := by rw [hokd, decide_eq_true (by omega), decide_eq_false (by omega)]; rfl
        have HV := Lib.hid (HBAD.out hb)
        clear hokd
        go_wp2_with fail
        go_ret
        exact ⟨by rw [HRR.out, HV.out]; rfl, HBA.out⟩
      have hb : okW (N, V) = true := by rw [hokd, decide_eq_true (by omega), decide_eq_true (by omega)]; rfl
      have HA2 := Lib.hid (HALL.out hb)
      have j2 : (i : Int) ≤ es.length := by omega
      have j3 : (i : Int) ≤ c := by omega
      clear hokd
      go_wp2_with fail
      clear c1 c2
      generalize wr.alloc (.cells #[.string N, .int .i64 V] 44) = wa at *
      generalize wr.heap.size = eb at *
      go_loopw [43] (fun p w3 => ∃ q : Nat, q ≤ i ∧ p = .int .i64 (q : Int) ∧ Hid (∀ e ∈ es.take q, e.1 ≠ N) ∧ Hid (Row w3 eb 44 #[.string N, .int .i64 V]) ∧ Hid (Below w'.heap.size w' w3)) (fun p _ => i - (intOf p).toNat)
      case atStart => exact ⟨0, Nat.zero_le _, rfl, (fun e he => by simp at he), HBX, HBA⟩
      case round =>
        clear HBX HBA HB
        obtain ⟨q, hq, rfl, HN, HX, HB⟩ := hrel
        have e0 : wr.cell? ⟨eb, 0, none⟩ = some (.string N) := by rw [HX.out.cell]; rfl
        by_cases hqi : q < i
        · have hql : q < es.length := by omega
          obtain ⟨d1, d2⟩ := HC.out q es[q] (by simp [hql])
          have c1 : wr.cell? ⟨bk, o + q * 2, none⟩ = some (.string es[q].1) := by rw [(bcell HB.out).1 _ _ hbk]; exact d1
          have c2 : wr.cell? ⟨bk, o + q * 2 + 1, none⟩ = some (.int .i64 es[q].2) := by rw [(bcell HB.out).1 _ _ hbk]; exact d2
          have q1 : (q : Int) < i := by omega
          have HBD := Lib.hid (apart_bad (es := es) hqi hlt)
          have HNS := Lib.hid (name_step (es := es) (N := N) hql HN.out)
          have he := HE.out
          rw [← he] at HBD
          have e1 : (wr.alloc (.cells #[.string es[q].1, .int .i64 es[q].2] 44)).cell? ⟨eb, 0, none⟩ = some (.string N) := by rw [((HX.out.alloc _).cell 0)]; rfl
          have HX2 := Lib.hid (HX.out.alloc (.cells #[.string es[q].1, .int .i64 es[q].2] 44))
          have HB2 := Lib.hid (HB.out.alloc HB.out.size (.cells #[.string es[q].1, .int .i64 es[q].2] 44))
          clear d1 d2 he HB HX
          generalize es[q] = f at *
          obtain ⟨X, U⟩ := f
          simp only at *
          by_cases hx : X = N
          · subst hx
            have HV := Lib.hid (HBD.out rfl)
            clear HBD HNS
            go_wp2_with fail
            go_ret
            exact ⟨by rw [HRR.out, HV.out]; rfl, HB2.out⟩
          · have HN2 := Lib.hid (HNS.out hx)
            have hxb : (X.toList == N.toList) = false := by rw [strEqM]; exact decide_eq_false hx
            clear HBD HNS
            go_wp2_with fail
            go_roundw
            case rel => exact ⟨q + 1, hqi, by go_num, HN2, HX2, HB2⟩
            case measure => simp [intOf]; omega
        · obtain rfl : q = i := by omega
          have hne : ¬ (q : Int) < q := by omega
          have hnm := HN.out
          have he := HE.out
          have HA9 := Lib.hid (apart_next hlt HA.out (by rw [← he]; exact HN.out))
          clear he hnm
          go_wp2_with fail
          go_roundw
          case rel => exact ⟨q + 1, hlt, by go_num, HA2, HA9, HB⟩
          case measure => simp [intOf]; omega
    · obtain rfl : i = es.length := by omega
      have hne : ¬ (es.length : Int) < es.length := by omega
      have HV : Hid (validB es = true) := by
        have h1 := HW.out
        have h2 := HA.out
        rw [List.take_length] at h1 h2
        exact valid_all h1 h2
      go_wp2_with fail
      go_ret
      exact ⟨by rw [HRR.out, HV.out]; rfl, HB.out⟩
set_option maxRecDepth 100000 in
set_option maxHeartbeats 4000000 in
theorem build8_bad (k : Nat → UInt8) (es : List Ent) (hl : es.length ≤ 6) (hz : ∀ e ∈ es, e.1.size ≤ 1000) (m : Int) (hc : chkB es m = false) (a : Option Addr) (c : Nat) (w : World) (hf : IsEnts w a c es) :
    Calls Tryd.prog 12 #[keyVal k, .slice a es.length c, .int .i64 m] w fun e w' => e = .returned (.tuple #[.pointer none, .int .i64 1]) ∧ Below w.heap.size w w' := by
  have HQ := Lib.hid (is17 m)
  have hb0 := below_alloc w (.cells #[.int .u8 (k 0).toNat, .int .u8 (k 1).toNat, .int .u8 (k 2).toNat, .int .u8 (k 3).toNat, .int .u8 (k 4).toNat, .int .u8 (k 5).toNat, .int .u8 (k 6).toNat, .int .u8 (k 7).toNat, .int .u8 (k 8).toNat, .int .u8 (k 9).toNat, .int .u8 (k 10).toNat, .int .u8 (k 11).toNat, .int .u8 (k 12).toNat, .int .u8 (k 13).toNat, .int .u8 (k 14).toNat, .int .u8 (k 15).toNat] 26)
  generalize hW : w.alloc (.cells #[.int .u8 (k 0).toNat, .int .u8 (k 1).toNat, .int .u8 (k 2).toNat, .int .u8 (k 3).toNat, .int .u8 (k 4).toNat, .int .u8 (k 5).toNat, .int .u8 (k 6).toNat, .int .u8 (k 7).toNat, .int .u8 (k 8).toNat, .int .u8 (k 9).toNat, .int .u8 (k 10).toNat, .int .u8 (k 11).toNat, .int .u8 (k 12).toNat, .int .u8 (k 13).toNat, .int .u8 (k 14).toNat, .int .u8 (k 15).toNat] 26) = W0 at hb0
  have HV := Lib.hid (valid24 a c es (by omega) (fun e he => by have := hz e he; unfold maxLen; omega) W0 (hf.below hb0))
  have HB0 := Lib.hid hb0
  have HWH := Lib.hid hW
  clear hf hb0 hW hz
  unfold keyVal
  have m1 : ¬ ((1024 : Int) < (es.length : Int)) := by omega
  unfold chkB at hc
  by_cases hp : isP m = true
  case neg =>
    have hp : isP m = false := by simpa using hp
    rw [hp] at HQ
    clear hp hc HV
    go_enter Tryd.func12, Tryd.ntmps12
    go_wp2_with (go_at_call 38; refine (HQ.out _).mono ?_; rintro e w' ⟨rfl, rfl⟩; rw [HWH.out])
    go_ret2
    exact ⟨rfl, HB0.out⟩
  by_cases hm : 100 * (es.length : Int) ≤ m
  case neg =>
    rw [hp] at HQ
    clear hp hc HV
    have m2 : m < 100 * (es.length : Int) := by omega
    go_enter Tryd.func12, Tryd.ntmps12
    go_wp2_with (go_at_call 38; refine (HQ.out _).mono ?_; rintro e w' ⟨rfl, rfl⟩; rw [HWH.out])
    go_ret2
    exact ⟨rfl, HB0.out⟩
  rw [hp, decide_eq_true hm] at hc
  have hv : validB es = false := by simpa using hc
  rw [hv] at HV
  rw [hp] at HQ
  have m2 : ¬ (m < 100 * (es.length : Int)) := by omega
  clear hp hc hv
  go_enter Tryd.func12, Tryd.ntmps12
  go_wp2_with (first | (go_at_call 38; refine (HQ.out _).mono ?_; rintro e w' ⟨rfl, rfl⟩; rw [HWH.out]) | (go_at_call 39; refine HV.out.mono ?_; rintro e w' ⟨rfl, hB1⟩))
  go_ret2
  exact ⟨rfl, HB0.out.trans (hB1.mono HB0.out.size)⟩
end Go.Proofs.YtlcpkplipfcdaaaDoor
