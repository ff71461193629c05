/- SipHash, the program's own: Sum. -/
import Derived.Test.YtlcpkplipfcdaaaDoorRefS
import Derived.Test.YtlcpkplipfcdaaaDoorJoin
import Derived.IntWalk
import Derived.Deep.RegionHeld3
namespace Go.Proofs.YtlcpkplipfcdaaaDoor
open Go.RowKit

set_option maxHeartbeats 400000 in
set_option maxRecDepth 100000 in
theorem sum12 (k : Nat → UInt8) (a : Option Addr) (c : Nat) (xs : List ByteArray) (w : World) (hi : Ini w) (h : IsStrs w a c xs) (hn : xs.length ≤ 140737488355328) (hl : (flat xs).length ≤ 140737488355328) :
    Calls Tryd.prog 61 #[keyVal k, .slice a xs.length c] w fun e w' => e = .returned (.int .u64 (sip k (flat xs))) ∧ Below w.heap.size w w' := by
  unfold keyVal
  have HI := Lib.hid hi
  have HX := Lib.hid h
  clear hi h
  go_enter Tryd.func61, Tryd.ntmps61
  go_wp2_with fail
  generalize hW : World.alloc w _ = W
  have hk : IsKey W w.heap.size k := by
    subst hW
    intro i hi
    have h16 : i = 0 ∨ i = 1 ∨ i = 2 ∨ i = 3 ∨ i = 4 ∨ i = 5 ∨ i = 6 ∨ i = 7 ∨ i = 8 ∨ i = 9 ∨ i = 10 ∨ i = 11 ∨ i = 12 ∨ i = 13 ∨ i = 14 ∨ i = 15 := by omega
    rcases h16 with rfl | rfl | rfl | rfl | rfl | rfl | rfl | rfl | rfl | rfl | rfl | rfl | rfl | rfl | rfl | rfl <;> simp
  have hb : Below w.heap.size w W := by subst hW; exact ((Below.refl _ _).alloc (Nat.le_refl _) _)
  have hz : w.heap.size < W.heap.size := by subst hW; simp
  clear hW
  refine (join25 W a c xs (HX.out.below hb) hn hl).mono ?_
  rintro e w1 ⟨rfl, hb1⟩
  obtain ⟨hc1, _⟩ := bcell hb1
  have hk1 : IsKey w1 w.heap.size k := fun i hi => by rw [hc1 _ _ hz]; exact hk i hi
  have hi1 : Ini w1 := (HI.out.below hb).below hb1
  have hbel : Below w.heap.size w w1 := hb.trans (hb1.mono (Nat.le_of_lt hz))
  have hz1 := Nat.lt_of_lt_of_le hz hb1.size
  clear hc1 hk hb hz hb1
  obtain ⟨s, hs⟩ : ∃ s : ByteArray, s = ⟨(flat xs).toArray⟩ := ⟨_, rfl⟩
  have hsl : s.data.toList = flat xs := by rw [hs]
  rw [← hs]
  have hsz : s.size ≤ 140737488355328 := by rw [Lib.size_eq, hsl]; exact hl
  have HSL := Lib.hid hsl
  clear hs hl hn hsl HX
  have k0 := hk1 0 (by decide)
  have k1 := hk1 1 (by decide)
  have k2 := hk1 2 (by decide)
  have k3 := hk1 3 (by decide)
  have k4 := hk1 4 (by decide)
  have k5 := hk1 5 (by decide)
  have k6 := hk1 6 (by decide)
  have k7 := hk1 7 (by decide)
  have k8 := hk1 8 (by decide)
  have k9 := hk1 9 (by decide)
  have k10 := hk1 10 (by decide)
  have k11 := hk1 11 (by decide)
  have k12 := hk1 12 (by decide)
  have k13 := hk1 13 (by decide)
  have k14 := hk1 14 (by decide)
  have k15 := hk1 15 (by decide)
  clear hk1
  go_wp2_with fail
  refine (begin26 k w1 hi1).mono ?_
  rintro e w2 ⟨rfl, hb2⟩
  clear k0 k1 k2 k3 k4 k5 k6 k7 k8 k9 k10 k11 k12 k13 k14 k15
  have hbel2 : Below w.heap.size w w2 := hbel.trans (hb2.mono (Nat.le_of_lt hz1))
  have hz2 := Nat.lt_of_lt_of_le hz1 hb2.size
  clear hb2 hbel hz1 hi1 HI
  go_wp2_with fail
  generalize (Value.agg #[.int .u8 ((k 0).toNat : Int), .int .u8 ((k 1).toNat : Int), .int .u8 ((k 2).toNat : Int), .int .u8 ((k 3).toNat : Int), .int .u8 ((k 4).toNat : Int), .int .u8 ((k 5).toNat : Int), .int .u8 ((k 6).toNat : Int), .int .u8 ((k 7).toNat : Int), .int .u8 ((k 8).toNat : Int), .int .u8 ((k 9).toNat : Int), .int .u8 ((k 10).toNat : Int), .int .u8 ((k 11).toNat : Int), .int .u8 ((k 12).toNat : Int), .int .u8 ((k 13).toNat : Int), .int .u8 ((k 14).toNat : Int), .int .u8 ((k 15).toNat : Int)]) = kv
  have e8 : (s.size : Int) - s.size % 8 = ((s.size - s.size % 8 : Nat) : Int) := by omega
  simp only [e8]
  clear e8
  obtain ⟨q, hq⟩ : ∃ q, q = s.size - s.size % 8 := ⟨_, rfl⟩
  rw [← hq]
  obtain ⟨K, hK⟩ : ∃ K, K = s.size / 8 := ⟨_, rfl⟩
  have hqK : q = 8 * K := by omega
  have hK1 : q ≤ s.size := by omega
  have HQ := Lib.hid hqK
  clear hq
  have hfin : sip k s.data.toList = finish (absorb (abs s.data.toList (start k) K) (leW (lastBytes (s.data.toList.drop q) s.size))) := by
    unfold sip
    rw [← Lib.size_eq, ← hK, hqK]
  clear hK hqK
  generalize start k = v0 at *
  have HFIN := Lib.hid hfin
  clear hfin
  generalize hW : World.alloc w2 _ = W
  have hb : Below w.heap.size w W := by subst hW; exact hbel2.alloc (Nat.le_of_lt hz2) _
  have hz : w2.heap.size < W.heap.size := by subst hW; simp
  have hF : Four W w2.heap.size v0 := by subst hW; simp [Four]
  clear hW hbel2
  have hB : w.heap.size ≤ w2.heap.size := Nat.le_of_lt hz2
  generalize w2.heap.size = B at *
  clear hz2
  generalize v0.a = y0
  generalize v0.b = y1
  generalize v0.c = y2
  generalize v0.d = y3
  go_loopw [8] (fun i wr => ∃ m p : Nat, p ≤ q ∧ Hid (p = 8 * m) ∧ i = .int .i64 (p : Int) ∧ B < wr.heap.size ∧ Four wr B (abs s.data.toList v0 m) ∧ Below w.heap.size w wr)
    (fun i _ => s.size - (intOf i).toNat)
  case atStart => exact ⟨0, 0, by omega, rfl, rfl, hz, hF, hb⟩
  case round =>
    clear hF hb hz
    obtain ⟨m, p, hm, hp, rfl, hz, hF, hb⟩ := hrel
    by_cases hlt : p < q
    · have hp8 : p + 8 ≤ q := by have h1 := hp.out; have h2 := HQ.out; omega
      have he : s.extract p (p + 8) = ⟨((s.data.toList.drop p).take 8).toArray⟩ := by
        rw [extract_list, show p + 8 - p = 8 by omega]
      have hl8 : ((s.data.toList.drop p).take 8).length = 8 := by
        rw [List.length_take, List.length_drop, ← Lib.size_eq]; omega
      have hw := word_list _ hl8
      have HW := Lib.hid hw
      clear hw hl8
      have hs' : abs s.data.toList v0 (m + 1) = absorb (abs s.data.toList v0 m) (leW ((s.data.toList.drop p).take 8)) := by rw [hp.out]; rfl
      generalize hv : abs s.data.toList v0 m = v at *
      obtain ⟨va, vb, vc, vd⟩ := v
      clear hv
      have HF := Lib.hid hF
      obtain ⟨⟨c0, c1, c2, c3⟩, f0, f1, f2, f3⟩ := hF
      have j1 : ((p : Int) + 8) ≤ s.size := by omega
      have j2 : (0 : Int) ≤ (p : Int) + 8 := by omega
      have j3 : ((p : Int) + 8).toNat = p + 8 := by omega
      have j4 : IntKind.i64.wrap ((p : Int) + 8) = (p : Int) + 8 := IntWalk.i64_in _ (by omega)
      have j5 : (p : Int) ≤ (p : Int) + 8 := by omega
      go_wp2_with fail
      refine region_tail 7 (by kernel_rfl) (by kernel_rfl) ?_
      simp only [List.take_succ_cons, List.take_zero, List.drop_succ_cons, List.drop_zero]
      still_step
      still_step
      still_step
      still_step
      still_step
      still_step
      still_call (HW.out _)
      refine still_tail_nil ?_
      clear j1 j2 j3 j4 j5
      go_wp2_with fail
      refine (absorb27 _ _ _ _ _ _).mono ?_
      rintro e w3 ⟨rfl, hb1⟩
      generalize absorb ⟨va, vb, vc, vd⟩ (leW ((s.data.toList.drop p).take 8)) = u at *
      obtain ⟨ua, ub, uc, ud⟩ := u
      have HS := Lib.hid hs'
      clear hs'
      have HF1 := Four.below (w := wr.drew) HF.out hb1 hz
      have hz1 := Nat.lt_of_lt_of_le hz hb1.size
      have hbel : Below w.heap.size w w3 := hb.drew.trans (hb1.mono (Nat.le_trans hB (Nat.le_of_lt hz)))
      have HF2 := Lib.hid HF1
      obtain ⟨⟨d0, d1, d2, d3⟩, g0, g1, g2, g3⟩ := HF1
      clear c0 c1 c2 c3 f0 f1 f2 f3 hb1 he
      go_wp2_with fail
      go_roundw
      case rel =>
        refine ⟨m + 1, p + 8, hp8, ?_, by go_num, ?_, ?_, ?_⟩
        · show p + 8 = 8 * (m + 1)
          have := hp.out
          omega
        · exact Nat.lt_of_lt_of_eq hz1 (put4_size w3 _ _ _ _ _).symm
        · rw [HS.out]; exact HF2.out.put _ _ _ _
        · exact below_put4 hbel hB _ _ _ _
      case measure => simp [intOf]; omega
    · have hpq : p = q := by omega
      have hmK : m = K := by have h1 := hp.out; have h2 := HQ.out; omega
      subst hpq hmK
      have he : s.extract p s.size = ⟨(s.data.toList.drop p).toArray⟩ := by
        rw [extract_list, List.take_of_length_le (by rw [List.length_drop, ← Lib.size_eq]; omega)]
      generalize hv : abs s.data.toList v0 m = v at *
      obtain ⟨va, vb, vc, vd⟩ := v
      clear hv
      obtain ⟨⟨c0, c1, c2, c3⟩, _⟩ := hF
      have j1 : (p : Int) ≤ s.size := by omega
      go_wp2_with fail
      go_region_held3 (fun w' => w'.cell? ⟨B, 0, none⟩ = some (.int .u64 va) ∧ w'.cell? ⟨B, 1, none⟩ = some (.int .u64 vb) ∧ w'.cell? ⟨B, 2, none⟩ = some (.int .u64 vc) ∧ w'.cell? ⟨B, 3, none⟩ = some (.int .u64 vd))
        (first | exact ⟨c0, c1, c2, c3⟩ | exact ⟨d0, d1, d2, d3⟩ | exact ⟨e0, e1, e2, e3⟩ | exact ⟨f0, f1, f2, f3⟩ | go_keep)
        (first
          | (go_at_call 86; refine (last29 _ _ _).mono ?_; rintro e w3 ⟨rfl, hb1⟩; obtain ⟨hcc, _⟩ := bcell hb1; have d0 := (hcc B 0 hz).trans c0; have d1 := (hcc B 1 hz).trans c1; have d2 := (hcc B 2 hz).trans c2; have d3 := (hcc B 3 hz).trans c3; have hz3 : B < w3.heap.size := Nat.lt_of_lt_of_le hz hb1.size; clear hcc)
          | (go_at_call 84; refine (absorb27 _ _ _ _ _ _).mono ?_; rintro e w4 ⟨rfl, hb4⟩; obtain ⟨hcc, _⟩ := bcell hb4; have e0 := (hcc B 0 hz3).trans d0; have e1 := (hcc B 1 hz3).trans d1; have e2 := (hcc B 2 hz3).trans d2; have e3 := (hcc B 3 hz3).trans d3; have hz4 : B < w4.heap.size := Nat.lt_of_lt_of_le hz3 hb4.size; clear hcc)
          | (go_at_call 87; refine (finish30 _ _ _ _ _).mono ?_; rintro e w5 ⟨rfl, hb5⟩; obtain ⟨hcc, _⟩ := bcell hb5; have f0 := (hcc B 0 hz4).trans e0; have f1 := (hcc B 1 hz4).trans e1; have f2 := (hcc B 2 hz4).trans e2; have f3 := (hcc B 3 hz4).trans e3; clear hcc))
      have hbel : Below w.heap.size w w5 := ((hb.drew.trans (hb1.mono (Nat.le_trans hB (Nat.le_of_lt hz)))).trans (hb4.mono (Nat.le_trans hB (Nat.le_of_lt hz3)))).trans (hb5.mono (Nat.le_trans hB (Nat.le_of_lt hz4)))
      clear c0 c1 c2 c3 d0 d1 d2 d3 e0 e1 e2 e3 f0 f1 f2 f3 hb hb1 hb4 hb5 he j1
      generalize absorb ⟨va, vb, vc, vd⟩ (leW (lastBytes (s.data.toList.drop p) s.size)) = u at *
      obtain ⟨ua, ub, uc, ud⟩ := u
      generalize finish ⟨ua, ub, uc, ud⟩ = fu at *
      go_wp2_with fail
      go_ret
      exact ⟨by rw [← HSL.out, HFIN.out]; rfl, hbel⟩
end Go.Proofs.YtlcpkplipfcdaaaDoor
