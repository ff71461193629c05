/- SipHash, the reference: Sum. -/
import Derived.Test.YtlcpkplipfcdaaaDoorRefA
import Derived.Test.YtlcpkplipfcdaaaDoorRefW
import Derived.Test.YtlcpkplipfcdaaaDoorKey
import Derived.Lib.IndexBytes
namespace Go.Proofs.YtlcpkplipfcdaaaDoor
open Go.RowKit

/-- So many words absorbed. -/
def abs (l : List UInt8) (v : V4) : Nat → V4
  | 0 => v
  | k + 1 => absorb (abs l v k) (leW ((l.drop (8 * k)).take 8))
/-- SipHash-2-4. -/
def sip (k : Nat → UInt8) (l : List UInt8) : Int :=
  finish (absorb (abs l (start k) (l.length / 8)) (leW (lastBytes (l.drop (8 * (l.length / 8))) l.length)))

set_option maxRecDepth 100000 in
theorem extract_list (t : ByteArray) (a b : Nat) : t.extract a b = ⟨((t.data.toList.drop a).take (b - a)).toArray⟩ := by
  have h : (t.extract a b).data = t.data.extract a b := ByteArray.data_extract
  have h2 : (t.data.extract a b).toList = (t.data.toList.drop a).take (b - a) := by simp [Array.toList_extract]
  rw [← h2, ← h]
set_option maxRecDepth 100000 in
theorem last_eq (l : List UInt8) (h : l.length < 8) (n : Nat) : leW (lastBytes l n) = leW l + 72057594037927936 * ((n % 256 : Nat) : Int) := by
  have hn : (UInt8.ofNat (n % 256)).toNat = n % 256 := by simp
  match l, h with
  | [], _ | [_], _ | [_, _], _ | [_, _, _], _ | [_, _, _, _], _ | [_, _, _, _, _], _ | [_, _, _, _, _, _], _ | [_, _, _, _, _, _, _], _ =>
    simp only [lastBytes, List.getD_cons_zero, List.getD_cons_succ, List.getD_nil, leW, hn, show ((0 : UInt8).toNat : Int) = 0 from rfl]
    omega
set_option maxRecDepth 100000 in
theorem last_wrap (l : List UInt8) (h : l.length < 8) (n : Nat) :
    IntKind.u64.wrap (leW l + (n : Int) % 256 * 72057594037927936) = leW (lastBytes l n) := by
  have h0 := leW_nonneg l
  have h1 := leW_lt l
  have h2 : (256 : Int) ^ l.length ≤ 72057594037927936 := by
    match l.length, h with
    | 0, _ | 1, _ | 2, _ | 3, _ | 4, _ | 5, _ | 6, _ | 7, _ => decide
  rw [last_eq l h]
  simp only [IntKind.wrap_u64]
  omega
set_option maxRecDepth 100000 in
theorem Four.set2 {w : World} {b : Nat} {v : V4} (h : Four w b v) (x : Int) : Four (w.setCell ⟨b, 2, none⟩ (.int .u64 x)) b ⟨v.a, v.b, x, v.d⟩ := by
  obtain ⟨⟨c0, c1, c2, c3⟩, f0, f1, f2, f3⟩ := h
  simp [Four, go_sem, c0, c1, c2, c3, f0, f1, f2, f3]
def strLen : Value → Nat
  | .string t => t.size
  | _ => 0

set_option maxHeartbeats 400000 in
set_option maxRecDepth 100000 in
theorem sum13 (k : Nat → UInt8) (kb : ByteArray) (hk1 : (16 : Int) ≤ kb.size) (e1 : kb.extract 0 8 = ⟨(keyPart k 0).toArray⟩) (e2 : kb.extract 8 16 = ⟨(keyPart k 8).toArray⟩)
    (s : ByteArray) (hs : s.size ≤ 9223372036854775807) (w : World) :
    Calls Tryd.prog 44 #[.string kb, .string s] w fun e w' => e = .returned (.int .u64 (sip k s.data.toList)) ∧ Below w.heap.size w w' := by
  go_enter Tryd.func44, Tryd.ntmps44
  go_wp2_with (go_at_call 64; refine (calls_flop (word31 _ (by exact Nat.le_refl 8) _)).mono ?_; rintro e w' ⟨rfl, rfl⟩)
  generalize hW : World.alloc w _ = W
  have hb : Below w.heap.size w W := by subst hW; exact ((Below.refl _ _).alloc (Nat.le_refl _) _)
  have hz : w.heap.size < W.heap.size := by subst hW; simp
  have hF : Four W w.heap.size (start k) := by subst hW; simp [Four, start, xo]
  clear hW e1 e2
  generalize bits .xor .u64 (leW (keyPart k 0)) 8317987319222330741 = x0
  generalize bits .xor .u64 (leW (keyPart k 8)) 7237128888997146477 = x1
  generalize bits .xor .u64 (leW (keyPart k 0)) 7816392313619706465 = x2
  generalize bits .xor .u64 (leW (keyPart k 8)) 8387220255154660723 = x3
  generalize leW (keyPart k 0) = k0
  generalize leW (keyPart k 8) = k8
  go_loopw [1] (fun v wr => ∃ (m : Nat) (t : ByteArray), v = .string t ∧ Hid (t.data.toList = s.data.toList.drop (8 * m)) ∧ 8 * m ≤ s.size ∧ w.heap.size < wr.heap.size ∧ Four wr w.heap.size (abs s.data.toList (start k) m) ∧ Below w.heap.size w wr)
    (fun v _ => strLen v)
  case atStart => exact ⟨0, s, rfl, by simp [Hid], by simp, hz, hF, hb⟩
  case round =>
    clear hF hb hz
    obtain ⟨m, t, rfl, ht, hm, hz, hF, hb⟩ := hrel
    by_cases h8 : (8 : Int) ≤ t.size
    · have he := extract_list t 0 8
      rw [List.drop_zero, ht.out] at he
      have hs' : abs s.data.toList (start k) (m + 1) = absorb (abs s.data.toList (start k) m) (leW ((s.data.toList.drop (8 * m)).take 8)) := rfl
      generalize hv : abs s.data.toList (start k) m = v at *
      obtain ⟨va, vb, vc, vd⟩ := v
      clear hv
      have HF := Lib.hid hF
      obtain ⟨⟨c0, c1, c2, c3⟩, f0, f1, f2, f3⟩ := hF
      go_wp2_with fail
      refine region_tail 4 (by kernel_rfl) (by kernel_rfl) ?_
      simp only [List.take_succ_cons, List.take_zero, List.drop_succ_cons, List.drop_zero]
      still_step
      still_step
      still_step
      still_call (word31 _ (by simp; omega) _)
      refine still_tail_nil ?_
      go_wp2_with fail
      refine (take32 _ _ _ _ _ _).mono ?_
      rintro e w1 ⟨rfl, hb1⟩
      generalize absorb ⟨va, vb, vc, vd⟩ (leW ((s.data.toList.drop (8 * m)).take 8)) = u at *
      obtain ⟨ua, ub, uc, ud⟩ := u
      have HS := Lib.hid hs'
      clear hs'
      have HF1 := Four.below (w := wr.drew) HF.out hb1 hz
      have hz1 : w.heap.size < w1.heap.size := Nat.lt_of_lt_of_le hz hb1.size
      have hbel : Below w.heap.size w w1 := hb.drew.trans (hb1.mono (Nat.le_of_lt hz))
      have HF2 := Lib.hid HF1
      obtain ⟨⟨d0, d1, d2, d3⟩, g0, g1, g2, g3⟩ := HF1
      clear c0 c1 c2 c3 f0 f1 f2 f3 hb1 he
      have hm1 : 8 * (m + 1) ≤ s.size := by
        have h1 := ht.out
        have h2 := Lib.size_eq t
        rw [h1, List.length_drop] at h2
        have h3 := Lib.size_eq s
        omega
      go_wp2_with fail
      go_roundw
      case rel =>
        refine ⟨m + 1, t.extract 8 t.size, rfl, ?_, hm1, ?_, ?_, ?_⟩
        · show (t.extract 8 t.size).data.toList = _
          rw [Lib.extract_to_end, ht.out, List.drop_drop, show 8 * m + 8 = 8 * (m + 1) by omega]
        · exact Nat.lt_of_lt_of_eq hz1 (put4_size w1 _ _ _ _ _).symm
        · rw [HS.out]; exact HF2.out.put _ _ _ _
        · exact below_put4 hbel (Nat.le_refl _) _ _ _ _
      case measure =>
        simp [strLen]
        omega
    · have htl : t.data.toList.length < 8 := by rw [← Lib.size_eq]; omega
      have hm8 : m = s.data.toList.length / 8 := by
        have h1 := ht.out
        rw [h1, List.length_drop] at htl
        rw [Lib.size_eq] at hm
        omega
      have HM := Lib.hid hm8
      clear hm8
      generalize hv : abs s.data.toList (start k) m = v at *
      obtain ⟨va, vb, vc, vd⟩ := v
      have HV := Lib.hid hv
      clear hv
      have HF := Lib.hid hF
      have hw := word31 t.data.toList (by omega)
      have HW := Lib.hid hw
      clear hw
      obtain ⟨⟨c0, c1, c2, c3⟩, f0, f1, f2, f3⟩ := hF
      go_wp2_with fail
      refine region_tail 8 (by kernel_rfl) (by kernel_rfl) ?_
      simp only [List.take_succ_cons, List.take_zero, List.drop_succ_cons, List.drop_zero]
      still_step
      still_step
      still_call (HW.out _)
      still_step
      still_step
      still_step
      still_step
      still_step
      refine still_tail_nil ?_
      go_wp2_with fail
      rw [last_wrap t.data.toList htl s.size]
      refine (take32 _ _ _ _ _ _).mono ?_
      rintro e w1 ⟨rfl, hb1⟩
      have hh : sip k s.data.toList = finish (absorb (abs s.data.toList (start k) m) (leW (lastBytes t.data.toList s.size))) := by
        unfold sip
        rw [← HM.out, ← ht.out, ← Lib.size_eq]
      rw [HV.out] at hh
      generalize absorb ⟨va, vb, vc, vd⟩ (leW (lastBytes t.data.toList s.size)) = u at *
      obtain ⟨ua, ub, uc, ud⟩ := u
      have hh2 : finish ⟨ua, ub, uc, ud⟩ = xo (xo (xo (rnds 4 ⟨ua, ub, bits .xor .u64 uc 255, ud⟩).a (rnds 4 ⟨ua, ub, bits .xor .u64 uc 255, ud⟩).b) (rnds 4 ⟨ua, ub, bits .xor .u64 uc 255, ud⟩).c) (rnds 4 ⟨ua, ub, bits .xor .u64 uc 255, ud⟩).d := rfl
      have HH := Lib.hid (hh.trans hh2)
      clear hh hh2
      have HF1 := Four.below (w := wr.drew) HF.out hb1 hz
      have hz1 : w.heap.size < w1.heap.size := Nat.lt_of_lt_of_le hz hb1.size
      have hbel : Below w.heap.size w w1 := hb.drew.trans (hb1.mono (Nat.le_of_lt hz))
      have HF2 := Lib.hid HF1
      obtain ⟨⟨d0, d1, d2, d3⟩, g0, g1, g2, g3⟩ := HF1
      clear c0 c1 c2 c3 f0 f1 f2 f3 hb1
      go_wp2_with fail
      generalize hW : World.setCell _ _ _ = W2
      have hF2 : Four W2 w.heap.size ⟨ua, ub, bits .xor .u64 uc 255, ud⟩ := by subst hW; exact (HF2.out.put ua ub uc ud).set2 _
      have hb2 : Below w.heap.size w W2 := by subst hW; exact (below_put4 hbel (Nat.le_refl _) ua ub uc ud).setCell (Nat.le_refl _) _
      have hz2 : w.heap.size < W2.heap.size := by subst hW; simp; exact hz1
      clear hW hz1 HF2 hbel d0 d1 d2 d3 g0 g1 g2 g3 HW HM HV HF hb hz
      go_loopw [9] (fun i wr => ∃ j : Nat, j ≤ 4 ∧ i = .int .i64 j ∧ w.heap.size < wr.heap.size ∧ Four wr w.heap.size (rnds j ⟨ua, ub, bits .xor .u64 uc 255, ud⟩) ∧ Below w.heap.size w wr)
        (fun i _ => 4 - (intOf i).toNat)
      case atStart => exact ⟨0, by decide, rfl, hz2, hF2, hb2⟩
      case round =>
        clear hF2 hb2 hz2
        obtain ⟨j, hj, rfl, hz, hF, hb⟩ := hrel
        by_cases hlt : j < 4
        · have hs' : rnds (j + 1) ⟨ua, ub, bits .xor .u64 uc 255, ud⟩ = rnd (rnds j ⟨ua, ub, bits .xor .u64 uc 255, ud⟩) := rfl
          generalize hv : rnds j ⟨ua, ub, bits .xor .u64 uc 255, ud⟩ = v at *
          obtain ⟨va, vb, vc, vd⟩ := v
          clear hv
          have HF := Lib.hid hF
          obtain ⟨⟨c0, c1, c2, c3⟩, f0, f1, f2, f3⟩ := hF
          go_wp2_with fail
          refine (round33 _ _ _ _ _).mono ?_
          rintro e w1 ⟨rfl, hb1⟩
          generalize rnd ⟨va, vb, vc, vd⟩ = u at *
          obtain ⟨pa, pb, pc, pd⟩ := u
          have HS := Lib.hid hs'
          clear hs'
          have HF1 := Four.below HF.out hb1 hz
          have hz1 := Nat.lt_of_lt_of_le hz hb1.size
          have hbel := hb.trans (hb1.mono (Nat.le_of_lt hz))
          have HF2 := Lib.hid HF1
          obtain ⟨⟨d0, d1, d2, d3⟩, g0, g1, g2, g3⟩ := HF1
          clear c0 c1 c2 c3 f0 f1 f2 f3 hb1
          go_wp2_with fail
          go_roundw
          case rel =>
            refine ⟨j + 1, by omega, by go_num, ?_, ?_, ?_⟩
            · exact Nat.lt_of_lt_of_eq hz1 (put4_size w1 _ _ _ _ _).symm
            · rw [HS.out]; exact HF2.out.put _ _ _ _
            · exact below_put4 hbel (Nat.le_refl _) _ _ _ _
          case measure => simp [intOf]; omega
        · obtain rfl : j = 4 := by omega
          generalize rnds 4 ⟨ua, ub, bits .xor .u64 uc 255, ud⟩ = q at *
          obtain ⟨qa, qb, qc, qd⟩ := q
          obtain ⟨⟨c0, c1, c2, c3⟩, _⟩ := hF
          go_wp2_with fail
          go_ret
          exact ⟨by rw [HH.out]; rfl, hb⟩
end Go.Proofs.YtlcpkplipfcdaaaDoor
