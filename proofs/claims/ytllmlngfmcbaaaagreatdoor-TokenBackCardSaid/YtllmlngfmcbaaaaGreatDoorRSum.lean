/- BLAKE2s, the reference: Sum. -/
import Derived.Test.YtllmlngfmcbaaaaGreatDoorROrd
import Derived.Laws.BytesArg
namespace Go.Proofs.YtllmlngfmcbaaaaGreatDoor
open Go.RowKit

/-- What is used of the reference's block. -/
def BlkSpec : Prop := ∀ (hv : Value) (q : Nat → Int) (b : ByteArray) (_ : b.size = 64) (t : Int) (_ : 0 ≤ t) (_ : t < 4611686018427387904) (last : Bool) (w : World) (_ : SW 8 w hv q),
    Calls Tryz.prog 75 #[hv, .string b, .int .i64 t, .bool last] w fun e w' => ∃ v, e = .returned v ∧ SW 8 w' v (procF q (wordsOf b.data.toList) t last) ∧ Below w.heap.size w w'
/-- The bytes of the hash. -/
def blakeL (l : List UInt8) : List UInt8 := (List.range 32).map fun i => UInt8.ofNat (blakeB l i).toNat
theorem pad64_app (l : List UInt8) (k : Nat) (h : l.length + k = 64) : wordsOf (l ++ List.replicate k 0) = wordsOf l := by
  funext i
  unfold wordsOf
  congr 3
  unfold pad64
  apply List.map_congr_left
  intro j hj
  rw [List.mem_range] at hj
  simp only [List.getD_eq_getElem?_getD]
  by_cases h1 : j < l.length
  · rw [List.getElem?_append_left h1]
  · rw [List.getElem?_append_right (by omega), List.getElem?_eq_none (show l.length ≤ j by omega), List.getElem?_replicate]
    split <;> rfl
theorem xor_u32' (a b : Int) : bits .xor .u32 a b = ((BitVec.ofInt 32 a ^^^ BitVec.ofInt 32 b).toNat : Int) := by
  show IntKind.u32.wrap (((BitVec.ofInt 32 a ^^^ BitVec.ofInt 32 b).toNat : Nat) : Int) = _
  have := (BitVec.ofInt 32 a ^^^ BitVec.ofInt 32 b).isLt
  rw [IntKind.wrap_u32']
  omega
theorem x32_range (a b : Int) : 0 ≤ x32 a b ∧ x32 a b < 4294967296 := by
  unfold x32
  rw [xor_u32']
  have := (BitVec.ofInt 32 a ^^^ BitVec.ofInt 32 b).isLt
  omega
theorem blakeF_range (l : List UInt8) (i : Nat) : 0 ≤ blakeF l i ∧ blakeF l i < 4294967296 := by
  unfold blakeF procF
  exact x32_range _ _
def strLen : Value → Nat
  | .string t => t.size
  | _ => 0
/-- Bytes that have just been put into a new slice, as a string. -/
theorem new_bytes (w : World) (T : TypeId) (ns : List Int) (n : Nat) (hn : ns.length = n) :
    (convert 62 9 (.slice (some ⟨w.heap.size, 0, none⟩) n n)).run Tryz.prog (w.alloc (.cells (ns.map (Value.int .u8)).toArray T)) = .ok (.string (strOfNums ns)) (w.alloc (.cells (ns.map (Value.int .u8)).toArray T)) := by
  subst hn
  refine run_convert_bytes_arg (P := Tryz.prog) (w.alloc (.cells (ns.map (Value.int .u8)).toArray T)) 62 5 Tryz.underlying62 Tryz.underlying5 w.heap.size 0 _ _ ns rfl (fun i hi => ?_) 9 Tryz.underlying9
  have hg : (w.alloc (.cells (ns.map (Value.int .u8)).toArray T)).heap[w.heap.size]? = some (.cells (ns.map (Value.int .u8)).toArray T (0, 0)) := by
    show (w.heap.push _)[w.heap.size]? = _
    simp
  rw [Nat.zero_add, cell_of_row _ _ _ _ _ _ hg]
  simp [hi]
/-- So many bytes of the hash. -/
def outTo (l : List UInt8) (n : Nat) : List UInt8 := (List.range n).map fun i => UInt8.ofNat (blakeB l i).toNat
theorem outTo_step (l : List UInt8) (k : Nat) : outTo l (4 * (k + 1)) = outTo l (4 * k) ++ (strOfNums [blakeF l k % 256, blakeF l k / 256 % 256, blakeF l k / 65536 % 256, blakeF l k / 16777216 % 256]).data.toList := by
  have h0 : blakeB l (4 * k) = blakeF l k % 256 := by unfold blakeB byteOf; rw [show 4 * k / 4 = k by omega, show 8 * (4 * k % 4) = 0 by omega]; simp
  have h1 : blakeB l (4 * k + 1) = blakeF l k / 256 % 256 := by unfold blakeB byteOf; rw [show (4 * k + 1) / 4 = k by omega, show 8 * ((4 * k + 1) % 4) = 8 by omega]; rfl
  have h2 : blakeB l (4 * k + 1 + 1) = blakeF l k / 65536 % 256 := by unfold blakeB byteOf; rw [show (4 * k + 1 + 1) / 4 = k by omega, show 8 * ((4 * k + 1 + 1) % 4) = 16 by omega]; rfl
  have h3 : blakeB l (4 * k + 1 + 1 + 1) = blakeF l k / 16777216 % 256 := by unfold blakeB byteOf; rw [show (4 * k + 1 + 1 + 1) / 4 = k by omega, show 8 * ((4 * k + 1 + 1 + 1) % 4) = 24 by omega]; rfl
  unfold outTo
  rw [show 4 * (k + 1) = 4 * k + 1 + 1 + 1 + 1 by omega, List.range_succ, List.range_succ, List.range_succ, List.range_succ]
  simp only [List.map_append, List.map_cons, List.map_nil, h0, h1, h2, h3, List.append_assoc]
  rfl
theorem wordsOf_take (l : List UInt8) : wordsOf (l.take 64) = wordsOf l := by
  funext i
  unfold wordsOf
  congr 3
  unfold pad64
  apply List.map_congr_left
  intro j hj
  rw [List.mem_range] at hj
  simp only [List.getD_eq_getElem?_getD, List.getElem?_take, if_pos hj]

set_option maxRecDepth 100000 in
set_option maxHeartbeats 1000000 in
theorem rsum13 (hblk : BlkSpec) (s : ByteArray) (hs : s.size ≤ 140737488355328) (w : World) :
    Calls Tryz.prog 52 #[.string s] w fun e w' => e = .returned (.string ⟨(blakeL s.data.toList).toArray⟩) ∧ Below w.heap.size w w' := by
  have HBLK := Lib.hid hblk
  clear hblk
  go_enter Tryz.func52, Tryz.ntmps52
  go_wp2_with fail
  refine (rfirst30 w).mono ?_
  rintro e w1 ⟨rfl, hw1, hb1, hz1⟩
  have V1 := Lib.hid hw1
  have k1 := (V1.out 0 (by decide)).1
  have k2 := (V1.out 0 (by decide)).2
  clear hw1
  go_wp2_with fail
  generalize hW : World.setCell _ _ _ = w2
  have hV : Words 8 w2 w.heap.size blake0 := by subst hW; exact V1.out.put 0 _
  have hon : Only w.heap.size w1 w2 := by subst hW; exact (Only.refl _ _).put _ _
  have V2 : Hid (SW 8 w2 (.slice (some ⟨w.heap.size, 0, none⟩) 8 8) blake0) := ⟨_, _, rfl, Nat.lt_of_lt_of_eq hz1 hon.size.symm, Nat.le_refl _, hV⟩
  have L2 : Below w.heap.size w w2 := hon.below hb1 (Nat.le_refl _)
  clear hW hV hon V1 k1 k2 hb1 hz1
  generalize (bits BinOp.xor IntKind.u32 (iv 0) 16842784) = v13
  generalize iv 0 = v12
  go_loopw [0, 3, 4] (fun sv hv cv wr => ∃ (k : Nat) (t : ByteArray), (k = 0 ∨ 64 * k < s.size) ∧ sv = .string t ∧ cv = .int .i64 ((64 * k : Nat) : Int) ∧ Hid (t.data.toList = s.data.toList.drop (64 * k)) ∧ Hid (SW 8 wr hv (absB s.data.toList k)) ∧ Below w.heap.size w wr)
    (fun sv _ _ _ => strLen sv)
  case atStart => exact ⟨0, s, .inl rfl, rfl, rfl, by simp [Hid], V2, L2⟩
  case round =>
    clear V2 L2
    obtain ⟨k, t, hk, rfl, rfl, ht, V, hb⟩ := hrel
    have htl : t.size = s.size - 64 * k := by rw [Lib.size_eq, ht.out, List.length_drop, ← Lib.size_eq]
    obtain ⟨d, hd⟩ : ∃ d, d = 64 * k := ⟨_, rfl⟩
    rw [← hd] at hk htl ⊢
    have hk0 : k = 0 → d = 0 := fun h => by rw [hd, h]
    have hds : d ≤ s.size := by
      rcases hk with h | h
      · have := hk0 h; omega
      · omega
    have HD := Lib.hid hd
    have HTL := Lib.hid htl
    have HK0 := Lib.hid hk0
    have htz : t.size ≤ s.size := by omega
    clear hd hk0
    by_cases h64 : (64 : Int) < t.size
    · have he := extract_list' t 0 64
      have hez : (t.extract 0 64).size = 64 := by rw [ByteArray.size_extract]; omega
      have hwo : wordsOf (t.extract 0 64).data.toList = wordsOf (s.data.toList.drop d) := by
        rw [he, HD.out, ← ht.out]
        show wordsOf ((t.data.toList.drop 0).take (64 - 0)) = _
        rw [List.drop_zero, Nat.sub_zero, wordsOf_take]
      have HWO := Lib.hid hwo
      have hf' : absB s.data.toList (k + 1) = procF (absB s.data.toList k) (wordsOf (s.data.toList.drop d)) ((d : Int) + 64) false := by rw [HD.out]; rfl
      have HF := Lib.hid hf'
      clear he hwo hf' htl
      have hd47 : d + 64 < 140737488355329 := by have := HTL.out; omega
      have h64' : (64 : Int) ≤ t.size := by omega
      go_wp2_with fail
      refine (HBLK.out u3 (absB s.data.toList k) (t.extract 0 64) hez _ (by omega) (by omega) false _ V.out).mono ?_
      rintro e w3 ⟨v3, rfl, hv3, hb3⟩
      rw [HWO.out, ← HF.out] at hv3
      have hbel : Below w.heap.size w w3 := hb.trans (hb3.mono hb.size)
      have HV3 := Lib.hid hv3
      clear hv3 hb3 hb V HWO HF
      go_wp2_with fail
      go_roundw
      case rel =>
        refine ⟨k + 1, t.extract 64 t.size, .inr ?_, rfl, ?_, ?_, HV3, hbel⟩
        · have h1 := HD.out
          have h2 := HTL.out
          omega
        · have := HD.out
          rw [show 64 * (k + 1) = d + 64 by omega]
          go_num
        · show (t.extract 64 t.size).data.toList = _
          rw [Lib.extract_to_end, ht.out, List.drop_drop, show 64 * k + 64 = 64 * (k + 1) by omega]
      case measure =>
        simp [strLen]
        omega
    · have hkk : k = (s.data.toList.length - 1) / 64 := by
        have h1 := HD.out
        rw [← Lib.size_eq]
        rcases hk with h | h
        · have := HK0.out h; omega
        · omega
      have hds2 : (d : Int) + t.size = s.size := by omega
      have hfin : blakeF s.data.toList = procF (absB s.data.toList k) (wordsOf t.data.toList) (s.size : Int) true := by
        unfold blakeF
        rw [← hkk, ht.out, ← Lib.size_eq]
      have HFIN := Lib.hid hfin
      have HDS2 := Lib.hid hds2
      have h64' : t.size ≤ 64 := by omega
      have hd47 : d ≤ 140737488355328 := by omega
      clear hkk hfin ht hds2 htl
      go_wp2_with fail
      rw [HDS2.out]
      obtain ⟨wo, hwo⟩ : ∃ wo : World, wo = wr := ⟨_, rfl⟩
      have V5 := V
      have hb5 := hb
      clear V hb
      subst hwo
      go_loop [0] (fun sv => ∃ (n : Nat) (z : ByteArray), t.size + n ≤ 64 ∧ sv = .string z ∧ Hid (z.data.toList = t.data.toList ++ List.replicate n 0)) (fun sv => 64 - strLen sv)
      case atStart => exact ⟨0, t, by omega, rfl, by simp [Hid]⟩
      case round =>
        obtain ⟨n, z, hn, rfl, hz⟩ := hrel
        have hzs : z.size = t.size + n := by rw [Lib.size_eq, hz.out, List.length_append, List.length_replicate, ← Lib.size_eq]
        by_cases hlt : (z.size : Int) < 64
        · have HZS := Lib.hid hzs
          have hz64 : z.size ≤ 64 := by omega
          clear hzs
          go_wp2_with fail
          go_round
          case rel =>
            have := HZS.out
            refine ⟨n + 1, z ++ ⟨#[0]⟩, by omega, rfl, ?_⟩
            show (z ++ ⟨#[0]⟩ : ByteArray).data.toList = _
            rw [List.replicate_succ', ← List.append_assoc, ← hz.out]
            simp
          case measure =>
            show 64 - (z ++ ⟨#[0]⟩ : ByteArray).size < 64 - z.size
            rw [ByteArray.size_append, show (⟨#[0]⟩ : ByteArray).size = 1 from rfl]
            omega
        · have hz64 : z.size = 64 := by omega
          have hwz : wordsOf z.data.toList = wordsOf t.data.toList := by
            rw [hz.out, pad64_app _ _ (by rw [← Lib.size_eq]; omega)]
          have HWZ := Lib.hid hwz
          have HZ64 := Lib.hid hz64
          clear hwz hzs hz hz64
          go_wp2_with fail
          refine (HBLK.out u3 (absB s.data.toList k) z HZ64.out _ (by omega) (by omega) true _ V5.out).mono ?_
          rintro e w3 ⟨v3, rfl, hv3, hb3⟩
          rw [HWZ.out, ← HFIN.out] at hv3
          have hbel : Below w.heap.size w w3 := hb5.trans (hb3.mono hb5.size)
          obtain ⟨g, cap, rfl, hg, hcap, hw⟩ := hv3
          have WV := Lib.hid hw
          clear hw hb3 hb5 V5 HFIN HWZ
          go_wp2_with fail
          go_loopw [5, 7, 42] (fun ov _ i wq => ∃ (n : Nat) (z : ByteArray), n ≤ 8 ∧ i = .int .i64 (n : Int) ∧ ov = .string z ∧ Hid (z.data.toList = outTo s.data.toList (4 * n)) ∧ Below w3.heap.size w3 wq)
            (fun _ _ i _ => 8 - (intOf i).toNat)
          case atStart => exact ⟨0, ⟨#[]⟩, by decide, rfl, rfl, rfl, Below.refl _ _⟩
          case round =>
            obtain ⟨n, z, hn, rfl, rfl, hz, hbq⟩ := hrel
            by_cases hlt : n < 8
            · have m1 := ((WV.out.below hbq hg) n hlt).1
              have ⟨r1, r2⟩ := blakeF_range s.data.toList n
              have hst := outTo_step s.data.toList n
              have w4 : blakeF s.data.toList n / 16777216 % 256 = blakeF s.data.toList n / 16777216 := by omega
              rw [w4] at hst
              generalize blakeF s.data.toList n = q at *
              have HST := Lib.hid hst
              clear hst
              have hcv := fun (W : World) (T : TypeId) => new_bytes W T [q % 256, q / 256 % 256, q / 65536 % 256, q / 16777216] 4 rfl
              simp only [List.map_cons, List.map_nil] at hcv
              have hss : (strOfNums [q % 256, q / 256 % 256, q / 65536 % 256, q / 16777216]).size ≤ 4 := by rw [strOfNums_size]; simp
              have j1 : (n : Int) < 8 := by omega
              have hzl : z.size ≤ 32 := by rw [Lib.size_eq, hz.out]; simp [outTo]; omega
              have w1 : q % 256 % 256 = q % 256 := by omega
              go_wp2_with fail
              go_roundw
              case rel =>
                refine ⟨n + 1, z ++ strOfNums [q % 256, q / 256 % 256, q / 65536 % 256, q / 16777216], hlt, by go_num, rfl, ?_, hbq.alloc hbq.size _⟩
                show (z ++ strOfNums _ : ByteArray).data.toList = _
                rw [HST.out, ← hz.out]
                simp
              case measure => simp [intOf]; omega
            · obtain rfl : n = 8 := by omega
              clear hlt hn
              have hzf : Ending.returned (.string z) = .returned (.string ⟨(blakeL s.data.toList).toArray⟩) := by
                have : z = ⟨(blakeL s.data.toList).toArray⟩ := by
                  apply ByteArray.ext
                  apply Array.toList_inj.1
                  rw [hz.out]; rfl
                rw [this]
              have HZF := Lib.hid hzf
              have hbel2 := hbel.trans (hbq.mono hbel.size)
              clear hzf hz
              go_wp2_with fail
              go_ret
              exact ⟨HZF.out, hbel2⟩
end Go.Proofs.YtllmlngfmcbaaaaGreatDoor
