/- The walk of the statement SiphashSums. -/
import Derived.Test.YtpmkcmkohobmfaaDoorAwakeA
import Derived.Deep.RegionHeld3
namespace Go.Proofs.YtpmkcmkohobmfaaDoor
open Go.RowKit

theorem u8_bounds {z : Int} (h : (Lit.int .u8 z).wf = true) : 0 ≤ z ∧ z < 256 := by
  simp only [Lit.wf, Bool.and_eq_true, decide_eq_true_eq, show IntKind.u8.min = 0 from rfl, show IntKind.u8.max = 255 from rfl] at h
  omega
theorem key_of (zs : List Int) (hn : zs.length = 16) (hw : ∀ z ∈ zs, 0 ≤ z ∧ z < 256) : Value.agg (zs.map (Value.int .u8)).toArray = keyVal (fun i => UInt8.ofNat (zs.getD i 0).toNat) := by
  have hz : ∀ z ∈ zs, ((UInt8.ofNat z.toNat).toNat : Int) = z := fun z h => by
    have := hw z h
    rw [UInt8.toNat_ofNat']; omega
  clear hw
  match zs, hn with
  | [a0, a1, a2, a3, a4, a5, a6, a7, a8, a9, a10, a11, a12, a13, a14, a15], _ =>
    simp only [keyVal, List.getD_cons_zero, List.getD_cons_succ]
    rw [hz a0 (by simp), hz a1 (by simp), hz a2 (by simp), hz a3 (by simp), hz a4 (by simp), hz a5 (by simp), hz a6 (by simp), hz a7 (by simp), hz a8 (by simp), hz a9 (by simp), hz a10 (by simp), hz a11 (by simp), hz a12 (by simp), hz a13 (by simp), hz a14 (by simp), hz a15 (by simp)]
    rfl

/-- The reference's Sum at a key's sixteen bytes. -/
theorem ref_sum (k : Nat → UInt8) (s : ByteArray) (hs : s.size ≤ 9223372036854775807) (w : World) :
    Calls Tryd.prog 13 #[.string ⟨(keyPart k 0 ++ keyPart k 8).toArray⟩, .string s] w fun e w' => e = .returned (.int .u64 (sip k s.data.toList)) ∧ Below w.heap.size w w' :=
  sum13 k ⟨(keyPart k 0 ++ keyPart k 8).toArray⟩ (by simp [keyPart, ByteArray.size]) (by rw [extract_list]; rfl) (by rw [extract_list]; rfl) s hs w

theorem key_all {k : Nat → UInt8} {W : World} {b : Nat} (h : IsKey W b k) :
    (convert 29 9 (.slice (some ⟨b, 0, none⟩) 16 16)).run Tryd.prog W = .ok (.string ⟨(keyPart k 0 ++ keyPart k 8).toArray⟩) W := by
  have := run_convert_bytes_arg (P := Tryd.prog) W 29 5 Tryd.underlying29 Tryd.underlying5 b 0 16 16 ((keyPart k 0 ++ keyPart k 8).map fun x => (x.toNat : Int)) (by simp [keyPart]) ?_ 9 Tryd.underlying9
  · rw [this]
    simp [strOfNums, keyPart]
  · intro i hi
    have h1 := h i hi
    rw [Nat.zero_add, h1]
    have h16 : i = 0 ∨ i = 1 ∨ i = 2 ∨ i = 3 ∨ i = 4 ∨ i = 5 ∨ i = 6 ∨ i = 7 ∨ i = 8 ∨ i = 9 ∨ i = 10 ∨ i = 11 ∨ i = 12 ∨ i = 13 ∨ i = 14 ∨ i = 15 := by omega
    rcases h16 with rfl | rfl | rfl | rfl | rfl | rfl | rfl | rfl | rfl | rfl | rfl | rfl | rfl | rfl | rfl | rfl <;> rfl

/-- A key's cells. -/
def keyCells (k : Nat → UInt8) : List Value := [.int .u8 ((k 0).toNat : Int), .int .u8 ((k 1).toNat : Int), .int .u8 ((k 2).toNat : Int), .int .u8 ((k 3).toNat : Int), .int .u8 ((k 4).toNat : Int), .int .u8 ((k 5).toNat : Int), .int .u8 ((k 6).toNat : Int), .int .u8 ((k 7).toNat : Int), .int .u8 ((k 8).toNat : Int), .int .u8 ((k 9).toNat : Int), .int .u8 ((k 10).toNat : Int), .int .u8 ((k 11).toNat : Int), .int .u8 ((k 12).toNat : Int), .int .u8 ((k 13).toNat : Int), .int .u8 ((k 14).toNat : Int), .int .u8 ((k 15).toNat : Int)]
theorem key_facts {k : Nat → UInt8} {w' : World} {b : Nat} (h : IsKey w' b k) : w'.rangeAt b 0 (keyCells k) ∧ (convert 29 9 (.slice (some ⟨b, 0, none⟩) 16 16)).run Tryd.prog w' = .ok (.string ⟨(keyPart k 0 ++ keyPart k 8).toArray⟩) w' := by
  refine ⟨?_, key_all h⟩
  intro i v hv
  have hi : i < 16 := by
    rcases Nat.lt_or_ge i 16 with h | h
    · exact h
    · rw [List.getElem?_eq_none (show (keyCells k).length ≤ i from h)] at hv; cases hv
  have hv' : (keyCells k)[i]? = some (.int .u8 ((k i).toNat : Int)) := by
    have h16 : i = 0 ∨ i = 1 ∨ i = 2 ∨ i = 3 ∨ i = 4 ∨ i = 5 ∨ i = 6 ∨ i = 7 ∨ i = 8 ∨ i = 9 ∨ i = 10 ∨ i = 11 ∨ i = 12 ∨ i = 13 ∨ i = 14 ∨ i = 15 := by omega
    rcases h16 with rfl | rfl | rfl | rfl | rfl | rfl | rfl | rfl | rfl | rfl | rfl | rfl | rfl | rfl | rfl | rfl <;> rfl
  rw [hv'] at hv
  rw [Nat.zero_add, h i hi, hv]
theorem under22 : Tryd.prog.underlying 22 = some (.array 16 5) := by kernel_rfl
theorem size22 (k : Nat → UInt8) : (Tryd.prog.info? 22).map (·.size) = some (keyCells k).length := by
  show _ = some 16
  kernel_rfl
theorem IsKey.drew {k : Nat → UInt8} {W : World} {b : Nat} (h : IsKey W b k) : IsKey W.drew b k := h
theorem IsKey.alloc {k : Nat → UInt8} {W : World} {b : Nat} (h : IsKey W b k) (hb : b < W.heap.size) (o : Obj) : IsKey (W.alloc o) b k :=
  h.below ((Below.refl _ _).alloc (Nat.le_refl _) _) hb

theorem sum_one_drew (k : Nat → UInt8) (s : ByteArray) (w : World) (T : TypeId) (hi : Ini w) (hs : s.size ≤ 140737488355328) :
    Calls Tryd.prog 12 #[.agg (keyCells k).toArray, .slice (some ⟨w.heap.size, 0, none⟩) 1 1] (w.alloc (.cells #[.string s] T)).drew fun e w' => e = .returned (.int .u64 (sip k s.data.toList)) ∧ Below w.heap.size w w' :=
  (sum_one k s w.drew T ⟨hi.lt, hi.c0, hi.c1, hi.c2, hi.c3⟩ hs).mono fun _ _ ⟨he, hb⟩ => ⟨he, ⟨hb.os, hb.tape, hb.output, hb.size, hb.block⟩⟩

set_option maxHeartbeats 400000 in
theorem law3 (k : Nat → UInt8) (s : ByteArray) (w : World) (hi : Ini w) :
    Calls Tryd.prog 3 #[keyVal k, .string s] w fun e w' => e = .returned (.bool true) ∧ Below w.heap.size w w' := by
  unfold keyVal
  have HI := Lib.hid hi
  clear hi
  go_enter Tryd.func3, Tryd.ntmps3
  go_wp2_with fail
  generalize hW : World.alloc w _ = W
  have hk : IsKey W w.heap.size k := by
    subst hW
    intro i hi
    have h16 : i = 0 ∨ i = 1 ∨ i = 2 ∨ i = 3 ∨ i = 4 ∨ i = 5 ∨ i = 6 ∨ i = 7 ∨ i = 8 ∨ i = 9 ∨ i = 10 ∨ i = 11 ∨ i = 12 ∨ i = 13 ∨ i = 14 ∨ i = 15 := by omega
    rcases h16 with rfl | rfl | rfl | rfl | rfl | rfl | rfl | rfl | rfl | rfl | rfl | rfl | rfl | rfl | rfl | rfl <;> simp
  have hb : Below w.heap.size w W := by subst hW; exact ((Below.refl _ _).alloc (Nat.le_refl _) _)
  have hz : w.heap.size < W.heap.size := by subst hW; simp
  clear hW
  refine (awake10 W (HI.out.below hb)).mono ?_
  rintro e w1 ⟨rfl, hb1⟩
  have hk1 := hk.below hb1 hz
  have hi1 : Ini w1 := (HI.out.below hb).below hb1
  have hbel : Below w.heap.size w w1 := hb.trans (hb1.mono (Nat.le_of_lt hz))
  have hz1 := Nat.lt_of_lt_of_le hz hb1.size
  clear hk hb hz hb1 HI
  generalize (Value.agg #[.int .u8 (k 0).toNat, .int .u8 (k 1).toNat, .int .u8 (k 2).toNat, .int .u8 (k 3).toNat, .int .u8 (k 4).toNat, .int .u8 (k 5).toNat, .int .u8 (k 6).toNat, .int .u8 (k 7).toNat, .int .u8 (k 8).toNat, .int .u8 (k 9).toNat, .int .u8 (k 10).toNat, .int .u8 (k 11).toNat, .int .u8 (k 12).toNat, .int .u8 (k 13).toNat, .int .u8 (k 14).toNat, .int .u8 (k 15).toNat]) = kv
  go_wp2_with (go_at_call 11; refine (cut11 s 200 _).mono ?_; rintro e w' ⟨rfl, rfl⟩)
  have hcs := cutS_size s 200
  generalize cutS s 200 = t at *
  have hu22 := under22
  have hs22 := size22 k
  go_region_held3 (fun w' => w'.rangeAt w.heap.size 0 (keyCells k) ∧ (convert 29 9 (.slice (some ⟨w.heap.size, 0, none⟩) 16 16)).run Tryd.prog w' = .ok (.string ⟨(keyPart k 0 ++ keyPart k 8).toArray⟩) w')
    (first | exact key_facts hk1 | exact key_facts hk1.drew | exact key_facts (hk1.alloc hz1 _) | exact key_facts (hk1.drew.alloc hz1 _) | exact key_facts hk2 | exact key_facts hk3 | go_keep)
    (first
      | (go_at_call 12; refine (sum_one_drew k t w1 _ hi1 (by omega)).mono ?_; rintro e w2 ⟨rfl, hb2⟩; have hk2 : IsKey w2 w.heap.size k := hk1.below hb2 hz1; have hz2 : w.heap.size < w2.heap.size := Nat.lt_of_lt_of_le hz1 hb2.size)
      | (go_at_call 13; refine (ref_sum k t (by omega) _).mono ?_; rintro e w3 ⟨rfl, hb3⟩; have hk3 : IsKey w3 w.heap.size k := hk2.below hb3 hz2))
  have hbe : Below w.heap.size w w3 := (hbel.trans (hb2.mono (Nat.le_of_lt hz1))).trans (hb3.mono (Nat.le_of_lt hz2))
  generalize sip k t.data.toList = v at *
  clear hu22 hs22 hk1 hk2 hk3
  go_wp2_with fail
  go_ret
  exact ⟨rfl, hbe⟩
end Go.Proofs.YtpmkcmkohobmfaaDoor
