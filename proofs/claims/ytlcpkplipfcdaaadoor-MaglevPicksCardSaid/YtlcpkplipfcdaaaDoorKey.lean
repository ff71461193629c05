/- siphash.KeyOf and lastWord. -/
import Derived.Test.YtlcpkplipfcdaaaDoorBegin
import Derived.Test.YtlcpkplipfcdaaaDoorCopy
namespace Go.Proofs.YtlcpkplipfcdaaaDoor
open Go.RowKit Go.Lib

set_option maxRecDepth 100000 in
theorem padded16 (s : ByteArray) : (padded s.data.toList 16).toArray = #[.int .u8 (byteAt s.data.toList 0), .int .u8 (byteAt s.data.toList 1), .int .u8 (byteAt s.data.toList 2), .int .u8 (byteAt s.data.toList 3), .int .u8 (byteAt s.data.toList 4), .int .u8 (byteAt s.data.toList 5), .int .u8 (byteAt s.data.toList 6), .int .u8 (byteAt s.data.toList 7), .int .u8 (byteAt s.data.toList 8), .int .u8 (byteAt s.data.toList 9), .int .u8 (byteAt s.data.toList 10), .int .u8 (byteAt s.data.toList 11), .int .u8 (byteAt s.data.toList 12), .int .u8 (byteAt s.data.toList 13), .int .u8 (byteAt s.data.toList 14), .int .u8 (byteAt s.data.toList 15)] := rfl
theorem padded8 (s : ByteArray) : (padded s.data.toList 8).toArray = #[.int .u8 (byteAt s.data.toList 0), .int .u8 (byteAt s.data.toList 1), .int .u8 (byteAt s.data.toList 2), .int .u8 (byteAt s.data.toList 3), .int .u8 (byteAt s.data.toList 4), .int .u8 (byteAt s.data.toList 5), .int .u8 (byteAt s.data.toList 6), .int .u8 (byteAt s.data.toList 7)] := rfl

set_option maxHeartbeats 400000 in
set_option maxRecDepth 100000 in
theorem key17 (s : ByteArray) (w : World) :
    Calls Tryd.prog 11 #[.string s] w fun e w' => e = .returned (keyVal fun i => s.data.toList.getD i 0) ∧ Below w.heap.size w w' := by
  have hcp := run_copy_fresh (P := Tryd.prog) (ty := 3) (w.alloc (.cells #[.int .u8 0, .int .u8 0, .int .u8 0, .int .u8 0, .int .u8 0, .int .u8 0, .int .u8 0, .int .u8 0, .int .u8 0, .int .u8 0, .int .u8 0, .int .u8 0, .int .u8 0, .int .u8 0, .int .u8 0, .int .u8 0] 26)) 38 9 5 26 16 s #[.int .u8 0, .int .u8 0, .int .u8 0, .int .u8 0, .int .u8 0, .int .u8 0, .int .u8 0, .int .u8 0, .int .u8 0, .int .u8 0, .int .u8 0, .int .u8 0, .int .u8 0, .int .u8 0, .int .u8 0, .int .u8 0] rfl Tryd.underlying38 size5
  rw [padded16, show (w.alloc (.cells #[.int .u8 0, .int .u8 0, .int .u8 0, .int .u8 0, .int .u8 0, .int .u8 0, .int .u8 0, .int .u8 0, .int .u8 0, .int .u8 0, .int .u8 0, .int .u8 0, .int .u8 0, .int .u8 0, .int .u8 0, .int .u8 0] 26)).heap.size = w.heap.size + 1 by simp] at hcp
  go_enter Tryd.func11, Tryd.ntmps11
  go_wp2_with fail
  refine bodyPost_ret (v := .agg #[.int .u8 (byteAt s.data.toList 0), .int .u8 (byteAt s.data.toList 1), .int .u8 (byteAt s.data.toList 2), .int .u8 (byteAt s.data.toList 3), .int .u8 (byteAt s.data.toList 4), .int .u8 (byteAt s.data.toList 5), .int .u8 (byteAt s.data.toList 6), .int .u8 (byteAt s.data.toList 7), .int .u8 (byteAt s.data.toList 8), .int .u8 (byteAt s.data.toList 9), .int .u8 (byteAt s.data.toList 10), .int .u8 (byteAt s.data.toList 11), .int .u8 (byteAt s.data.toList 12), .int .u8 (byteAt s.data.toList 13), .int .u8 (byteAt s.data.toList 14), .int .u8 (byteAt s.data.toList 15)]) ?_ rfl ⟨rfl, ?_⟩
  · simp [results, Tryd.results11, go_sem]
  · exact ((Below.refl _ _).alloc (Nat.le_refl _) _).alloc (by simp) _

/-- The last word's bytes. -/
def lastBytes (l : List UInt8) (n : Nat) : List UInt8 := [l.getD 0 0, l.getD 1 0, l.getD 2 0, l.getD 3 0, l.getD 4 0, l.getD 5 0, l.getD 6 0, UInt8.ofNat (n % 256)]

set_option maxHeartbeats 400000 in
set_option maxRecDepth 100000 in
theorem last29 (s : ByteArray) (n : Nat) (w : World) :
    Calls Tryd.prog 86 #[.string s, .int .i64 n] w fun e w' => e = .returned (.int .u64 (leW (lastBytes s.data.toList n))) ∧ Below w.heap.size w w' := by
  have hcp := run_copy_fresh (P := Tryd.prog) (ty := 3) w 38 9 5 174 8 s #[.int .u8 0, .int .u8 0, .int .u8 0, .int .u8 0, .int .u8 0, .int .u8 0, .int .u8 0, .int .u8 0] rfl Tryd.underlying38 size5
  rw [padded8] at hcp
  have hcv := run_convert_bytes_arg (P := Tryd.prog) (w.alloc (.cells #[.int .u8 (byteAt s.data.toList 0), .int .u8 (byteAt s.data.toList 1), .int .u8 (byteAt s.data.toList 2), .int .u8 (byteAt s.data.toList 3), .int .u8 (byteAt s.data.toList 4), .int .u8 (byteAt s.data.toList 5), .int .u8 (byteAt s.data.toList 6), .int .u8 ((n : Int) % 256)] 174)) 38 5 Tryd.underlying38 Tryd.underlying5 w.heap.size 0 8 8 [byteAt s.data.toList 0, byteAt s.data.toList 1, byteAt s.data.toList 2, byteAt s.data.toList 3, byteAt s.data.toList 4, byteAt s.data.toList 5, byteAt s.data.toList 6, (n : Int) % 256] rfl (by
    intro i hi
    have h8 : i = 0 ∨ i = 1 ∨ i = 2 ∨ i = 3 ∨ i = 4 ∨ i = 5 ∨ i = 6 ∨ i = 7 := by omega
    rcases h8 with rfl | rfl | rfl | rfl | rfl | rfl | rfl | rfl <;> simp) 9 Tryd.underlying9
  have hst : strOfNums [byteAt s.data.toList 0, byteAt s.data.toList 1, byteAt s.data.toList 2, byteAt s.data.toList 3, byteAt s.data.toList 4, byteAt s.data.toList 5, byteAt s.data.toList 6, (n : Int) % 256] = ⟨(lastBytes s.data.toList n).toArray⟩ := by
    simp [strOfNums, lastBytes, byteAt]
    rw [show ((n : Int) % 256).toNat = n % 256 by omega]
  rw [hst] at hcv
  clear hst
  go_enter Tryd.func86, Tryd.ntmps86
  go_wp2_with (go_at_call 85; refine (word_list _ rfl _).mono ?_; rintro e w' ⟨rfl, rfl⟩)
  go_ret
  exact ⟨rfl, (Below.refl _ _).alloc (Nat.le_refl _) _⟩
end Go.Proofs.YtlcpkplipfcdaaaDoor
