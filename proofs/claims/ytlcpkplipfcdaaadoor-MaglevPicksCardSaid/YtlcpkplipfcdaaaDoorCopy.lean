/- The builtin copy of a string into a new array of bytes. -/
import Derived.Test.YtlcpkplipfcdaaaDoorMath
import Derived.Lib.BufferWrite
namespace Go.Proofs.YtlcpkplipfcdaaaDoor
open Go.RowKit Go.Lib

set_option maxRecDepth 100000 in
theorem size5 : (Tryd.prog.info? 5).map (·.size) = some 1 := by kernel_rfl
def byteAt (l : List UInt8) (i : Nat) : Int := ((l.getD i 0).toNat : Int)
/-- So many bytes of a list, followed by zeros. -/
def padded (l : List UInt8) (n : Nat) : List Value := (List.range n).map fun i => .int .u8 (byteAt l i)

set_option maxRecDepth 100000 in
theorem padded_eq (l : List UInt8) (n : Nat) : byteCells (l.take n) ++ (List.replicate n (Value.int .u8 0)).drop (min l.length n) = padded l n := by
  apply List.ext_getElem
  · simp [padded, byteCells]; omega
  · intro i h1 h2
    simp [padded] at h2
    simp only [padded, List.getElem_map, List.getElem_range, byteAt]
    by_cases h : i < l.length
    · rw [List.getElem_append_left (by simp [byteCells]; omega)]
      simp [byteCells, List.getD, h]
    · rw [List.getElem_append_right (by simp [byteCells]; omega)]
      simp [List.getD, List.getElem?_eq_none (show l.length ≤ i by omega)]

set_option maxRecDepth 100000 in
theorem setRow_alloc (w : World) (z cs : Array Value) (T : TypeId) : (w.alloc (.cells z T)).setRow w.heap.size cs = w.alloc (.cells cs T) := by
  have h : (w.heap.push (.cells z T)).modify w.heap.size (fun | .cells _ elem frozen => .cells cs elem frozen | o => o) = w.heap.push (.cells cs T) := by
    apply Array.ext
    · simp
    · intro i h1 h2
      simp only [Array.getElem_modify, Array.getElem_push]
      by_cases hi : i < w.heap.size
      · simp [hi, show w.heap.size ≠ i by omega]
      · simp at h2
        have : w.heap.size = i := by omega
        simp [this]
  exact congrArg (fun hp => { w with heap := hp }) h
set_option maxRecDepth 100000 in
theorem run_copy_fresh {P : Program} (w : World) (dT sT ty elem T : TypeId) (n : Nat) (s : ByteArray) (z : Array Value) (hz : z.toList = List.replicate n (Value.int .u8 0))
    (hu : P.underlying dT = some (.slice elem)) (hs : (P.info? elem).map (·.size) = some 1) :
    (Builtin.copy_ #[dT, sT] ty #[.slice (some ⟨w.heap.size, 0, none⟩) n n, .string s]).run P (w.alloc (.cells z T)) =
      .ok (goInt (min s.size n : Nat)) (w.alloc (.cells (padded s.data.toList n).toArray T)) := by
  have hg : (w.alloc (.cells z T)).heap[w.heap.size]? = some (.cells z T (0, 0)) := by
    show (w.heap.push _)[w.heap.size]? = _
    simp
  have hlen : (byteCells (s.data.toList.take n)).length = min n s.size := by rw [byteCells_length, List.length_take, ← size_eq]
  have hzs : z.size = n := by rw [← Array.length_toList, hz, List.length_replicate]
  have hst := run_storeCells_at P w.heap.size 0 T (byteCells (s.data.toList.take n)) 0 _ _ hg (by rw [hlen, hzs]; omega) (byteCells_one _)
  have htk : List.take (min s.size n) (List.map (fun b : UInt8 => Value.int IntKind.u8 (b.toNat : Int)) s.data.toList) = byteCells (s.data.toList.take n) := by
    rw [byteCells, List.map_take, Nat.min_comm, show s.size = (List.map (fun b : UInt8 => Value.int IntKind.u8 (b.toNat : Int)) s.data.toList).length by rw [List.length_map, ← size_eq], ← List.take_eq_take_min]
  rw [hlen, setRow_alloc, hz] at hst
  simp only [Nat.add_zero, Nat.zero_add, List.take_zero, List.nil_append] at hst
  have hp := padded_eq s.data.toList n
  rw [← size_eq, Nat.min_comm] at hp
  rw [hp] at hst
  cases hq : P.info? elem with
  | none => simp [hq] at hs
  | some i =>
    have hmin : Nat.min s.size n = min s.size n := rfl
    simp [Builtin.copy_, run_underlying hu, Builtin.lenOf, Builtin.firstCells, sizeOf, typeInfo, hq, hmin]
    rw [htk, hst]
    simp [Result.andThen]
end Go.Proofs.YtlcpkplipfcdaaaDoor
