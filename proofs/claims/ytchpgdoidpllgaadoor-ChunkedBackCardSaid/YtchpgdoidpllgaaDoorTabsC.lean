/- The library's variables that chunked's rows list: what a row says of them; a world that lays them. -/
import Derived.Test.YtchpgdoidpllgaaDoorRows
import Derived.Test.YtchpgdoidpllgaaDoorChY
import Derived.Lib.LaidTab
import Derived.LaidLaws
import Derived.Stop.LaidErr
import Derived.Shelf.Vars
import Derived.KernelRfl
namespace Go.Proofs.YtchpgdoidpllgaaDoor
open Go.RowKit

theorem gDeb32 : Tryd.prog.globalNamed "math/bits.deBruijn32tab" = some 1 := by kernel_rfl
theorem gDeb64 : Tryd.prog.globalNamed "math/bits.deBruijn64tab" = some 2 := by kernel_rfl
theorem gDeb64T : (Tryd.prog.globals[2]?).map (·.type) = some 92 := by kernel_rfl
theorem gSyn : Tryd.prog.globalNamed "strconv.ErrSyntax" = some 3 := by kernel_rfl
theorem gSynT : (Tryd.prog.globals[3]?).map (·.type) = some 54 := by kernel_rfl
theorem cellsD64 : Tryd.prog.cellsOf 92 = 64 := by kernel_rfl
theorem cellsU8 : Tryd.prog.cellsOf 5 = 1 := by kernel_rfl
theorem cellsErr : Tryd.prog.cellsOf 106 = 1 := by kernel_rfl
theorem cellsStr : Tryd.prog.cellsOf 9 = 1 := by kernel_rfl
theorem starErr : "*" ++ "errors.errorString" = "*errors.errorString" := by decide
theorem rowErr (u : TypeId) (h : Tryd.prog.typeName? 3 u = some "*errors.errorString") : u = 104 :=
  typeName_ptr_named (nm := "errors.errorString") (by rw [starErr]; kernel_rfl) (by kernel_rfl) (by decide) u (by rw [starErr]; exact h)
theorem laidC {W : World} {d0 d2 : DataW Unit} {n0 n2 : String} {rest : List (String × DataW Unit)} 
    (h : laidMet Tryd.prog ((n0, d0) :: ("math/bits.deBruijn64tab", Rows.laid_math_bits_deBruijn64tab) :: (n2, d2) :: ("strconv.ErrRange", Rows.laid_strconv_ErrRange) :: ("strconv.ErrSyntax", Rows.laid_strconv_ErrSyntax) :: rest) W) : LaidC W := by
  have h1 : Lib.TabIs Tryd.prog W "math/bits.deBruijn64tab" .u8 [0, 1, 56, 2, 57, 49, 28, 3, 61, 58, 42, 50, 38, 29, 17, 4, 62, 47, 59, 36, 45, 43, 51, 22, 53, 39, 33, 30, 24, 18, 12, 5, 63, 55, 48, 27, 60, 41, 37, 16, 46, 35, 44, 21, 52, 32, 23, 11, 54, 26, 40, 15, 34, 20, 31, 10, 25, 14, 19, 9, 13, 8, 7, 6] :=
    Lib.tabIs_of_head gDeb64 gDeb64T Tryd.underlying92 Tryd.underlying5 cellsU8 cellsD64 (laidMet.tail h)
  have c15 : W.cell? ⟨2, 15, none⟩ = some (.int .u8 4) := h1.cell gDeb64 15 (by decide)
  obtain ⟨a0, s0, hv0, _, _, _⟩ := laid_sentinel (laidMet.tail (laidMet.tail (laidMet.tail (laidMet.tail h)))) gSyn gSynT Tryd.underlying54 rowErr Tryd.underlying104 Tryd.underlying106 rfl rfl Tryd.underlying9 cellsErr cellsStr
  have cs : W.cell? ⟨3, 0, none⟩ = some (.iface 104 (.pointer (some a0))) := by simpa using World.var?_cell gSyn hv0 0
  exact ⟨⟨World.block_lt_of_cell? W _ cs, _, _, cs⟩, ⟨World.block_lt_of_cell? W _ c15, c15⟩⟩

/-- The numbers of a datum. -/
def numsOf : DataW Unit → List Value
  | .agg ds => numsAll ds
  | .lit (.int k z) => [.int k z]
  | _ => []
where numsAll : List (DataW Unit) → List Value
  | [] => []
  | d :: r => numsOf d ++ numsAll r
def layAs (cs : Array Value) : Obj → Obj
  | .cells _ t frozen => .cells cs t frozen
  | o => o
noncomputable def low : Nat := (World.holding Tryd.prog default ⟨#[], #[], []⟩).heap.size
noncomputable def chHeap (h : Array Obj) : Array Obj :=
  let h0 := h.modify 1 (layAs (numsOf Rows.laid_math_bits_deBruijn32tab).toArray)
  let h1 := h0.modify 2 (layAs (numsOf Rows.laid_math_bits_deBruijn64tab).toArray)
  let h2 := h1.modify 0 (layAs (numsOf Rows.laid_internal_strconv_uint64pow10).toArray)
  let h4 := h2.modify 4 (layAs #[.iface 104 (.pointer (some ⟨low, 0, none⟩))])
  h4.modify 3 (layAs #[.iface 104 (.pointer (some ⟨low + 1, 0, none⟩))])
noncomputable def chWorld (os : Os) : World :=
  let w0 := World.holding Tryd.prog os ⟨#[.cells #[.string ⟨#[118, 97, 108, 117, 101, 32, 111, 117, 116, 32, 111, 102, 32, 114, 97, 110, 103, 101]⟩] 106, .cells #[.string ⟨#[105, 110, 118, 97, 108, 105, 100, 32, 115, 121, 110, 116, 97, 120]⟩] 106], #[], []⟩
  { w0 with heap := chHeap w0.heap }
theorem i64_top2 {n : Int} (h : (Lit.int .i64 n).wf = true) : n ≤ 9223372036854775807 := by
  simp only [Lit.wf, Bool.and_eq_true, decide_eq_true_eq, show IntKind.i64.max = 9223372036854775807 from rfl] at h
  omega
theorem i64_low {n : Int} (h : (Lit.int .i64 n).wf = true) : -9223372036854775808 ≤ n := by
  simp only [Lit.wf, Bool.and_eq_true, decide_eq_true_eq, show IntKind.i64.min = -9223372036854775808 from rfl] at h
  omega
end Go.Proofs.YtchpgdoidpllgaaDoor
