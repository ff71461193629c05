/- The table of the powers of ten, out of what a row says of it. -/
import Derived.Test.YtkajfocjpaemgaaDoorTabsO
import Derived.Test.YtkajfocjpaemgaaDoorNumP
namespace Go.Proofs.YtkajfocjpaemgaaDoor
open Go.RowKit

theorem gPowT : (Tryd.prog.globals[2]?).map (·.type) = some 105 := by kernel_rfl
theorem cellsP20 : Tryd.prog.cellsOf 105 = 20 := by kernel_rfl
theorem cellsU64 : Tryd.prog.cellsOf 86 = 1 := by kernel_rfl
theorem pow_list : Lib.pow10Tab = [1, 10, 100, 1000, 10000, 100000, 1000000, 10000000, 100000000, 1000000000, 10000000000, 100000000000, 1000000000000, 10000000000000, 100000000000000, 1000000000000000, 10000000000000000, 100000000000000000, 1000000000000000000, 10000000000000000000] := by decide +kernel
theorem pow_laid {W : World} {d0 d1 : String × DataW Unit} {rest : List (String × DataW Unit)}
    (h : laidMet Tryd.prog (d0 :: d1 :: ("internal/strconv.uint64pow10", Rows.laid_internal_strconv_uint64pow10) :: rest) W) : Pow W := by
  unfold Pow
  rw [pow_list]
  exact Lib.tabIs_of_head gPow gPowT Tryd.underlying105 Tryd.underlying86 cellsU64 cellsP20 (laidMet.tail (laidMet.tail h))
theorem i64_top {n : Int} (h : (Lit.int .i64 n).wf = true) : n < 9223372036854775808 := by
  simp only [Lit.wf, Bool.and_eq_true, decide_eq_true_eq, show IntKind.i64.max = 9223372036854775807 from rfl] at h
  omega
end Go.Proofs.YtkajfocjpaemgaaDoor
