/- The walks of the statements OctetMay, OctetCases. -/
import Derived.Test.YtchpgdoidpllgaaDoorAwakeO
import Derived.Test.YtchpgdoidpllgaaDoorCut
namespace Go.Proofs.YtchpgdoidpllgaaDoor
open Go.RowKit

theorem self_eq (T : ByteArray) : (T.toList == T.toList) = true := by simp
theorem str_deq (a b : List UInt8) : ((⟨a.toArray⟩ : ByteArray).toList == (⟨b.toArray⟩ : ByteArray).toList) = decide (a = b) := by
  rw [ByteArray.toList_eq, ByteArray.toList_eq]
  by_cases h : a = b
  · subst h; simp
  · rw [decide_eq_false h]
    simpa using h
end Go.Proofs.YtchpgdoidpllgaaDoor
