/- strconv.fmtEFG: the digits of an exponent. -/
import Derived.Test.YtbgppkjcmgljnaaDoorFmG
namespace Go.Proofs.YtbgppkjcmgljnaaDoor
open Go.RowKit

def expZ (a : Int) : List UInt8 :=
  if a < 10 then [48, UInt8.ofNat (a + 48).toNat]
  else if a < 100 then [UInt8.ofNat (a / 10 + 48).toNat, UInt8.ofNat (a % 10 + 48).toNat]
  else [UInt8.ofNat (a / 100 + 48).toNat, UInt8.ofNat (a / 10 % 10 + 48).toNat, UInt8.ofNat (a % 10 + 48).toNat]
theorem expZ_1 {n : Int} (h : n < 10) : expZ n = [48, UInt8.ofNat (n + 48).toNat] := if_pos h
theorem expZ_2 {n : Int} (h : ¬ n < 10) (h2 : n < 100) : expZ n = [UInt8.ofNat (n / 10 + 48).toNat, UInt8.ofNat (n % 10 + 48).toNat] := by
  unfold expZ; rw [if_neg h, if_pos h2]
theorem expZ_3 {n : Int} (h : ¬ n < 10) (h2 : ¬ n < 100) : expZ n = [UInt8.ofNat (n / 100 + 48).toNat, UInt8.ofNat (n / 10 % 10 + 48).toNat, UInt8.ofNat (n % 10 + 48).toNat] := by
  unfold expZ; rw [if_neg h, if_neg h2]
end Go.Proofs.YtbgppkjcmgljnaaDoor
