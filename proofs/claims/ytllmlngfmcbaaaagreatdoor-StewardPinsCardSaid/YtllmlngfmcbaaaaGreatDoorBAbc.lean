/- BLAKE2s of "abc", reckoned. -/
import Derived.Test.YtllmlngfmcbaaaaGreatDoorBHex
namespace Go.Proofs.YtllmlngfmcbaaaaGreatDoor
open Go.RowKit
theorem blake_abc : hexL (blakeL [97, 98, 99]) = [53, 48, 56, 99, 53, 101, 56, 99, 51, 50, 55, 99, 49, 52, 101, 50, 101, 49, 97, 55, 50, 98, 97, 51, 52, 101, 101, 98, 52, 53, 50, 102, 51, 55, 52, 53, 56, 98, 50, 48, 57, 101, 100, 54, 51, 97, 50, 57, 52, 100, 57, 57, 57, 98, 52, 99, 56, 54, 54, 55, 53, 57, 56, 50] := by decide +kernel
end Go.Proofs.YtllmlngfmcbaaaaGreatDoor
