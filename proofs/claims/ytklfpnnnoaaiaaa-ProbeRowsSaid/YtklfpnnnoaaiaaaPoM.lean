/- probe: what a result does, as math. -/
import Derived.Test.YtklfpnnnoaaiaaaBase
namespace Go.Proofs.Ytklfpnnnoaaiaaa
open Go.RowKit

/-- A probe: up, how many good and bad results, since when. -/
structure Prb where
  up : Bool
  g : Int
  b : Int
  s : Int
def Prb.cells (p : Prb) : Array Value := #[.bool p.up, .int .i64 p.g, .int .i64 p.b, .int .i64 p.s]
/-- How many are wanted, limited. -/
def limN (x m : Int) : Int := min (max x 1) m
/-- One more of a number that counts as 0 at least. -/
def one1 (x : Int) : Int := max x 0 + 1
def resG (p : Prb) (rise now : Int) : Prb × Bool :=
  if p.up = true then (⟨true, p.g, 0, p.s⟩, false) else if one1 p.g < rise then (⟨false, one1 p.g, 0, p.s⟩, false) else (⟨true, 0, 0, now⟩, true)
def resB (p : Prb) (fall now : Int) : Prb × Bool :=
  if p.up = true then (if one1 p.b < fall then (⟨true, 0, one1 p.b, p.s⟩, false) else (⟨false, 0, 0, now⟩, true)) else (⟨false, 0, p.b, p.s⟩, false)
/-- What comes of a result. -/
def resP (p : Prb) (rise fall : Int) (good : Bool) (now : Int) : Prb × Bool := if good = true then resG p rise now else resB p fall now
end Go.Proofs.Ytklfpnnnoaaiaaa
