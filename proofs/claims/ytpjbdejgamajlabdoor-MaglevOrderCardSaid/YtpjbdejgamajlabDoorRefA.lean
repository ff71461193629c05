/- SipHash, the reference: round and take. -/
import Derived.Test.YtpjbdejgamajlabDoorSipC
namespace Go.Proofs.YtpjbdejgamajlabDoor
open Go.RowKit

theorem below_drewN' {B : Nat} {a w : World} (h : Below B a w) (n : Nat) : Below B a (w.drewN n) := ⟨h.os, h.tape, h.output, h.size, h.block⟩

end Go.Proofs.YtpjbdejgamajlabDoor
