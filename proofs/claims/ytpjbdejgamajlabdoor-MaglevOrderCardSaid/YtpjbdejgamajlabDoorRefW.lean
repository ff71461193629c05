/- Reading words: the reference's Word. -/
import Derived.Test.YtpjbdejgamajlabDoorMath
namespace Go.Proofs.YtpjbdejgamajlabDoor
open Go.RowKit

end Go.Proofs.YtpjbdejgamajlabDoor
