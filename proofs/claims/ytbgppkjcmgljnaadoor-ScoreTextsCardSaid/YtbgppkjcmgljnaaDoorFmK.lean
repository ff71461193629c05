/- strconv.fmtEFG: one text, whatever the world. -/
import Derived.Test.YtbgppkjcmgljnaaDoorFmHat0
import Derived.Test.YtbgppkjcmgljnaaDoorFmHat1
import Derived.Test.YtbgppkjcmgljnaaDoorFmHat2
import Derived.Test.YtbgppkjcmgljnaaDoorFmHaf0
import Derived.Test.YtbgppkjcmgljnaaDoorFmHaf1
import Derived.Test.YtbgppkjcmgljnaaDoorFmHaf2
import Derived.Test.YtbgppkjcmgljnaaDoorFmHbt0
import Derived.Test.YtbgppkjcmgljnaaDoorFmHbt1
import Derived.Test.YtbgppkjcmgljnaaDoorFmHbt2
import Derived.Test.YtbgppkjcmgljnaaDoorFmHbf0
import Derived.Test.YtbgppkjcmgljnaaDoorFmHbf1
import Derived.Test.YtbgppkjcmgljnaaDoorFmHbf2
import Derived.Test.YtbgppkjcmgljnaaDoorFmJpa
import Derived.Test.YtbgppkjcmgljnaaDoorFmJpb
import Derived.Test.YtbgppkjcmgljnaaDoorFmJnb
import Derived.Test.YtbgppkjcmgljnaaDoorFmJz
import Derived.Test.YtbgppkjcmgljnaaDoorFmS
namespace Go.Proofs.YtbgppkjcmgljnaaDoor
open Go.RowKit

theorem efg_all (nz : Nat) (g : Nat → UInt8) (neg : Bool) (dp : Int) (hn : nz ≤ 20) (hd0 : -450 ≤ dp) (hd1 : dp ≤ 450) : ∃ l : List UInt8, ∀ (B b : Nat) (w0 : World) (v : Value) (w : World), OwnB B b nz g w0 v [] w →
    Calls Tryd.prog 43 #[v, .bool neg, .slice (some ⟨b, 0, none⟩) 32 32, .int .i64 dp, .int .i64 (nz : Int), .int .i64 (nz : Int), .int .u8 103, .bool true] w fun e w' =>
      ∃ v', e = .returned v' ∧ OwnB B b nz g w0 v' l w' := by
  by_cases h1 : dp < -3
  · obtain ⟨n, hq⟩ := Int.eq_ofNat_of_zero_le (show 0 ≤ 1 - dp by omega)
    obtain rfl : dp = 1 - (n : Int) := by omega
    cases neg
    · skip
      rcases (show nz = 0 ∨ nz = 1 ∨ 2 ≤ nz by omega) with rfl | rfl | h5
      · exact ⟨_, fun B b w0 v w hO => efgEaf0 B b g w0 n v w hO (by omega) (by omega)⟩
      · exact ⟨_, fun B b w0 v w hO => efgEaf1 B b g w0 n v w hO (by omega) (by omega)⟩
      · exact ⟨_, fun B b w0 v w hO => efgEaf2 B b nz g w0 n v w hO hn h5 (by omega) (by omega)⟩
    · skip
      rcases (show nz = 0 ∨ nz = 1 ∨ 2 ≤ nz by omega) with rfl | rfl | h5
      · exact ⟨_, fun B b w0 v w hO => efgEat0 B b g w0 n v w hO (by omega) (by omega)⟩
      · exact ⟨_, fun B b w0 v w hO => efgEat1 B b g w0 n v w hO (by omega) (by omega)⟩
      · exact ⟨_, fun B b w0 v w hO => efgEat2 B b nz g w0 n v w hO hn h5 (by omega) (by omega)⟩
  by_cases h2 : 7 ≤ dp
  · cases neg
    · skip
      rcases (show nz = 0 ∨ nz = 1 ∨ 2 ≤ nz by omega) with rfl | rfl | h5
      · exact ⟨_, fun B b w0 v w hO => efgEbf0 B b g w0 dp v w hO hd0 hd1 h2⟩
      · exact ⟨_, fun B b w0 v w hO => efgEbf1 B b g w0 dp v w hO hd0 hd1 h2⟩
      · exact ⟨_, fun B b w0 v w hO => efgEbf2 B b nz g w0 dp v w hO hn h5 hd0 hd1 h2⟩
    · skip
      rcases (show nz = 0 ∨ nz = 1 ∨ 2 ≤ nz by omega) with rfl | rfl | h5
      · exact ⟨_, fun B b w0 v w hO => efgEbt0 B b g w0 dp v w hO hd0 hd1 h2⟩
      · exact ⟨_, fun B b w0 v w hO => efgEbt1 B b g w0 dp v w hO hd0 hd1 h2⟩
      · exact ⟨_, fun B b w0 v w hO => efgEbt2 B b nz g w0 dp v w hO hn h5 hd0 hd1 h2⟩
  by_cases h3 : 1 ≤ dp
  · obtain ⟨p, rfl⟩ := Int.eq_ofNat_of_zero_le (show 0 ≤ dp by omega)
    by_cases h4 : nz ≤ p
    · exact ⟨_, fun B b w0 v w hO => efgFpa B b nz g w0 neg p v w hO hn (by omega) (by omega) h4⟩
    · exact ⟨_, fun B b w0 v w hO => efgFpb B b nz g w0 neg p v w hO hn (by omega) (by omega) (by omega)⟩
  · obtain ⟨p, hp⟩ := Int.eq_ofNat_of_zero_le (show 0 ≤ -dp by omega)
    obtain rfl : dp = -(p : Int) := by omega
    by_cases h4 : 0 < nz + p
    · exact ⟨_, fun B b w0 v w hO => efgFnb B b nz g w0 neg p v w hO hn (by omega) h4⟩
    · obtain rfl : nz = 0 := by omega
      obtain rfl : p = 0 := by omega
      exact ⟨_, fun B b w0 v w hO => efgFz B b g w0 neg v w hO⟩
end Go.Proofs.YtbgppkjcmgljnaaDoor
