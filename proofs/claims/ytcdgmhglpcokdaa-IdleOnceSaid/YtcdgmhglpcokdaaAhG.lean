/- agenda's queue: Pop, at both kinds of keys. -/
import Derived.Test.YtcdgmhglpcokdaaAhF
namespace Go.Proofs.Ytcdgmhglpcokdaa
open Go.RowKit

theorem popS (ab g n c p : Nat) {o : Nat} (w : World) (hn : n + 1 ≤ 9223372036854775807) (hc : n + 1 ≤ c) (hq : w.cell? ⟨ab, o, none⟩ = some (.slice (some ⟨g, 0, none⟩) (n + 1) c)) (ci : w.cell? ⟨g, n, none⟩ = some (.pointer (some ⟨p, 0, none⟩)))
    (f1 : w.frozen? ⟨ab, o, none⟩ = false) (f2 : w.frozen? ⟨g, n, none⟩ = false) (hga : g ≠ ab) :
    Calls Try.prog 98 #[.pointer (some ⟨ab, o, none⟩)] w fun e w' => e = .returned (.iface 107 (.pointer (some ⟨p, 0, none⟩))) ∧ w' = (w.setCell ⟨g, n, none⟩ (.pointer none)).setCell ⟨ab, o, none⟩ (.slice (some ⟨g, 0, none⟩) n c) := by
  have hq2 : (w.setCell ⟨g, n, none⟩ (.pointer none)).cell? ⟨ab, o, none⟩ = some (.slice (some ⟨g, 0, none⟩) (n + 1) c) := by rw [setC_far hga]; exact hq
  have h1 : ((n : Int) + 1 - 1) = n := by omega
  have h2 : (n : Int) < (n : Int) + 1 := by omega
  go_enter Try.func98, Try.ntmps98
  go_wp2_with fail
  go_ret
  exact ⟨rfl, rfl⟩
theorem popN (ab g n c p : Nat) {o : Nat} (w : World) (hn : n + 1 ≤ 9223372036854775807) (hc : n + 1 ≤ c) (hq : w.cell? ⟨ab, o, none⟩ = some (.slice (some ⟨g, 0, none⟩) (n + 1) c)) (ci : w.cell? ⟨g, n, none⟩ = some (.pointer (some ⟨p, 0, none⟩)))
    (f1 : w.frozen? ⟨ab, o, none⟩ = false) (f2 : w.frozen? ⟨g, n, none⟩ = false) (hga : g ≠ ab) :
    Calls Try.prog 95 #[.pointer (some ⟨ab, o, none⟩)] w fun e w' => e = .returned (.iface 97 (.pointer (some ⟨p, 0, none⟩))) ∧ w' = (w.setCell ⟨g, n, none⟩ (.pointer none)).setCell ⟨ab, o, none⟩ (.slice (some ⟨g, 0, none⟩) n c) := by
  have hq2 : (w.setCell ⟨g, n, none⟩ (.pointer none)).cell? ⟨ab, o, none⟩ = some (.slice (some ⟨g, 0, none⟩) (n + 1) c) := by rw [setC_far hga]; exact hq
  have h1 : ((n : Int) + 1 - 1) = n := by omega
  have h2 : (n : Int) < (n : Int) + 1 := by omega
  go_enter Try.func95, Try.ntmps95
  go_wp2_with fail
  go_ret
  exact ⟨rfl, rfl⟩
end Go.Proofs.Ytcdgmhglpcokdaa
