/- agenda's queue: Pop, at both kinds of keys. -/
import Derived.Test.YtoikgphbicnhaaaAgF
namespace Go.Proofs.Ytoikgphbicnhaaa
open Go.RowKit

theorem popS (ab g n c p : Nat) (w : World) (hn : n + 1 ≤ 9223372036854775807) (hc : n + 1 ≤ c) (hq : w.cell? ⟨ab, 0, none⟩ = some (.slice (some ⟨g, 0, none⟩) (n + 1) c)) (ci : w.cell? ⟨g, n, none⟩ = some (.pointer (some ⟨p, 0, none⟩)))
    (f1 : w.frozen? ⟨ab, 0, none⟩ = false) (f2 : w.frozen? ⟨g, n, none⟩ = false) (hga : g ≠ ab) :
    Calls Try.prog 170 #[.pointer (some ⟨ab, 0, none⟩)] w fun e w' => e = .returned (.iface 100 (.pointer (some ⟨p, 0, none⟩))) ∧ w' = (w.setCell ⟨g, n, none⟩ (.pointer none)).setCell ⟨ab, 0, none⟩ (.slice (some ⟨g, 0, none⟩) n c) := by
  have hq2 : (w.setCell ⟨g, n, none⟩ (.pointer none)).cell? ⟨ab, 0, none⟩ = some (.slice (some ⟨g, 0, none⟩) (n + 1) c) := by rw [setC_far hga]; exact hq
  have h1 : ((n : Int) + 1 - 1) = n := by omega
  have h2 : (n : Int) < (n : Int) + 1 := by omega
  go_enter Try.func170, Try.ntmps170
  go_wp2_with fail
  go_ret
  exact ⟨rfl, rfl⟩
theorem popN (ab g n c p : Nat) (w : World) (hn : n + 1 ≤ 9223372036854775807) (hc : n + 1 ≤ c) (hq : w.cell? ⟨ab, 0, none⟩ = some (.slice (some ⟨g, 0, none⟩) (n + 1) c)) (ci : w.cell? ⟨g, n, none⟩ = some (.pointer (some ⟨p, 0, none⟩)))
    (f1 : w.frozen? ⟨ab, 0, none⟩ = false) (f2 : w.frozen? ⟨g, n, none⟩ = false) (hga : g ≠ ab) :
    Calls Try.prog 168 #[.pointer (some ⟨ab, 0, none⟩)] w fun e w' => e = .returned (.iface 111 (.pointer (some ⟨p, 0, none⟩))) ∧ w' = (w.setCell ⟨g, n, none⟩ (.pointer none)).setCell ⟨ab, 0, none⟩ (.slice (some ⟨g, 0, none⟩) n c) := by
  have hq2 : (w.setCell ⟨g, n, none⟩ (.pointer none)).cell? ⟨ab, 0, none⟩ = some (.slice (some ⟨g, 0, none⟩) (n + 1) c) := by rw [setC_far hga]; exact hq
  have h1 : ((n : Int) + 1 - 1) = n := by omega
  have h2 : (n : Int) < (n : Int) + 1 := by omega
  go_enter Try.func168, Try.ntmps168
  go_wp2_with fail
  go_ret
  exact ⟨rfl, rfl⟩
end Go.Proofs.Ytoikgphbicnhaaa
