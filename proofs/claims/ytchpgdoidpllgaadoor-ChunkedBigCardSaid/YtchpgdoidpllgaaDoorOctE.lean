/- The reference of octet: letter, digit, blank, In, Token, Target. -/
import Derived.Test.YtchpgdoidpllgaaDoorOctC
namespace Go.Proofs.YtchpgdoidpllgaaDoor
open Go.RowKit

set_option maxHeartbeats 400000 in
theorem digit59 (c : UInt8) (r : Bool) (hr : isDec c = r) (w : World) :
    Calls Tryd.prog 24 #[.int .u8 (c.toNat : Int)] w fun e w' => e = .returned (.bool r) ∧ w = w' := by
  have hc := byte_lt c
  have H : (c.toNat < 48 ∧ r = false) ∨ (48 ≤ c.toNat ∧ c.toNat ≤ 57 ∧ r = true) ∨ (57 < c.toNat ∧ r = false) := by
    rw [← hr]; clear hc hr r w; revert c; apply all256; decide +kernel
  clear hr
  rcases H with ⟨h1, rfl⟩ | ⟨h1, h2, rfl⟩ | ⟨h1, rfl⟩
  · have : ¬ (c.toNat : Int) ≥ 48 := by omega
    go_enter Tryd.func24, Tryd.ntmps24
    go_wp2_with fail
    go_ret
    exact ⟨rfl, rfl⟩
  · have : (c.toNat : Int) ≥ 48 := by omega
    have : (c.toNat : Int) ≤ 57 := by omega
    go_enter Tryd.func24, Tryd.ntmps24
    go_wp2_with fail
    go_ret
    exact ⟨rfl, rfl⟩
  · have : (c.toNat : Int) ≥ 48 := by omega
    have : ¬ (c.toNat : Int) ≤ 57 := by omega
    go_enter Tryd.func24, Tryd.ntmps24
    go_wp2_with fail
    go_ret
    exact ⟨rfl, rfl⟩
theorem byte_eq (c d : UInt8) : ((c.toNat : Int) == (d.toNat : Int)) = (c == d) := by
  by_cases h : c = d
  · subst h; simp
  · have : ¬ (c.toNat : Int) = (d.toNat : Int) := fun e => h (UInt8.toNat_inj.1 (by omega))
    rw [beq_eq_false_iff_ne.2 this, beq_eq_false_iff_ne.2 h]
theorem contains_take_no {s : ByteArray} {b : UInt8} {j : Nat} (hj : j < s.size) (h : (s.data.toList.take j).contains b = false) (hb : (s[j] == b) = false) : (s.data.toList.take (j + 1)).contains b = false := by
  rw [take_snoc s j hj]
  have h' : ¬ b ∈ s.data.toList.take j := fun hm => by rw [List.contains_iff_mem.2 hm] at h; cases h
  rw [Bool.eq_false_iff]
  intro hc
  have hc' := List.contains_iff_mem.1 hc
  rw [List.mem_append] at hc'
  rcases hc' with hc' | hc'
  · exact h' hc'
  · rw [List.mem_singleton] at hc'
    exact (beq_eq_false_iff_ne.1 hb) hc'.symm
theorem contains_yes {s : ByteArray} {b : UInt8} {j : Nat} (hj : j < s.size) (hb : (s[j] == b) = true) : s.data.toList.contains b = true := by
  have : s[j] = b := by simpa using hb
  rw [List.contains_iff_mem, ← this]
  exact List.mem_of_getElem? (toList_get s j hj)
end Go.Proofs.YtchpgdoidpllgaaDoor
