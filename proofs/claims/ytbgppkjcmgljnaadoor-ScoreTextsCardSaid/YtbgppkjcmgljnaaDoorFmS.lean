/- strconv.shortFloat: the bounds of what it gives. -/
import Derived.Test.YtbgppkjcmgljnaaDoorFmE
namespace Go.Proofs.YtbgppkjcmgljnaaDoor
open Go.RowKit

theorem wrapU_in (z : Int) : 0 ≤ IntKind.u64.wrap z ∧ IntKind.u64.wrap z < 18446744073709551616 := by rw [IntKind.wrap_u64]; omega
theorem shRF_in (m e mn mx od p : Int) (h0 : -348 ≤ p) (h1 : p ≤ 347) : 0 ≤ (shRF m e mn mx od p).1 ∧ (shRF m e mn mx od p).1 < 18446744073709551616 ∧ -400 ≤ (shRF m e mn mx od p).2 ∧ (shRF m e mn mx od p).2 ≤ 400 := by
  have e1 : wrap64 (p - 1) = p - 1 := IntWalk.wrap64_in _ (by omega)
  have e2 : wrap64 (-(p - 1)) = -(p - 1) := IntWalk.wrap64_in _ (by omega)
  have e3 : wrap64 (-p) = -p := IntWalk.wrap64_in _ (by omega)
  unfold shRF
  simp only
  split
  · simp only [e1, e2]
    refine ⟨(wrapU_in _).1, (wrapU_in _).2, by omega, by omega⟩
  · split
    · simp only [e3]
      unfold rndF
      have h2 := wrapU_in (IntKind.u64.wrap (uscF m.toNat (rowF p).1 (rowF p).2 (-(e + p * 108853 / 32768 + 3)) + 1) + bits .and .u64 (uscF m.toNat (rowF p).1 (rowF p).2 (-(e + p * 108853 / 32768 + 3)) / 4) 1)
      omega
    · simp only [e3]
      unfold dminF
      have h2 := wrapU_in (IntKind.u64.wrap (uscF mn.toNat (rowF p).1 (rowF p).2 (-(e + p * 108853 / 32768 + 3)) + IntKind.u64.wrap od) + 3)
      omega
/-- What shortFloat gives is one pair, whatever the world. -/
theorem shf_in (m : Nat) (e : Int) (hm : 9223372036854775808 ≤ m) (hm1 : m < 18446744073709551616) (he : -1137 ≤ e) (he1 : e ≤ 960) : ∃ (d : Nat) (p : Int), d < 18446744073709551616 ∧ -400 ≤ p ∧ p ≤ 400 ∧ ∀ w, PmAt w →
    Calls Tryd.prog 53 #[.int .u64 (m : Int), .int .i64 e] w fun r w' => r = .returned (.tuple #[.int .u64 (d : Int), .int .i64 p]) ∧ Below w.heap.size w w' := by
  have key : ∀ R : Int × Int, (0 ≤ R.1 ∧ R.1 < 18446744073709551616 ∧ -400 ≤ R.2 ∧ R.2 ≤ 400) → (∀ w, PmAt w →
    Calls Tryd.prog 53 #[.int .u64 (m : Int), .int .i64 e] w fun r w' => r = .returned (.tuple #[.int .u64 R.1, .int .i64 R.2]) ∧ Below w.heap.size w w') → ∃ (d : Nat) (p : Int), d < 18446744073709551616 ∧ -400 ≤ p ∧ p ≤ 400 ∧ ∀ w, PmAt w →
    Calls Tryd.prog 53 #[.int .u64 (m : Int), .int .i64 e] w fun r w' => r = .returned (.tuple #[.int .u64 (d : Int), .int .i64 p]) ∧ Below w.heap.size w w' := by
    rintro ⟨r, p⟩ ⟨h0, h1, h2, h3⟩ h
    simp only at h0 h1 h2 h3 h
    obtain ⟨d, rfl⟩ := Int.eq_ofNat_of_zero_le h0
    exact ⟨d, p, by omega, h2, h3, h⟩
  by_cases hA : m = 9223372036854775808
  · subst hA
    by_cases h1 : -1085 < e
    · exact key _ (shRF_in _ _ _ _ _ _ (by omega) (by omega)) (fun w hw => shf53A e he he1 h1 w hw)
    · by_cases h2 : -1085 ≤ e
      · exact key _ (shRF_in _ _ _ _ _ _ (by omega) (by omega)) (fun w hw => shf53B e he he1 ⟨h2, by omega⟩ w hw)
      · exact key _ (shRF_in _ _ _ _ _ _ (by omega) (by omega)) (fun w hw => shf53C e he he1 (by omega) w hw)
  · by_cases h2 : -1085 ≤ e
    · exact key _ (shRF_in _ _ _ _ _ _ (by omega) (by omega)) (fun w hw => shf53D m e (by omega) hm1 he he1 h2 w hw)
    · exact key _ (shRF_in _ _ _ _ _ _ (by omega) (by omega)) (fun w hw => shf53E m e (by omega) hm1 he he1 (by omega) w hw)
end Go.Proofs.YtbgppkjcmgljnaaDoor
