/- What the law StewardCounts keeps. -/
import Derived.Test.YtoikgphbicnhaabPlK
namespace Go.Proofs.Ytoikgphbicnhaab
open Go.RowKit Go.Maps
/-- How often a name is in a list. -/
def cntS (xs : List ByteArray) (s : ByteArray) : Nat := (xs.filter fun x => decide (x = s)).length
theorem cntS_nil (s : ByteArray) : cntS [] s = 0 := rfl
theorem cntS_snoc (xs : List ByteArray) (y s : ByteArray) : cntS (xs ++ [y]) s = if s = y then cntS xs s + 1 else cntS xs s := by
  unfold cntS
  rw [List.filter_append, List.length_append]
  by_cases h : s = y
  · subst h; simp
  · have : ¬ y = s := fun e => h e.symm
    simp [h, this]
theorem cntS_drop {xs : List ByteArray} {j : Nat} (hj : j < xs.length) (s : ByteArray) : cntS (xs.drop j) s = if s = xs[j] then cntS (xs.drop (j + 1)) s + 1 else cntS (xs.drop (j + 1)) s := by
  rw [List.drop_eq_getElem_cons hj]
  unfold cntS
  rw [List.filter_cons]
  by_cases h : s = xs[j]
  · subst h; simp
  · have : ¬ xs[j] = s := fun e => h e.symm
    simp [h, this]
/-- As many requests as names. -/
def CntR (l : List Bk) (xs : List ByteArray) : Prop := (∀ s, bzOf l s = (cntS xs s : Int)) ∧ sumB l = (xs.length : Int)
theorem CntR.same {l l' : List Bk} {xs : List ByteArray} (h : CntR l xs) (h1 : ∀ x, bzOf l' x = bzOf l x) (h2 : sumB l' = sumB l) : CntR l' xs := ⟨fun s => by rw [h1, h.1 s], by rw [h2, h.2]⟩
theorem CntR.tn {l : List Bk} {xs : List ByteArray} (h : CntR l xs) (hg : Good l) (s : ByteArray) (k : Int) : CntR (chL l s (tn1 k)) xs :=
  h.same (bz_same hg (tn1_nm k) (fun b _ => tn1_bz k b)) (sum_same hg (tn1_nm k) (fun b _ => tn1_bz k b))
theorem CntR.add {l : List Bk} {xs : List ByteArray} (h : CntR l xs) (nb : Bool) (s : ByteArray) (u v : Int) : CntR (addL nb l s u v) xs := h.same bz_add sum_add
theorem CntR.tk {l : List Bk} {xs : List ByteArray} (h : CntR l xs) (hg : Good l) {s : ByteArray} (he : chE l s tk1E = 0) : CntR (chL l s tk1) (xs ++ [s]) := by
  have hb := bz_tk hg he
  refine ⟨fun x => ?_, ?_⟩
  · rw [hb, cntS_snoc]
    split
    · rename_i e; subst e; rw [h.1]; push_cast; omega
    · exact h.1 x
  · have h1 := sum_bz (l' := chL l s tk1) (s := s) hg rfl tk1_nm (fun b hf => by have := hg.of hf; have := tk1_ge b; omega)
    rw [hb, if_pos rfl] at h1
    have h2 := h.2
    simp; omega
theorem CntR.tk_no {l : List Bk} {xs : List ByteArray} (h : CntR l xs) (hg : Good l) {s : ByteArray} (he : chE l s tk1E ≠ 0) : CntR (chL l s tk1) xs := by
  have hb := bz_tk_no hg he
  refine h.same hb ?_
  have h1 := sum_bz (l' := chL l s tk1) (s := s) hg rfl tk1_nm (fun b hf => by have := hg.of hf; have := tk1_ge b; omega)
  rw [hb] at h1
  omega
theorem CntR.gv {l : List Bk} {xs : List ByteArray} {j : Nat} (h : CntR l (xs.drop j)) (hg : Good l) (hj : j < xs.length) : chE l xs[j] gv1E = 0 ∧ CntR (chL l xs[j] gv1) (xs.drop (j + 1)) := by
  have h0 := h.1 xs[j]
  rw [cntS_drop hj, if_pos rfl] at h0
  have he : chE l xs[j] gv1E = 0 := by
    unfold bzOf at h0
    unfold chE
    cases hf : fndB l xs[j] with
    | none => rw [hf] at h0; simp only at h0; omega
    | some b =>
      rw [hf] at h0
      simp only [gv1E] at h0 ⊢
      rw [if_neg (by omega)]
  refine ⟨he, ?_⟩
  have hb := bz_gv hg he
  refine ⟨fun x => ?_, ?_⟩
  · rw [hb]
    split
    · rename_i e; subst e; omega
    · rename_i e
      rw [h.1 x, cntS_drop hj, if_neg e]
  · have h1 := sum_bz (l' := chL l xs[j] gv1) (s := xs[j]) hg rfl gv1_nm (fun b hf => by
      have h2 := hg.of hf
      unfold gv1
      split
      · exact h2.2.1.1
      · show 0 ≤ b.bz - 1; omega)
    rw [hb, if_pos rfl] at h1
    have h2 := h.2
    rw [List.length_drop] at h2 ⊢
    omega
theorem CntR.none_left {l : List Bk} (h : CntR l []) (hg : Good l) : ∀ b ∈ l, b.bz = 0 ∧ b.st ≠ 2 := by
  intro b hb
  have h1 := h.1 b.nm
  have h2 := hg.lv b hb
  unfold bzOf at h1
  rw [fndB_of_mem hg.ap hb] at h1
  simp only [cntS_nil] at h1
  refine ⟨by omega, fun e => ?_⟩
  unfold live at h2
  simp [e] at h2
  omega
theorem cnt_size {l : List Bk} {xs : List ByteArray} {j : Nat} {N : ByteArray} (hg : Good l) (h : CntR l (xs.drop j)) (hj : j < xs.length) (hN : N = xs[j]) : N.size ≤ 40 := by
  subst hN
  have h0 := h.1 xs[j]
  rw [cntS_drop hj, if_pos rfl] at h0
  unfold bzOf at h0
  cases hf : fndB l xs[j] with
  | none => rw [hf] at h0; simp only at h0; omega
  | some b =>
    obtain ⟨h1, h2⟩ := fndB_mem hf
    have := hg.sz b h1
    rw [h2] at this
    exact this
end Go.Proofs.Ytoikgphbicnhaab
