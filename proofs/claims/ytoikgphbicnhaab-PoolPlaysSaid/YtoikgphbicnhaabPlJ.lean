/- What the laws of pool keep, as lists. -/
import Derived.Test.YtoikgphbicnhaabPlI
namespace Go.Proofs.Ytoikgphbicnhaab
open Go.RowKit Go.Maps

theorem ch_mem {l : List Bk} {s : ByteArray} {h : Bk → Bk} {x : Bk} (hx : x ∈ chL l s h) : x ∈ l ∨ ∃ b, fndB l s = some b ∧ x = h b := by
  unfold chL at hx
  split at hx
  · exact .inl hx
  · rename_i b hb
    rcases putB_mem hx with ⟨e, _⟩ | ⟨e, _⟩
    · exact .inr ⟨b, hb, e⟩
    · exact .inl e
theorem ch_mem2 {l : List Bk} {s : ByteArray} {h : Bk → Bk} {b x : Bk} (hf : fndB l s = some b) (hn : (h b).nm = b.nm) (hx : x ∈ chL l s h) : (x ∈ l ∧ x.nm ≠ s) ∨ x = h b := by
  unfold chL at hx
  rw [hf] at hx
  have := (fndB_mem hf).2
  rcases putB_mem hx with ⟨e, _⟩ | ⟨e, e2⟩
  · exact .inr e
  · exact .inl ⟨e, by rw [hn, this] at e2; exact e2⟩
theorem tn1_nm (k : Int) (b : Bk) : (tn1 k b).nm = b.nm := by unfold tn1; split <;> rfl
theorem rw2_nm (k : Int) (b : Bk) : (rw2 k b).nm = b.nm := by
  unfold rw2
  split
  · rfl
  · exact rw1_nm k b
theorem tn1_bz (k : Int) (b : Bk) : (tn1 k b).bz = b.bz := by unfold tn1; split <;> rfl
theorem rw1_bz (k : Int) (b : Bk) : (rw1 k b).bz = b.bz := by unfold rw1; split <;> rfl
theorem rw1_st (k : Int) (b : Bk) : (rw1 k b).st = b.st := by unfold rw1; split <;> rfl
theorem rw2_bz (k : Int) (b : Bk) : (rw2 k b).bz = b.bz := by
  unfold rw2
  split
  · rfl
  · exact rw1_bz k b
theorem rw2_st (k : Int) (b : Bk) : (rw2 k b).st = b.st := by
  unfold rw2
  split
  · rfl
  · exact rw1_st k b
theorem tk1_st (b : Bk) : (tk1 b).st = b.st := by
  unfold tk1
  split
  · rfl
  · split <;> rfl
theorem gv1_st (b : Bk) : (gv1 b).st = b.st := by unfold gv1; split <;> rfl
theorem tk1_ge (b : Bk) : b.bz ≤ (tk1 b).bz := by
  unfold tk1
  split
  · omega
  · split
    · omega
    · show b.bz ≤ b.bz + 1; omega
theorem gv1_ge (b : Bk) : b.bz - 1 ≤ (gv1 b).bz := by
  unfold gv1
  split
  · omega
  · show b.bz - 1 ≤ b.bz - 1; omega
theorem live_of {b : Bk} (h : 0 < b.bz) : live b = true := by unfold live; simp [h]
/-- Who has more than one request is still there. -/
theorem still {l : List Bk} (hg : Good l) {s : ByteArray} {h : Bk → Bk} {b : Bk} (hf : fndB l s = some b) (h1 : 1 < b.bz) (hn : (h b).nm = b.nm) (hb : b.bz - 1 ≤ (h b).bz) : (fndB (chL l s h) s).isSome = true := by
  unfold chL
  rw [hf]
  have hs := (fndB_mem hf).2
  have hx : fndB l (h b).nm = some b := by rw [hn, hs]; exact hf
  rw [show fndB (match some b with | none => l | some b => putB l (h b)) s = fndB (putB l (h b)) s from rfl, fndB_put hg.lv hx, if_pos (by rw [hn, hs]), if_pos (live_of (by omega))]; rfl
theorem still_th {l : List Bk} (hg : Good l) {s : ByteArray} {h : Bk → Bk} {th : Bool} {n0 : ByteArray} {w0 c0 s0 z0 : Int} (hth : th = (fndB l s).isSome) (hb : (⟨n0, w0, c0, s0, z0⟩ : Bk) = (fndB l s).getD bk0) (hn : ∀ b, (h b).nm = b.nm) (hz : ∀ b, b.bz - 1 ≤ (h b).bz) : th = true → 1 < z0 → (fndB (chL l s h) s).isSome = true := by
  intro h1 h2
  cases hf : fndB l s with
  | none => rw [hf] at hth; subst hth; cases h1
  | some b =>
    rw [hf] at hb
    simp only [Option.getD_some] at hb
    subst hb
    exact still hg hf h2 (hn _) (hz _)
theorem add_still {nb : Bool} {l : List Bk} {s : ByteArray} {u v : Int} {th : Bool} {z0 : Int} (hth : th = (fndB l s).isSome) : th = true → 1 < z0 → (fndB (addL nb l s u v) s).isSome = true := by
  intro h1 _
  subst hth
  unfold addL
  split
  · rw [fndB_append]
    obtain ⟨a, ha⟩ := Option.isSome_iff_exists.1 h1
    rw [ha]; rfl
  · exact h1
/-- Which names are shut. -/
def ShutR (l : List Bk) (f : ByteArray → Option Bool) : Prop := ∀ b ∈ l, (f b.nm).getD false = decide (b.st ≠ 0)
theorem ShutR.ch {l : List Bk} {f : ByteArray → Option Bool} (h : ShutR l f) {s : ByteArray} {g : Bk → Bk} (hn : ∀ b, (g b).nm = b.nm) (hs : ∀ b, fndB l s = some b → decide ((g b).st ≠ 0) = decide (b.st ≠ 0)) : ShutR (chL l s g) f := by
  intro x hx
  rcases ch_mem hx with e | ⟨b, hb, rfl⟩
  · exact h x e
  · rw [hn, hs b hb]; exact h b (fndB_mem hb).1
theorem ShutR.tn {l : List Bk} {f : ByteArray → Option Bool} (h : ShutR l f) {s : ByteArray} (k : Int) (he : chE l s tn1E = 0) : ShutR (chL l s (tn1 k)) (updO f s (some (decide (k ≠ 0)))) := by
  intro x hx
  cases hf : fndB l s with
  | none => unfold chE at he; rw [hf] at he; cases he
  | some b =>
    have hbs := (fndB_mem hf).2
    have h2 : b.st ≠ 2 := by
      intro e
      unfold chE at he
      rw [hf] at he
      simp [tn1E, e] at he
    rcases ch_mem2 hf (tn1_nm k b) hx with ⟨e, e2⟩ | rfl
    · rw [updO_other _ _ e2]; exact h x e
    · rw [tn1_nm, hbs, updO_same]
      unfold tn1
      rw [if_neg h2]; rfl
theorem ShutR.tn_no {l : List Bk} {f : ByteArray → Option Bool} (h : ShutR l f) {s : ByteArray} (k : Int) (he : chE l s tn1E ≠ 0) : ShutR (chL l s (tn1 k)) f := by
  refine h.ch (tn1_nm k) (fun b hf => ?_)
  have h2 : b.st = 2 := by
    by_cases e : b.st = 2
    · exact e
    · refine absurd ?_ he
      unfold chE
      rw [hf]
      simp [tn1E, e]
  unfold tn1
  rw [if_pos h2]
theorem add_zero {nb : Bool} {l : List Bk} {s : ByteArray} {u v : Int} (he : addE nb l s u v = 0) : addL nb l s u v = l ++ [⟨s, u, v, 0, 0⟩] ∧ fndB l s = none := by
  refine ⟨by unfold addL; rw [if_pos he], ?_⟩
  cases hf : fndB l s with
  | none => rfl
  | some b =>
    unfold addE at he
    rw [hf] at he
    split at he
    · cases he
    · simp at he
theorem add_not {nb : Bool} {l : List Bk} {s : ByteArray} {u v : Int} (he : addE nb l s u v ≠ 0) : addL nb l s u v = l := by unfold addL; rw [if_neg he]
theorem ShutR.add {l : List Bk} {f : ByteArray → Option Bool} (h : ShutR l f) {nb : Bool} {s : ByteArray} {u v : Int} (he : addE nb l s u v = 0) : ShutR (addL nb l s u v) (updO f s (some false)) := by
  obtain ⟨e1, e2⟩ := add_zero he
  rw [e1]
  have hno := fndB_none e2
  intro x hx
  rcases List.mem_append.1 hx with hx | hx
  · rw [updO_other _ _ (hno x hx)]; exact h x hx
  · simp at hx; subst hx; simp [updO_same]
theorem take_shut {l : List Bk} {f : ByteArray → Option Bool} (h : ShutR l f) {s : ByteArray} (he : chE l s tk1E = 0) : (fndB l s).isSome = true ∧ (f s).getD false = false := by
  cases hf : fndB l s with
  | none => unfold chE at he; rw [hf] at he; cases he
  | some b =>
    refine ⟨rfl, ?_⟩
    obtain ⟨h1, h2⟩ := fndB_mem hf
    unfold chE at he; rw [hf] at he
    simp only [tk1E] at he
    have h3 : b.st = 0 := by
      by_cases e : b.st = 0
      · exact e
      · rw [if_pos e] at he; cases he
    have h4 := h b h1
    rw [h2, h3] at h4
    simpa using h4
theorem give_cases {l : List Bk} (hg : Good l) {f : ByteArray → Option Bool} (h : ShutR l f) {s : ByteArray} {th : Bool} {n0 : ByteArray} {w0 c0 s0 z0 : Int} (hth : th = (fndB l s).isSome) (hb : (⟨n0, w0, c0, s0, z0⟩ : Bk) = (fndB l s).getD bk0) :
    (th = false ∧ chD l s = false ∧ chE l s gv1E = 6) ∨ (th = true ∧ z0 = 0 ∧ chD l s = false ∧ chE l s gv1E = 9) ∨ (th = true ∧ 0 < z0 ∧ chD l s = (decide (s0 ≠ 0) && (z0 == 1)) ∧ chE l s gv1E = 0 ∧ (f s).getD false = decide (s0 ≠ 0)) := by
  cases hf : fndB l s with
  | none =>
    left
    rw [hf] at hth
    refine ⟨by simpa using hth, ?_, ?_⟩
    · unfold chD; rw [hf]
    · unfold chE; rw [hf]
  | some b =>
    right
    rw [hf] at hth hb
    simp only [Option.getD_some] at hb
    obtain ⟨h1, h2⟩ := fndB_mem hf
    have h3 := hg.bz b h1
    have h4 := h b h1
    subst hb
    simp only at h2 h3 h4
    subst h2
    by_cases hz : z0 = 0
    · left
      refine ⟨by simpa using hth, hz, ?_, ?_⟩
      · unfold chD; rw [hf]; simp [gv1D, hz]
      · unfold chE; rw [hf]; simp [gv1E, hz]
    · right
      refine ⟨by simpa using hth, by omega, ?_, ?_, h4⟩
      · unfold chD; rw [hf]
        simp only [gv1D, if_neg hz]
        by_cases e1 : s0 = 0 <;> by_cases e2 : z0 = 1 <;> simp [e1, e2]
      · unfold chE; rw [hf]; simp [gv1E, hz]
/-- The requests of a name. -/
def bzOf (l : List Bk) (s : ByteArray) : Int := match fndB l s with
  | none => 0
  | some b => b.bz
theorem bz_ch {l : List Bk} (hg : Good l) {s : ByteArray} {h : Bk → Bk} {b : Bk} (hf : fndB l s = some b) (hn : (h b).nm = b.nm) (h0 : 0 ≤ (h b).bz) (x : ByteArray) : bzOf (chL l s h) x = if x = s then (h b).bz else bzOf l x := by
  have hs := (fndB_mem hf).2
  have hx : fndB l (h b).nm = some b := by rw [hn, hs]; exact hf
  have hc : chL l s h = putB l (h b) := by unfold chL; rw [hf]
  rw [hc]
  unfold bzOf
  rw [fndB_put hg.lv hx, hn, hs]
  by_cases e : x = s
  · rw [if_pos e, if_pos e]
    by_cases e2 : live (h b) = true
    · rw [if_pos e2]
    · rw [if_neg e2]
      have := (dead_zero (by simpa using e2) h0).1
      simp only; omega
  · rw [if_neg e, if_neg e]
theorem bz_same {l : List Bk} (hg : Good l) {s : ByteArray} {h : Bk → Bk} (hn : ∀ b, (h b).nm = b.nm) (hb : ∀ b, fndB l s = some b → (h b).bz = b.bz) (x : ByteArray) : bzOf (chL l s h) x = bzOf l x := by
  cases hf : fndB l s with
  | none => unfold chL; rw [hf]
  | some b =>
    have h1 := hg.of hf
    rw [bz_ch hg hf (hn b) (by rw [hb b hf]; exact h1.2.1.1), hb b hf]
    split
    · rename_i e; subst e; unfold bzOf; rw [hf]
    · rfl
theorem bz_add {nb : Bool} {l : List Bk} {s : ByteArray} {u v : Int} (x : ByteArray) : bzOf (addL nb l s u v) x = bzOf l x := by
  by_cases he : addE nb l s u v = 0
  · obtain ⟨e1, e2⟩ := add_zero he
    rw [e1]
    unfold bzOf
    rw [fndB_append, fndB_cons]
    by_cases e : x = s
    · subst e; simp [e2]
    · have : ¬ s = x := fun h => e h.symm
      simp [this, fndB_nil]
  · rw [add_not he]
theorem bz_tk {l : List Bk} (hg : Good l) {s : ByteArray} (he : chE l s tk1E = 0) (x : ByteArray) : bzOf (chL l s tk1) x = if x = s then bzOf l s + 1 else bzOf l x := by
  cases hf : fndB l s with
  | none => unfold chE at he; rw [hf] at he; cases he
  | some b =>
    have h1 := hg.of hf
    have e2 : (tk1 b).bz = b.bz + 1 := by
      unfold chE at he; rw [hf] at he
      simp only [tk1E] at he
      unfold tk1
      split
      · rename_i e; rw [if_pos e] at he; cases he
      · rename_i e; rw [if_neg e] at he
        split
        · rename_i e; rw [if_pos e] at he; cases he
        · rfl
    rw [bz_ch hg hf (tk1_nm b) (by omega), e2]
    unfold bzOf; rw [hf]
theorem bz_tk_no {l : List Bk} (hg : Good l) {s : ByteArray} (he : chE l s tk1E ≠ 0) (x : ByteArray) : bzOf (chL l s tk1) x = bzOf l x := by
  refine bz_same hg tk1_nm (fun b hf => ?_) x
  unfold chE at he; rw [hf] at he
  simp only [tk1E] at he
  unfold tk1
  split
  · rfl
  · rename_i e; rw [if_neg e] at he
    split
    · rfl
    · rename_i e; rw [if_neg e] at he; exact absurd rfl he
theorem bz_gv {l : List Bk} (hg : Good l) {s : ByteArray} (he : chE l s gv1E = 0) (x : ByteArray) : bzOf (chL l s gv1) x = if x = s then bzOf l s - 1 else bzOf l x := by
  cases hf : fndB l s with
  | none => unfold chE at he; rw [hf] at he; cases he
  | some b =>
    have h1 := hg.of hf
    unfold chE at he; rw [hf] at he
    simp only [gv1E] at he
    have h0 : b.bz ≠ 0 := fun e => by rw [if_pos e] at he; cases he
    have e2 : (gv1 b).bz = b.bz - 1 := by unfold gv1; rw [if_neg h0]
    rw [bz_ch hg hf (gv1_nm b) (by omega), e2]
    unfold bzOf; rw [hf]
theorem bz_gv_no {l : List Bk} (hg : Good l) {s : ByteArray} (he : chE l s gv1E ≠ 0) (x : ByteArray) : bzOf (chL l s gv1) x = bzOf l x := by
  refine bz_same hg gv1_nm (fun b hf => ?_) x
  unfold chE at he; rw [hf] at he
  simp only [gv1E] at he
  have h0 : b.bz = 0 := by
    by_cases e : b.bz = 0
    · exact e
    · rw [if_neg e] at he; exact absurd rfl he
  unfold gv1; rw [if_pos h0]
theorem sum_ch {l : List Bk} (hg : Good l) {s : ByteArray} {h : Bk → Bk} {b : Bk} (hf : fndB l s = some b) (hn : (h b).nm = b.nm) (h0 : 0 ≤ (h b).bz) : sumB (chL l s h) = sumB l - b.bz + (h b).bz := by
  have hs := (fndB_mem hf).2
  unfold chL
  rw [hf]
  exact sumB_put hg (by rw [hn, hs]; exact hf) h0
theorem sum_same {l : List Bk} (hg : Good l) {s : ByteArray} {h : Bk → Bk} (hn : ∀ b, (h b).nm = b.nm) (hb : ∀ b, fndB l s = some b → (h b).bz = b.bz) : sumB (chL l s h) = sumB l := by
  cases hf : fndB l s with
  | none => unfold chL; rw [hf]
  | some b => rw [sum_ch hg hf (hn b) (by rw [hb b hf]; exact (hg.of hf).2.1.1), hb b hf]; omega
theorem sum_add {nb : Bool} {l : List Bk} {s : ByteArray} {u v : Int} : sumB (addL nb l s u v) = sumB l := by
  by_cases he : addE nb l s u v = 0
  · rw [(add_zero he).1]; simp [sumB]
  · rw [add_not he]
theorem sum_bz {l l' : List Bk} {s : ByteArray} (hg : Good l) {h : Bk → Bk} (hl : l' = chL l s h) (hn : ∀ b, (h b).nm = b.nm) (h0 : ∀ b, fndB l s = some b → 0 ≤ (h b).bz) : sumB l' - sumB l = bzOf l' s - bzOf l s := by
  subst hl
  cases hf : fndB l s with
  | none =>
    have : chL l s h = l := by unfold chL; rw [hf]
    rw [this]; omega
  | some b =>
    rw [sum_ch hg hf (hn b) (h0 b hf), bz_ch hg hf (hn b) (h0 b hf), if_pos rfl]
    have : bzOf l s = b.bz := by unfold bzOf; rw [hf]
    rw [this]; omega
end Go.Proofs.Ytoikgphbicnhaab
