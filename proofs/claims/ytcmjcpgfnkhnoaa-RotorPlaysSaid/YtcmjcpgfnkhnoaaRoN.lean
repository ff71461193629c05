/- Weighted round robin: each one's share. -/
import Derived.Test.YtcmjcpgfnkhnoaaRoE
namespace Go.Proofs.Ytcmjcpgfnkhnoaa

theorem nm_ne {E : List Ent} (hA : Apart E) {i j : Nat} (hij : i < j) (hj : j < E.length) : nm E i ≠ nm E j := by
  rw [nm_eq (by omega), nm_eq hj]
  exact List.pairwise_iff_getElem.1 hA i j (by omega) hj hij
theorem great_max (f : ByteArray → Int) {E : List Ent} (hA : Apart E) : ∀ j, j ≤ E.length → ∀ i, i < j → addAll f (E.take j) (nm E i) ≤ addAll f (E.take j) (nm E (great f E j))
  | 0, _, i, hi => by omega
  | j + 1, hj, i, hi => by
    have ih := great_max f hA j (by omega)
    have hs := addAll_step f (E := E) (j := j) (by omega)
    rw [← nm_eq] at hs
    have hg := great_lt f E j
    have hgs : great f E (j + 1) = if addAll f (E.take (j + 1)) (nm E (great f E j)) < addAll f (E.take (j + 1)) (nm E j) then j else great f E j := rfl
    have old : ∀ k, k < j → addAll f (E.take (j + 1)) (nm E k) = addAll f (E.take j) (nm E k) := fun k hk => by
      rw [hs, upd_other _ _ (nm_ne hA hk (by omega))]
    rw [hgs]
    by_cases hc : addAll f (E.take (j + 1)) (nm E (great f E j)) < addAll f (E.take (j + 1)) (nm E j)
    · rw [if_pos hc]
      by_cases hij : i = j
      · subst hij; omega
      · have h1 := ih i (by omega)
        have h2 := old i (by omega)
        have h3 := old (great f E j) (by omega)
        omega
    · rw [if_neg hc]
      by_cases hij : i = j
      · subst hij; omega
      · have h1 := ih i (by omega)
        have h2 := old i (by omega)
        have h3 := old (great f E j) (by omega)
        omega
theorem turn_mem (f : ByteArray → Int) {E : List Ent} (hE : E ≠ []) : ∃ e ∈ E, e.1 = turn f E := by
  have hl := List.length_pos_iff.2 hE
  have hg : great f E E.length < E.length := by rcases great_lt f E E.length with h | h <;> omega
  exact ⟨E[great f E E.length], List.getElem_mem hg, (nm_eq hg).symm⟩
theorem turn_max (f : ByteArray → Int) {E : List Ent} (hA : Apart E) {e : Ent} (he : e ∈ E) : f e.1 + e.2 ≤ addAll f E (turn f E) := by
  obtain ⟨i, hi, rfl⟩ := List.getElem_of_mem he
  have h := great_max f hA E.length (Nat.le_refl _) i hi
  rw [List.take_of_length_le (Nat.le_refl _), nm_eq hi, addAll_mem E f hA _ he] at h
  exact h

theorem sum_upd : ∀ (E : List Ent) (c : ByteArray → Int), Apart E → ∀ e0 ∈ E, (E.map fun e => upd c e0.1 (c e0.1 + 1) e.1).sum = (E.map fun e => c e.1).sum + 1
  | [], _, _, e0, h => by cases h
  | x :: E, c, hA, e0, h => by
    have hA2 := List.pairwise_cons.1 hA
    simp only [List.map_cons, List.sum_cons]
    by_cases hx : e0.1 = x.1
    · have : (E.map fun e => upd c e0.1 (c e0.1 + 1) e.1) = E.map fun e => c e.1 := by
        apply List.map_congr_left
        intro e he
        exact upd_other c _ (fun h => hA2.1 e he (by rw [← hx, h]))
      rw [this, ← hx, upd_same]; omega
    · have he : e0 ∈ E := by
        rcases List.mem_cons.1 h with h | h
        · exact absurd (by rw [h]) hx
        · exact h
      rw [sum_upd E c hA2.2 e0 he, upd_other c _ (fun h => hx h.symm)]; omega
theorem sum_lin (t S : Int) (c : ByteArray → Int) : ∀ E : List Ent, (E.map fun e => t * e.2 - S * c e.1 + e.2).sum = t * sumW E - S * (E.map fun e => c e.1).sum + sumW E
  | [] => by simp [sumW]
  | e :: E => by
    have ih := sum_lin t S c E
    simp only [sumW, List.map_cons, List.sum_cons] at ih ⊢
    rw [ih, Int.mul_add, Int.mul_add]; omega
theorem sum_le0 (g : Ent → Int) : ∀ E : List Ent, (∀ e ∈ E, g e ≤ 0) → (E.map g).sum ≤ 0
  | [], _ => by simp
  | e :: E, h => by
    have := sum_le0 g E (fun x hx => h x (by simp [hx]))
    have := h e (by simp)
    simp only [List.map_cons, List.sum_cons]; omega
theorem sum_ge0 (g : Ent → Int) : ∀ E : List Ent, (∀ e ∈ E, 0 ≤ g e) → 0 ≤ (E.map g).sum
  | [], _ => by simp
  | e :: E, h => by
    have := sum_ge0 g E (fun x hx => h x (by simp [hx]))
    have := h e (by simp)
    simp only [List.map_cons, List.sum_cons]; omega
theorem sum_zero (g : Ent → Int) : ∀ E : List Ent, (∀ e ∈ E, 0 ≤ g e) → (E.map g).sum = 0 → ∀ e ∈ E, g e = 0
  | [], _, _, e, he => by cases he
  | x :: E, h, hs, e, he => by
    have h1 := sum_ge0 g E (fun y hy => h y (by simp [hy]))
    have h2 := h x (by simp)
    simp only [List.map_cons, List.sum_cons] at hs
    rcases List.mem_cons.1 he with rfl | he
    · omega
    · exact sum_zero g E (fun y hy => h y (by simp [hy])) (by omega) e he
/-- What each had of t turns: c; its mark: f. -/
structure Share (E : List Ent) (t : Int) (f c : ByteArray → Int) : Prop where
  eq : ∀ e ∈ E, f e.1 = t * e.2 - sumW E * c e.1
  pos : ∀ e ∈ E, 0 ≤ c e.1
  sum : (E.map fun e => c e.1).sum = t
  low : ∀ e ∈ E, - sumW E < f e.1
  out : ∀ s, hasE E s = false → f s = 0
theorem sumW_pos {E : List Ent} (hE : E ≠ []) (hw : ∀ e ∈ E, 1 ≤ e.2 ∧ e.2 ≤ 65535) : 1 ≤ sumW E := by
  have h1 := sumW_bound E hw
  have h2 := List.length_pos_iff.2 hE
  omega
theorem Share.start {E : List Ent} (hw : ∀ e ∈ E, 1 ≤ e.2 ∧ e.2 ≤ 65535) : Share E 0 (fun _ => 0) (fun _ => 0) := by
  refine ⟨fun e _ => by simp, fun _ _ => Int.le_refl _, ?_, fun e he => ?_, fun _ _ => rfl⟩
  · have h1 := sum_le0 (fun _ => 0) E (fun _ _ => Int.le_refl _)
    have h2 := sum_ge0 (fun _ => 0) E (fun _ _ => Int.le_refl _)
    omega
  · have := sumW_pos (List.ne_nil_of_mem he) hw; omega
theorem Share.step {E : List Ent} {t : Int} {f c : ByteArray → Int} (hA : Apart E) (hE : E ≠ []) (hw : ∀ e ∈ E, 1 ≤ e.2 ∧ e.2 ≤ 65535) (h : Share E t f c) :
    Share E (t + 1) (after f E) (upd c (turn f E) (c (turn f E) + 1)) := by
  obtain ⟨p, hp, hpt⟩ := turn_mem f hE
  have hS := sumW_pos hE hw
  have hX : 0 < addAll f E (turn f E) := by
    apply Decidable.byContradiction
    intro hn
    have h1 := sum_le0 (fun e => t * e.2 - sumW E * c e.1 + e.2) E (fun e he => by
      have h2 := turn_max f hA he
      rw [h.eq e he] at h2
      omega)
    rw [sum_lin, h.sum, Int.mul_comm] at h1
    omega
  have ha : ∀ e ∈ E, addAll f E e.1 = f e.1 + e.2 := fun e he => addAll_mem E f hA e he
  unfold after
  rw [← hpt] at hX ⊢
  refine ⟨fun e he => ?_, fun e he => ?_, ?_, fun e he => ?_, fun s hs => ?_⟩
  · by_cases hx : e.1 = p.1
    · rw [hx, upd_same, upd_same, ← hx, ha e he, h.eq e he, Int.mul_add, Int.add_mul]; omega
    · rw [upd_other _ _ hx, upd_other _ _ hx, ha e he, h.eq e he, Int.add_mul]; omega
  · by_cases hx : e.1 = p.1
    · rw [hx, upd_same]; have := h.pos p hp; omega
    · rw [upd_other _ _ hx]; exact h.pos e he
  · rw [sum_upd E c hA p hp, h.sum]
  · by_cases hx : e.1 = p.1
    · rw [hx, upd_same]; omega
    · rw [upd_other _ _ hx, ha e he]; have := h.low e he; have := hw e he; omega
  · have hx : s ≠ p.1 := by
      intro hx; subst hx
      have : hasE E p.1 = true := hasE_mem.2 ⟨p, hp, rfl⟩
      rw [hs] at this; cases this
    rw [upd_other _ _ hx, addAll_other E f s hs]; exact h.out s hs
/-- Behind k rounds each had k times its weight, and all marks are 0. -/
theorem Share.full {E : List Ent} {k : Int} {f c : ByteArray → Int} (hE : E ≠ []) (hw : ∀ e ∈ E, 1 ≤ e.2 ∧ e.2 ≤ 65535) (h : Share E (k * sumW E) f c) : ∀ e ∈ E, c e.1 = k * e.2 ∧ f e.1 = 0 := by
  have hS := sumW_pos hE hw
  have hle : ∀ e ∈ E, 0 ≤ k * e.2 - c e.1 := by
    intro e he
    have h1 := h.eq e he
    have h2 := h.low e he
    have h3 : sumW E * c e.1 < sumW E * (k * e.2 + 1) := by
      rw [Int.mul_add, ← Int.mul_assoc, Int.mul_comm (sumW E) k]; omega
    have := Int.lt_of_mul_lt_mul_left h3 (by omega)
    omega
  have hsum : (E.map fun e => k * e.2 - c e.1).sum = 0 := by
    have hl : ∀ L : List Ent, (L.map fun e => k * e.2 - c e.1).sum = k * sumW L - (L.map fun e => c e.1).sum := by
      intro L
      induction L with
      | nil => simp [sumW]
      | cons x L ih =>
        simp only [sumW, List.map_cons, List.sum_cons] at ih ⊢
        rw [ih, Int.mul_add]; omega
    rw [hl, h.sum]; omega
  intro e he
  have h0 := sum_zero _ E hle hsum e he
  have hc : c e.1 = k * e.2 := by omega
  refine ⟨hc, ?_⟩
  rw [h.eq e he, hc, Int.mul_assoc, Int.mul_left_comm]; omega
theorem Share.fair {E : List Ent} {t : Int} {f c : ByteArray → Int} (h : Share E t f c) {e : Ent} (he : e ∈ E) : c e.1 * sumW E < t * e.2 + sumW E := by
  have h1 := h.eq e he
  have h2 := h.low e he
  rw [Int.mul_comm]; omega
theorem sumW_mem : ∀ {E : List Ent} {e : Ent}, (∀ e ∈ E, 1 ≤ e.2 ∧ e.2 ≤ 65535) → e ∈ E → e.2 + ((E.length : Int) - 1) ≤ sumW E
  | [], _, _, he => by cases he
  | x :: E, e, hw, he => by
    have hb := sumW_bound E (fun y hy => hw y (by simp [hy]))
    have hx := hw x (by simp)
    simp only [sumW, List.map_cons, List.sum_cons, List.length_cons] at hb ⊢
    rcases List.mem_cons.1 he with rfl | he
    · omega
    · have := sumW_mem (fun y hy => hw y (by simp [hy])) he
      simp only [sumW] at this
      omega
theorem Share.single {E : List Ent} {t : Int} {f c : ByteArray → Int} (hw : ∀ e ∈ E, 1 ≤ e.2 ∧ e.2 ≤ 65535) (h : Share E t f c) {e : Ent} (he : e ∈ E) (hs : sumW E = e.2) : f e.1 = 0 := by
  have h1 := sumW_mem hw he
  have hl : E.length = 1 := by
    have := List.length_pos_of_mem he
    omega
  match E, hl with
  | [x], _ =>
    obtain rfl : e = x := by simpa using he
    have h2 := h.sum
    have h3 := h.eq e he
    simp only [List.map_cons, List.map_nil, List.sum_cons, List.sum_nil, Int.add_zero] at h2
    rw [h3, h2, hs, Int.mul_comm]; omega
theorem Share.bound {E : List Ent} {t : Int} {f c : ByteArray → Int} (hw : ∀ e ∈ E, 1 ≤ e.2 ∧ e.2 ≤ 65535) (ht2 : t ≤ 1000000) (hl : E.length ≤ 1000) (h : Share E t f c) (s : ByteArray) : -1000000000000000 ≤ f s ∧ f s ≤ 1000000000000000 := by
  cases hs : hasE E s
  · rw [h.out s hs]; omega
  · obtain ⟨e, he, rfl⟩ := hasE_mem.1 hs
    have h1 := h.low e he
    have h2 := sumW_bound E hw
    have h3 := h.eq e he
    have h4 := hw e he
    have h5 : 0 ≤ sumW E * c e.1 := Int.mul_nonneg (by omega) (h.pos e he)
    have h6 : t * e.2 ≤ 1000000 * 65535 := Int.mul_le_mul ht2 h4.2 (by omega) (by omega)
    omega
end Go.Proofs.Ytcmjcpgfnkhnoaa
