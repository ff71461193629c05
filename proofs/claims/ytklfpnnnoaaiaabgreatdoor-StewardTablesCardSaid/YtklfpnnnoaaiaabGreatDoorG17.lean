/- ring: the names that a walk gives, as lists. -/
import Derived.Test.YtklfpnnnoaaiaabGreatDoorG16
namespace Go.Proofs.YtklfpnnnoaaiaabGreatDoor
open Go.RowKit

theorem LowAt.uniq {ps : List Pt} {x a b : Nat} (h : LowAt ps x a) (k : LowAt ps x b) : a = b := by
  rcases Nat.lt_trichotomy a b with h1 | h1 | h1
  · have hl : a < ps.length := Nat.lt_of_lt_of_le h1 k.le
    have h2 := k.lo a _ (List.getElem?_eq_getElem hl) h1
    have h3 := h.hi a _ (List.getElem?_eq_getElem hl) (Nat.le_refl _)
    omega
  · exact h1
  · have hl : b < ps.length := Nat.lt_of_lt_of_le h1 h.le
    have h2 := h.lo b _ (List.getElem?_eq_getElem hl) h1
    have h3 := k.hi b _ (List.getElem?_eq_getElem hl) (Nat.le_refl _)
    omega
theorem nmL_take (ps : List Pt) (st : Nat) : ∀ j, j ≤ ps.length → nmL ((arL ps st).take j) = nmW ps st j
  | 0, _ => by rw [List.take_zero]; rfl
  | j + 1, h => by
    rw [← arL_take (ps := ps) (st := st) (k := j) (by omega), nmL_snoc, nmL_take ps st j (by omega)]
    rfl
theorem nmL_all (ps : List Pt) (st : Nat) : nmL (arL ps st) = nmW ps st ps.length := by
  rw [← nmL_take ps st ps.length (Nat.le_refl _), List.take_of_length_le (by rw [arL_len]; exact Nat.le_refl _)]
theorem nmL_app (a : List Pt) : ∀ b : List Pt, ∃ r, nmL (a ++ b) = nmL a ++ r := by
  intro b
  rw [← List.reverse_reverse b]
  generalize b.reverse = c
  induction c with
  | nil => exact ⟨[], by simp⟩
  | cons q c ih =>
    obtain ⟨r, hr⟩ := ih
    rw [List.reverse_cons, ← List.append_assoc, nmL_snoc]
    split
    · exact ⟨r, hr⟩
    · exact ⟨r ++ [q.2], by rw [hr, List.append_assoc]⟩
/-- A way cut short at as many names as there are is the whole one. -/
theorem nmL_short {l : List Pt} {k n : Nat} (h : (nmL (l.take k)).length = n) (h2 : (nmL l).length = n) : nmL (l.take k) = nmL l := by
  obtain ⟨r, hr⟩ := nmL_app (l.take k) (l.drop k)
  rw [List.take_append_drop] at hr
  have h3 : (nmL (l.take k) ++ r).length = n := by rw [← hr]; exact h2
  rw [List.length_append, h] at h3
  rw [hr, List.eq_nil_of_length_eq_zero (show r.length = 0 by omega), List.append_nil]
theorem inS_mem {l : List ByteArray} {N : ByteArray} : inS l N = true ↔ N ∈ l := by
  unfold inS
  rw [List.any_eq_true]
  constructor
  · rintro ⟨e, he, h⟩
    obtain rfl := of_decide_eq_true h
    exact he
  · intro h
    exact ⟨N, h, decide_eq_true rfl⟩
theorem nmL_spec (l : List Pt) : (nmL l).Nodup ∧ ∀ N, N ∈ nmL l ↔ ∃ p ∈ l, p.2 = N := by
  rw [← List.reverse_reverse l]
  generalize l.reverse = c
  induction c with
  | nil => exact ⟨List.nodup_nil, fun N => by simp [nmL]⟩
  | cons q c ih =>
    rw [List.reverse_cons, nmL_snoc]
    by_cases h : inS (nmL c.reverse) q.2 = true
    · rw [if_pos h]
      refine ⟨ih.1, fun N => ?_⟩
      rw [ih.2 N]
      constructor
      · rintro ⟨p, hp, e⟩; exact ⟨p, List.mem_append_left _ hp, e⟩
      · rintro ⟨p, hp, e⟩
        rcases List.mem_append.1 hp with hp | hp
        · exact ⟨p, hp, e⟩
        · obtain rfl : p = q := by simpa using hp
          rw [← e]
          exact (ih.2 _).1 (inS_mem.1 h)
    · rw [if_neg h]
      refine ⟨?_, fun N => ?_⟩
      · rw [List.nodup_append]
        refine ⟨ih.1, by simp, fun x hx y hy => ?_⟩
        obtain rfl : y = q.2 := by simpa using hy
        rintro rfl
        exact h (inS_mem.2 hx)
      · rw [List.mem_append, ih.2 N]
        constructor
        · rintro (⟨p, hp, e⟩ | hp)
          · exact ⟨p, List.mem_append_left _ hp, e⟩
          · exact ⟨q, by simp, (List.mem_singleton.1 hp).symm⟩
        · rintro ⟨p, hp, e⟩
          rcases List.mem_append.1 hp with hp | hp
          · exact .inl ⟨p, hp, e⟩
          · obtain rfl : p = q := by simpa using hp
            exact .inr (by rw [← e]; simp)
theorem arL_mem {ps : List Pt} {st : Nat} (p : Pt) : p ∈ arL ps st ↔ p ∈ ps := by
  unfold arL
  rw [List.mem_map]
  constructor
  · rintro ⟨i, hi, rfl⟩
    have hm : (st + i) % ps.length < ps.length := Nat.mod_lt _ (by have := List.mem_range.1 hi; omega)
    rw [List.getD_eq_getElem?_getD, List.getElem?_eq_getElem hm]
    exact List.getElem_mem hm
  · intro hp
    obtain ⟨j, hj, rfl⟩ := List.getElem_of_mem hp
    have hm := Nat.mod_lt st (show 0 < ps.length by omega)
    refine ⟨(j + ps.length - st % ps.length) % ps.length, List.mem_range.2 (Nat.mod_lt _ (by omega)), ?_⟩
    have e : (st + (j + ps.length - st % ps.length) % ps.length) % ps.length = j := by
      rw [Nat.add_mod_mod, ← Nat.mod_add_mod, show st % ps.length + (j + ps.length - st % ps.length) = j + ps.length by omega, Nat.add_mod_right, Nat.mod_eq_of_lt hj]
    rw [e, List.getD_eq_getElem?_getD, List.getElem?_eq_getElem hj]
    rfl
/-- All names have a point, so a whole walk gives as many names as there are entries. -/
theorem nmL_count {k : Nat → UInt8} {p G : Nat} {es : List Ent} (ha : Apart es) (st : Nat) : (nmL (arL (srtP (ptsL k p G es)) st)).length = es.length := by
  have hs := nmL_spec (arL (srtP (ptsL k p G es)) st)
  have hn : (es.map (·.1)).Nodup := by
    unfold Apart at ha
    exact List.pairwise_map.2 ha
  have hlm : (es.map (·.1)).length = es.length := List.length_map ..
  rw [← hlm]
  refine List.Perm.length_eq ((List.perm_ext_iff_of_nodup hs.1 hn).2 fun N => ?_)
  rw [hs.2 N]
  constructor
  · rintro ⟨q, hq, rfl⟩
    rw [arL_mem, (srtP_perm _).mem_iff] at hq
    unfold ptsL at hq
    obtain ⟨e, he, h2⟩ := List.mem_flatMap.1 hq
    obtain ⟨i, hi, rfl⟩ := List.mem_map.1 h2
    exact List.mem_map.2 ⟨e, he, rfl⟩
  · intro h
    obtain ⟨e, he, rfl⟩ := List.mem_map.1 h
    refine ⟨(ptV k e.1 0, e.1), ?_, rfl⟩
    rw [arL_mem, (srtP_perm _).mem_iff]
    exact List.mem_flatMap.2 ⟨e, he, List.mem_map.2 ⟨0, List.mem_range.2 (by unfold cntP; omega), rfl⟩⟩
end Go.Proofs.YtklfpnnnoaaiaabGreatDoor

