/- ring: the way around without the points of one name; the ring without an entry. -/
import Derived.Test.YtklfpnnnoaaiaabGreatDoorG14
import Derived.Test.YtklfpnnnoaaiaabGreatDoorG17
namespace Go.Proofs.YtklfpnnnoaaiaabGreatDoor
open Go.RowKit

theorem arL_rot {ps : List Pt} {st : Nat} (h : st ≤ ps.length) : arL ps st = ps.drop st ++ ps.take st := by
  apply List.ext_getElem?
  intro i
  unfold arL
  by_cases hi : i < ps.length
  · rw [List.getElem?_map, List.getElem?_range hi, Option.map_some, List.getD_eq_getElem?_getD]
    have hm : (st + i) % ps.length < ps.length := Nat.mod_lt _ (by omega)
    rw [List.getElem?_eq_getElem hm, Option.getD_some, List.getElem?_append, List.length_drop]
    by_cases h1 : i < ps.length - st
    · have e : (st + i) % ps.length = st + i := Nat.mod_eq_of_lt (by omega)
      rw [if_pos h1, List.getElem?_drop, List.getElem?_eq_getElem (by omega)]
      simp only [e]
    · have e : (st + i) % ps.length = i - (ps.length - st) := by
        rw [show st + i = (i - (ps.length - st)) + ps.length by omega, Nat.add_mod_right, Nat.mod_eq_of_lt (by omega)]
      rw [if_neg h1, List.getElem?_take, if_pos (by omega), List.getElem?_eq_getElem (by omega)]
      simp only [e]
  · rw [List.getElem?_eq_none (by simp; omega), List.getElem?_eq_none (by simp; omega)]
theorem LowAt.drop {ps : List Pt} {x st : Nat} (h : LowAt ps x st) : ps.drop st = ps.filter (fun p => decide (x ≤ p.1)) ∧ ps.take st = ps.filter (fun p => decide (p.1 < x)) := by
  have h1 : (ps.take st).filter (fun p => decide (x ≤ p.1)) = [] := by
    rw [List.filter_eq_nil_iff]
    intro p hp
    obtain ⟨i, hi, rfl⟩ := List.getElem_of_mem hp
    have hl : i < st ∧ i < ps.length := by simp at hi; omega
    rw [List.getElem_take]
    have := h.lo i _ (List.getElem?_eq_getElem hl.2) hl.1
    simp; omega
  have h2 : (ps.drop st).filter (fun p => decide (x ≤ p.1)) = ps.drop st := by
    rw [List.filter_eq_self]
    intro p hp
    obtain ⟨i, hi, rfl⟩ := List.getElem_of_mem hp
    have hl : st + i < ps.length := by simp at hi; omega
    rw [List.getElem_drop]
    have := h.hi (st + i) _ (List.getElem?_eq_getElem hl) (by omega)
    simp; omega
  have h3 : (ps.take st).filter (fun p => decide (p.1 < x)) = ps.take st := by
    rw [List.filter_eq_self]
    intro p hp
    obtain ⟨i, hi, rfl⟩ := List.getElem_of_mem hp
    have hl : i < st ∧ i < ps.length := by simp at hi; omega
    rw [List.getElem_take]
    have := h.lo i _ (List.getElem?_eq_getElem hl.2) hl.1
    simp; omega
  have h4 : (ps.drop st).filter (fun p => decide (p.1 < x)) = [] := by
    rw [List.filter_eq_nil_iff]
    intro p hp
    obtain ⟨i, hi, rfl⟩ := List.getElem_of_mem hp
    have hl : st + i < ps.length := by simp at hi; omega
    rw [List.getElem_drop]
    have := h.hi (st + i) _ (List.getElem?_eq_getElem hl) (by omega)
    simp; omega
  constructor
  · conv => rhs; rw [← List.take_append_drop st ps]
    rw [List.filter_append, h1, h2, List.nil_append]
  · conv => rhs; rw [← List.take_append_drop st ps]
    rw [List.filter_append, h3, h4, List.append_nil]
/-- Without a name the way around is the same way without its points. -/
theorem arL_less {ps qs : List Pt} {x st sq : Nat} {N : ByteArray} (h : LowAt ps x st) (hq : LowAt qs x sq) (e : qs = ps.filter (fun p => decide (p.2 ≠ N))) :
    arL qs sq = (arL ps st).filter (fun p => decide (p.2 ≠ N)) := by
  rw [arL_rot h.le, arL_rot hq.le, hq.drop.1, hq.drop.2, h.drop.1, h.drop.2, List.filter_append, e]
  simp only [List.filter_filter, Bool.and_comm]
theorem nmL_filter (N : ByteArray) (L : List Pt) : (nmL L).filter (fun n => decide (n ≠ N)) = nmL (L.filter (fun p => decide (p.2 ≠ N))) := by
  rw [← List.reverse_reverse L]
  generalize L.reverse = c
  induction c with
  | nil => rfl
  | cons q c ih =>
    rw [List.reverse_cons, nmL_snoc, List.filter_append]
    by_cases hq : q.2 = N
    · have e : List.filter (fun p : Pt => decide (p.2 ≠ N)) [q] = [] := by simp [hq]
      rw [e, List.append_nil, ← ih]
      split
      · rfl
      · rw [List.filter_append]; simp [hq]
    · have e : List.filter (fun p : Pt => decide (p.2 ≠ N)) [q] = [q] := by simp [hq]
      rw [e, nmL_snoc, ← ih]
      have hi : inS ((nmL c.reverse).filter (fun n => decide (n ≠ N))) q.2 = inS (nmL c.reverse) q.2 := by
        rw [Bool.eq_iff_iff, inS_mem, inS_mem, List.mem_filter]
        simp [hq]
      rw [hi]
      split
      · rfl
      · rw [List.filter_append]; simp [hq]
theorem nmL_head (L : List Pt) : (nmL L).head? = L.head?.map (·.2) := by
  rw [← List.reverse_reverse L]
  generalize L.reverse = c
  induction c with
  | nil => rfl
  | cons q c ih =>
    rw [List.reverse_cons, nmL_snoc]
    cases hc : c.reverse with
    | nil => simp [nmL, inS]
    | cons y r =>
      rw [hc] at ih
      have hn : ∃ n l, nmL (y :: r) = n :: l := by
        cases h : nmL (y :: r) with
        | nil => rw [h] at ih; cases ih
        | cons n l => exact ⟨n, l, rfl⟩
      obtain ⟨n, l, hn⟩ := hn
      rw [hn] at ih ⊢
      split
      · exact ih
      · exact ih
/-- The one who answers without an entry: the first of the walk, or the next one. -/
theorem pick_less {ps qs : List Pt} {x st sq : Nat} {N : ByteArray} (h : LowAt ps x st) (hq : LowAt qs x sq) (e : qs = ps.filter (fun p => decide (p.2 ≠ N))) {w : List ByteArray} (hw : nmL (arL ps st) = w) (hn : w.Nodup) (h2 : 2 ≤ w.length) :
    (w[0]'(by omega) = N → pickP qs sq = w[1]) ∧ (w[0]'(by omega) ≠ N → pickP qs sq = w[0]'(by omega)) := by
  have hp : pickP qs sq = (w.filter (fun n => decide (n ≠ N))).head?.getD ⟨#[]⟩ := by
    unfold pickP
    rw [arL_less h hq e, ← nmL_head, ← nmL_filter, hw]
  match w, h2 with
  | a :: b :: r, _ =>
    constructor
    · intro ha
      have ha : a = N := ha
      have hb : b ≠ N := by
        rintro rfl
        rw [List.nodup_cons] at hn
        exact hn.1 (by rw [ha]; simp)
      rw [hp]
      simp [ha, hb]
    · intro ha
      have ha : a ≠ N := ha
      rw [hp]
      simp [ha]

theorem ptsE_name {k : Nat → UInt8} {p G : Nat} {e : Ent} {q : Pt} (h : q ∈ ptsE k p G e) : q.2 = e.1 := by
  unfold ptsE at h
  obtain ⟨i, _, rfl⟩ := List.mem_map.1 h
  rfl
theorem ptsL_none {k : Nat → UInt8} {p G : Nat} {N : ByteArray} : ∀ {es : List Ent}, (∀ e ∈ es, e.1 ≠ N) → (ptsL k p G es).filter (fun q => decide (q.2 ≠ N)) = ptsL k p G es := by
  intro es h
  rw [List.filter_eq_self]
  intro q hq
  unfold ptsL at hq
  obtain ⟨e, he, h2⟩ := List.mem_flatMap.1 hq
  rw [ptsE_name h2]
  exact decide_eq_true (h e he)
theorem ptsE_none {k : Nat → UInt8} {p G : Nat} {e : Ent} : (ptsE k p G e).filter (fun q => decide (q.2 ≠ e.1)) = [] := by
  rw [List.filter_eq_nil_iff]
  intro q hq
  rw [ptsE_name hq]
  simp
/-- The points of all entries but one. -/
theorem ptsL_less {k : Nat → UInt8} {p G : Nat} {a b : List Ent} {e : Ent} (ha : Apart (a ++ e :: b)) : ptsL k p G (a ++ b) = (ptsL k p G (a ++ e :: b)).filter (fun q => decide (q.2 ≠ e.1)) := by
  unfold Apart at ha
  rw [List.pairwise_append, List.pairwise_cons] at ha
  have h1 : ∀ x ∈ a, x.1 ≠ e.1 := fun x hx => ha.2.2 x hx e (by simp)
  have h2 : ∀ x ∈ b, x.1 ≠ e.1 := fun x hx => Ne.symm (ha.2.1.1 x hx)
  have e1 : ptsL k p G (a ++ e :: b) = ptsL k p G a ++ (ptsE k p G e ++ ptsL k p G b) := by unfold ptsL; rw [List.flatMap_append, List.flatMap_cons]
  have e2 : ptsL k p G (a ++ b) = ptsL k p G a ++ ptsL k p G b := by unfold ptsL; rw [List.flatMap_append]
  rw [e1, e2, List.filter_append, List.filter_append, ptsL_none h1, ptsL_none h2, ptsE_none, List.nil_append]
theorem srtP_less {k : Nat → UInt8} {p G : Nat} {a b : List Ent} {e : Ent} (ha : Apart (a ++ e :: b)) : srtP (ptsL k p G (a ++ b)) = (srtP (ptsL k p G (a ++ e :: b))).filter (fun q => decide (q.2 ≠ e.1)) := by
  refine sortedP_uniq ((srtP_perm _).trans ?_) (srtP_sorted _) ((srtP_sorted _).filter _)
  rw [ptsL_less ha]
  exact (srtP_perm _).symm.filter _
end Go.Proofs.YtklfpnnnoaaiaabGreatDoor

