/- The reference's marks as lists. -/
import Derived.Test.YtcmjcpgfnkhnoaaRoJ
namespace Go.Proofs.Ytcmjcpgfnkhnoaa

/-- A name's mark in a list. -/
def ofL : List Ent → ByteArray → Int
  | [], _ => 0
  | m :: l, s => if m.1 = s then m.2 else ofL l s
/-- Without a name. -/
def outL (l : List Ent) (s : ByteArray) : List Ent := l.filter fun m => decide (m.1 ≠ s)
def setM (l : List Ent) (s : ByteArray) (n : Int) : List Ent := (s, n) :: outL l s
theorem ofL_out : ∀ (l : List Ent) (s t : ByteArray), ofL (outL l s) t = if t = s then 0 else ofL l t
  | [], s, t => by simp [outL, ofL]
  | m :: l, s, t => by
    have ih := ofL_out l s t
    unfold outL at ih ⊢
    by_cases h : m.1 = s
    · rw [List.filter_cons_of_neg (by simp [h]), ih]
      by_cases ht : t = s
      · rw [if_pos ht, if_pos ht]
      · rw [if_neg ht, if_neg ht]; show ofL l t = if m.1 = t then m.2 else ofL l t; rw [if_neg (by rw [h]; exact fun e => ht e.symm)]
    · rw [List.filter_cons_of_pos (by simp [h])]
      unfold ofL
      by_cases hm : m.1 = t
      · rw [if_pos hm, if_pos hm, if_neg (by rw [← hm]; exact h)]
      · rw [if_neg hm, if_neg hm, ih]
theorem ofL_set (l : List Ent) (s : ByteArray) (n : Int) : ofL (setM l s n) = upd (ofL l) s n := by
  funext t
  unfold setM ofL upd
  rw [ofL_out]
  by_cases h : s = t
  · rw [if_pos h, if_pos h.symm]
  · rw [if_neg h, if_neg (fun e => h e.symm), if_neg (fun e => h e.symm)]
theorem out_apart {l : List Ent} (h : Apart l) (s : ByteArray) : Apart (outL l s) := List.Pairwise.sublist List.filter_sublist h
theorem set_apart {l : List Ent} (h : Apart l) (s : ByteArray) (n : Int) : Apart (setM l s n) := by
  unfold setM Apart
  rw [List.pairwise_cons]
  refine ⟨fun m hm => ?_, out_apart h s⟩
  have := (List.mem_filter.1 hm).2
  simp only [decide_eq_true_eq] at this
  exact fun e => this e.symm
theorem out_len (l : List Ent) (s : ByteArray) : (outL l s).length ≤ l.length := List.length_filter_le _ _
theorem set_len (l : List Ent) (s : ByteArray) (n : Int) : (setM l s n).length ≤ l.length + 1 := by
  unfold setM; simp only [List.length_cons]; have := out_len l s; omega
theorem ofL_mem : ∀ {l : List Ent}, Apart l → ∀ m ∈ l, ofL l m.1 = m.2
  | [], _, m, h => by cases h
  | x :: l, ha, m, h => by
    have ha2 := List.pairwise_cons.1 ha
    unfold ofL
    rcases List.mem_cons.1 h with rfl | h
    · rw [if_pos rfl]
    · rw [if_neg (ha2.1 m h)]
      exact ofL_mem ha2.2 m h
/-- The marks behind the additions. -/
def addL (l : List Ent) (E : List Ent) : List Ent := E.foldl (fun l e => setM l e.1 (ofL l e.1 + e.2)) l
theorem addL_step (l : List Ent) {E : List Ent} {j : Nat} (hj : j < E.length) : addL l (E.take (j + 1)) = setM (addL l (E.take j)) E[j].1 (ofL (addL l (E.take j)) E[j].1 + E[j].2) := by
  unfold addL
  rw [List.take_add_one, List.getElem?_eq_getElem hj, Option.toList_some, List.foldl_append]
  rfl
theorem ofL_add : ∀ (E l : List Ent), ofL (addL l E) = addAll (ofL l) E
  | [], _ => rfl
  | e :: E, l => by
    show ofL (addL (setM l e.1 (ofL l e.1 + e.2)) E) = addAll (upd (ofL l) e.1 (ofL l e.1 + e.2)) E
    rw [ofL_add E, ofL_set]
theorem addL_apart : ∀ (E l : List Ent), Apart l → Apart (addL l E)
  | [], _, h => h
  | _ :: E, _, h => addL_apart E _ (set_apart h _ _)
theorem addL_len : ∀ (E l : List Ent), (addL l E).length ≤ l.length + E.length
  | [], _ => Nat.le_refl _
  | e :: E, l => by
    have h1 := addL_len E (setM l e.1 (ofL l e.1 + e.2))
    have h2 := set_len l e.1 (ofL l e.1 + e.2)
    simp only [List.length_cons]
    show (addL (setM l e.1 (ofL l e.1 + e.2)) E).length ≤ _
    omega
/-- Whose turn it is, by the marks behind. -/
def bst (F : ByteArray → Int) (E : List Ent) : Nat → ByteArray
  | 0 => nm E 0
  | j + 1 => if F (bst F E j) < F (nm E j) then nm E j else bst F E j
theorem bst_great (f : ByteArray → Int) {E : List Ent} (hA : Apart E) : ∀ j, j ≤ E.length → nm E (great f E j) = bst (addAll f E) E j
  | 0, _ => rfl
  | j + 1, hj => by
    have ih := bst_great f hA j (by omega)
    have hg := great_lt f E j
    have same : ∀ i, i < j + 1 → addAll f (E.take (j + 1)) (nm E i) = addAll f E (nm E i) := by
      intro i hi
      have hil : i < E.length := by omega
      rw [nm_eq hil, addAll_mem E f hA _ (List.getElem_mem hil)]
      have hm : E[i] ∈ E.take (j + 1) := by rw [List.mem_take_iff_getElem]; exact ⟨i, by omega, rfl⟩
      exact addAll_mem _ f (hA.take (j + 1)) _ hm
    have hgs : great f E (j + 1) = if addAll f (E.take (j + 1)) (nm E (great f E j)) < addAll f (E.take (j + 1)) (nm E j) then j else great f E j := rfl
    have hbs : bst (addAll f E) E (j + 1) = if addAll f E (bst (addAll f E) E j) < addAll f E (nm E j) then nm E j else bst (addAll f E) E j := rfl
    rw [hgs, hbs, same j (by omega), same (great f E j) (by omega), ih]
    by_cases hc : addAll f E (bst (addAll f E) E j) < addAll f E (nm E j)
    · rw [if_pos hc, if_pos hc]
    · rw [if_neg hc, if_neg hc]; exact ih
theorem turn_bst (f : ByteArray → Int) {E : List Ent} (hA : Apart E) : turn f E = bst (addAll f E) E E.length := bst_great f hA E.length (Nat.le_refl _)
/-- The marks behind a Pick. -/
def pickL (l : List Ent) (E : List Ent) : List Ent := setM (addL l E) (turn (ofL l) E) (ofL (addL l E) (turn (ofL l) E) - sumW E)
theorem ofL_pick (l E : List Ent) : ofL (pickL l E) = after (ofL l) E := by
  unfold pickL after
  rw [ofL_set, ofL_add]
theorem pickL_apart {l : List Ent} (h : Apart l) (E : List Ent) : Apart (pickL l E) := set_apart (addL_apart E l h) _ _
theorem pickL_len (l E : List Ent) : (pickL l E).length ≤ l.length + E.length + 1 := by
  have h1 := set_len (addL l E) (turn (ofL l) E) (ofL (addL l E) (turn (ofL l) E) - sumW E)
  have h2 := addL_len E l
  unfold pickL; omega
/-- Only these names. -/
def keepL (l : List Ent) (ns : List ByteArray) : List Ent := l.filter fun m => ns.any fun s => decide (s = m.1)
def keepF (f : ByteArray → Int) (ns : List ByteArray) : ByteArray → Int := fun s => if ns.any (fun t => decide (t = s)) then f s else 0
theorem ofL_keep : ∀ (l : List Ent) (ns : List ByteArray), ofL (keepL l ns) = keepF (ofL l) ns
  | [], ns => by funext s; simp [keepL, keepF, ofL]
  | m :: l, ns => by
    funext s
    have ih := congrFun (ofL_keep l ns) s
    have hk : keepL (m :: l) ns = if (ns.any fun t => decide (t = m.1)) = true then m :: keepL l ns else keepL l ns := by
      unfold keepL
      rw [List.filter_cons]
    have hf : keepF (ofL (m :: l)) ns s = if (ns.any fun t => decide (t = s)) = true then (if m.1 = s then m.2 else ofL l s) else 0 := rfl
    have hg : keepF (ofL l) ns s = if (ns.any fun t => decide (t = s)) = true then ofL l s else 0 := rfl
    rw [hk, hf]
    rw [hg] at ih
    by_cases h : (ns.any fun t => decide (t = m.1)) = true
    · rw [if_pos h]
      show (if m.1 = s then m.2 else ofL (keepL l ns) s) = _
      by_cases hm : m.1 = s
      · rw [if_pos hm, if_pos (by rw [← hm]; exact h), if_pos hm]
      · rw [if_neg hm, ih, if_neg hm]
    · rw [if_neg h, ih]
      by_cases hm : m.1 = s
      · rw [if_neg (by rw [← hm]; exact h), if_neg (by rw [← hm]; exact h)]
      · rw [if_neg hm]
theorem keepL_apart {l : List Ent} (h : Apart l) (ns : List ByteArray) : Apart (keepL l ns) := List.Pairwise.sublist List.filter_sublist h
theorem keepL_len (l : List Ent) (ns : List ByteArray) : (keepL l ns).length ≤ l.length := List.length_filter_le _ _
end Go.Proofs.Ytcmjcpgfnkhnoaa
