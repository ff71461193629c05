/- Weighted round robin over lists: what Pick comes to; shares. -/
import Derived.Test.YtcmjcpgfnkhnoaaRoA
namespace Go.Proofs.Ytcmjcpgfnkhnoaa

/-- An entry: its name, its weight. -/
abbrev Ent := ByteArray × Int
/-- A weight as it counts. -/
def lim (n : Int) : Int := min (max n 1) 65535
theorem lim_one (n : Int) : 1 ≤ lim n ∧ lim n ≤ 65535 := by unfold lim; omega
/-- Is the name among the entries? -/
def hasE (es : List Ent) (s : ByteArray) : Bool := es.any fun x => decide (x.1 = s)
theorem hasE_append (a b : List Ent) (s : ByteArray) : hasE (a ++ b) s = (hasE a s || hasE b s) := by simp [hasE]
theorem hasE_map (a : List Ent) (g : Int → Int) (s : ByteArray) : hasE (a.map fun e => (e.1, g e.2)) s = hasE a s := by simp [hasE, List.any_map, Function.comp_def]
theorem hasE_mem {a : List Ent} {s : ByteArray} : hasE a s = true ↔ ∃ e ∈ a, e.1 = s := by simp [hasE]
/-- The first entry of each name. -/
def onceF (acc : List Ent) (e : Ent) : List Ent := if hasE acc e.1 then acc else acc ++ [e]
def once (es : List Ent) : List Ent := es.foldl onceF []
theorem once_step {es : List Ent} {j : Nat} (hj : j < es.length) : once (es.take (j + 1)) = onceF (once (es.take j)) es[j] := by
  unfold once
  rw [List.take_add_one, List.getElem?_eq_getElem hj, Option.toList_some, List.foldl_append]
  rfl
/-- No name twice. -/
def Apart (es : List Ent) : Prop := es.Pairwise fun x y => x.1 ≠ y.1
theorem Apart.snoc {a : List Ent} (h : Apart a) {e : Ent} (he : hasE a e.1 = false) : Apart (a ++ [e]) := by
  unfold Apart
  rw [List.pairwise_append]
  refine ⟨h, by simp, fun x hx y hy => ?_⟩
  simp at hy
  subst hy
  intro e2
  have : hasE a y.1 = true := hasE_mem.2 ⟨x, hx, e2⟩
  rw [he] at this; cases this
theorem onceF_apart {a : List Ent} (h : Apart a) (e : Ent) : Apart (onceF a e) := by
  unfold onceF
  split
  · exact h
  · rename_i hn
    exact h.snoc (by simpa using hn)
theorem fold_apart : ∀ (es a : List Ent), Apart a → Apart (es.foldl onceF a)
  | [], _, h => h
  | e :: es, _, h => fold_apart es _ (onceF_apart h e)
theorem once_apart (es : List Ent) : Apart (once es) := fold_apart es [] List.Pairwise.nil
theorem fold_len : ∀ (es a : List Ent), (es.foldl onceF a).length ≤ a.length + es.length
  | [], _ => by simp
  | e :: es, a => by
    have h := fold_len es (onceF a e)
    have h2 : (onceF a e).length ≤ a.length + 1 := by unfold onceF; split <;> simp
    simp only [List.foldl_cons, List.length_cons]
    omega
theorem once_len (es : List Ent) : (once es).length ≤ es.length := by
  have := fold_len es []
  simpa [once] using this
theorem fold_sub : ∀ (es a : List Ent), ∀ e ∈ es.foldl onceF a, e ∈ a ∨ e ∈ es
  | [], _, e, h => .inl h
  | x :: es, a, e, h => by
    rcases fold_sub es _ e h with h | h
    · unfold onceF at h
      split at h
      · exact .inl h
      · rcases List.mem_append.1 h with h | h
        · exact .inl h
        · simp at h; exact .inr (by simp [h])
    · exact .inr (List.mem_cons_of_mem _ h)
theorem once_sub {es : List Ent} {e : Ent} (h : e ∈ once es) : e ∈ es := by
  rcases fold_sub es [] e h with h | h
  · cases h
  · exact h
theorem fold_keeps : ∀ (es a : List Ent), a ≠ [] → es.foldl onceF a ≠ []
  | [], _, h => h
  | _ :: es, _, h => fold_keeps es _ (by unfold onceF; split <;> simp [h])
theorem once_ne {es : List Ent} (h : es ≠ []) : once es ≠ [] := by
  cases es with
  | nil => exact absurd rfl h
  | cons e es => exact fold_keeps es _ (by simp [onceF, hasE])
theorem fold_apart_id : ∀ (es a : List Ent), Apart (a ++ es) → es.foldl onceF a = a ++ es
  | [], _, _ => by simp
  | e :: es, a, h => by
    have h1 : hasE a e.1 = false := by
      cases hb : hasE a e.1
      · rfl
      · obtain ⟨x, hx, hxe⟩ := hasE_mem.1 hb
        exact absurd hxe ((List.pairwise_append.1 h).2.2 x hx e (by simp))
    have : onceF a e = a ++ [e] := by unfold onceF; rw [h1]; rfl
    rw [List.foldl_cons, this, fold_apart_id es (a ++ [e]) (by simpa using h)]
    simp
theorem once_id {es : List Ent} (h : Apart es) : once es = es := by
  have := fold_apart_id es [] (by simpa using h)
  simpa [once] using this
/-- The entries that count. -/
def cnt (es : List Ent) : List Ent := (once es).map fun e => (e.1, lim e.2)
theorem Apart.map {es : List Ent} (h : Apart es) (g : Ent → Int) : Apart (es.map fun e => (e.1, g e)) := by
  unfold Apart
  rw [List.pairwise_map]
  exact h
theorem cnt_apart (es : List Ent) : Apart (cnt es) := (once_apart es).map (fun e => lim e.2)
theorem cnt_len (es : List Ent) : (cnt es).length ≤ es.length := by unfold cnt; rw [List.length_map]; exact once_len es
theorem cnt_id {es : List Ent} (h : Apart es) (hw : ∀ e ∈ es, 1 ≤ e.2 ∧ e.2 ≤ 65535) : cnt es = es := by
  unfold cnt
  rw [once_id h]
  conv => rhs; rw [← List.map_id es]
  apply List.map_congr_left
  intro e he
  have := hw e he
  show (e.1, lim e.2) = e
  have : lim e.2 = e.2 := by unfold lim; omega
  rw [this]

/-- Each weight added to its name's mark. -/
def addAll (f : ByteArray → Int) (E : List Ent) : ByteArray → Int := E.foldl (fun f e => upd f e.1 (f e.1 + e.2)) f
theorem addAll_step (f : ByteArray → Int) {E : List Ent} {j : Nat} (hj : j < E.length) : addAll f (E.take (j + 1)) = upd (addAll f (E.take j)) E[j].1 (addAll f (E.take j) E[j].1 + E[j].2) := by
  unfold addAll
  rw [List.take_add_one, List.getElem?_eq_getElem hj, Option.toList_some, List.foldl_append]
  rfl
theorem addAll_other : ∀ (E : List Ent) (f : ByteArray → Int) (s : ByteArray), hasE E s = false → addAll f E s = f s
  | [], _, _, _ => rfl
  | e :: E, f, s, h => by
    simp only [hasE, List.any_cons, Bool.or_eq_false_iff, decide_eq_false_iff_not] at h
    show addAll (upd f e.1 (f e.1 + e.2)) E s = _
    rw [addAll_other E _ s h.2, upd_other _ _ (Ne.symm h.1)]
theorem addAll_mem : ∀ (E : List Ent) (f : ByteArray → Int), Apart E → ∀ e ∈ E, addAll f E e.1 = f e.1 + e.2
  | [], _, _, e, h => by cases h
  | x :: E, f, ha, e, h => by
    have ha2 := List.pairwise_cons.1 ha
    show addAll (upd f x.1 (f x.1 + x.2)) E e.1 = _
    rcases List.mem_cons.1 h with rfl | h
    · rw [addAll_other E _ _ (by
        cases hb : hasE E e.1
        · rfl
        · obtain ⟨y, hy, hye⟩ := hasE_mem.1 hb
          exact absurd hye.symm (ha2.1 y hy)), upd_same]
    · rw [addAll_mem E _ ha2.2 e h, upd_other _ _ (Ne.symm (ha2.1 e h))]
/-- The name at a place. -/
def nm (E : List Ent) (j : Nat) : ByteArray := ((E[j]?).getD (⟨#[]⟩, 0)).1
theorem nm_eq {E : List Ent} {j : Nat} (hj : j < E.length) : nm E j = E[j].1 := by simp [nm, hj]
/-- The place of the greatest mark so far. -/
def great (f : ByteArray → Int) (E : List Ent) : Nat → Nat
  | 0 => 0
  | j + 1 => if addAll f (E.take (j + 1)) (nm E (great f E j)) < addAll f (E.take (j + 1)) (nm E j) then j else great f E j
theorem great_lt (f : ByteArray → Int) (E : List Ent) : ∀ j, great f E j < j ∨ great f E j = 0
  | 0 => .inr rfl
  | j + 1 => by
    unfold great
    split
    · exact .inl (by omega)
    · rcases great_lt f E j with h | h
      · exact .inl (by omega)
      · exact .inr h
/-- The sum of the weights. -/
def sumW (E : List Ent) : Int := (E.map fun e => e.2).sum
theorem sumW_step {E : List Ent} {j : Nat} (hj : j < E.length) : sumW (E.take (j + 1)) = sumW (E.take j) + E[j].2 := by
  unfold sumW
  rw [List.take_add_one, List.getElem?_eq_getElem hj, Option.toList_some, List.map_append, List.sum_append]
  simp
/-- Whose turn it is. -/
def turn (f : ByteArray → Int) (E : List Ent) : ByteArray := nm E (great f E E.length)
/-- The marks behind it. -/
def after (f : ByteArray → Int) (E : List Ent) : ByteArray → Int := upd (addAll f E) (turn f E) (addAll f E (turn f E) - sumW E)
end Go.Proofs.Ytcmjcpgfnkhnoaa
