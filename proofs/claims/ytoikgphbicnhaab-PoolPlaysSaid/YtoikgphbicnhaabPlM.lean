/- Pools as lists: what each call comes to. -/
import Derived.Test.YtoikgphbicnhaabMpO
namespace Go.Proofs.Ytoikgphbicnhaab
open Go.RowKit Go.Maps

/-- A backend. -/
structure Bk where
  nm : ByteArray
  wt : Int
  cp : Int
  st : Int
  bz : Int
def fndB (l : List Bk) (s : ByteArray) : Option Bk := l.find? fun b => decide (b.nm = s)
def live (b : Bk) : Bool := !(b.st == 2) || decide (0 < b.bz)
def setB (l : List Bk) (b : Bk) : List Bk := l.map fun x => if x.nm = b.nm then b else x
def putB (l : List Bk) (b : Bk) : List Bk := (setB l b).filter live
def sumB (l : List Bk) : Int := (l.map (·.bz)).sum
/-- A pool as it may be. -/
structure Good (l : List Bk) : Prop where
  ap : l.Pairwise fun x y => x.nm ≠ y.nm
  lv : ∀ b ∈ l, live b = true
  bz : ∀ b ∈ l, 0 ≤ b.bz ∧ b.bz ≤ b.cp
  cp : ∀ b ∈ l, 1 ≤ b.cp ∧ b.cp ≤ 65535
  wt : ∀ b ∈ l, 1 ≤ b.wt ∧ b.wt ≤ 65535
  st : ∀ b ∈ l, b.st = 0 ∨ b.st = 1 ∨ b.st = 2
  sz : ∀ b ∈ l, b.nm.size ≤ 40
theorem fndB_nil (s : ByteArray) : fndB [] s = none := rfl
theorem fndB_cons (b : Bk) (l : List Bk) (s : ByteArray) : fndB (b :: l) s = if b.nm = s then some b else fndB l s := by
  unfold fndB; rw [List.find?_cons]; by_cases h : b.nm = s <;> simp [h]
theorem fndB_mem {l : List Bk} {s : ByteArray} {b : Bk} (h : fndB l s = some b) : b ∈ l ∧ b.nm = s := by
  unfold fndB at h
  exact ⟨List.mem_of_find?_eq_some h, by simpa using List.find?_some h⟩
theorem fndB_none {l : List Bk} {s : ByteArray} (h : fndB l s = none) : ∀ b ∈ l, b.nm ≠ s := by
  unfold fndB at h
  rw [List.find?_eq_none] at h
  intro b hb
  simpa using h b hb
theorem fndB_of_mem {l : List Bk} (hp : l.Pairwise fun x y => x.nm ≠ y.nm) {b : Bk} (hb : b ∈ l) : fndB l b.nm = some b := by
  induction l with
  | nil => cases hb
  | cons y r ih =>
    rw [fndB_cons]
    obtain ⟨h1, h2⟩ := List.pairwise_cons.1 hp
    rcases List.mem_cons.1 hb with rfl | hb
    · simp
    · rw [if_neg (h1 b hb), ih h2 hb]
theorem fndB_append (l m : List Bk) (s : ByteArray) : fndB (l ++ m) s = (fndB l s).or (fndB m s) := by
  unfold fndB; rw [List.find?_append]
theorem setB_nm (l : List Bk) (b : Bk) : (setB l b).map (·.nm) = l.map (·.nm) := by
  unfold setB
  rw [List.map_map]
  apply List.map_congr_left
  intro x _
  simp only [Function.comp]
  split
  · rename_i h; exact h.symm
  · rfl
theorem setB_len (l : List Bk) (b : Bk) : (setB l b).length = l.length := by unfold setB; simp
theorem setB_mem {l : List Bk} {b x : Bk} (h : x ∈ setB l b) : x = b ∨ (x ∈ l ∧ x.nm ≠ b.nm) := by
  unfold setB at h
  obtain ⟨y, hy, rfl⟩ := List.mem_map.1 h
  split
  · exact .inl rfl
  · rename_i h2; exact .inr ⟨hy, h2⟩
theorem setB_none {l : List Bk} {b : Bk} (h : ∀ x ∈ l, x.nm ≠ b.nm) : setB l b = l := by
  unfold setB
  conv => rhs; rw [← List.map_id l]
  apply List.map_congr_left
  intro x hx
  rw [if_neg (h x hx)]; rfl
theorem fndB_set (l : List Bk) (b : Bk) (s : ByteArray) : fndB (setB l b) s = if s = b.nm then (fndB l s).map (fun _ => b) else fndB l s := by
  induction l with
  | nil => simp [setB, fndB]
  | cons y r ih =>
    have e : setB (y :: r) b = (if y.nm = b.nm then b else y) :: setB r b := rfl
    rw [e, fndB_cons, fndB_cons, ih]
    by_cases h1 : y.nm = b.nm <;> by_cases h2 : s = b.nm
    · subst h2; simp [h1]
    · have h3 : ¬ b.nm = s := fun e => h2 e.symm
      have h4 : ¬ y.nm = s := fun e => h2 (e.symm.trans h1)
      simp [h1, h2, h3]
    · subst h2; simp [h1]
    · simp [h1, h2]
theorem setB_pw {l : List Bk} (h : l.Pairwise fun x y => x.nm ≠ y.nm) (b : Bk) : (setB l b).Pairwise fun x y => x.nm ≠ y.nm := by
  unfold setB
  rw [List.pairwise_map]
  refine h.imp ?_
  intro x y hxy
  split <;> split
  · rename_i h1 h2; exact fun _ => hxy (h1.trans h2.symm)
  · rename_i h1 h2; exact fun e => h2 e.symm
  · rename_i h1 h2; exact fun e => h1 e
  · exact hxy
theorem putB_mem {l : List Bk} {b x : Bk} (h : x ∈ putB l b) : (x = b ∧ live b = true) ∨ (x ∈ l ∧ x.nm ≠ b.nm) := by
  obtain ⟨h1, h2⟩ := List.mem_filter.1 h
  rcases setB_mem h1 with rfl | h3
  · exact .inl ⟨rfl, h2⟩
  · exact .inr h3
theorem putB_live {l : List Bk} (hl : ∀ x ∈ l, live x = true) {b : Bk} (hb : live b = true) : putB l b = setB l b := by
  unfold putB
  rw [List.filter_eq_self]
  intro x hx
  rcases setB_mem hx with rfl | ⟨h, _⟩
  · exact hb
  · exact hl x h
theorem putB_dead {l : List Bk} (hl : ∀ x ∈ l, live x = true) {b : Bk} (hb : live b = false) : putB l b = l.filter fun x => !decide (x.nm = b.nm) := by
  induction l with
  | nil => rfl
  | cons y r ih =>
    have e : putB (y :: r) b = if live (if y.nm = b.nm then b else y) then (if y.nm = b.nm then b else y) :: putB r b else putB r b := by
      unfold putB setB; rw [List.map_cons, List.filter_cons]
    rw [e, ih (fun x hx => hl x (by simp [hx])), List.filter_cons]
    by_cases h : y.nm = b.nm
    · simp [h, hb]
    · simp [h, hl y (by simp)]
theorem fndB_filter (l : List Bk) (n s : ByteArray) : fndB (l.filter fun x => !decide (x.nm = n)) s = if s = n then none else fndB l s := by
  induction l with
  | nil => simp [fndB]
  | cons y r ih =>
    rw [List.filter_cons]
    by_cases h : y.nm = n
    · subst h
      rw [fndB_cons]
      simp only [decide_true, Bool.not_true, Bool.false_eq_true, if_false]
      rw [ih]
      by_cases h2 : s = y.nm
      · simp [h2]
      · have h3 : ¬ y.nm = s := fun e => h2 e.symm
        simp [h2, h3]
    · simp only [h, decide_false, Bool.not_false, if_true]
      rw [fndB_cons, fndB_cons, ih]
      by_cases h2 : s = n
      · subst h2; simp [h]
      · simp [h2]
theorem fndB_put {l : List Bk} (hl : ∀ x ∈ l, live x = true) {b x : Bk} (hx : fndB l b.nm = some x) (s : ByteArray) :
    fndB (putB l b) s = if s = b.nm then (if live b = true then some b else none) else fndB l s := by
  cases hb : live b with
  | true =>
    rw [putB_live hl hb, fndB_set]
    by_cases h : s = b.nm
    · subst h; simp [hx]
    · simp [h]
  | false =>
    rw [putB_dead hl hb, fndB_filter]
    simp
theorem Good.put {l : List Bk} (h : Good l) {b : Bk} (h1 : 0 ≤ b.bz ∧ b.bz ≤ b.cp) (h2 : 1 ≤ b.cp ∧ b.cp ≤ 65535) (h3 : 1 ≤ b.wt ∧ b.wt ≤ 65535) (h4 : b.st = 0 ∨ b.st = 1 ∨ b.st = 2) (h5 : b.nm.size ≤ 40) : Good (putB l b) := by
  have hm : ∀ x ∈ putB l b, x = b ∨ x ∈ l := fun x hx => by rcases putB_mem hx with ⟨h, _⟩ | ⟨h, _⟩ <;> simp [h]
  refine ⟨(setB_pw h.ap b).filter _, fun x hx => (List.mem_filter.1 hx).2, fun x hx => ?_, fun x hx => ?_, fun x hx => ?_, fun x hx => ?_, fun x hx => ?_⟩
  all_goals rcases hm x hx with rfl | h'
  · exact h1
  · exact h.bz x h'
  · exact h2
  · exact h.cp x h'
  · exact h3
  · exact h.wt x h'
  · exact h4
  · exact h.st x h'
  · exact h5
  · exact h.sz x h'
theorem sumB_set {l : List Bk} (hp : l.Pairwise fun x y => x.nm ≠ y.nm) {b x : Bk} (hx : fndB l b.nm = some x) : sumB (setB l b) = sumB l - x.bz + b.bz := by
  induction l with
  | nil => cases hx
  | cons y r ih =>
    obtain ⟨h1, h2⟩ := List.pairwise_cons.1 hp
    rw [fndB_cons] at hx
    have e : setB (y :: r) b = (if y.nm = b.nm then b else y) :: setB r b := rfl
    rw [e]
    by_cases h : y.nm = b.nm
    · rw [if_pos h] at hx
      injection hx with hx
      subst hx
      have : setB r b = r := setB_none (fun z hz => by rw [← h]; exact (h1 z hz).symm)
      rw [this, if_pos h]
      simp [sumB]; omega
    · rw [if_neg h] at hx
      rw [if_neg h]
      have := ih h2 hx
      simp [sumB] at this ⊢; omega
theorem sumB_live {l : List Bk} (h : ∀ x ∈ l, 0 ≤ x.bz ) (h2 : ∀ x ∈ l, live x = false → x.bz = 0) : sumB (l.filter live) = sumB l := by
  induction l with
  | nil => rfl
  | cons y r ih =>
    rw [List.filter_cons]
    have i := ih (fun x hx => h x (by simp [hx])) (fun x hx => h2 x (by simp [hx]))
    cases hy : live y with
    | true => simp [sumB] at i ⊢; omega
    | false => have := h2 y (by simp) hy; simp [sumB] at i ⊢; omega
theorem dead_zero {b : Bk} (h : live b = false) (h0 : 0 ≤ b.bz) : b.bz = 0 ∧ b.st = 2 := by
  unfold live at h
  simp at h
  omega
theorem sumB_put {l : List Bk} (h : Good l) {b x : Bk} (hx : fndB l b.nm = some x) (h0 : 0 ≤ b.bz) : sumB (putB l b) = sumB l - x.bz + b.bz := by
  unfold putB
  rw [sumB_live, sumB_set h.ap hx]
  · intro y hy
    rcases setB_mem hy with rfl | ⟨hy, _⟩
    · exact h0
    · exact (h.bz y hy).1
  · intro y hy hl
    rcases setB_mem hy with rfl | ⟨hy, _⟩
    · exact (dead_zero hl h0).1
    · exact (dead_zero hl (h.bz y hy).1).1
theorem sumB_nonneg {l : List Bk} (h : ∀ x ∈ l, 0 ≤ x.bz) : 0 ≤ sumB l := by
  induction l with
  | nil => simp [sumB]
  | cons y r ih =>
    have := ih (fun x hx => h x (by simp [hx]))
    have := h y (by simp)
    simp [sumB] at *; omega
/-! ### the calls -/
def okName (s : ByteArray) (nameB : List UInt8 → Bool) : Bool := nameB s.data.toList
/-- Add: the error's number and the pool. -/
def addE (nb : Bool) (l : List Bk) (s : ByteArray) (w c : Int) : Int :=
  if nb = false ∨ ¬ (1 ≤ w ∧ w ≤ 65535) ∨ ¬ (1 ≤ c ∧ c ≤ 65535) then 1 else if (fndB l s).isSome = true then 7 else if 1024 ≤ l.length then 8 else 0
def addL (nb : Bool) (l : List Bk) (s : ByteArray) (w c : Int) : List Bk := if addE nb l s w c = 0 then l ++ [⟨s, w, c, 0, 0⟩] else l
/-- Reweight. -/
def rwE (l : List Bk) (s : ByteArray) (w : Int) : Int := match fndB l s with
  | none => 6
  | some b => if b.st = 2 then 6 else if 1 ≤ w ∧ w ≤ 65535 then 0 else 1
def rwL (l : List Bk) (s : ByteArray) (w : Int) : List Bk := match fndB l s with
  | none => l
  | some b => if b.st = 2 then l else if 1 ≤ w ∧ w ≤ 65535 then putB l { b with wt := w } else l
/-- Drain, Undrain, Remove: to the state k. -/
def tnE (l : List Bk) (s : ByteArray) : Int := match fndB l s with
  | none => 6
  | some b => if b.st = 2 then 6 else 0
def tnL (l : List Bk) (s : ByteArray) (k : Int) : List Bk := match fndB l s with
  | none => l
  | some b => if b.st = 2 then l else putB l { b with st := k }
def tkE (l : List Bk) (s : ByteArray) : Int := match fndB l s with
  | none => 6
  | some b => if b.st ≠ 0 then 9 else if b.cp ≤ b.bz then 8 else 0
def tkL (l : List Bk) (s : ByteArray) : List Bk := match fndB l s with
  | none => l
  | some b => if b.st ≠ 0 then l else if b.cp ≤ b.bz then l else putB l { b with bz := b.bz + 1 }
def gvE (l : List Bk) (s : ByteArray) : Int := match fndB l s with
  | none => 6
  | some b => if b.bz = 0 then 9 else 0
def gvL (l : List Bk) (s : ByteArray) : List Bk := match fndB l s with
  | none => l
  | some b => if b.bz = 0 then l else putB l { b with bz := b.bz - 1 }
def gvD (l : List Bk) (s : ByteArray) : Bool := match fndB l s with
  | none => false
  | some b => if b.bz = 0 then false else decide (b.st ≠ 0 ∧ b.bz = 1)
theorem Good.nil : Good [] := ⟨.nil, by simp, by simp, by simp, by simp, by simp, by simp⟩
theorem Good.add {l : List Bk} (h : Good l) (nb : Bool) {s : ByteArray} (hs : s.size ≤ 40) (w c : Int) : Good (addL nb l s w c) := by
  unfold addL
  split
  · rename_i h0
    unfold addE at h0
    split at h0
    · cases h0
    · rename_i h1
      simp only [not_or, Decidable.not_not] at h1
      obtain ⟨_, h2, h3⟩ := h1
      split at h0
      · cases h0
      · rename_i h4
        have h5 : fndB l s = none := by
          cases hf : fndB l s with
          | none => rfl
          | some b => rw [hf] at h4; simp at h4
        have h6 := fndB_none h5
        refine ⟨?_, ?_, ?_, ?_, ?_, ?_, ?_⟩
        · rw [List.pairwise_append]
          exact ⟨h.ap, by simp, fun x hx y hy => by simp at hy; subst hy; exact h6 x hx⟩
        all_goals
          intro b hb
          rcases List.mem_append.1 hb with hb | hb
        · exact h.lv b hb
        · simp at hb; subst hb; simp [live]
        · exact h.bz b hb
        · simp at hb; subst hb; simp; omega
        · exact h.cp b hb
        · simp at hb; subst hb; simpa using h3
        · exact h.wt b hb
        · simp at hb; subst hb; simpa using h2
        · exact h.st b hb
        · simp at hb; subst hb; simp
        · exact h.sz b hb
        · simp at hb; subst hb; simpa using hs
  · exact h
theorem Good.of {l : List Bk} (h : Good l) {s : ByteArray} {b : Bk} (hf : fndB l s = some b) : live b = true ∧ (0 ≤ b.bz ∧ b.bz ≤ b.cp) ∧ (1 ≤ b.cp ∧ b.cp ≤ 65535) ∧ (1 ≤ b.wt ∧ b.wt ≤ 65535) ∧ (b.st = 0 ∨ b.st = 1 ∨ b.st = 2) ∧ b.nm.size ≤ 40 ∧ b.nm = s := by
  obtain ⟨h1, h2⟩ := fndB_mem hf
  exact ⟨h.lv b h1, h.bz b h1, h.cp b h1, h.wt b h1, h.st b h1, h.sz b h1, h2⟩
theorem Good.rw {l : List Bk} (h : Good l) (s : ByteArray) (w : Int) : Good (rwL l s w) := by
  unfold rwL
  split
  · exact h
  · rename_i b hf
    obtain ⟨_, h1, h2, h3, h4, h5, _⟩ := h.of hf
    split
    · exact h
    · split
      · rename_i hw; exact h.put h1 h2 hw h4 h5
      · exact h
theorem Good.tn {l : List Bk} (h : Good l) (s : ByteArray) (k : Int) (hk : k = 0 ∨ k = 1 ∨ k = 2) : Good (tnL l s k) := by
  unfold tnL
  split
  · exact h
  · rename_i b hf
    obtain ⟨_, h1, h2, h3, h4, h5, _⟩ := h.of hf
    split
    · exact h
    · exact h.put h1 h2 h3 hk h5
theorem Good.tk {l : List Bk} (h : Good l) (s : ByteArray) : Good (tkL l s) := by
  unfold tkL
  split
  · exact h
  · rename_i b hf
    obtain ⟨_, h1, h2, h3, h4, h5, _⟩ := h.of hf
    split
    · exact h
    · split
      · exact h
      · rename_i hb; exact h.put (b := { b with bz := b.bz + 1 }) (by simp; omega) h2 h3 h4 h5
theorem Good.gv {l : List Bk} (h : Good l) (s : ByteArray) : Good (gvL l s) := by
  unfold gvL
  split
  · exact h
  · rename_i b hf
    obtain ⟨_, h1, h2, h3, h4, h5, _⟩ := h.of hf
    split
    · exact h
    · rename_i hb; exact h.put (b := { b with bz := b.bz - 1 }) (by simp; omega) h2 h3 h4 h5
end Go.Proofs.Ytoikgphbicnhaab
