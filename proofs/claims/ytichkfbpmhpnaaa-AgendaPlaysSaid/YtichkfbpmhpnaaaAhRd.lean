/- The reference's list and the set of what an agenda holds. -/
import Derived.Test.YtichkfbpmhpnaaaAhRc
namespace Go.Proofs.Ytichkfbpmhpnaaa
open Go.RowKit Go.Maps

/-- One put into its place: behind all that are not later. -/
def insR (x : RI) : List RI → List RI
  | [] => [x]
  | e :: r => if x.2 < e.2 then x :: e :: r else e :: insR x r
theorem fold_true (x : RI) : ∀ (r o : List RI), r.foldl (stepI x) (o, true) = (o ++ r, true)
  | [], o => by simp
  | e :: r, o => by
    rw [List.foldl_cons, show stepI x (o, true) e = (o ++ [e], true) from rfl, fold_true x r]
    simp
theorem fold_false (x : RI) : ∀ (r o : List RI), (if (r.foldl (stepI x) (o, false)).2 = true then (r.foldl (stepI x) (o, false)).1 else (r.foldl (stepI x) (o, false)).1 ++ [x]) = o ++ insR x r
  | [], o => rfl
  | e :: r, o => by
    rw [List.foldl_cons]
    by_cases h : x.2 < e.2
    · rw [show stepI x (o, false) e = (o ++ [x] ++ [e], true) by unfold stepI; simp only [decide_eq_true h]; rfl, fold_true]
      unfold insR
      rw [if_pos h, if_pos rfl]
      simp
    · rw [show stepI x (o, false) e = (o ++ [e], false) by unfold stepI; simp only [decide_eq_false h]; rfl, fold_false x r]
      conv => rhs; unfold insR
      rw [if_neg h]
      simp
theorem setR_eq (l : List RI) (k : ByteArray) (a : Int) : setR l k a = insR (k, clampA a) (dropR l k) := by
  have := fold_false (k, clampA a) (dropR l k) []
  rw [List.nil_append] at this
  rw [← this]
  rfl
/-- A key, its tick, its turn. -/
abbrev It4 := ByteArray × Int × Int
def f4 (e : It4) : RI := (e.1, e.2.1)
def v4 (e : It4) : Value × Int × Int := (.string e.1, e.2.1, e.2.2)
def insL (x : It4) : List It4 → List It4
  | [] => [x]
  | e :: r => if x.2.1 < e.2.1 then x :: e :: r else e :: insL x r
theorem insL_map (x : It4) : ∀ L : List It4, (insL x L).map f4 = insR (f4 x) (L.map f4)
  | [] => rfl
  | e :: r => by
    unfold insL
    rw [List.map_cons]
    unfold insR
    by_cases h : x.2.1 < e.2.1
    · rw [if_pos h, if_pos (show (f4 x).2 < (f4 e).2 from h)]; rfl
    · rw [if_neg h, if_neg (show ¬ (f4 x).2 < (f4 e).2 from h), List.map_cons, insL_map x r]
theorem mem_insL (x y : It4) : ∀ L : List It4, y ∈ insL x L ↔ y = x ∨ y ∈ L
  | [] => by simp [insL]
  | e :: r => by
    unfold insL
    by_cases h : x.2.1 < e.2.1
    · rw [if_pos h]; simp
    · rw [if_neg h, List.mem_cons, mem_insL x y r, List.mem_cons]
      constructor
      · rintro (h | h | h)
        · exact .inr (.inl h)
        · exact .inl h
        · exact .inr (.inr h)
      · rintro (h | h | h)
        · exact .inr (.inl h)
        · exact .inl h
        · exact .inr (.inr h)
theorem len_insL (x : It4) : ∀ L : List It4, (insL x L).length = L.length + 1
  | [] => rfl
  | e :: r => by
    unfold insL
    by_cases h : x.2.1 < e.2.1
    · rw [if_pos h]; rfl
    · rw [if_neg h, List.length_cons, len_insL x r, List.length_cons]
def lt4 (e f : It4) : Prop := e.2.1 < f.2.1 ∨ e.2.1 = f.2.1 ∧ e.2.2 < f.2.2
theorem insL_sorted (x : It4) : ∀ L : List It4, L.Pairwise lt4 → (∀ e ∈ L, e.2.2 < x.2.2) → (insL x L).Pairwise lt4
  | [], _, _ => by simp [insL]
  | e :: r, h, ht => by
    rw [List.pairwise_cons] at h
    unfold insL
    by_cases hx : x.2.1 < e.2.1
    · rw [if_pos hx, List.pairwise_cons, List.pairwise_cons]
      refine ⟨fun y hy => ?_, h.1, h.2⟩
      rcases List.mem_cons.1 hy with rfl | hy
      · exact .inl hx
      · rcases h.1 y hy with h1 | ⟨h1, _⟩
        · exact .inl (by omega)
        · exact .inl (by omega)
    · rw [if_neg hx, List.pairwise_cons]
      refine ⟨fun y hy => ?_, insL_sorted x r h.2 (fun z hz => ht z (by simp [hz]))⟩
      rcases (mem_insL x y r).1 hy with rfl | hy
      · have := ht e (by simp)
        by_cases h2 : e.2.1 < y.2.1
        · exact .inl h2
        · exact .inr ⟨by omega, this⟩
      · exact h.1 y hy
def dropL4 (L : List It4) (k : ByteArray) : List It4 := L.filter fun e => !decide (e.1 = k)
theorem dropL4_map (L : List It4) (k : ByteArray) : (dropL4 L k).map f4 = dropR (L.map f4) k := by
  unfold dropL4 dropR
  rw [List.filter_map]
  rfl
theorem mem_dropL4 {L : List It4} {k : ByteArray} {e : It4} : e ∈ dropL4 L k ↔ e ∈ L ∧ e.1 ≠ k := by
  unfold dropL4
  rw [List.mem_filter]
  simp
/-- The list is what the agenda holds, in its order. -/
structure RelA (l : List RI) (n : Nat) (sets : Int) (C : Value × Int × Int → Prop) (L : List It4) : Prop where
  map : l = L.map f4
  mem : ∀ x, C x ↔ ∃ e ∈ L, x = v4 e
  ord : L.Pairwise lt4
  key : L.Pairwise fun e f => e.1 ≠ f.1
  tur : ∀ e ∈ L, e.2.2 ≤ sets
  len : L.length = n
theorem RelA.nil (sets : Int) : RelA [] 0 sets (fun _ => False) [] :=
  ⟨rfl, fun _ => ⟨fun h => h.elim, fun ⟨_, h, _⟩ => (by cases h)⟩, .nil, .nil, fun _ h => (by cases h), rfl⟩
theorem RelA.lenl {l : List RI} {n : Nat} {sets : Int} {C : Value × Int × Int → Prop} {L : List It4} (h : RelA l n sets C L) : l.length = n := by rw [h.map, List.length_map, h.len]
theorem drop4_key : ∀ {L : List It4} {k : ByteArray}, L.Pairwise (fun e f => e.1 ≠ f.1) → (∃ e ∈ L, e.1 = k) → (dropL4 L k).length + 1 = L.length
  | [], _, _, h => by
    obtain ⟨_, h, _⟩ := h
    cases h
  | e :: r, k, hp, h => by
    rw [List.pairwise_cons] at hp
    by_cases he : e.1 = k
    · have hr : dropL4 r k = r := by
        unfold dropL4
        refine List.filter_eq_self.2 (fun y hy => ?_)
        have := hp.1 y hy
        rw [he] at this
        simpa using fun e => this e.symm
      have h0 : dropL4 (e :: r) k = dropL4 r k := by unfold dropL4; rw [List.filter_cons, if_neg (by simp [he])]
      rw [h0, hr]; rfl
    · have h0 : dropL4 (e :: r) k = e :: dropL4 r k := by unfold dropL4; rw [List.filter_cons, if_pos (by simp [he])]
      obtain ⟨y, hy, e1⟩ := h
      have hy2 : y ∈ r := by
        rcases List.mem_cons.1 hy with rfl | hy
        · exact absurd e1 he
        · exact hy
      rw [h0, List.length_cons, drop4_key hp.2 ⟨y, hy2, e1⟩, List.length_cons]
section
variable {l : List RI} {n : Nat} {sets : Int} {C : Value × Int × Int → Prop} {L : List It4}
theorem RelA.noKey (h : RelA l n sets C L) {k : ByteArray} (hk : ∀ e ∈ L, e.1 ≠ k) : dropL4 L k = L ∧ ∀ x, C x → x.1 ≠ .string k := by
  refine ⟨List.filter_eq_self.2 (fun e he => by simpa using hk e he), fun x hx e => ?_⟩
  obtain ⟨y, hy, rfl⟩ := (h.mem x).1 hx
  unfold v4 at e
  injection e with e
  exact hk y hy e
theorem RelA.drop {n' : Nat} (h : RelA l n sets C L) (k : ByteArray) (hn : (dropL4 L k).length = n') : RelA (dropR l k) n' sets (fun x => C x ∧ x.1 ≠ .string k) (dropL4 L k) := by
  refine ⟨by rw [dropL4_map, h.map], fun x => ?_, h.ord.filter _, h.key.filter _, fun e he => h.tur e (mem_dropL4.1 he).1, hn⟩
  constructor
  · rintro ⟨hx, hne⟩
    obtain ⟨e, he, rfl⟩ := (h.mem x).1 hx
    exact ⟨e, mem_dropL4.2 ⟨he, fun e2 => hne (by rw [← e2]; rfl)⟩, rfl⟩
  · rintro ⟨e, he, rfl⟩
    obtain ⟨h1, h2⟩ := mem_dropL4.1 he
    refine ⟨(h.mem _).2 ⟨e, h1, rfl⟩, fun e2 => ?_⟩
    unfold v4 at e2
    injection e2 with e2
    exact h2 e2
theorem RelA.put (h : RelA l n sets C L) (k : ByteArray) (a : Int) (hk : ∀ e ∈ L, e.1 ≠ k) : RelA (insR (k, a) l) (n + 1) (sets + 1) (fun x => C x ∨ x = (.string k, a, sets + 1)) (insL (k, a, sets + 1) L) := by
  refine ⟨by rw [insL_map, h.map]; rfl, fun x => ?_, insL_sorted _ _ h.ord (fun e he => ?_), ?_, fun e he => ?_, by rw [len_insL, h.len]⟩
  · constructor
    · rintro (hx | rfl)
      · obtain ⟨e, he, rfl⟩ := (h.mem x).1 hx
        exact ⟨e, (mem_insL _ _ _).2 (.inr he), rfl⟩
      · exact ⟨_, (mem_insL _ _ _).2 (.inl rfl), rfl⟩
    · rintro ⟨e, he, rfl⟩
      rcases (mem_insL _ _ _).1 he with rfl | he
      · exact .inr rfl
      · exact .inl ((h.mem _).2 ⟨e, he, rfl⟩)
  · have := h.tur e he
    show e.2.2 < sets + 1
    omega
  · have aux : ∀ M : List It4, M.Pairwise (fun e f => e.1 ≠ f.1) → (∀ e ∈ M, e.1 ≠ k) → (insL (k, a, sets + 1) M).Pairwise (fun e f => e.1 ≠ f.1) := by
      intro M
      induction M with
      | nil => intro _ _; simp [insL]
      | cons e r ih =>
        intro hp hk
        rw [List.pairwise_cons] at hp
        unfold insL
        by_cases hx : (k, a, sets + 1).2.1 < e.2.1
        · rw [if_pos hx, List.pairwise_cons, List.pairwise_cons]
          exact ⟨fun y hy e2 => hk y hy e2.symm, hp.1, hp.2⟩
        · rw [if_neg hx, List.pairwise_cons]
          refine ⟨fun y hy => ?_, ih hp.2 (fun z hz => hk z (by simp [hz]))⟩
          rcases (mem_insL _ _ _).1 hy with rfl | hy
          · exact hk e (by simp)
          · exact hp.1 y hy
    exact aux L h.key hk
  · rcases (mem_insL _ _ _).1 he with rfl | he
    · exact Int.le_refl _
    · have := h.tur e he
      omega
theorem RelA.pop {e : It4} (h : RelA l (n + 1) sets C (e :: L)) : ∃ r, l = f4 e :: r ∧ RelA r n sets (fun x => C x ∧ x.1 ≠ .string e.1) L := by
  have hk := List.pairwise_cons.1 h.key
  have ho := List.pairwise_cons.1 h.ord
  refine ⟨L.map f4, by rw [h.map]; rfl, ⟨rfl, fun x => ?_, ho.2, hk.2, fun y hy => h.tur y (by simp [hy]), by have := h.len; simpa using this⟩⟩
  constructor
  · rintro ⟨hx, hne⟩
    obtain ⟨y, hy, rfl⟩ := (h.mem x).1 hx
    rcases List.mem_cons.1 hy with rfl | hy
    · exact absurd rfl hne
    · exact ⟨y, hy, rfl⟩
  · rintro ⟨y, hy, rfl⟩
    refine ⟨(h.mem _).2 ⟨y, by simp [hy], rfl⟩, fun e2 => ?_⟩
    unfold v4 at e2
    injection e2 with e2
    exact hk.1 y hy e2.symm
/-- The least is the first. -/
theorem RelA.least {e : It4} (h : RelA l n sets C (e :: L)) {x : Value × Int × Int} (hx : C x) (hl : ∀ y, C y → x.2.1 < y.2.1 ∨ x.2.1 = y.2.1 ∧ x.2.2 ≤ y.2.2) : x = v4 e := by
  obtain ⟨y, hy, rfl⟩ := (h.mem x).1 hx
  rcases List.mem_cons.1 hy with rfl | hy
  · rfl
  · have h1 := (List.pairwise_cons.1 h.ord).1 y hy
    have h2 := hl _ ((h.mem _).2 ⟨e, by simp, rfl⟩)
    unfold lt4 at h1
    unfold v4 at h2
    simp only at h2
    omega
end
end Go.Proofs.Ytichkfbpmhpnaaa
