/- maglev: the two walks are one. -/
import Derived.Test.YtlcpkplipfcdaaaDoorMgKy
namespace Go.Proofs.YtlcpkplipfcdaaaDoor
open Go.RowKit Go.Maps

theorem inS_iff {l : List ByteArray} {y : ByteArray} : inS l y = true ↔ y ∈ l := by
  unfold inS
  rw [List.any_eq_true]
  constructor
  · rintro ⟨x, hx, h⟩; rw [← of_decide_eq_true h]; exact hx
  · intro h; exact ⟨y, h, decide_eq_true rfl⟩
theorem nodup_lenB : ∀ {l l' : List ByteArray}, l.Nodup → (∀ x ∈ l, x ∈ l') → l.length ≤ l'.length
  | [], _, _, _ => Nat.zero_le _
  | a :: l, l', h, hs => by
    have hn := List.nodup_cons.1 h
    obtain ⟨s, t, rfl⟩ := List.append_of_mem (hs a (List.mem_cons_self ..))
    have ih := nodup_lenB (l := l) (l' := s ++ t) hn.2 (fun x hx => by
      have hxa : x ≠ a := fun e => hn.1 (by rw [← e]; exact hx)
      have := hs x (List.mem_cons_of_mem _ hx)
      simp only [List.mem_append, List.mem_cons] at this ⊢
      rcases this with h1 | h1 | h1
      · exact .inl h1
      · exact absurd h1 hxa
      · exact .inr h1)
    simp only [List.length_append, List.length_cons] at ih ⊢
    omega
theorem nodup_all {l ns : List ByteArray} (h : l.Nodup) (hs : ∀ x ∈ l, x ∈ ns) (hl : l.length = ns.length) {y : ByteArray} (hy : y ∈ ns) : y ∈ l := by
  by_cases e : y ∈ l
  · exact e
  · have := nodup_lenB (l := y :: l) (l' := ns) (List.nodup_cons.2 ⟨e, h⟩) (fun x hx => by
      rcases List.mem_cons.1 hx with rfl | hx
      · exact hy
      · exact hs x hx)
    simp only [List.length_cons] at this
    omega
theorem walk_same {pl ns : List ByteArray} {m : Nat} {own : Nat → Int} (st : Nat) (hm : 0 < m) (hpl : pl.length = m) (hat : ∀ q, q < m → pl.getD q ⟨#[]⟩ = atN ns m own (q : Int)) (hin : ns = [] ∨ ∀ q, q < m → atN ns m own (q : Int) ∈ ns) :
    ∀ j, rwS pl ns st j = wkS ns m own st j ∧ (wkS ns m own st j).Nodup ∧ ∀ y ∈ wkS ns m own st j, y ∈ ns
  | 0 => ⟨rfl, List.nodup_nil, fun y hy => by cases hy⟩
  | j + 1 => by
    obtain ⟨h1, h2, h3⟩ := walk_same st hm hpl hat hin j
    have hq : (st + j) % m < m := Nat.mod_lt _ hm
    have hN := hat _ hq
    rw [← hpl] at hN
    by_cases hl : (wkS ns m own st j).length = ns.length
    · rw [wkS_keep hl]
      refine ⟨?_, h2, h3⟩
      rw [rwS_no hN, h1]
      rw [h1, hpl]
      rcases hin with h | h
      · exact .inl (by rw [h]; rfl)
      · exact .inr (inS_iff.2 (nodup_all h2 h3 hl (h _ hq)))
    · have hn : atN ns m own (((st + j) % m : Nat) : Int) ∈ ns := by
        rcases hin with h | h
        · exfalso
          have := wkS_le (ns := ns) (m := m) (own := own) (st := st) j
          rw [h] at hl this
          simp only [List.length_nil] at hl this
          omega
        · exact h _ hq
      cases hi : inS (wkS ns m own st j) (atN ns m own (((st + j) % m : Nat) : Int)) with
      | true =>
        rw [wkS_old hl hi, rwS_no hN (.inr (by rw [h1, hpl]; exact hi)), h1]
        exact ⟨rfl, h2, h3⟩
      | false =>
        have hno : atN ns m own (((st + j) % m : Nat) : Int) ∉ wkS ns m own st j := fun h => by rw [inS_iff.2 h] at hi; cases hi
        rw [wkS_new hl hi, rwS_yes hN (by rw [hpl]; exact inS_iff.2 hn) (by rw [h1, hpl]; exact hi), h1, hpl]
        refine ⟨rfl, List.nodup_append.2 ⟨h2, by simp, fun x hx y hy e => ?_⟩, fun y hy => ?_⟩
        · rw [List.mem_singleton] at hy
          exact hno (by rw [← hy, ← e]; exact hx)
        · rcases List.mem_append.1 hy with hy | hy
          · exact h3 y hy
          · rw [List.mem_singleton] at hy; rw [hy]; exact hn
/-- A table whose places are all given, or that has no names. -/
structure Full (ns : List ByteArray) (m : Nat) (own : Nat → Int) : Prop where
  nd : ns.Nodup
  full : ns ≠ [] → ∀ q, q < m → 0 ≤ own q ∧ own q < ns.length
theorem Assigned.fullT {k : Nat → UInt8} {es : List Ent} {m : Nat} {own : Nat → Int} (h : Assigned k es m own) (hp : primeB m = true) (hv : ∀ e ∈ es, okW e = true) (ha : Apart es) : Full (es.map (·.1)) m own := by
  refine ⟨?_, fun hne q hq => ?_⟩
  · unfold List.Nodup
    rw [List.pairwise_map]
    exact ha
  · rw [List.length_map]
    exact h.full (fun e => hne (by rw [e]; rfl)) hp hv q hq
theorem Full.at_ {ns : List ByteArray} {m : Nat} {own : Nat → Int} (h : Full ns m own) (hne : ns ≠ []) {q : Nat} (hq : q < m) : ∃ i, ∃ hi : i < ns.length, own q = (i : Int) ∧ atN ns m own (q : Int) = ns[i] := by
  obtain ⟨h1, h2⟩ := h.full hne q hq
  refine ⟨(own q).toNat, by omega, by omega, ?_⟩
  unfold atN
  rw [if_neg (by omega), Int.toNat_natCast, if_neg (by omega), List.getElem?_eq_getElem (by omega), Option.getD_some]
theorem Full.mem {ns : List ByteArray} {m : Nat} {own : Nat → Int} (h : Full ns m own) : ns = [] ∨ ∀ q, q < m → atN ns m own (q : Int) ∈ ns := by
  by_cases hne : ns = []
  · exact .inl hne
  · refine .inr fun q hq => ?_
    obtain ⟨i, hi, _, h2⟩ := h.at_ hne hq
    rw [h2]; exact List.getElem_mem hi
theorem Full.eq {ns : List ByteArray} {m : Nat} {own : Nat → Int} (h : Full ns m own) {q i : Nat} (hq : q < m) (hi : i < ns.length) : decide (atN ns m own (q : Int) = ns[i]) = decide (own q = (i : Int)) := by
  obtain ⟨j, hj, h1, h2⟩ := h.at_ (fun e => by rw [e] at hi; simp at hi) hq
  rw [h2, h1]
  by_cases e : j = i
  · subst e; simp
  · have hne2 : ns[j] ≠ ns[i] := fun h3 => by
      have hnd := h.nd
      rw [List.Nodup, List.pairwise_iff_getElem] at hnd
      rcases Nat.lt_or_ge i j with h4 | h4
      · exact hnd i j hi hj h4 h3.symm
      · exact hnd j i hj hi (by omega) h3
    rw [decide_eq_false hne2, decide_eq_false (by omega)]
end Go.Proofs.YtlcpkplipfcdaaaDoor
