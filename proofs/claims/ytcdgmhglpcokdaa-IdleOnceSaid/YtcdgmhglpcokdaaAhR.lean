/- The agenda's queue as a state: what Push, Pop and Remove do to it, beside the program. -/
import Derived.Test.YtcdgmhglpcokdaaAhL
namespace Go.Proofs.Ytcdgmhglpcokdaa
open Go.RowKit

theorem Keep.via {G G1 : Nat → Prop} {a b c : World} (h : Keep G a b) (k : Keep G1 b c) (hg : ∀ k, k < a.heap.size → G1 k → G k) : Keep G a c :=
  ⟨k.os.trans h.os, k.tape.trans h.tape, k.output.trans h.output, Nat.le_trans h.size k.size, fun j hj hn => (k.block j (Nat.lt_of_lt_of_le hj h.size) (fun h1 => hn (hg j hj h1))).trans (h.block j hj hn)⟩
/-- The agenda's queue in memory: its slice v, nil or not. -/
structure AgS (pl : Pl) (PT IT : TypeId) (w : World) (ab : Nat) (v : Value) (n : Nat) (mp : Value) (sets : Int) (Q : Nat → It) : Prop where
  ag : RowA pl w ab v mp sets
  own : ∃ cs, w.ownsRow 0 PT 1 v n cs ∧ ∀ i, i < n → cs[i]? = some (ptI (Q i))
  it : ∀ i, i < n → Row w (Q i).b IT (itR (Q i) i)
  inj : ∀ i, i < n → ∀ j, j < n → (Q i).b = (Q j).b → i = j
/-- Its blocks. -/
def AgG (ab : Nat) (v : Value) (Q : Nat → It) (n : Nat) : Nat → Prop := fun k => k = ab ∨ v.ownBlock = some k ∨ ∃ i, i < n ∧ (Q i).b = k
/-- One more behind n. -/
def ext (Q : Nat → It) (n : Nat) (it : It) : Nat → It := fun i => if i = n then it else Q i
theorem ext_n (Q : Nat → It) (n : Nat) (it : It) : ext Q n it n = it := if_pos rfl
theorem ext_lt (Q : Nat → It) {n i : Nat} (it : It) (h : i < n) : ext Q n it i = Q i := if_neg (by omega)
/-- All but the one at r. -/
def Without (n : Nat) (Q : Nat → It) (r : Nat) (Q' : Nat → It) : Prop := (∀ i, i < n → ∃ j, j < n + 1 ∧ j ≠ r ∧ Q' i = Q j) ∧ ∀ j, j < n + 1 → j ≠ r → ∃ i, i < n ∧ Q' i = Q j
theorem without_of {Q Q' : Nat → It} {n r : Nat} (hr : r ≤ n) (hi : ∀ i, i < n + 1 → ∀ j, j < n + 1 → (Q i).b = (Q j).b → i = j) (hs : SameQ (n + 1) (swp Q r n) Q') (hq : Q' n = Q r) (hi2 : ∀ i, i < n + 1 → ∀ j, j < n + 1 → (Q' i).b = (Q' j).b → i = j) : Without n Q r Q' := by
  refine ⟨fun i h => ?_, fun j h hne => ?_⟩
  · obtain ⟨j, hj, e⟩ := hs.1 i (by omega)
    by_cases h1 : j = n
    · subst h1
      rw [swp_b, ← hq] at e
      have := hi2 i (by omega) j (by omega) (by rw [e])
      omega
    · by_cases h2 : j = r
      · subst h2
        rw [swp_a] at e
        exact ⟨n, by omega, fun e => h1 e.symm, e⟩
      · rw [swp_o Q h2 h1] at e
        exact ⟨j, hj, h2, e⟩
  · obtain ⟨j', hj', e1⟩ : ∃ j', j' < n + 1 ∧ swp Q r n j' = Q j := by
      by_cases h1 : j = n
      · exact ⟨r, by omega, by rw [swp_a, h1]⟩
      · exact ⟨j, h, swp_o Q hne h1⟩
    obtain ⟨i, h2, e⟩ := hs.2 j' hj'
    refine ⟨i, ?_, by rw [← e, e1]⟩
    have : i ≠ n := fun h3 => by
      subst h3
      rw [e1, hq] at e
      exact hne (hi j h r (by omega) (by rw [e]))
    omega
section
variable {pl : Pl} {PT IT : TypeId} {w w' : World} {ab g c n : Nat} {v mp : Value} {sets : Int} {Q : Nat → It}
theorem AgS.open (h : AgS pl PT IT w ab v n mp sets Q) (hn : 0 < n) : ∃ g c, v = .slice (some ⟨g, 0, none⟩) n c ∧ n ≤ c ∧ c ≤ maxLen ∧ HpM pl PT IT w ab g c n mp sets Q := by
  obtain ⟨cs, ⟨hl, h0⟩, h5⟩ := h.own
  rcases h0 with ⟨_, h0⟩ | ⟨g, c, cur, rfl, _, hc, h1, h2, h3, h4⟩
  · omega
  · refine ⟨g, c, rfl, h1, h2, h.ag, ⟨cur, hc, by omega, fun i hi => ?_⟩, h.it, h.inj⟩
    have := h5 i hi
    rw [← h4, List.getElem?_take_of_lt (by omega), Array.getElem?_toList] at this
    exact this
theorem HpM.shut (h : HpM pl PT IT w ab g c n mp sets Q) (h1 : n ≤ c) (h2 : c ≤ maxLen) : AgS pl PT IT w ab (.slice (some ⟨g, 0, none⟩) n c) n mp sets Q := by
  obtain ⟨ag, ⟨cs, q1, q2, q3⟩, q4, q5⟩ := h
  refine ⟨ag, ⟨cs.toList.take n, ⟨by simp; omega, .inr ⟨g, c, cs, rfl, Nat.zero_le _, q1, h1, h2, by omega, by simp⟩⟩, fun i hi => ?_⟩, q4, q5⟩
  rw [List.getElem?_take_of_lt hi, Array.getElem?_toList]
  exact q3 i hi
theorem AgS.keep {G : Nat → Prop} (h : AgS pl PT IT w ab v n mp sets Q) (hk : Keep G w w') (hg : ∀ k, AgG ab v Q n k → ¬ G k) : AgS pl PT IT w' ab v n mp sets Q := by
  obtain ⟨h1, ⟨cs, h2, h3⟩, h4, h5⟩ := h
  exact ⟨h1.keep hk (hg _ (.inl rfl)), ⟨cs, own_keep h2 hk (fun k e => hg _ (.inr (.inl e))), h3⟩, fun i hi => (h4 i hi).keep hk (hg _ (.inr (.inr ⟨i, hi, rfl⟩))), h5⟩
theorem AgS.below (h : AgS pl PT IT w ab v n mp sets Q) (hb : Below w.heap.size w w') : AgS pl PT IT w' ab v n mp sets Q :=
  h.keep (G := fun _ => False) (.of_below hb) (fun _ _ h => h)
theorem AgS.lt (h : AgS pl PT IT w ab v n mp sets Q) {k : Nat} (hk : AgG ab v Q n k) : k < w.heap.size := by
  obtain ⟨h1, ⟨cs, h2, h3⟩, h4, h5⟩ := h
  rcases hk with rfl | hk | ⟨i, hi, rfl⟩
  · exact h1.lt
  · exact own_lt h2 hk
  · exact (h4 i hi).lt
/-- Behind an append of one more item. -/
theorem AgS.pushed {v' : Value} {it : It} (h : AgS pl PT IT w ab v n mp sets Q) (n1 : pl.T ≠ IT) (n2 : PT ≠ IT) (cs : List Value) (h0 : w.ownsRow 0 PT 1 v n cs) (hc : ∀ i, i < n → cs[i]? = some (ptI (Q i))) (hA : RowA pl w' ab v' mp sets) (hP : Row w' it.b IT (itR it n)) (hO : w'.ownsRow 0 PT 1 v' (n + 1) (cs ++ [ptI it])) (hk : Keep (fun x => x = ab ∨ x = it.b ∨ v.ownBlock = some x) w w') (hf : ∀ i, i < n → (Q i).b ≠ it.b) :
    AgS pl PT IT w' ab v' (n + 1) mp sets (ext Q n it) := by
  have hl : cs.length = n := by have := h0.1; omega
  refine ⟨hA, ⟨_, hO, fun i hi => ?_⟩, fun i hi => ?_, fun i hi j hj e => ?_⟩
  · by_cases e : i = n
    · subst e
      rw [ext_n, List.getElem?_append_right (by omega), hl]; simp
    · rw [ext_lt Q it (by omega), List.getElem?_append_left (by omega)]
      exact hc i (by omega)
  · by_cases e : i = n
    · subst e
      rw [ext_n]; exact hP
    · have hi2 : i < n := by omega
      rw [ext_lt Q it hi2]
      refine (h.it i hi2).keep hk (fun hg => ?_)
      rcases hg with hg | hg | hg
      · exact row_apart h.ag (h.it i hi2) n1 hg.symm
      · exact hf i hi2 hg
      · exact own_ne h0 (h.it i hi2) n2 hg
  · by_cases e1 : i = n
    · by_cases e2 : j = n
      · rw [e1, e2]
      · subst e1
        rw [ext_n, ext_lt Q it (by omega)] at e
        exact absurd e.symm (hf j (by omega))
    · by_cases e2 : j = n
      · subst e2
        rw [ext_n, ext_lt Q it (by omega)] at e
        exact absurd e (hf i (by omega))
      · rw [ext_lt Q it (by omega), ext_lt Q it (by omega)] at e
        exact h.inj i (by omega) j (by omega) e
/-- Behind queue.Pop's two stores. -/
theorem HpM.popped (h : HpM pl PT IT w ab g c (n + 1) mp sets Q) (n1 : pl.T ≠ PT) (n2 : pl.T ≠ IT) (n3 : PT ≠ IT) :
    HpM pl PT IT ((w.setCell ⟨g, n, none⟩ (.pointer none)).setCell ⟨ab, pl.o, none⟩ (.slice (some ⟨g, 0, none⟩) n c)) ab g c n mp sets Q ∧
    Row ((w.setCell ⟨g, n, none⟩ (.pointer none)).setCell ⟨ab, pl.o, none⟩ (.slice (some ⟨g, 0, none⟩) n c)) (Q n).b IT (itR (Q n) n) ∧
    Keep (fun k => k = ab ∨ k = g) w ((w.setCell ⟨g, n, none⟩ (.pointer none)).setCell ⟨ab, pl.o, none⟩ (.slice (some ⟨g, 0, none⟩) n c)) := by
  have hab := h.abg n1 n2
  have hg := fun (i : Nat) (hi : i < n + 1) => h.gi n3 hi
  obtain ⟨ag, ⟨cs, q1, q2, q3⟩, q4, q5⟩ := h
  have hga : ab ≠ g := hab g (.inl rfl)
  have hit : ∀ i, i < n + 1 → Row ((w.setCell ⟨g, n, none⟩ (.pointer none)).setCell ⟨ab, pl.o, none⟩ (.slice (some ⟨g, 0, none⟩) n c)) (Q i).b IT (itR (Q i) i) := fun i hi =>
    ((q4 i hi).far (p := ⟨g, n, none⟩) (Ne.symm (hg i hi)) _).far (p := ⟨ab, pl.o, none⟩) (Ne.symm (hab _ (.inr ⟨i, hi, rfl⟩))) _
  refine ⟨⟨(ag.far (p := ⟨g, n, none⟩) hga _).put0 _, ⟨cs.setIfInBounds n (.pointer none), (q1.put n _).far (p := ⟨ab, pl.o, none⟩) (Ne.symm hga) _, by simpa using q2, fun i hi => ?_⟩, fun i hi => hit i (by omega), fun i hi j hj => q5 i (by omega) j (by omega)⟩, hit n (by omega), ?_⟩
  · rw [Array.getElem?_setIfInBounds_ne (by omega)]
    exact q3 i (by omega)
  · exact (Keep.setCell (G := fun k => k = ab ∨ k = g) w (p := ⟨g, n, none⟩) (.inr rfl) _).trans (Keep.setCell (G := fun k => k = ab ∨ k = g) _ (p := ⟨ab, pl.o, none⟩) (.inl rfl) _)
theorem HpG.ag {k : Nat} (h : HpG g Q n k) : AgG ab (.slice (some ⟨g, 0, none⟩) n c) Q n k := by
  rcases h with h | h
  · exact .inr (.inl (by rw [h]; rfl))
  · exact .inr (.inr h)
end
end Go.Proofs.Ytcdgmhglpcokdaa
