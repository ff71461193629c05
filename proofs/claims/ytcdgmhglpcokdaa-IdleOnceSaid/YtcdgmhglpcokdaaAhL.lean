/- agenda's queue behind heap.Interface: Less and Swap of a heap in memory. -/
import Derived.Test.YtcdgmhglpcokdaaAhK
namespace Go.Proofs.Ytcdgmhglpcokdaa
open Go.RowKit
section PlV
variable {pl : Pl}

/-- The agenda's heap in memory. -/
structure HpM (pl : Pl) (PT IT : TypeId) (w : World) (ab g c n : Nat) (mp : Value) (sets : Int) (Q : Nat → It) : Prop where
  ag : RowA pl w ab (.slice (some ⟨g, 0, none⟩) n c) mp sets
  q : QAt PT IT w g c Q n
/-- The blocks of the row and of the items. -/
def HpG (g : Nat) (Q : Nat → It) (n : Nat) : Nat → Prop := fun k => k = g ∨ ∃ i, i < n ∧ (Q i).b = k
section
variable {pl : Pl} {PT IT : TypeId} {w w' : World} {ab g c n : Nat} {mp : Value} {sets : Int} {Q : Nat → It}
theorem QAt.below (h : QAt PT IT w g c Q n) (hb : Below w.heap.size w w') : QAt PT IT w' g c Q n := by
  obtain ⟨⟨cs, h1, h2, h3⟩, h4, h5⟩ := h
  exact ⟨⟨cs, h1.below hb, h2, h3⟩, fun i hi => (h4 i hi).below hb, h5⟩
theorem QAt.keep {G : Nat → Prop} (h : QAt PT IT w g c Q n) (hk : Keep G w w') (hg : ∀ k, HpG g Q n k → ¬ G k) : QAt PT IT w' g c Q n := by
  obtain ⟨⟨cs, h1, h2, h3⟩, h4, h5⟩ := h
  exact ⟨⟨cs, h1.keep hk (hg g (.inl rfl)), h2, h3⟩, fun i hi => (h4 i hi).keep hk (hg _ (.inr ⟨i, hi, rfl⟩)), h5⟩
theorem HpM.below (h : HpM pl PT IT w ab g c n mp sets Q) (hb : Below w.heap.size w w') : HpM pl PT IT w' ab g c n mp sets Q := ⟨h.ag.below hb, h.q.below hb⟩
theorem HpM.cell (h : HpM pl PT IT w ab g c n mp sets Q) {i : Nat} (hi : i < n) : w.cell? ⟨g, i, none⟩ = some (ptI (Q i)) := by
  obtain ⟨⟨cs, h1, _, h3⟩, _, _⟩ := h.q
  rw [h1.cell]; exact h3 i hi
theorem HpM.free (h : HpM pl PT IT w ab g c n mp sets Q) (i : Nat) : w.frozen? ⟨g, i, none⟩ = false := by
  obtain ⟨⟨cs, h1, _, h3⟩, _, _⟩ := h.q
  exact h1.free i
theorem HpM.glt (h : HpM pl PT IT w ab g c n mp sets Q) : g < w.heap.size := by
  obtain ⟨⟨cs, h1, _, h3⟩, _, _⟩ := h.q
  exact h1.lt
theorem HpM.queue (h : HpM pl PT IT w ab g c n mp sets Q) : w.cell? ⟨ab, pl.o, none⟩ = some (.slice (some ⟨g, 0, none⟩) n c) := h.ag.c0
theorem HpM.gi (h : HpM pl PT IT w ab g c n mp sets Q) (hne : PT ≠ IT) {i : Nat} (hi : i < n) : g ≠ (Q i).b := by
  obtain ⟨⟨cs, h1, _, h3⟩, h4, _⟩ := h.q
  exact row_apart h1 (h4 i hi) hne
theorem HpM.abg (h : HpM pl PT IT w ab g c n mp sets Q) (h1 : pl.T ≠ PT) (h2 : pl.T ≠ IT) : ∀ k, HpG g Q n k → ab ≠ k := by
  obtain ⟨⟨cs, q1, _, q3⟩, q4, _⟩ := h.q
  rintro k (rfl | ⟨i, hi, rfl⟩)
  · exact row_apart h.ag q1 h1
  · exact row_apart h.ag (q4 i hi) h2
theorem swp_self (Q : Nat → It) (i : Nat) : swp Q i i = Q := by
  funext k; unfold swp
  by_cases h : k = i
  · rw [if_pos h, h]
  · rw [if_neg h, if_neg h]
/-- A swap of one place with itself. -/
theorem QAt.swap0 (h : QAt PT IT w g c Q n) (hne : PT ≠ IT) {i : Nat} (hi : i < n) :
    QAt PT IT ((((w.setCell ⟨g, i, none⟩ (ptI (Q i))).setCell ⟨g, i, none⟩ (ptI (Q i))).setCell ⟨(Q i).b, 3, none⟩ (.int .i64 (i : Int))).setCell ⟨(Q i).b, 3, none⟩ (.int .i64 (i : Int))).drew.drew g c Q n := by
  obtain ⟨⟨cs, hr, hsz, hc⟩, hit, hinj⟩ := h
  have hga : ∀ k, k < n → g ≠ (Q k).b := fun k hk => row_apart hr (hit k hk) hne
  have hcs : cs.setIfInBounds i (ptI (Q i)) = cs := by
    apply Array.ext_getElem?
    intro k
    by_cases h : k = i
    · subst h
      rw [hc k hi, Array.getElem?_setIfInBounds_self_of_lt ((Array.getElem?_eq_some_iff.1 (hc k hi)).1)]
    · rw [Array.getElem?_setIfInBounds_ne (fun e => h e.symm)]
  refine ⟨⟨cs, ?_, hsz, hc⟩, fun k hk => ?_, hinj⟩
  · have h1 := hr.put i (ptI (Q i))
    rw [hcs] at h1
    have h2 := h1.put i (ptI (Q i))
    rw [hcs] at h2
    exact ((h2.far (hga i hi) _).far (hga i hi) _).drew.drew
  · have h1 := ((hit k hk).far (p := ⟨g, i, none⟩) (Ne.symm (hga k hk)) (ptI (Q i))).far (p := ⟨g, i, none⟩) (Ne.symm (hga k hk)) (ptI (Q i))
    by_cases h : k = i
    · subst h
      have h2 := (h1.put 3 (.int .i64 (k : Int))).put 3 (.int .i64 (k : Int))
      rw [itR_put, itR_put] at h2
      exact h2.drew.drew
    · have hb : (Q k).b ≠ (Q i).b := fun e => h (hinj k hk i hi e)
      exact ((h1.far hb _).far hb _).drew.drew
end
theorem lessMS (ab g c n : Nat) (mp : Value) (sets : Int) (Q : Nat → It) (i j : Nat) (hi : i < n) (hj : j < n) (w : World) (h : HpM pl 107 106 w ab g c n mp sets Q) :
    Calls Try.prog 89 #[.slice (some ⟨g, 0, none⟩) n c, .int .i64 (i : Int), .int .i64 (j : Int)] w fun e w' => e = .returned (.bool (ltIt (Q i).a (Q i).t (Q j).a (Q j).t)) ∧ Below w.heap.size w w' :=
  lessS g n c i j (Q i).b (Q j).b (Q i).k (Q j).k (Q i).a (Q i).t i (Q j).a (Q j).t j w h.glt hi hj (h.cell hi) (h.cell hj) (h.q.it i hi) (h.q.it j hj)
theorem swapMS (ab g c n : Nat) (mp : Value) (sets : Int) (Q : Nat → It) (i j : Nat) (hi : i < n) (hj : j < n) (w : World) (h : HpM pl 107 106 w ab g c n mp sets Q) :
    Calls Try.prog 90 #[.slice (some ⟨g, 0, none⟩) n c, .int .i64 (i : Int), .int .i64 (j : Int)] w fun e w' => e = .returned (.tuple #[]) ∧ HpM pl 107 106 w' ab g c n mp sets (swp Q i j) ∧ Keep (HpG g Q n) w w' := by
  have hne : (107 : TypeId) ≠ 106 := by decide
  have h1 := h.q.it i hi
  have h2 := h.q.it j hj
  have hab := h.abg pl.n1 pl.n2
  refine (swapS g n c i j (Q i).b (Q j).b w hi hj (h.free i) (h.free j) (h.cell hi) (h.cell hj) ⟨_, h1.cell 3⟩ ⟨_, h2.cell 3⟩ (h1.free 3) (h2.free 3) (h.gi hne hi) (h.gi hne hj)).mono ?_
  rintro e w' ⟨rfl, rfl⟩
  have hk : Keep (HpG g Q n) w (((((w.setCell ⟨g, i, none⟩ (ptI (Q j))).setCell ⟨g, j, none⟩ (ptI (Q i))).setCell ⟨(Q j).b, 3, none⟩ (.int .i64 (i : Int))).setCell ⟨(Q i).b, 3, none⟩ (.int .i64 (j : Int))).drew.drew) :=
    (((((Keep.setCell (G := HpG g Q n) w (p := ⟨g, i, none⟩) (.inl rfl) _).trans (Keep.setCell (G := HpG g Q n) _ (p := ⟨g, j, none⟩) (.inl rfl) _)).trans (Keep.setCell (G := HpG g Q n) _ (p := ⟨(Q j).b, 3, none⟩) (.inr ⟨j, hj, rfl⟩) _)).trans (Keep.setCell (G := HpG g Q n) _ (p := ⟨(Q i).b, 3, none⟩) (.inr ⟨i, hi, rfl⟩) _)).trans (Keep.drew _)).trans (Keep.drew _)
  refine ⟨rfl, ⟨h.ag.keep hk (fun hg => hab _ hg rfl), ?_⟩, hk⟩
  by_cases hij : i = j
  · subst hij
    rw [swp_self]
    exact h.q.swap0 hne hi
  · exact h.q.swap hne hi hj hij
theorem lessMN (ab g c n : Nat) (mp : Value) (sets : Int) (Q : Nat → It) (i j : Nat) (hi : i < n) (hj : j < n) (w : World) (h : HpM pl 97 99 w ab g c n mp sets Q) :
    Calls Try.prog 82 #[.slice (some ⟨g, 0, none⟩) n c, .int .i64 (i : Int), .int .i64 (j : Int)] w fun e w' => e = .returned (.bool (ltIt (Q i).a (Q i).t (Q j).a (Q j).t)) ∧ Below w.heap.size w w' :=
  lessN g n c i j (Q i).b (Q j).b (Q i).k (Q j).k (Q i).a (Q i).t i (Q j).a (Q j).t j w h.glt hi hj (h.cell hi) (h.cell hj) (h.q.it i hi) (h.q.it j hj)
theorem swapMN (ab g c n : Nat) (mp : Value) (sets : Int) (Q : Nat → It) (i j : Nat) (hi : i < n) (hj : j < n) (w : World) (h : HpM pl 97 99 w ab g c n mp sets Q) :
    Calls Try.prog 83 #[.slice (some ⟨g, 0, none⟩) n c, .int .i64 (i : Int), .int .i64 (j : Int)] w fun e w' => e = .returned (.tuple #[]) ∧ HpM pl 97 99 w' ab g c n mp sets (swp Q i j) ∧ Keep (HpG g Q n) w w' := by
  have hne : (97 : TypeId) ≠ 99 := by decide
  have h1 := h.q.it i hi
  have h2 := h.q.it j hj
  have hab := h.abg pl.n3 pl.n4
  refine (swapN g n c i j (Q i).b (Q j).b w hi hj (h.free i) (h.free j) (h.cell hi) (h.cell hj) ⟨_, h1.cell 3⟩ ⟨_, h2.cell 3⟩ (h1.free 3) (h2.free 3) (h.gi hne hi) (h.gi hne hj)).mono ?_
  rintro e w' ⟨rfl, rfl⟩
  have hk : Keep (HpG g Q n) w (((((w.setCell ⟨g, i, none⟩ (ptI (Q j))).setCell ⟨g, j, none⟩ (ptI (Q i))).setCell ⟨(Q j).b, 3, none⟩ (.int .i64 (i : Int))).setCell ⟨(Q i).b, 3, none⟩ (.int .i64 (j : Int))).drew.drew) :=
    (((((Keep.setCell (G := HpG g Q n) w (p := ⟨g, i, none⟩) (.inl rfl) _).trans (Keep.setCell (G := HpG g Q n) _ (p := ⟨g, j, none⟩) (.inl rfl) _)).trans (Keep.setCell (G := HpG g Q n) _ (p := ⟨(Q j).b, 3, none⟩) (.inr ⟨j, hj, rfl⟩) _)).trans (Keep.setCell (G := HpG g Q n) _ (p := ⟨(Q i).b, 3, none⟩) (.inr ⟨i, hi, rfl⟩) _)).trans (Keep.drew _)).trans (Keep.drew _)
  refine ⟨rfl, ⟨h.ag.keep hk (fun hg => hab _ hg rfl), ?_⟩, hk⟩
  by_cases hij : i = j
  · subst hij
    rw [swp_self]
    exact h.q.swap0 hne hi
  · exact h.q.swap hne hi hj hij
/-- The same items. -/
def SameQ (n : Nat) (Q Q' : Nat → It) : Prop := (∀ i, i < n → ∃ j, j < n ∧ Q' i = Q j) ∧ ∀ i, i < n → ∃ j, j < n ∧ Q i = Q' j
theorem SameQ.refl (n : Nat) (Q : Nat → It) : SameQ n Q Q := ⟨fun i hi => ⟨i, hi, rfl⟩, fun i hi => ⟨i, hi, rfl⟩⟩
theorem SameQ.trans {n : Nat} {Q Q' Q2 : Nat → It} (h : SameQ n Q Q') (k : SameQ n Q' Q2) : SameQ n Q Q2 := by
  refine ⟨fun i hi => ?_, fun i hi => ?_⟩
  · obtain ⟨j, hj, e⟩ := k.1 i hi
    obtain ⟨l, hl, e2⟩ := h.1 j hj
    exact ⟨l, hl, e.trans e2⟩
  · obtain ⟨j, hj, e⟩ := h.2 i hi
    obtain ⟨l, hl, e2⟩ := k.2 j hj
    exact ⟨l, hl, e.trans e2⟩
theorem SameQ.swp (Q : Nat → It) {n i j : Nat} (hi : i < n) (hj : j < n) : SameQ n Q (swp Q i j) := by
  refine ⟨fun k hk => ?_, fun k hk => ?_⟩
  · by_cases h1 : k = i
    · exact ⟨j, hj, by rw [h1, swp_a]⟩
    · by_cases h2 : k = j
      · exact ⟨i, hi, by rw [h2, swp_b]⟩
      · exact ⟨k, hk, swp_o Q h1 h2⟩
  · by_cases h1 : k = i
    · exact ⟨j, hj, by rw [h1, swp_b]⟩
    · by_cases h2 : k = j
      · exact ⟨i, hi, by rw [h2, swp_a]⟩
      · exact ⟨k, hk, (swp_o Q h1 h2).symm⟩
theorem SameQ.hpg {n g : Nat} {Q Q' : Nat → It} (h : SameQ n Q Q') {k : Nat} (hk : HpG g Q' n k) : HpG g Q n k := by
  rcases hk with e | ⟨i, hi, e⟩
  · exact .inl e
  · obtain ⟨j, hj, e2⟩ := h.1 i hi
    exact .inr ⟨j, hj, by rw [← e2]; exact e⟩
end PlV
end Go.Proofs.Ytcdgmhglpcokdaa
