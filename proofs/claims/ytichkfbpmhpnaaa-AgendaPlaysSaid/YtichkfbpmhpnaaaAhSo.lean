/- slices.SortFunc over agenda's items (pointers). -/
import Derived.Test.YtichkfbpmhpnaaaAgCg
import Derived.Test.YtichkfbpmhpnaaaAhO
namespace Go.Proofs.Ytichkfbpmhpnaaa
open Go.RowKit Go.Shelf Go.Lib Go.Sort

shelf_lay_g SlLaysF.n6 Slsf 6 at Try 113 as Try.sortAg

theorem keep_sort1 {α : Type} [Inhabited α] (enc : α → Value) {w : World} {g q : Nat} (d : Array α) (os : Array Obj) : Keep (fun y => y = g) w (sortWorld enc w g 0 q d os) := by
  have hs : (putRow enc (Go.Sort.ahead w q) g 0 d).heap.size = w.heap.size := by simp [putRow, mapBlock, Go.Sort.ahead]
  refine ⟨rfl, rfl, rfl, ?_, fun k hk hn => ?_⟩
  · unfold sortWorld
    rw [Go.Sort.size_grow, hs]
    omega
  · unfold sortWorld
    rw [heap_grow_old _ _ (by rw [hs]; exact hk)]
    show (w.heap.modify g _)[k]? = _
    rw [Array.getElem?_modify, if_neg (fun e => hn e.symm)]
def cfA {n : Nat} (Q : Nat → It) (i j : Fin n) : Int := cmpIt (Q i).a (Q i).t (Q j).a (Q j).t
theorem ltA {n : Nat} (Q : Nat → It) (i j : Fin n) : ltOf (cfA Q) i j = ltIt (Q i).a (Q i).t (Q j).a (Q j).t := rfl
theorem swoA {n : Nat} (Q : Nat → It) : SWO (ltOf (cfA (n := n) Q)) := by
  refine ⟨fun x => ?_, fun x y z h1 h2 => ?_, fun x y z h1 h2 => ?_⟩
  · rw [ltA, ltIt_iff, decide_eq_false]; omega
  · rw [ltA, ltIt_iff, decide_eq_true_eq] at h1 h2 ⊢; omega
  · rw [ltA, ltIt_iff, decide_eq_false_iff_not] at h1 h2 ⊢; omega
set_option maxHeartbeats 1000000 in
/-- slices.SortFunc of items. -/
theorem sort97 (g c n : Nat) (hn : 0 < n) (hn2 : n ≤ 100000) (Q : Nat → It) (w : World) (hit : ∀ i, i < n → Row w (Q i).b 104 (itR (Q i) i)) (hH : ∀ i, i < n → w.cell? ⟨g, i, none⟩ = some (ptI (Q i)) ∧ w.frozen? ⟨g, i, none⟩ = false) (hg : g < w.heap.size) (hne : ∀ i, i < n → (Q i).b ≠ g) :
    Calls Try.prog 113 #[.slice (some ⟨g, 0, none⟩) n c, .func (.func 89) #[] #[]] w fun e w' => e = .returned (.tuple #[]) ∧ (∃ d : Array (Fin n), d.size = n ∧ d.toList.Perm (List.finRange n) ∧ (∀ i j (hi : i < d.size) (hj : j < d.size), i < j → leI (Q d[i]) (Q d[j])) ∧ ∀ j (hj : j < d.size), w'.cell? ⟨g, j, none⟩ = some (ptI (Q d[j]))) ∧ Keep (fun y => y = g) w w' := by
  haveI : Inhabited (Fin n) := ⟨⟨0, hn⟩⟩
  have eg : ∀ args w, (callFunc 89 args).run Try.prog w = .ok (.enter 89 args) w := enters_of Try.func89 (by kernel_rfl) rfl
  obtain ⟨d, hd⟩ : ∃ d : Array (Fin n), d = (List.finRange n).toArray := ⟨_, rfl⟩
  have hds : d.size = n := by rw [hd]; simp
  have hHd : Go.Sort.Holds (fun i : Fin n => ptI (Q i)) w g 0 d := fun j hj => by
    rw [Nat.zero_add, getElem!_pos d j hj]
    have : (d[j] : Fin n).1 = j := by subst hd; simp
    show w.cell? ⟨g, j, none⟩ = some (ptI (Q (d[j] : Fin n).1)) ∧ _
    rw [this]
    exact hH j (by omega)
  have hcmp : CmpLays1 Try.prog 89 #[] (fun i : Fin n => ptI (Q i)) (cfA Q) g 0 d.size w := fun m os dk _ x y => by
    have hx := (hit x x.2).keep (keep_sort1 (fun i : Fin n => ptI (Q i)) (w := w) (g := g) (q := m) dk os) (hne x x.2)
    have hy := (hit y y.2).keep (keep_sort1 (fun i : Fin n => ptI (Q i)) (w := w) (g := g) (q := m) dk os) (hne y y.2)
    exact compareSg (Q x).b (Q y).b _ _ _ _ _ _ _ _ _ hx hy
  have hcon := Any.slices_SortFunc Try.sortAg (fun i : Fin n => ptI (Q i)) (fun _ => rfl) (cfA Q) (swoA Q) 89 #[] g 0 c d w eg hcmp hHd hg (by omega)
  rw [hds] at hcon
  refine Calls.mono hcon ?_
  rintro e w' ⟨he, d', q, os, hp, hs, rfl⟩
  have hsz : d'.size = n := hp.1.trans hds
  have hh := holds_sortWorld (fun i : Fin n => ptI (Q i)) w g 0 q d d' os hg hHd hp.1
  refine ⟨he, ⟨d', hsz, ?_, fun i j hi hj hij => ?_, fun j hj => ?_⟩, keep_sort1 _ _ _⟩
  · have h1 := hp.2.2
    have e1 : d'.extract 0 n = d' := Array.extract_eq_self_of_le (Nat.le_of_eq hsz)
    have e2 : d.extract 0 n = d := Array.extract_eq_self_of_le (Nat.le_of_eq hds)
    rw [e1, e2, hd] at h1
    simpa using h1
  · have h1 := hs i j (Nat.zero_le _) hij (by omega)
    rw [getElem!_pos d' i hi, getElem!_pos d' j hj] at h1
    exact h1
  · have h1 := (hh j hj).1
    rw [Nat.zero_add, getElem!_pos d' j hj] at h1
    exact h1
end Go.Proofs.Ytichkfbpmhpnaaa
