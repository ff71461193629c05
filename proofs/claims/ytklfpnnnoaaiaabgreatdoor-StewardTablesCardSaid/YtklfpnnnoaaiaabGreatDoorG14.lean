/- ring: sorted points; Len, Point; the law's Own. -/
import Derived.Test.YtklfpnnnoaaiaabGreatDoorG06
import Derived.Test.YtklfpnnnoaaiaabGreatDoorG11
namespace Go.Proofs.YtklfpnnnoaaiaabGreatDoor
open Go.RowKit Go.Sort

theorem lePt_trans (x y z : Pt) (h1 : (!(ltOf cmpP) y x) = true) (h2 : (!(ltOf cmpP) z y) = true) : (!(ltOf cmpP) z x) = true := by
  rw [ltP] at *
  simp only [Bool.not_eq_true', decide_eq_false_iff_not] at *
  intro h3
  by_cases e : ltPt y z
  · exact h1 (ltPt_trans e h3)
  · have := ltPt_tri y z e h2
    subst this
    exact h1 h3
theorem lePt_total (x y : Pt) : ((!(ltOf cmpP) y x) || (!(ltOf cmpP) x y)) = true := by
  rw [ltP, ltP]
  by_cases h : ltPt y x
  · have : ¬ ltPt x y := fun h2 => ltPt_irrefl x (ltPt_trans h2 h)
    simp [this]
  · simp [h]
theorem srtP_sorted (ps : List Pt) : (srtP ps).Pairwise fun a b => ¬ ltPt b a := by
  have h := List.pairwise_mergeSort (le := fun x y => !(ltOf cmpP) y x) lePt_trans lePt_total ps
  refine List.Pairwise.imp (fun {a b} h => ?_) h
  rw [ltP] at h
  simpa using h
theorem srtP_rise (ps : List Pt) : Rise (srtP ps) := by
  intro i j p q hi hj hij
  rcases Nat.lt_or_ge i j with h | h
  · have hs := List.pairwise_iff_getElem.1 (srtP_sorted ps) i j (List.getElem?_eq_some_iff.1 hi).1 (List.getElem?_eq_some_iff.1 hj).1 h
    rw [(List.getElem?_eq_some_iff.1 hi).2, (List.getElem?_eq_some_iff.1 hj).2] at hs
    unfold ltPt at hs
    omega
  · obtain rfl : i = j := by omega
    rw [hi] at hj
    rw [Option.some.inj hj]
    exact Nat.le_refl _
theorem sortedP_uniq : ∀ {l l' : List Pt}, l.Perm l' → l.Pairwise (fun a b => ¬ ltPt b a) → l'.Pairwise (fun a b => ¬ ltPt b a) → l = l' := by
  intro l l' hp h h'
  refine List.Perm.eq_of_pairwise (le := fun a b => ¬ ltPt b a) (fun a b _ _ h1 h2 => ltPt_tri a b h2 h1) h h' hp
theorem srtP_uniq {l l' : List Pt} (hp : l.Perm l') : srtP l = srtP l' :=
  sortedP_uniq (((srtP_perm l).trans hp).trans (srtP_perm l').symm) (srtP_sorted l) (srtP_sorted l')
theorem gmE_perm {l l' : List Ent} (h : l.Perm l') : gmE l = gmE l' := by
  induction h with
  | nil => rfl
  | cons x _ ih => show max x.2 (gmE _) = max x.2 (gmE _); rw [ih]
  | swap x y l => show max y.2 (max x.2 (gmE l)) = max x.2 (max y.2 (gmE l)); omega
  | trans _ _ h1 h2 => rw [h1, h2]
theorem ptsL_perm {k : Nat → UInt8} {p G : Nat} {l l' : List Ent} (h : l.Perm l') : (ptsL k p G l).Perm (ptsL k p G l') := List.Perm.flatMap_right _ h
def ptAt (ps : List Pt) (i : Int) : Pt := if i < 0 ∨ (ps.length : Int) ≤ i then (0, ⟨#[]⟩) else ps.getD i.toNat (0, ⟨#[]⟩)
theorem infoREnt : (Tryz.prog.info? 73).map (fun i => (i.zero, i.size, i.bytes)) = some (some (.agg #[.string ⟨#[]⟩, .int .i64 0]), 2, 24) := by kernel_rfl
set_option maxRecDepth 100000 in
set_option maxHeartbeats 2000000 in
theorem own28 (a : Option Addr) (c : Nat) (es : List Ent) (hl : es.length ≤ 1000) (w : World) (hf : IsEnts w a c es) :
    Calls Tryz.prog 14 #[.slice a es.length c] w fun e w' => ∃ a' c', e = .returned (.slice a' es.length c') ∧ IsEnts w' a' c' es ∧ Below w.heap.size w w' := by
  obtain ⟨i0, hi, hz0, hz1, hz2⟩ := info_parts infoREnt
  have HFF := Lib.hid hf
  clear hf
  go_enter Tryz.func14, Tryz.ntmps14
  go_wp2_with fail
  go_loopw [3, 8] (fun v i wr => ∃ j : Nat, j ≤ es.length ∧ i = .int .i64 (j : Int) ∧ Hid (wr.ownsRow w.heap.size 73 2 v j (cellsE (es.take j))) ∧ Hid (Below w.heap.size w wr)) (fun _ i _ => es.length - (intOf i).toNat)
  case atStart => exact ⟨0, Nat.zero_le _, rfl, World.ownsRow_nil _ _ _ _, Below.refl _ _⟩
  case round =>
    obtain ⟨j, hj, rfl, ho, hb⟩ := hrel
    by_cases hlt : j < es.length
    · have j1 : (j : Int) < es.length := by omega
      obtain h0 | ⟨bk, o, rfl, hbk, hc, hcell⟩ := HFF.out.below hb.out
      · subst h0; simp at hlt
      obtain ⟨c1, c2⟩ := hcell j es[j] (by simp [hlt])
      have hst := Lib.hid (cellsE_step hlt)
      generalize es[j] = e at *
      obtain ⟨N, V⟩ := e
      simp only at c1 c2 hst
      have hsz := hb.out.size
      have hb1 := hb.out.alloc hsz (.cells #[.string N, .int .i64 V] 53)
      have HB2 := Lib.hid (hb1.alloc hb1.size (.cells #[.string N, .int .i64 V] 73))
      have HO2 := Lib.hid ((ho.out.alloc (.cells #[.string N, .int .i64 V] 53)).alloc (.cells #[.string N, .int .i64 V] 73))
      clear hcell ho hb hb1
      go_wp2_with (at_builtin; refine wpList_append_own _ rfl _ _ 43 rfl w.heap.size 73 i0 (.agg #[.string ⟨#[]⟩, .int .i64 0]) 2 24 Tryz.underlying43 hi hz0 hz1 hz2 rfl (by decide) _ _ _ rfl HO2.out ⟨wr.heap.size + 1, 0, none⟩ 1 1 [.string N, .int .i64 V] rfl rfl (by have := cells_ent (wr.alloc (.cells #[.string N, .int .i64 V] 53)) N V 73; simpa using this) (ent_one _ _) (by unfold maxLen; omega) (by omega) HB2.out.size ?_; intro v' w4 hown' hgrow _; have HB5 : Hid (Below w.heap.size w w4) := HB2.out.grown hgrow HB2.out.size (fun k hk => (HO2.out.lt k hk).1); have HO5 := Lib.hid hown'; clear hown' hgrow HB2 HO2)
      go_roundw
      case rel => exact ⟨j + 1, hlt, by go_num, by rw [hst.out]; exact HO5, HB5⟩
      case measure => simp [intOf]; omega
    · obtain rfl : j = es.length := by omega
      have hne : ¬ ((es.length : Int) < es.length) := by omega
      go_wp2_with fail
      go_ret
      have ho' := ho.out
      rw [List.take_length] at ho'
      obtain ⟨a', c', rfl⟩ := own_slice ho'
      exact ⟨a', c', rfl, (isEnts_own ho').2.1, hb.out⟩
end Go.Proofs.YtklfpnnnoaaiaabGreatDoor

