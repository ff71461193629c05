/- ring: points as lists and in memory. -/
import Derived.Test.YtklfpnnnoaaiaabGreatDoorG05
namespace Go.Proofs.YtklfpnnnoaaiaabGreatDoor
open Go.RowKit Go.Shelf Go.Lib Go.Sort

/-- How many points an entry has. -/
def cntP (p W G : Nat) : Nat := max (p * W / G) 1
/-- An entry's points; all points, by entries. -/
def ptsE (k : Nat → UInt8) (p G : Nat) (e : Ent) : List Pt := (List.range (cntP p e.2.toNat G)).map fun i => (ptV k e.1 i, e.1)
def ptsL (k : Nat → UInt8) (p G : Nat) (es : List Ent) : List Pt := es.flatMap (ptsE k p G)
def cellsP (ps : List Pt) : List Value := ps.flatMap encP
theorem cellsP_append (a b : List Pt) : cellsP (a ++ b) = cellsP a ++ cellsP b := by simp only [cellsP, List.flatMap_append]
theorem cellsP_length : ∀ ps : List Pt, (cellsP ps).length = ps.length * 2
  | [] => rfl
  | p :: ps => by
    have := cellsP_length ps
    show (encP p ++ cellsP ps).length = _
    rw [List.length_append, this, List.length_cons]
    show 2 + _ = _
    omega
theorem cellsP_at : ∀ (ps : List Pt) (j : Nat) (p : Pt), ps[j]? = some p → (cellsP ps)[j * 2]? = some (.int .u64 (p.1 : Nat)) ∧ (cellsP ps)[j * 2 + 1]? = some (.string p.2)
  | [], j, p, h => by cases j <;> cases h
  | x :: ps, 0, p, h => by
    simp at h; subst h
    exact ⟨rfl, rfl⟩
  | x :: ps, j + 1, p, h => by
    have := cellsP_at ps j p (by simpa using h)
    rw [show (j + 1) * 2 = j * 2 + 1 + 1 by omega]
    exact this
theorem ptsL_step {k : Nat → UInt8} {p G : Nat} {es : List Ent} {j : Nat} (hj : j < es.length) : ptsL k p G (es.take (j + 1)) = ptsL k p G (es.take j) ++ ptsE k p G es[j] := by
  unfold ptsL
  rw [List.take_succ_eq_append_getElem hj, List.flatMap_append]
  simp
theorem ptsE_len (k : Nat → UInt8) (p G : Nat) (e : Ent) : (ptsE k p G e).length = cntP p e.2.toNat G := by simp [ptsE]
theorem ptsE_step {k : Nat → UInt8} {p G : Nat} {e : Ent} {i : Nat} (hi : i < cntP p e.2.toNat G) : (ptsE k p G e).take (i + 1) = (ptsE k p G e).take i ++ [(ptV k e.1 i, e.1)] := by
  have h : i < (ptsE k p G e).length := by rw [ptsE_len]; exact hi
  rw [List.take_succ_eq_append_getElem h]
  congr 2
  simp [ptsE]
theorem ptsL_le {k : Nat → UInt8} {p G : Nat} : ∀ {es : List Ent}, (∀ e ∈ es, cntP p e.2.toNat G ≤ 256) → (ptsL k p G es).length ≤ es.length * 256
  | [], _ => Nat.zero_le _
  | e :: es, h => by
    have h1 := h e (by simp)
    have ih := ptsL_le (k := k) (es := es) (fun x hx => h x (by simp [hx]))
    show (ptsE k p G e ++ ptsL k p G es).length ≤ _
    rw [List.length_append, ptsE_len, List.length_cons]
    omega
/-- All points in their order. -/
def srtP (ps : List Pt) : List Pt := ps.mergeSort fun x y => !(ltOf cmpP) y x
/-- Points in memory. -/
def PtsAt (w : World) (a : Option Addr) (c : Nat) (ps : List Pt) : Prop :=
  ps = [] ∨ ∃ bk o, a = some ⟨bk, o, none⟩ ∧ bk < w.heap.size ∧ ps.length ≤ c ∧ ∀ (j : Nat) p, ps[j]? = some p → w.cell? ⟨bk, o + j * 2, none⟩ = some (.int .u64 (p.1 : Nat)) ∧ w.cell? ⟨bk, o + j * 2 + 1, none⟩ = some (.string p.2)
theorem PtsAt.below {w w' : World} {a : Option Addr} {c : Nat} {ps : List Pt} (h : PtsAt w a c ps) (hb : Below w.heap.size w w') : PtsAt w' a c ps := by
  obtain h | ⟨bk, o, ha, hlt, hc, hcell⟩ := h
  · exact .inl h
  · obtain ⟨b1, _⟩ := bcell hb
    exact .inr ⟨bk, o, ha, Nat.lt_of_lt_of_le hlt hb.size, hc, fun j p hp => by rw [b1 _ _ hlt, b1 _ _ hlt]; exact hcell j p hp⟩
/-- A ring in memory. -/
def RingAt (w : World) (rb : Nat) (ps : List Pt) (n : Nat) : Prop :=
  rb < w.heap.size ∧ ∃ a c, w.cell? ⟨rb, 0, none⟩ = some (.slice a ps.length c) ∧ w.cell? ⟨rb, 1, none⟩ = some (.int .i64 (n : Nat)) ∧ PtsAt w a c ps
theorem RingAt.below {w w' : World} {rb n : Nat} {ps : List Pt} (h : RingAt w rb ps n) (hb : Below w.heap.size w w') : RingAt w' rb ps n := by
  obtain ⟨h1, a, c, h2, h3, h4⟩ := h
  obtain ⟨b1, _⟩ := bcell hb
  exact ⟨Nat.lt_of_lt_of_le h1 hb.size, a, c, by rw [b1 _ _ h1]; exact h2, by rw [b1 _ _ h1]; exact h3, h4.below hb⟩
theorem keep_sortK {w : World} {g q : Nat} (d : Array Pt) (os : Array Obj) : Keep (fun y => y = g) w (sortWorldK encP 2 w g 0 q d os) := by
  have hs : (putRowK encP 2 (Go.Sort.ahead w q) g 0 d).heap.size = w.heap.size := by simp [putRowK, putRow, mapBlock, Go.Sort.ahead]
  refine ⟨rfl, rfl, rfl, ?_, fun k hk hn => ?_⟩
  · unfold sortWorldK
    rw [Go.Sort.size_grow, hs]
    omega
  · unfold sortWorldK
    rw [heap_grow_old _ _ (by rw [hs]; exact hk)]
    show (w.heap.modify g _)[k]? = _
    rw [Array.getElem?_modify, if_neg (fun e => hn e.symm)]
theorem holds_pts {base g c : Nat} {T : TypeId} {ps : List Pt} {w : World} (h : w.ownsRow base T 2 (.slice (some ⟨g, 0, none⟩) ps.length c) ps.length (cellsP ps)) : HoldsK encP 2 w g 0 ps.toArray := by
  intro t ht
  rw [size_flatK, List.size_toArray] at ht
  have hcl := cellsP_length ps
  rw [get_flatK _ _ _ _ (by simpa using ht), Nat.zero_add]
  refine ⟨?_, h.frozenAt t⟩
  have hi : t / 2 < ps.length := by omega
  have hd : ps.toArray[t / 2]! = ps[t / 2] := by simp [hi]
  obtain ⟨c1, c2⟩ := cellsP_at ps (t / 2) ps[t / 2] (by simp [hi])
  rw [h.cellAt t (by omega), hd]
  rcases Nat.mod_two_eq_zero_or_one t with e | e
  · rw [show (cellsP ps)[t]? = (cellsP ps)[t / 2 * 2]? by congr 1; omega, c1, e]; rfl
  · rw [show (cellsP ps)[t]? = (cellsP ps)[t / 2 * 2 + 1]? by congr 1; omega, c2, e]; rfl
theorem pts_holds {g c : Nat} {d : Array Pt} {w : World} (h : HoldsK encP 2 w g 0 d) (hg : g < w.heap.size) (hc : d.size ≤ c) : PtsAt w (some ⟨g, 0, none⟩) c d.toList := by
  refine .inr ⟨g, 0, rfl, hg, by simpa using hc, fun j e he => ?_⟩
  have hj : j < d.size := by
    rcases Nat.lt_or_ge j d.size with h | h
    · exact h
    · rw [List.getElem?_eq_none (by simpa using h)] at he; cases he
  have hd : d[j]! = e := by
    rw [getElem!_pos d j hj]
    simpa [hj] using he
  have c1 := (h.cell (i := j) (c := 0) hj (by decide)).1
  have c2 := (h.cell (i := j) (c := 1) hj (by decide)).1
  rw [hd] at c1 c2
  exact ⟨c1, c2⟩
theorem srtP_perm (ps : List Pt) : (srtP ps).Perm ps := List.mergeSort_perm _ _
set_option maxHeartbeats 1000000 in
/-- slices.SortFunc of points. -/
theorem sort52 (base g c : Nat) (ps : List Pt) (hps : ps.length ≤ 100000) (w : World) (hown : w.ownsRow base 75 2 (.slice (some ⟨g, 0, none⟩) ps.length c) ps.length (cellsP ps)) :
    Calls Tryz.prog 33 #[.slice (some ⟨g, 0, none⟩) ps.length c, .func (.func 34) #[] #[]] w fun e w' => e = .returned (.tuple #[]) ∧ PtsAt w' (some ⟨g, 0, none⟩) c (srtP ps) ∧ Keep (fun y => y = g) w w' := by
  have eg : ∀ args w, (callFunc 34 args).run Tryz.prog w = .ok (.enter 34 args) w := enters_of Tryz.func34 (by kernel_rfl) rfl
  have hH := holds_pts hown
  have hg : g < w.heap.size ∧ ps.length ≤ c := by
    obtain ⟨hl, ⟨hx, _⟩ | ⟨g', cap, cur, hx, hb, hg, hcap, _⟩⟩ := hown
    · injection hx with h1; cases h1
    · injection hx with h1 h2 h3
      obtain rfl : g = g' := by injection h1 with h1; injection h1
      exact ⟨(Array.getElem?_eq_some_iff.1 hg).1, by omega⟩
  have hcon := AnyQ.slices_SortFunc_total Tryz.sortPt 2 Tryz.isAgg75 Tryz.sizeOf75 encP (fun _ => rfl) (fun x v hv => by simp [encP] at hv; rcases hv with rfl | rfl <;> rfl) cmpP swoP 34 #[] g 0 c ps.toArray w eg (cmpLaysP g 0 _ w) hH hg.1 (by simp; omega)
    (fun x y h1 h2 => by rw [ltP, decide_eq_false_iff_not] at h1 h2; exact ltPt_tri x y h1 h2)
  rw [List.size_toArray] at hcon
  refine Calls.mono hcon ?_
  rintro e w' ⟨he, n, os, rfl⟩
  have hsz : (ps.mergeSort fun x y => !(ltOf cmpP) y x).toArray.size = ps.length := by simp
  refine ⟨he, pts_holds (holdsK_sortWorldK_c encP 2 w g 0 ps.toArray _ n os hH hg.1 (by simp)) ?_ (by rw [hsz]; exact hg.2), keep_sortK _ _⟩
  exact Nat.lt_of_lt_of_le hg.1 (keep_sortK (w := w) (g := g) (q := n) _ os).size
theorem sort52_none (a : Option Addr) (c : Nat) (f : Value) (w : World) :
    Calls Tryz.prog 33 #[.slice a 0 c, f] w fun e w' => e = .returned (.tuple #[]) ∧ w' = w :=
  AnyF.slices_SortFunc_none Tryz.sortPt a c f w
end Go.Proofs.YtklfpnnnoaaiaabGreatDoor

