/- stewardref18.Build: what its loops have in memory -/
import Derived.Test.YtlcpkplipfcdaaaDoorMgZ
import Derived.Test.YtlcpkplipfcdaaaDoorRefS
import Derived.Test.YtlcpkplipfcdaaaDoorBelow
import Derived.Deep.AppendLies
namespace Go.Proofs.YtlcpkplipfcdaaaDoor
open Go.RowKit

/-- So many cells of a block, none frozen. -/
def CellsAt (w : World) (b n : Nat) (f : Nat → Value) : Prop := b < w.heap.size ∧ ∀ i, i < n → w.cell? ⟨b, i, none⟩ = some (f i) ∧ w.frozen? ⟨b, i, none⟩ = false
theorem CellsAt.below {w w' : World} {b n : Nat} {f : Nat → Value} (h : CellsAt w b n f) (hb : Below w.heap.size w w') : CellsAt w' b n f := by
  obtain ⟨b1, b2⟩ := bcell hb
  exact ⟨Nat.lt_of_lt_of_le h.1 hb.size, fun i hi => by rw [b1 _ _ h.1, b2 _ _ h.1]; exact h.2 i hi⟩
theorem CellsAt.far {w : World} {b n b' o' : Nat} {f : Nat → Value} (h : CellsAt w b n f) (hne : b ≠ b') (v : Value) : CellsAt (w.setCell ⟨b', o', none⟩ v) b n f := by
  refine ⟨by simpa [World.setCell] using h.1, fun i hi => ?_⟩
  rw [other_cell (.inl hne), World.frozen?_setCell]
  exact h.2 i hi
theorem CellsAt.set {w : World} {b n i : Nat} {f : Nat → Value} (h : CellsAt w b n f) (hi : i < n) (v : Value) : CellsAt (w.setCell ⟨b, i, none⟩ v) b n (fun k => if k = i then v else f k) := by
  refine ⟨by simpa [World.setCell] using h.1, fun k hk => ?_⟩
  rw [World.frozen?_setCell]
  refine ⟨?_, (h.2 k hk).2⟩
  by_cases e : k = i
  · subst e
    rw [World.cell?_setCell_same _ _ _ (h.2 k hk).1]; simp
  · rw [other_cell (.inr e)]
    simp only [if_neg e]
    exact (h.2 k hk).1
theorem CellsAt.congr {w : World} {b n : Nat} {f g : Nat → Value} (h : CellsAt w b n f) (he : ∀ i, i < n → f i = g i) : CellsAt w b n g := ⟨h.1, fun i hi => by rw [← he i hi]; exact h.2 i hi⟩
/-- What the third loop has: places by oP, taken by oT. -/
structure R3 (P : Par) (ns : List ByteArray) (pb tb gn go gr : Nat) (rb rc : Nat → Nat) (oP oT : Nat → Int) (nx : Nat → Nat) (ow : Nat → Int) (w : World) : Prop where
  pl : CellsAt w pb P.m fun q => .string (atN ns P.m oP (q : Int))
  tk : CellsAt w tb P.m fun q => .bool (decide (oT q ≠ -1))
  nx : CellsAt w gn P.n fun i => .int .i64 (nx i : Nat)
  ow : CellsAt w go P.n fun i => .int .i64 (ow i)
  rows : CellsAt w gr P.n fun i => .slice (some ⟨rb i, 0, none⟩) P.m (rc i)
  inn : ∀ i, i < P.n → CellsAt w (rb i) P.m fun t => .int .i64 (P.pl i t : Nat)
  d1 : pb ≠ tb ∧ pb ≠ gn ∧ pb ≠ go ∧ pb ≠ gr ∧ tb ≠ gn ∧ tb ≠ go ∧ tb ≠ gr ∧ gn ≠ go ∧ gn ≠ gr ∧ go ≠ gr
  d2 : ∀ i, i < P.n → pb ≠ rb i ∧ tb ≠ rb i ∧ gn ≠ rb i ∧ go ≠ rb i
section
variable {P : Par} {ns : List ByteArray} {pb tb gn go gr : Nat} {rb rc : Nat → Nat} {oP oT : Nat → Int} {nx : Nat → Nat} {ow : Nat → Int} {w w' : World}
theorem R3.below (h : R3 P ns pb tb gn go gr rb rc oP oT nx ow w) (hb : Below w.heap.size w w') : R3 P ns pb tb gn go gr rb rc oP oT nx ow w' :=
  ⟨h.pl.below hb, h.tk.below hb, h.nx.below hb, h.ow.below hb, h.rows.below hb, fun i hi => (h.inn i hi).below hb, h.d1, h.d2⟩
theorem R3.setNext (h : R3 P ns pb tb gn go gr rb rc oP oT nx ow w) {i : Nat} (hi : i < P.n) (t : Nat) : R3 P ns pb tb gn go gr rb rc oP oT (setN nx i t) ow (w.setCell ⟨gn, i, none⟩ (.int .i64 (t : Nat))) := by
  obtain ⟨a1, a2, a3, a4, a5, a6, a7, a8, a9, a10⟩ := h.d1
  refine ⟨h.pl.far a2 _, h.tk.far a5 _, (h.nx.set hi _).congr fun k _ => ?_, h.ow.far (Ne.symm a8) _, h.rows.far (Ne.symm a9) _, fun k hk => (h.inn k hk).far (Ne.symm (h.d2 k hk).2.2.1) _, h.d1, h.d2⟩
  unfold setN
  by_cases e : k = i <;> simp [e]
theorem R3.setOwed (h : R3 P ns pb tb gn go gr rb rc oP oT nx ow w) {i : Nat} (hi : i < P.n) (v : Int) : R3 P ns pb tb gn go gr rb rc oP oT nx (setI ow i v) (w.setCell ⟨go, i, none⟩ (.int .i64 v)) := by
  obtain ⟨a1, a2, a3, a4, a5, a6, a7, a8, a9, a10⟩ := h.d1
  refine ⟨h.pl.far a3 _, h.tk.far a6 _, h.nx.far a8 _, (h.ow.set hi _).congr fun k _ => ?_, h.rows.far (Ne.symm a10) _, fun k hk => (h.inn k hk).far (Ne.symm (h.d2 k hk).2.2.2) _, h.d1, h.d2⟩
  unfold setI
  by_cases e : k = i <;> simp [e]
theorem R3.setTaken (h : R3 P ns pb tb gn go gr rb rc oP oT nx ow w) {q i : Nat} (hq : q < P.m) : R3 P ns pb tb gn go gr rb rc oP (setI oT q i) nx ow (w.setCell ⟨tb, q, none⟩ (.bool true)) := by
  obtain ⟨a1, a2, a3, a4, a5, a6, a7, a8, a9, a10⟩ := h.d1
  refine ⟨h.pl.far a1 _, (h.tk.set hq _).congr fun k _ => ?_, h.nx.far (Ne.symm a5) _, h.ow.far (Ne.symm a6) _, h.rows.far (Ne.symm a7) _, fun k hk => (h.inn k hk).far (Ne.symm (h.d2 k hk).2.1) _, h.d1, h.d2⟩
  unfold setI
  by_cases e : k = q
  · subst e
    simp only [if_pos]
    rw [decide_eq_true (by omega)]
  · simp [e]
theorem R3.setPlace (h : R3 P ns pb tb gn go gr rb rc oP oT nx ow w) {q i : Nat} (hq : q < P.m) (hi : i < ns.length) : R3 P ns pb tb gn go gr rb rc (setI oP q i) oT nx ow (w.setCell ⟨pb, q, none⟩ (.string ns[i])) := by
  obtain ⟨a1, a2, a3, a4, a5, a6, a7, a8, a9, a10⟩ := h.d1
  refine ⟨(h.pl.set hq _).congr fun k hk => ?_, h.tk.far (Ne.symm a1) _, h.nx.far (Ne.symm a2) _, h.ow.far (Ne.symm a3) _, h.rows.far (Ne.symm a4) _, fun k hk => (h.inn k hk).far (Ne.symm (h.d2 k hk).1) _, h.d1, h.d2⟩
  by_cases e : k = q
  · subst e
    simp only [if_pos]
    unfold atN setI
    rw [if_neg (by omega), Int.toNat_natCast, if_pos rfl, if_neg (by omega), Int.toNat_natCast, List.getElem?_eq_getElem hi, Option.getD_some]
  · simp only [if_neg e]
    unfold atN setI
    rw [Int.toNat_natCast, if_neg e]
end

theorem infoRow : (Tryd.prog.info? 46).map (fun i => (i.zero, i.size, i.bytes)) = some (some (.slice none 0 0), 1, 24) := by kernel_rfl
def zerosV (j : Nat) : List Value := List.replicate j (.int .i64 0)
theorem zerosV_snoc (j : Nat) : zerosV j ++ [.int .i64 0] = zerosV (j + 1) := by unfold zerosV; rw [List.replicate_succ']
/-- The rows in memory. -/
def rowsV (m : Nat) (rb rc : Nat → Nat) (j : Nat) : List Value := (List.range j).map fun i => .slice (some ⟨rb i, 0, none⟩) m (rc i)
theorem rowsV_congr {m : Nat} {rb rc rb' rc' : Nat → Nat} {j : Nat} (h : ∀ i, i < j → rb i = rb' i ∧ rc i = rc' i) : rowsV m rb rc j = rowsV m rb' rc' j :=
  List.map_congr_left fun i hi => by rw [(h i (List.mem_range.1 hi)).1, (h i (List.mem_range.1 hi)).2]
theorem rowsV_snoc (m : Nat) (rb rc : Nat → Nat) (j : Nat) : rowsV m rb rc (j + 1) = rowsV m rb rc j ++ [.slice (some ⟨rb j, 0, none⟩) m (rc j)] := by
  unfold rowsV; rw [List.range_succ, List.map_append]; rfl
/-- What the reference's Build has, when it has come to an entry. -/
structure RbS (W : World) (m : Nat) (F S : Nat → Nat) (jr jn jo gr gn go cr cn co : Nat) (rb rc : Nat → Nat) (w : World) : Prop where
  bel : Below W.heap.size W w
  rows : w.ownsRow W.heap.size 46 1 (.slice (some ⟨gr, 0, none⟩) jr cr) jr (rowsV m rb rc jr)
  inn : ∀ i, i < jr → w.ownsRow W.heap.size 3 1 (.slice (some ⟨rb i, 0, none⟩) m (rc i)) m (cellsN (rowL m (F i) (S i)))
  next : w.ownsRow W.heap.size 3 1 (.slice (some ⟨gn, 0, none⟩) jn cn) jn (zerosV jn)
  owed : w.ownsRow W.heap.size 3 1 (.slice (some ⟨go, 0, none⟩) jo co) jo (zerosV jo)
  dis : gn ≠ go ∧ ∀ i, i < jr → gn ≠ rb i ∧ go ≠ rb i
section
variable {W : World} {m : Nat} {F S : Nat → Nat} {jr jn jo gr gn go cr cn co : Nat} {rb rc : Nat → Nat} {w w' : World}
theorem RbS.below (h : RbS W m F S jr jn jo gr gn go cr cn co rb rc w) (hb : Below w.heap.size w w') : RbS W m F S jr jn jo gr gn go cr cn co rb rc w' :=
  ⟨h.bel.trans (hb.mono h.bel.size), ownB_keep (G := fun _ => False) h.rows (Keep.of_below hb) (fun _ _ h => h), fun i hi => ownB_keep (G := fun _ => False) (h.inn i hi) (Keep.of_below hb) (fun _ _ h => h), ownB_keep (G := fun _ => False) h.next (Keep.of_below hb) (fun _ _ h => h), ownB_keep (G := fun _ => False) h.owed (Keep.of_below hb) (fun _ _ h => h), h.dis⟩
theorem RbS.addRow (h : RbS W m F S jr jn jo gr gn go cr cn co rb rc w) {gr' cr' g c : Nat} (ho : w'.ownsRow W.heap.size 46 1 (.slice (some ⟨gr', 0, none⟩) (jr + 1) cr') (jr + 1) (rowsV m rb rc jr ++ [.slice (some ⟨g, 0, none⟩) m c])) (hg : w.grownBy w' (some gr)) (hi : w.ownsRow W.heap.size 3 1 (.slice (some ⟨g, 0, none⟩) m c) m (cellsN (rowL m (F jr) (S jr)))) (d1 : gn ≠ g) (d2 : go ≠ g) :
    RbS W m F S (jr + 1) jn jo gr' gn go cr' cn co (fun i => if i = jr then g else rb i) (fun i => if i = jr then c else rc i) w' := by
  have hk : Keep (fun y => y = gr) w w' := .grown hg (fun y e => by injection e with e; exact e.symm)
  have hne : ∀ {v : Value} {q : Nat} {xs : List Value}, w.ownsRow W.heap.size 3 1 v q xs → ∀ y, v.ownBlock = some y → ¬ y = gr := fun ho y hy e => by
    rcases own_two ho h.rows (by decide) with h1 | h1
    · rw [hy] at h1; cases h1
    · exact h1 (by rw [hy, e]; simp [Value.ownBlock])
  refine ⟨h.bel.grown hg h.bel.size (fun y e => by injection e with e; rw [← e]; exact (own_capM h.rows).2.1), ?_, fun i hlt => ?_, ownB_keep h.next hk (hne h.next), ownB_keep h.owed hk (hne h.owed), h.dis.1, fun i hlt => ?_⟩
  · rw [rowsV_snoc]
    simp only [if_pos]
    rw [rowsV_congr (rb' := rb) (rc' := rc) (fun i hi => ⟨by rw [if_neg (by omega)], by rw [if_neg (by omega)]⟩)]
    exact ho
  · by_cases e : i = jr
    · subst e
      simp only [if_pos]
      exact ownB_keep hi hk (hne hi)
    · simp only [if_neg e]
      have h2 := h.inn i (by omega)
      exact ownB_keep h2 hk (hne h2)
  · by_cases e : i = jr
    · subst e
      simp only [if_pos]
      exact ⟨d1, d2⟩
    · simp only [if_neg e]
      exact h.dis.2 i (by omega)
theorem RbS.addNext (h : RbS W m F S jr jn jo gr gn go cr cn co rb rc w) {g' c' : Nat} (ho : w'.ownsRow W.heap.size 3 1 (.slice (some ⟨g', 0, none⟩) (jn + 1) c') (jn + 1) (zerosV jn ++ [.int .i64 0])) (hg : w.grownBy w' (some gn)) (hf : some gn = some g' ∨ g' = w.heap.size) :
    RbS W m F S jr (jn + 1) jo gr g' go cr c' co rb rc w' := by
  have hk : Keep (fun y => y = gn) w w' := .grown hg (fun y e => by injection e with e; exact e.symm)
  have hgo := (own_capM h.owed).2.2
  refine ⟨h.bel.grown hg h.bel.size (fun y e => by injection e with e; rw [← e]; exact (own_capM h.next).2.1), ?_, fun i hlt => ?_, by rw [zerosV_snoc] at ho; exact ho, ?_, ?_, fun i hlt => ?_⟩
  · refine ownB_keep h.rows hk (fun y hy e => ?_)
    rcases own_two h.rows h.next (by decide) with h1 | h1
    · rw [hy] at h1; cases h1
    · exact h1 (by rw [hy, e]; simp [Value.ownBlock])
  · refine ownB_keep (h.inn i hlt) hk (fun y hy e => ?_)
    have hy : some (rb i) = some y := hy
    injection hy with hy
    have := (h.dis.2 i hlt).1; omega
  · refine ownB_keep h.owed hk (fun y hy e => ?_)
    have hy : some go = some y := hy
    injection hy with hy
    have := h.dis.1; omega
  · rcases hf with hf | hf
    · injection hf with hf; rw [← hf]; exact h.dis.1
    · omega
  · have h3 := (own_capM (h.inn i hlt)).2.2
    rcases hf with hf | hf
    · injection hf with hf; rw [← hf]; exact h.dis.2 i hlt
    · exact ⟨by omega, (h.dis.2 i hlt).2⟩
theorem RbS.addOwed (h : RbS W m F S jr jn jo gr gn go cr cn co rb rc w) {g' c' : Nat} (ho : w'.ownsRow W.heap.size 3 1 (.slice (some ⟨g', 0, none⟩) (jo + 1) c') (jo + 1) (zerosV jo ++ [.int .i64 0])) (hg : w.grownBy w' (some go)) (hf : some go = some g' ∨ g' = w.heap.size) :
    RbS W m F S jr jn (jo + 1) gr gn g' cr cn c' rb rc w' := by
  have hk : Keep (fun y => y = go) w w' := .grown hg (fun y e => by injection e with e; exact e.symm)
  have hgn := (own_capM h.next).2.2
  refine ⟨h.bel.grown hg h.bel.size (fun y e => by injection e with e; rw [← e]; exact (own_capM h.owed).2.1), ?_, fun i hlt => ?_, ?_, by rw [zerosV_snoc] at ho; exact ho, ?_, fun i hlt => ?_⟩
  · refine ownB_keep h.rows hk (fun y hy e => ?_)
    rcases own_two h.rows h.owed (by decide) with h1 | h1
    · rw [hy] at h1; cases h1
    · exact h1 (by rw [hy, e]; simp [Value.ownBlock])
  · refine ownB_keep (h.inn i hlt) hk (fun y hy e => ?_)
    have hy : some (rb i) = some y := hy
    injection hy with hy
    have := (h.dis.2 i hlt).2; omega
  · refine ownB_keep h.next hk (fun y hy e => ?_)
    have hy : some gn = some y := hy
    injection hy with hy
    have := h.dis.1; omega
  · rcases hf with hf | hf
    · injection hf with hf; rw [← hf]; exact h.dis.1
    · omega
  · have h3 := (own_capM (h.inn i hlt)).2.2
    rcases hf with hf | hf
    · injection hf with hf; rw [← hf]; exact h.dis.2 i hlt
    · exact ⟨(h.dis.2 i hlt).1, by omega⟩
end
theorem RbS.start (W : World) (m : Nat) (F S : Nat → Nat) : RbS W m F S 0 0 0 W.heap.size (W.heap.size + 1) (W.heap.size + 1 + 1) 0 0 0 (fun _ => 0) (fun _ => 0) (((W.alloc (.cells #[] 46)).alloc (.cells #[] 3)).alloc (.cells #[] 3)) := by
  have s1 : (W.alloc (.cells #[] 46)).heap.size = W.heap.size + 1 := by simp
  have s2 : ((W.alloc (.cells #[] 46)).alloc (.cells #[] 3)).heap.size = W.heap.size + 1 + 1 := by simp
  have o1 : (W.alloc (.cells #[] 46)).ownsRow W.heap.size 46 1 (.slice (some ⟨W.heap.size, 0, none⟩) 0 0) 0 [] := World.ownsRow_lit W #[] 0 (Nat.le_refl _) (by decide) (by simp)
  have o2 : ((W.alloc (.cells #[] 46)).alloc (.cells #[] 3)).ownsRow W.heap.size 3 1 (.slice (some ⟨W.heap.size + 1, 0, none⟩) 0 0) 0 [] := by
    have := World.ownsRow_lit (base := W.heap.size) (e := 3) (size := 1) (W.alloc (.cells #[] 46)) #[] 0 (by omega) (by decide) (by simp)
    rw [s1] at this
    exact this
  have o3 : (((W.alloc (.cells #[] 46)).alloc (.cells #[] 3)).alloc (.cells #[] 3)).ownsRow W.heap.size 3 1 (.slice (some ⟨W.heap.size + 1 + 1, 0, none⟩) 0 0) 0 [] := by
    have := World.ownsRow_lit (base := W.heap.size) (e := 3) (size := 1) ((W.alloc (.cells #[] 46)).alloc (.cells #[] 3)) #[] 0 (by omega) (by decide) (by simp)
    rw [s2] at this
    exact this
  have b1 := below_alloc W (.cells #[] 46)
  have b2 := b1.alloc b1.size (.cells #[] 3)
  exact ⟨b2.alloc b2.size _, (o1.alloc _).alloc _, fun i hi => by omega, o2.alloc _, o3, by omega, fun i hi => by omega⟩
theorem own_base {w : World} {b b' : Nat} {e : TypeId} {n m : Nat} {v : Value} {xs : List Value} (h : w.ownsRow b e n v m xs) (hb : b' ≤ b) : w.ownsRow b' e n v m xs := by
  obtain ⟨hl, h0 | ⟨g, cap, cur, rfl, hg, r⟩⟩ := h
  · exact ⟨hl, .inl h0⟩
  · exact ⟨hl, .inr ⟨g, cap, cur, rfl, Nat.le_trans hb hg, r⟩⟩
theorem cells_one (w : World) (v : Value) (T : TypeId) : ∀ (k : Nat) u, [v][k]? = some u → (w.alloc (.cells #[v] T)).cell? ((⟨w.heap.size, 0, none⟩ : Addr).add k) = some u := by
  intro k u hu
  rw [Addr.add_mid]
  match k, hu with
  | 0, hu => obtain rfl := Option.some.inj hu; simp
  | k + 1, hu => simp at hu
theorem cat_data (a b : ByteArray) : (a ++ b).data.toList = a.data.toList ++ b.data.toList := by
  rw [ByteArray.data_append, Array.toList_append]

theorem own_cellsAt {w : World} {base g n c : Nat} {e : TypeId} {xs : List Value} {f : Nat → Value} (h : w.ownsRow base e 1 (.slice (some ⟨g, 0, none⟩) n c) n xs) (hx : ∀ i, i < n → xs[i]? = some (f i)) : CellsAt w g n f := by
  obtain ⟨hl, ⟨hv, _⟩ | ⟨g', cap, cur, hv, hb, hg, hcap, hcm, hcs, htk⟩⟩ := h
  · injection hv with h1; cases h1
  · injection hv with h1 h2 h3
    obtain rfl : g = g' := by injection h1 with h1; injection h1
    have hR : Row w g e cur := hg
    refine ⟨hR.lt, fun i hi => ⟨?_, hR.free i⟩⟩
    rw [hR.cell i, ← hx i hi, ← htk, List.getElem?_take, if_pos (by omega), Array.getElem?_toList]
theorem CellsAt.keep {G : Nat → Prop} {w w' : World} {b n : Nat} {f : Nat → Value} (h : CellsAt w b n f) (hk : Keep G w w') (hg : ¬ G b) : CellsAt w' b n f := by
  have hbk := hk.block b h.1 hg
  refine ⟨Nat.lt_of_lt_of_le h.1 hk.size, fun i hi => ?_⟩
  have := h.2 i hi
  simp only [World.cell?, World.frozen?, hbk] at this ⊢
  exact this
theorem infoBo : (Tryd.prog.info? 4).map (fun i => (i.zero, i.size, i.bytes)) = some (some (.bool false), 1, 1) := by kernel_rfl
theorem makeBM (n : Nat) (hn : n ≤ 4096) (w : World) : ∃ cs, (∀ w', w' = w → (Instr.makeSlice 87 (.int .i64 (n : Int)) (.int .i64 (n : Int))).run Tryd.prog w' = .ok (.slice (some ⟨w.heap.size, 0, none⟩) n n) (w.alloc (.cells cs 4))) ∧
    CellsAt (w.alloc (.cells cs 4)) w.heap.size n (fun _ => .bool false) := by
  obtain ⟨i0, hi, hz0, hz1, hz2⟩ := info_parts infoBo
  have h := run_make (P := Tryd.prog) w 87 4 i0 (.bool false) Tryd.underlying87 hi hz0 .i64 .i64 n n (by omega) (by omega) (by rw [hz2]; omega) (by omega)
  rw [hz1, Int.toNat_natCast, Nat.mul_one] at h
  refine ⟨_, fun w' e => by rw [e]; exact h, by simp, fun j hj => ?_⟩
  have hm : (madeCells (Value.bool false).cells n)[j]? = some (.bool false) := by
    unfold madeCells
    rw [Array.getElem?_map, Array.getElem?_range, if_pos hj]
    have e : (Value.bool false).cells = #[.bool false] := rfl
    rw [e]
    simp [Nat.mod_one]
  have hh : (w.alloc (.cells (madeCells (Value.bool false).cells n) 4)).heap[w.heap.size]? = some (.cells (madeCells (Value.bool false).cells n) 4) := by
    show (w.heap.push _)[w.heap.size]? = _
    rw [Array.getElem?_push_size]
  constructor
  · simp only [World.cell?, hh]
    exact hm
  · simp only [World.frozen?, hh]
    simp
/-- The third loop begins. -/
theorem R3.start {ww w2 w w' : World} {k : Nat → UInt8} {all : List Ent} {m gr gn go pb tb cr cn co c : Nat} {rb rc : Nat → Nat} {ns : List ByteArray} {cs : Array Value}
    (hP : ww.ownsRow w'.heap.size 9 1 (.slice (some ⟨pb, 0, none⟩) m c) m (List.replicate m (.string ⟨#[]⟩))) (hB : Below ww.heap.size ww w2)
    (hR : RbS w2 m (parOf k all m).F (parOf k all m).S all.length all.length all.length gr gn go cr cn co rb rc w)
    (hT : CellsAt (w.alloc (.cells cs 4)) w.heap.size m (fun _ => .bool false)) (htb : tb = w.heap.size) :
    R3 (parOf k all m) ns pb tb gn go gr rb rc (fun _ => -1) (fun _ => -1) (fun _ => 0) (fun _ => 0) (w.alloc (.cells cs 4)) := by
  subst htb
  have hp := own_capM hP
  have hr := own_capM hR.rows
  have hn := own_capM hR.next
  have ho := own_capM hR.owed
  have hi := fun i (hi : i < all.length) => own_capM (hR.inn i hi)
  have hz := hB.size
  have b2 := below_alloc w (.cells cs 4)
  have e1 : gn ≠ gr := fun e => by
    rcases own_two hR.next hR.rows (by decide) with h1 | h1
    · cases h1
    · exact h1 (by rw [e]; rfl)
  have e2 : go ≠ gr := fun e => by
    rcases own_two hR.owed hR.rows (by decide) with h1 | h1
    · cases h1
    · exact h1 (by rw [e]; rfl)
  refine ⟨?_, hT.congr fun i _ => by simp, ?_, ?_, ?_, fun i hi' => ?_, ?_, fun i hi' => ?_⟩
  · have h1 : CellsAt ww pb m fun q => .string (atN ns m (fun _ => -1) (q : Int)) := own_cellsAt hP fun i hi => by
      rw [List.getElem?_replicate, if_pos hi]
      unfold atN
      rw [if_neg (by omega), if_pos rfl]
    exact ((h1.below hB).keep (G := fun _ => False) (Keep.of_below (by exact hR.bel)) (fun h => h)).below b2
  · refine (own_cellsAt hR.next fun i hi => ?_).below b2
    unfold zerosV; rw [List.getElem?_replicate, if_pos hi]; rfl
  · refine (own_cellsAt hR.owed fun i hi => ?_).below b2
    unfold zerosV; rw [List.getElem?_replicate, if_pos hi]
  · refine (own_cellsAt hR.rows fun i hi => ?_).below b2
    unfold rowsV; rw [List.getElem?_map, List.getElem?_range hi]; rfl
  · refine (own_cellsAt (hR.inn i hi') fun t ht => ?_).below b2
    rw [cellsN_at _ _ (by rw [rowL_len]; exact ht)]
    have := rowL_at (m := m) (f := (parOf k all m).F i) (s := (parOf k all m).S i) ht
    rw [List.getElem?_eq_getElem (by rw [rowL_len]; exact ht)] at this
    rw [Option.some.inj this]; rfl
  · refine ⟨by omega, by omega, by omega, by omega, by omega, by omega, by omega, hR.dis.1, e1, e2⟩
  · have := hi i hi'
    have := hR.dis.2 i hi'
    refine ⟨by omega, by omega, this.1, this.2⟩
theorem R3.drewN {P : Par} {ns : List ByteArray} {pb tb gn go gr : Nat} {rb rc : Nat → Nat} {oP oT : Nat → Int} {nx : Nat → Nat} {ow : Nat → Int} {w : World} (h : R3 P ns pb tb gn go gr rb rc oP oT nx ow w) (n : Nat) : R3 P ns pb tb gn go gr rb rc oP oT nx ow (w.drewN n) :=
  h.below ⟨rfl, rfl, rfl, Nat.le_refl _, fun _ _ => rfl⟩
theorem R3.drew {P : Par} {ns : List ByteArray} {pb tb gn go gr : Nat} {rb rc : Nat → Nat} {oP oT : Nat → Int} {nx : Nat → Nat} {ow : Nat → Int} {w : World} (h : R3 P ns pb tb gn go gr rb rc oP oT nx ow w) : R3 P ns pb tb gn go gr rb rc oP oT nx ow w.drew :=
  h.below ⟨rfl, rfl, rfl, Nat.le_refl _, fun _ _ => rfl⟩
/-- An entry that gets no place. -/
theorem stp_idle {P : Par} {r q : Nat} (hq : q < P.n) {st : St} (hst : st = P.run (r * P.n + q)) {ow : Nat → Int} (how : st.cnt < P.m → ow = st.ow) (hle : st.cnt ≤ P.m) (hc : ow q + P.W q < P.G ∨ st.cnt = P.m) :
    ∃ st', st' = P.run (r * P.n + (q + 1)) ∧ st'.cnt = st.cnt ∧ st'.own = st.own ∧ st'.nx = st.nx ∧ (st.cnt < P.m → setI ow q (ow q + P.W q) = st'.ow) := by
  have hn := Par.run_next P r hq
  rw [← hst] at hn
  refine ⟨_, hn.symm, ?_⟩
  unfold Par.stp
  by_cases e : st.cnt = P.m
  · rw [if_pos e]
    exact ⟨rfl, rfl, rfl, fun h => by omega⟩
  · have ho := how (by omega)
    subst ho
    rw [if_neg e, if_pos (by rcases hc with h | h; exact h; exact absurd h e)]
    exact ⟨rfl, rfl, rfl, fun _ => rfl⟩
/-- An entry that gets a place. -/
theorem stp_take {P : Par} {r q : Nat} (hq : q < P.n) {st : St} (hst : st = P.run (r * P.n + q)) {ow : Nat → Int} (how : st.cnt < P.m → ow = st.ow) (hle : st.cnt < P.m) (hc : ¬ ow q + P.W q < P.G) :
    ∃ st', st' = P.run (r * P.n + (q + 1)) ∧ st'.cnt = st.cnt + 1 ∧ st'.own = setI st.own (P.pl q (P.nxt q st)) q ∧ st'.nx = setN st.nx q (P.nxt q st) ∧ setI ow q (ow q + P.W q - P.G) = st'.ow := by
  have hn := Par.run_next P r hq
  rw [← hst] at hn
  refine ⟨_, hn.symm, ?_⟩
  have ho := how hle
  subst ho
  unfold Par.stp
  rw [if_neg (by omega), if_neg hc]
  exact ⟨rfl, rfl, rfl, rfl⟩
/-- What next holds, read off the world. -/
def nextOf (w : World) (gn i : Nat) : Nat := match w.cell? ⟨gn, i, none⟩ with
  | some (.int .i64 z) => z.toNat
  | _ => 0
theorem nextOf_is {w : World} {gn i t : Nat} (h : w.cell? ⟨gn, i, none⟩ = some (.int .i64 (t : Nat))) : nextOf w gn i = t := by
  unfold nextOf; rw [h]; simp
/-- The names at all places. -/
def placesL (es : List Ent) (m : Nat) (own : Nat → Int) : List ByteArray := (List.range m).map fun (q : Nat) => atN (es.map fun e => e.1) m own (q : Int)
theorem placesL_len (es : List Ent) (m : Nat) (own : Nat → Int) : (placesL es m own).length = m := by simp [placesL]
theorem placesL_none (m : Nat) : placesL [] m (fun _ => -1) = List.replicate m ⟨#[]⟩ := by
  refine List.ext_getElem (by simp [placesL]) fun i h1 h2 => ?_
  simp only [placesL, List.getElem_map, List.getElem_replicate, List.getElem_range]
  unfold atN
  have : i < m := by simpa [placesL] using h1
  rw [if_neg (by omega), if_pos rfl]
theorem placesL_at {w : World} {es : List Ent} {m pb cp : Nat} {own : Nat → Int} (hc : m ≤ cp) (h : CellsAt w pb m fun q => .string (atN (es.map fun e => e.1) m own (q : Int))) : IsStrs w (some ⟨pb, 0, none⟩) cp (placesL es m own) := by
  refine .inr ⟨pb, 0, rfl, h.1, by rw [placesL_len]; exact hc, fun j x hx => ?_⟩
  have hj : j < m := by
    rcases Nat.lt_or_ge j m with h1 | h1
    · exact h1
    · rw [List.getElem?_eq_none (by rw [placesL_len]; exact h1)] at hx; cases hx
  rw [Nat.zero_add, (h.2 j hj).1]
  unfold placesL at hx
  rw [List.getElem?_map, List.getElem?_range hj] at hx
  rw [← Option.some.inj hx]
end Go.Proofs.YtlcpkplipfcdaaaDoor
