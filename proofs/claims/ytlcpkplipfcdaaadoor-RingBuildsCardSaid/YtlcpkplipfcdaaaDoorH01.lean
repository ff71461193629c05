/- Packed: MgBe, MgKy, RgF, RgG, RgH. -/
import Derived.Deep.AppendLies
import Derived.IntWalk
import Derived.Test.YtlcpkplipfcdaaaDoorG01
import Derived.Test.YtlcpkplipfcdaaaDoorG03
import Derived.Test.YtlcpkplipfcdaaaDoorG05
import Derived.Test.YtlcpkplipfcdaaaDoorG07
import Derived.Test.YtlcpkplipfcdaaaDoorH00
/- stewardref18.Build: what its loops have in memory -/
namespace Go.Proofs.YtlcpkplipfcdaaaDoor
open Go.RowKit

/-- So many cells of a block, none frozen. -/
def CellsAt (w : World) (b n : Nat) (f : Nat → Value) : Prop := b < w.heap.size ∧ ∀ i, i < n → w.cell? ⟨b, i, none⟩ = some (f i) ∧ w.frozen? ⟨b, i, none⟩ = false
theorem CellsAt.below {w w' : World} {b n : Nat} {f : Nat → Value} (h : CellsAt w b n f) (hb : Below w.heap.size w w') : CellsAt w' b n f := by
  obtain ⟨b1, b2⟩ := bcell hb
  exact ⟨Nat.lt_of_lt_of_le h.1 hb.size, fun i hi => by rw [b1 _ _ h.1, b2 _ _ h.1]; exact h.2 i hi⟩
theorem CellsAt.far {w : World} {b n b' o' : Nat} {f : Nat → Value} (h : CellsAt w b n f) (hne : b ≠ b') (v : Value) : CellsAt (w.setCell ⟨b', o', none⟩ v) b n f := by
  refine ⟨by simpa [World.setCell] using h.1, fun i hi => ?_⟩
  rw [other_cell (.inl hne), World.frozen?_setCell]
  exact h.2 i hi
theorem CellsAt.set {w : World} {b n i : Nat} {f : Nat → Value} (h : CellsAt w b n f) (hi : i < n) (v : Value) : CellsAt (w.setCell ⟨b, i, none⟩ v) b n (fun k => if k = i then v else f k) := by
  refine ⟨by simpa [World.setCell] using h.1, fun k hk => ?_⟩
  rw [World.frozen?_setCell]
  refine ⟨?_, (h.2 k hk).2⟩
  by_cases e : k = i
  · subst e
    rw [World.cell?_setCell_same _ _ _ (h.2 k hk).1]; simp
  · rw [other_cell (.inr e)]
    simp only [if_neg e]
    exact (h.2 k hk).1
theorem CellsAt.congr {w : World} {b n : Nat} {f g : Nat → Value} (h : CellsAt w b n f) (he : ∀ i, i < n → f i = g i) : CellsAt w b n g := ⟨h.1, fun i hi => by rw [← he i hi]; exact h.2 i hi⟩
/-- What the third loop has: places by oP, taken by oT. -/
structure R3 (P : Par) (ns : List ByteArray) (pb tb gn go gr : Nat) (rb rc : Nat → Nat) (oP oT : Nat → Int) (nx : Nat → Nat) (ow : Nat → Int) (w : World) : Prop where
  pl : CellsAt w pb P.m fun q => .string (atN ns P.m oP (q : Int))
  tk : CellsAt w tb P.m fun q => .bool (decide (oT q ≠ -1))
  nx : CellsAt w gn P.n fun i => .int .i64 (nx i : Nat)
  ow : CellsAt w go P.n fun i => .int .i64 (ow i)
  rows : CellsAt w gr P.n fun i => .slice (some ⟨rb i, 0, none⟩) P.m (rc i)
  inn : ∀ i, i < P.n → CellsAt w (rb i) P.m fun t => .int .i64 (P.pl i t : Nat)
  d1 : pb ≠ tb ∧ pb ≠ gn ∧ pb ≠ go ∧ pb ≠ gr ∧ tb ≠ gn ∧ tb ≠ go ∧ tb ≠ gr ∧ gn ≠ go ∧ gn ≠ gr ∧ go ≠ gr
  d2 : ∀ i, i < P.n → pb ≠ rb i ∧ tb ≠ rb i ∧ gn ≠ rb i ∧ go ≠ rb i
section
variable {P : Par} {ns : List ByteArray} {pb tb gn go gr : Nat} {rb rc : Nat → Nat} {oP oT : Nat → Int} {nx : Nat → Nat} {ow : Nat → Int} {w w' : World}
theorem R3.below (h : R3 P ns pb tb gn go gr rb rc oP oT nx ow w) (hb : Below w.heap.size w w') : R3 P ns pb tb gn go gr rb rc oP oT nx ow w' :=
  ⟨h.pl.below hb, h.tk.below hb, h.nx.below hb, h.ow.below hb, h.rows.below hb, fun i hi => (h.inn i hi).below hb, h.d1, h.d2⟩
theorem R3.setNext (h : R3 P ns pb tb gn go gr rb rc oP oT nx ow w) {i : Nat} (hi : i < P.n) (t : Nat) : R3 P ns pb tb gn go gr rb rc oP oT (setN nx i t) ow (w.setCell ⟨gn, i, none⟩ (.int .i64 (t : Nat))) := by
  obtain ⟨a1, a2, a3, a4, a5, a6, a7, a8, a9, a10⟩ := h.d1
  refine ⟨h.pl.far a2 _, h.tk.far a5 _, (h.nx.set hi _).congr fun k _ => ?_, h.ow.far (Ne.symm a8) _, h.rows.far (Ne.symm a9) _, fun k hk => (h.inn k hk).far (Ne.symm (h.d2 k hk).2.2.1) _, h.d1, h.d2⟩
  unfold setN
  by_cases e : k = i <;> simp [e]
theorem R3.setOwed (h : R3 P ns pb tb gn go gr rb rc oP oT nx ow w) {i : Nat} (hi : i < P.n) (v : Int) : R3 P ns pb tb gn go gr rb rc oP oT nx (setI ow i v) (w.setCell ⟨go, i, none⟩ (.int .i64 v)) := by
  obtain ⟨a1, a2, a3, a4, a5, a6, a7, a8, a9, a10⟩ := h.d1
  refine ⟨h.pl.far a3 _, h.tk.far a6 _, h.nx.far a8 _, (h.ow.set hi _).congr fun k _ => ?_, h.rows.far (Ne.symm a10) _, fun k hk => (h.inn k hk).far (Ne.symm (h.d2 k hk).2.2.2) _, h.d1, h.d2⟩
  unfold setI
  by_cases e : k = i <;> simp [e]
theorem R3.setTaken (h : R3 P ns pb tb gn go gr rb rc oP oT nx ow w) {q i : Nat} (hq : q < P.m) : R3 P ns pb tb gn go gr rb rc oP (setI oT q i) nx ow (w.setCell ⟨tb, q, none⟩ (.bool true)) := by
  obtain ⟨a1, a2, a3, a4, a5, a6, a7, a8, a9, a10⟩ := h.d1
  refine ⟨h.pl.far a1 _, (h.tk.set hq _).congr fun k _ => ?_, h.nx.far (Ne.symm a5) _, h.ow.far (Ne.symm a6) _, h.rows.far (Ne.symm a7) _, fun k hk => (h.inn k hk).far (Ne.symm (h.d2 k hk).2.1) _, h.d1, h.d2⟩
  unfold setI
  by_cases e : k = q
  · subst e
    simp only [if_pos]
    rw [decide_eq_true (by omega)]
  · simp [e]
theorem R3.setPlace (h : R3 P ns pb tb gn go gr rb rc oP oT nx ow w) {q i : Nat} (hq : q < P.m) (hi : i < ns.length) : R3 P ns pb tb gn go gr rb rc (setI oP q i) oT nx ow (w.setCell ⟨pb, q, none⟩ (.string ns[i])) := by
  obtain ⟨a1, a2, a3, a4, a5, a6, a7, a8, a9, a10⟩ := h.d1
  refine ⟨(h.pl.set hq _).congr fun k hk => ?_, h.tk.far (Ne.symm a1) _, h.nx.far (Ne.symm a2) _, h.ow.far (Ne.symm a3) _, h.rows.far (Ne.symm a4) _, fun k hk => (h.inn k hk).far (Ne.symm (h.d2 k hk).1) _, h.d1, h.d2⟩
  by_cases e : k = q
  · subst e
    simp only [if_pos]
    unfold atN setI
    rw [if_neg (by omega), Int.toNat_natCast, if_pos rfl, if_neg (by omega), Int.toNat_natCast, List.getElem?_eq_getElem hi, Option.getD_some]
  · simp only [if_neg e]
    unfold atN setI
    rw [Int.toNat_natCast, if_neg e]
end

theorem infoRow : (Tryd.prog.info? 46).map (fun i => (i.zero, i.size, i.bytes)) = some (some (.slice none 0 0), 1, 24) := by kernel_rfl
def zerosV (j : Nat) : List Value := List.replicate j (.int .i64 0)
theorem zerosV_snoc (j : Nat) : zerosV j ++ [.int .i64 0] = zerosV (j + 1) := by unfold zerosV; rw [List.replicate_succ']
/-- The rows in memory. -/
def rowsV (m : Nat) (rb rc : Nat → Nat) (j : Nat) : List Value := (List.range j).map fun i => .slice (some ⟨rb i, 0, none⟩) m (rc i)
theorem rowsV_congr {m : Nat} {rb rc rb' rc' : Nat → Nat} {j : Nat} (h : ∀ i, i < j → rb i = rb' i ∧ rc i = rc' i) : rowsV m rb rc j = rowsV m rb' rc' j :=
  List.map_congr_left fun i hi => by rw [(h i (List.mem_range.1 hi)).1, (h i (List.mem_range.1 hi)).2]
theorem rowsV_snoc (m : Nat) (rb rc : Nat → Nat) (j : Nat) : rowsV m rb rc (j + 1) = rowsV m rb rc j ++ [.slice (some ⟨rb j, 0, none⟩) m (rc j)] := by
  unfold rowsV; rw [List.range_succ, List.map_append]; rfl
/-- What the reference's Build has, when it has come to an entry. -/
structure RbS (W : World) (m : Nat) (F S : Nat → Nat) (jr jn jo gr gn go cr cn co : Nat) (rb rc : Nat → Nat) (w : World) : Prop where
  bel : Below W.heap.size W w
  rows : w.ownsRow W.heap.size 46 1 (.slice (some ⟨gr, 0, none⟩) jr cr) jr (rowsV m rb rc jr)
  inn : ∀ i, i < jr → w.ownsRow W.heap.size 3 1 (.slice (some ⟨rb i, 0, none⟩) m (rc i)) m (cellsN (rowL m (F i) (S i)))
  next : w.ownsRow W.heap.size 3 1 (.slice (some ⟨gn, 0, none⟩) jn cn) jn (zerosV jn)
  owed : w.ownsRow W.heap.size 3 1 (.slice (some ⟨go, 0, none⟩) jo co) jo (zerosV jo)
  dis : gn ≠ go ∧ ∀ i, i < jr → gn ≠ rb i ∧ go ≠ rb i
section
variable {W : World} {m : Nat} {F S : Nat → Nat} {jr jn jo gr gn go cr cn co : Nat} {rb rc : Nat → Nat} {w w' : World}
theorem RbS.below (h : RbS W m F S jr jn jo gr gn go cr cn co rb rc w) (hb : Below w.heap.size w w') : RbS W m F S jr jn jo gr gn go cr cn co rb rc w' :=
  ⟨h.bel.trans (hb.mono h.bel.size), ownB_keep (G := fun _ => False) h.rows (Keep.of_below hb) (fun _ _ h => h), fun i hi => ownB_keep (G := fun _ => False) (h.inn i hi) (Keep.of_below hb) (fun _ _ h => h), ownB_keep (G := fun _ => False) h.next (Keep.of_below hb) (fun _ _ h => h), ownB_keep (G := fun _ => False) h.owed (Keep.of_below hb) (fun _ _ h => h), h.dis⟩
theorem RbS.addRow (h : RbS W m F S jr jn jo gr gn go cr cn co rb rc w) {gr' cr' g c : Nat} (ho : w'.ownsRow W.heap.size 46 1 (.slice (some ⟨gr', 0, none⟩) (jr + 1) cr') (jr + 1) (rowsV m rb rc jr ++ [.slice (some ⟨g, 0, none⟩) m c])) (hg : w.grownBy w' (some gr)) (hi : w.ownsRow W.heap.size 3 1 (.slice (some ⟨g, 0, none⟩) m c) m (cellsN (rowL m (F jr) (S jr)))) (d1 : gn ≠ g) (d2 : go ≠ g) :
    RbS W m F S (jr + 1) jn jo gr' gn go cr' cn co (fun i => if i = jr then g else rb i) (fun i => if i = jr then c else rc i) w' := by
  have hk : Keep (fun y => y = gr) w w' := .grown hg (fun y e => by injection e with e; exact e.symm)
  have hne : ∀ {v : Value} {q : Nat} {xs : List Value}, w.ownsRow W.heap.size 3 1 v q xs → ∀ y, v.ownBlock = some y → ¬ y = gr := fun ho y hy e => by
    rcases own_two ho h.rows (by decide) with h1 | h1
    · rw [hy] at h1; cases h1
    · exact h1 (by rw [hy, e]; simp [Value.ownBlock])
  refine ⟨h.bel.grown hg h.bel.size (fun y e => by injection e with e; rw [← e]; exact (own_capM h.rows).2.1), ?_, fun i hlt => ?_, ownB_keep h.next hk (hne h.next), ownB_keep h.owed hk (hne h.owed), h.dis.1, fun i hlt => ?_⟩
  · rw [rowsV_snoc]
    simp only [if_pos]
    rw [rowsV_congr (rb' := rb) (rc' := rc) (fun i hi => ⟨by rw [if_neg (by omega)], by rw [if_neg (by omega)]⟩)]
    exact ho
  · by_cases e : i = jr
    · subst e
      simp only [if_pos]
      exact ownB_keep hi hk (hne hi)
    · simp only [if_neg e]
      have h2 := h.inn i (by omega)
      exact ownB_keep h2 hk (hne h2)
  · by_cases e : i = jr
    · subst e
      simp only [if_pos]
      exact ⟨d1, d2⟩
    · simp only [if_neg e]
      exact h.dis.2 i (by omega)
theorem RbS.addNext (h : RbS W m F S jr jn jo gr gn go cr cn co rb rc w) {g' c' : Nat} (ho : w'.ownsRow W.heap.size 3 1 (.slice (some ⟨g', 0, none⟩) (jn + 1) c') (jn + 1) (zerosV jn ++ [.int .i64 0])) (hg : w.grownBy w' (some gn)) (hf : some gn = some g' ∨ g' = w.heap.size) :
    RbS W m F S jr (jn + 1) jo gr g' go cr c' co rb rc w' := by
  have hk : Keep (fun y => y = gn) w w' := .grown hg (fun y e => by injection e with e; exact e.symm)
  have hgo := (own_capM h.owed).2.2
  refine ⟨h.bel.grown hg h.bel.size (fun y e => by injection e with e; rw [← e]; exact (own_capM h.next).2.1), ?_, fun i hlt => ?_, by rw [zerosV_snoc] at ho; exact ho, ?_, ?_, fun i hlt => ?_⟩
  · refine ownB_keep h.rows hk (fun y hy e => ?_)
    rcases own_two h.rows h.next (by decide) with h1 | h1
    · rw [hy] at h1; cases h1
    · exact h1 (by rw [hy, e]; simp [Value.ownBlock])
  · refine ownB_keep (h.inn i hlt) hk (fun y hy e => ?_)
    have hy : some (rb i) = some y := hy
    injection hy with hy
    have := (h.dis.2 i hlt).1; omega
  · refine ownB_keep h.owed hk (fun y hy e => ?_)
    have hy : some go = some y := hy
    injection hy with hy
    have := h.dis.1; omega
  · rcases hf with hf | hf
    · injection hf with hf; rw [← hf]; exact h.dis.1
    · omega
  · have h3 := (own_capM (h.inn i hlt)).2.2
    rcases hf with hf | hf
    · injection hf with hf; rw [← hf]; exact h.dis.2 i hlt
    · exact ⟨by omega, (h.dis.2 i hlt).2⟩
theorem RbS.addOwed (h : RbS W m F S jr jn jo gr gn go cr cn co rb rc w) {g' c' : Nat} (ho : w'.ownsRow W.heap.size 3 1 (.slice (some ⟨g', 0, none⟩) (jo + 1) c') (jo + 1) (zerosV jo ++ [.int .i64 0])) (hg : w.grownBy w' (some go)) (hf : some go = some g' ∨ g' = w.heap.size) :
    RbS W m F S jr jn (jo + 1) gr gn g' cr cn c' rb rc w' := by
  have hk : Keep (fun y => y = go) w w' := .grown hg (fun y e => by injection e with e; exact e.symm)
  have hgn := (own_capM h.next).2.2
  refine ⟨h.bel.grown hg h.bel.size (fun y e => by injection e with e; rw [← e]; exact (own_capM h.owed).2.1), ?_, fun i hlt => ?_, ?_, by rw [zerosV_snoc] at ho; exact ho, ?_, fun i hlt => ?_⟩
  · refine ownB_keep h.rows hk (fun y hy e => ?_)
    rcases own_two h.rows h.owed (by decide) with h1 | h1
    · rw [hy] at h1; cases h1
    · exact h1 (by rw [hy, e]; simp [Value.ownBlock])
  · refine ownB_keep (h.inn i hlt) hk (fun y hy e => ?_)
    have hy : some (rb i) = some y := hy
    injection hy with hy
    have := (h.dis.2 i hlt).2; omega
  · refine ownB_keep h.next hk (fun y hy e => ?_)
    have hy : some gn = some y := hy
    injection hy with hy
    have := h.dis.1; omega
  · rcases hf with hf | hf
    · injection hf with hf; rw [← hf]; exact h.dis.1
    · omega
  · have h3 := (own_capM (h.inn i hlt)).2.2
    rcases hf with hf | hf
    · injection hf with hf; rw [← hf]; exact h.dis.2 i hlt
    · exact ⟨(h.dis.2 i hlt).1, by omega⟩
end
theorem RbS.start (W : World) (m : Nat) (F S : Nat → Nat) : RbS W m F S 0 0 0 W.heap.size (W.heap.size + 1) (W.heap.size + 1 + 1) 0 0 0 (fun _ => 0) (fun _ => 0) (((W.alloc (.cells #[] 46)).alloc (.cells #[] 3)).alloc (.cells #[] 3)) := by
  have s1 : (W.alloc (.cells #[] 46)).heap.size = W.heap.size + 1 := by simp
  have s2 : ((W.alloc (.cells #[] 46)).alloc (.cells #[] 3)).heap.size = W.heap.size + 1 + 1 := by simp
  have o1 : (W.alloc (.cells #[] 46)).ownsRow W.heap.size 46 1 (.slice (some ⟨W.heap.size, 0, none⟩) 0 0) 0 [] := World.ownsRow_lit W #[] 0 (Nat.le_refl _) (by decide) (by simp)
  have o2 : ((W.alloc (.cells #[] 46)).alloc (.cells #[] 3)).ownsRow W.heap.size 3 1 (.slice (some ⟨W.heap.size + 1, 0, none⟩) 0 0) 0 [] := by
    have := World.ownsRow_lit (base := W.heap.size) (e := 3) (size := 1) (W.alloc (.cells #[] 46)) #[] 0 (by omega) (by decide) (by simp)
    rw [s1] at this
    exact this
  have o3 : (((W.alloc (.cells #[] 46)).alloc (.cells #[] 3)).alloc (.cells #[] 3)).ownsRow W.heap.size 3 1 (.slice (some ⟨W.heap.size + 1 + 1, 0, none⟩) 0 0) 0 [] := by
    have := World.ownsRow_lit (base := W.heap.size) (e := 3) (size := 1) ((W.alloc (.cells #[] 46)).alloc (.cells #[] 3)) #[] 0 (by omega) (by decide) (by simp)
    rw [s2] at this
    exact this
  have b1 := below_alloc W (.cells #[] 46)
  have b2 := b1.alloc b1.size (.cells #[] 3)
  exact ⟨b2.alloc b2.size _, (o1.alloc _).alloc _, fun i hi => by omega, o2.alloc _, o3, by omega, fun i hi => by omega⟩
theorem own_base {w : World} {b b' : Nat} {e : TypeId} {n m : Nat} {v : Value} {xs : List Value} (h : w.ownsRow b e n v m xs) (hb : b' ≤ b) : w.ownsRow b' e n v m xs := by
  obtain ⟨hl, h0 | ⟨g, cap, cur, rfl, hg, r⟩⟩ := h
  · exact ⟨hl, .inl h0⟩
  · exact ⟨hl, .inr ⟨g, cap, cur, rfl, Nat.le_trans hb hg, r⟩⟩
theorem cells_one (w : World) (v : Value) (T : TypeId) : ∀ (k : Nat) u, [v][k]? = some u → (w.alloc (.cells #[v] T)).cell? ((⟨w.heap.size, 0, none⟩ : Addr).add k) = some u := by
  intro k u hu
  rw [Addr.add_mid]
  match k, hu with
  | 0, hu => obtain rfl := Option.some.inj hu; simp
  | k + 1, hu => simp at hu
theorem cat_data (a b : ByteArray) : (a ++ b).data.toList = a.data.toList ++ b.data.toList := by
  rw [ByteArray.data_append, Array.toList_append]

theorem own_cellsAt {w : World} {base g n c : Nat} {e : TypeId} {xs : List Value} {f : Nat → Value} (h : w.ownsRow base e 1 (.slice (some ⟨g, 0, none⟩) n c) n xs) (hx : ∀ i, i < n → xs[i]? = some (f i)) : CellsAt w g n f := by
  obtain ⟨hl, ⟨hv, _⟩ | ⟨g', cap, cur, hv, hb, hg, hcap, hcm, hcs, htk⟩⟩ := h
  · injection hv with h1; cases h1
  · injection hv with h1 h2 h3
    obtain rfl : g = g' := by injection h1 with h1; injection h1
    have hR : Row w g e cur := hg
    refine ⟨hR.lt, fun i hi => ⟨?_, hR.free i⟩⟩
    rw [hR.cell i, ← hx i hi, ← htk, List.getElem?_take, if_pos (by omega), Array.getElem?_toList]
theorem CellsAt.keep {G : Nat → Prop} {w w' : World} {b n : Nat} {f : Nat → Value} (h : CellsAt w b n f) (hk : Keep G w w') (hg : ¬ G b) : CellsAt w' b n f := by
  have hbk := hk.block b h.1 hg
  refine ⟨Nat.lt_of_lt_of_le h.1 hk.size, fun i hi => ?_⟩
  have := h.2 i hi
  simp only [World.cell?, World.frozen?, hbk] at this ⊢
  exact this
theorem infoBo : (Tryd.prog.info? 4).map (fun i => (i.zero, i.size, i.bytes)) = some (some (.bool false), 1, 1) := by kernel_rfl
theorem makeBM (n : Nat) (hn : n ≤ 4096) (w : World) : ∃ cs, (∀ w', w' = w → (Instr.makeSlice 87 (.int .i64 (n : Int)) (.int .i64 (n : Int))).run Tryd.prog w' = .ok (.slice (some ⟨w.heap.size, 0, none⟩) n n) (w.alloc (.cells cs 4))) ∧
    CellsAt (w.alloc (.cells cs 4)) w.heap.size n (fun _ => .bool false) := by
  obtain ⟨i0, hi, hz0, hz1, hz2⟩ := info_parts infoBo
  have h := run_make (P := Tryd.prog) w 87 4 i0 (.bool false) Tryd.underlying87 hi hz0 .i64 .i64 n n (by omega) (by omega) (by rw [hz2]; omega) (by omega)
  rw [hz1, Int.toNat_natCast, Nat.mul_one] at h
  refine ⟨_, fun w' e => by rw [e]; exact h, by simp, fun j hj => ?_⟩
  have hm : (madeCells (Value.bool false).cells n)[j]? = some (.bool false) := by
    unfold madeCells
    rw [Array.getElem?_map, Array.getElem?_range, if_pos hj]
    have e : (Value.bool false).cells = #[.bool false] := rfl
    rw [e]
    simp [Nat.mod_one]
  have hh : (w.alloc (.cells (madeCells (Value.bool false).cells n) 4)).heap[w.heap.size]? = some (.cells (madeCells (Value.bool false).cells n) 4) := by
    show (w.heap.push _)[w.heap.size]? = _
    rw [Array.getElem?_push_size]
  constructor
  · simp only [World.cell?, hh]
    exact hm
  · simp only [World.frozen?, hh]
    simp
/-- The third loop begins. -/
theorem R3.start {ww w2 w w' : World} {k : Nat → UInt8} {all : List Ent} {m gr gn go pb tb cr cn co c : Nat} {rb rc : Nat → Nat} {ns : List ByteArray} {cs : Array Value}
    (hP : ww.ownsRow w'.heap.size 9 1 (.slice (some ⟨pb, 0, none⟩) m c) m (List.replicate m (.string ⟨#[]⟩))) (hB : Below ww.heap.size ww w2)
    (hR : RbS w2 m (parOf k all m).F (parOf k all m).S all.length all.length all.length gr gn go cr cn co rb rc w)
    (hT : CellsAt (w.alloc (.cells cs 4)) w.heap.size m (fun _ => .bool false)) (htb : tb = w.heap.size) :
    R3 (parOf k all m) ns pb tb gn go gr rb rc (fun _ => -1) (fun _ => -1) (fun _ => 0) (fun _ => 0) (w.alloc (.cells cs 4)) := by
  subst htb
  have hp := own_capM hP
  have hr := own_capM hR.rows
  have hn := own_capM hR.next
  have ho := own_capM hR.owed
  have hi := fun i (hi : i < all.length) => own_capM (hR.inn i hi)
  have hz := hB.size
  have b2 := below_alloc w (.cells cs 4)
  have e1 : gn ≠ gr := fun e => by
    rcases own_two hR.next hR.rows (by decide) with h1 | h1
    · cases h1
    · exact h1 (by rw [e]; rfl)
  have e2 : go ≠ gr := fun e => by
    rcases own_two hR.owed hR.rows (by decide) with h1 | h1
    · cases h1
    · exact h1 (by rw [e]; rfl)
  refine ⟨?_, hT.congr fun i _ => by simp, ?_, ?_, ?_, fun i hi' => ?_, ?_, fun i hi' => ?_⟩
  · have h1 : CellsAt ww pb m fun q => .string (atN ns m (fun _ => -1) (q : Int)) := own_cellsAt hP fun i hi => by
      rw [List.getElem?_replicate, if_pos hi]
      unfold atN
      rw [if_neg (by omega), if_pos rfl]
    exact ((h1.below hB).keep (G := fun _ => False) (Keep.of_below (by exact hR.bel)) (fun h => h)).below b2
  · refine (own_cellsAt hR.next fun i hi => ?_).below b2
    unfold zerosV; rw [List.getElem?_replicate, if_pos hi]; rfl
  · refine (own_cellsAt hR.owed fun i hi => ?_).below b2
    unfold zerosV; rw [List.getElem?_replicate, if_pos hi]
  · refine (own_cellsAt hR.rows fun i hi => ?_).below b2
    unfold rowsV; rw [List.getElem?_map, List.getElem?_range hi]; rfl
  · refine (own_cellsAt (hR.inn i hi') fun t ht => ?_).below b2
    rw [cellsN_at _ _ (by rw [rowL_len]; exact ht)]
    have := rowL_at (m := m) (f := (parOf k all m).F i) (s := (parOf k all m).S i) ht
    rw [List.getElem?_eq_getElem (by rw [rowL_len]; exact ht)] at this
    rw [Option.some.inj this]; rfl
  · refine ⟨by omega, by omega, by omega, by omega, by omega, by omega, by omega, hR.dis.1, e1, e2⟩
  · have := hi i hi'
    have := hR.dis.2 i hi'
    refine ⟨by omega, by omega, this.1, this.2⟩
theorem R3.drewN {P : Par} {ns : List ByteArray} {pb tb gn go gr : Nat} {rb rc : Nat → Nat} {oP oT : Nat → Int} {nx : Nat → Nat} {ow : Nat → Int} {w : World} (h : R3 P ns pb tb gn go gr rb rc oP oT nx ow w) (n : Nat) : R3 P ns pb tb gn go gr rb rc oP oT nx ow (w.drewN n) :=
  h.below ⟨rfl, rfl, rfl, Nat.le_refl _, fun _ _ => rfl⟩
theorem R3.drew {P : Par} {ns : List ByteArray} {pb tb gn go gr : Nat} {rb rc : Nat → Nat} {oP oT : Nat → Int} {nx : Nat → Nat} {ow : Nat → Int} {w : World} (h : R3 P ns pb tb gn go gr rb rc oP oT nx ow w) : R3 P ns pb tb gn go gr rb rc oP oT nx ow w.drew :=
  h.below ⟨rfl, rfl, rfl, Nat.le_refl _, fun _ _ => rfl⟩
/-- An entry that gets no place. -/
theorem stp_idle {P : Par} {r q : Nat} (hq : q < P.n) {st : St} (hst : st = P.run (r * P.n + q)) {ow : Nat → Int} (how : st.cnt < P.m → ow = st.ow) (hle : st.cnt ≤ P.m) (hc : ow q + P.W q < P.G ∨ st.cnt = P.m) :
    ∃ st', st' = P.run (r * P.n + (q + 1)) ∧ st'.cnt = st.cnt ∧ st'.own = st.own ∧ st'.nx = st.nx ∧ (st.cnt < P.m → setI ow q (ow q + P.W q) = st'.ow) := by
  have hn := Par.run_next P r hq
  rw [← hst] at hn
  refine ⟨_, hn.symm, ?_⟩
  unfold Par.stp
  by_cases e : st.cnt = P.m
  · rw [if_pos e]
    exact ⟨rfl, rfl, rfl, fun h => by omega⟩
  · have ho := how (by omega)
    subst ho
    rw [if_neg e, if_pos (by rcases hc with h | h; exact h; exact absurd h e)]
    exact ⟨rfl, rfl, rfl, fun _ => rfl⟩
/-- An entry that gets a place. -/
theorem stp_take {P : Par} {r q : Nat} (hq : q < P.n) {st : St} (hst : st = P.run (r * P.n + q)) {ow : Nat → Int} (how : st.cnt < P.m → ow = st.ow) (hle : st.cnt < P.m) (hc : ¬ ow q + P.W q < P.G) :
    ∃ st', st' = P.run (r * P.n + (q + 1)) ∧ st'.cnt = st.cnt + 1 ∧ st'.own = setI st.own (P.pl q (P.nxt q st)) q ∧ st'.nx = setN st.nx q (P.nxt q st) ∧ setI ow q (ow q + P.W q - P.G) = st'.ow := by
  have hn := Par.run_next P r hq
  rw [← hst] at hn
  refine ⟨_, hn.symm, ?_⟩
  have ho := how hle
  subst ho
  unfold Par.stp
  rw [if_neg (by omega), if_neg hc]
  exact ⟨rfl, rfl, rfl, rfl⟩
/-- What next holds, read off the world. -/
def nextOf (w : World) (gn i : Nat) : Nat := match w.cell? ⟨gn, i, none⟩ with
  | some (.int .i64 z) => z.toNat
  | _ => 0
theorem nextOf_is {w : World} {gn i t : Nat} (h : w.cell? ⟨gn, i, none⟩ = some (.int .i64 (t : Nat))) : nextOf w gn i = t := by
  unfold nextOf; rw [h]; simp
/-- The names at all places. -/
def placesL (es : List Ent) (m : Nat) (own : Nat → Int) : List ByteArray := (List.range m).map fun (q : Nat) => atN (es.map fun e => e.1) m own (q : Int)
theorem placesL_len (es : List Ent) (m : Nat) (own : Nat → Int) : (placesL es m own).length = m := by simp [placesL]
theorem placesL_none (m : Nat) : placesL [] m (fun _ => -1) = List.replicate m ⟨#[]⟩ := by
  refine List.ext_getElem (by simp [placesL]) fun i h1 h2 => ?_
  simp only [placesL, List.getElem_map, List.getElem_replicate, List.getElem_range]
  unfold atN
  have : i < m := by simpa [placesL] using h1
  rw [if_neg (by omega), if_pos rfl]
theorem placesL_at {w : World} {es : List Ent} {m pb cp : Nat} {own : Nat → Int} (hc : m ≤ cp) (h : CellsAt w pb m fun q => .string (atN (es.map fun e => e.1) m own (q : Int))) : IsStrs w (some ⟨pb, 0, none⟩) cp (placesL es m own) := by
  refine .inr ⟨pb, 0, rfl, h.1, by rw [placesL_len]; exact hc, fun j x hx => ?_⟩
  have hj : j < m := by
    rcases Nat.lt_or_ge j m with h1 | h1
    · exact h1
    · rw [List.getElem?_eq_none (by rw [placesL_len]; exact h1)] at hx; cases hx
  rw [Nat.zero_add, (h.2 j hj).1]
  unfold placesL at hx
  rw [List.getElem?_map, List.getElem?_range hj] at hx
  rw [← Option.some.inj hx]
end Go.Proofs.YtlcpkplipfcdaaaDoor

/- A key whose bytes are taken as a string; a call of Build whose arguments are evaluated in any order. -/
namespace Go.Proofs.YtlcpkplipfcdaaaDoor
open Go.RowKit

/-- A key's cells. -/
def keyCells (k : Nat → UInt8) : List Value := [.int .u8 ((k 0).toNat : Int), .int .u8 ((k 1).toNat : Int), .int .u8 ((k 2).toNat : Int), .int .u8 ((k 3).toNat : Int), .int .u8 ((k 4).toNat : Int), .int .u8 ((k 5).toNat : Int), .int .u8 ((k 6).toNat : Int), .int .u8 ((k 7).toNat : Int), .int .u8 ((k 8).toNat : Int), .int .u8 ((k 9).toNat : Int), .int .u8 ((k 10).toNat : Int), .int .u8 ((k 11).toNat : Int), .int .u8 ((k 12).toNat : Int), .int .u8 ((k 13).toNat : Int), .int .u8 ((k 14).toNat : Int), .int .u8 ((k 15).toNat : Int)]
/-- A key's bytes as a string. -/
def keyStr (k : Nat → UInt8) : ByteArray := ⟨(keyPart k 0 ++ keyPart k 8).toArray⟩
theorem keyStr_size (k : Nat → UInt8) : (16 : Int) ≤ (keyStr k).size := by simp [keyStr, keyPart, ByteArray.size]
theorem keyStr_a (k : Nat → UInt8) : (keyStr k).extract 0 8 = ⟨(keyPart k 0).toArray⟩ := by unfold keyStr; rw [extract_list]; rfl
theorem keyStr_b (k : Nat → UInt8) : (keyStr k).extract 8 16 = ⟨(keyPart k 8).toArray⟩ := by unfold keyStr; rw [extract_list]; rfl
theorem key_all {k : Nat → UInt8} {W : World} {b : Nat} (h : IsKey W b k) :
    (convert 38 9 (.slice (some ⟨b, 0, none⟩) 16 16)).run Tryd.prog W = .ok (.string (keyStr k)) W := by
  have := run_convert_bytes_arg (P := Tryd.prog) W 38 5 Tryd.underlying38 Tryd.underlying5 b 0 16 16 ((keyPart k 0 ++ keyPart k 8).map fun x => (x.toNat : Int)) (by simp [keyPart]) ?_ 9 Tryd.underlying9
  · rw [this]
    simp [strOfNums, keyPart, keyStr]
  · intro i hi
    have h1 := h i hi
    rw [Nat.zero_add, h1]
    have h16 : i = 0 ∨ i = 1 ∨ i = 2 ∨ i = 3 ∨ i = 4 ∨ i = 5 ∨ i = 6 ∨ i = 7 ∨ i = 8 ∨ i = 9 ∨ i = 10 ∨ i = 11 ∨ i = 12 ∨ i = 13 ∨ i = 14 ∨ i = 15 := by omega
    rcases h16 with rfl | rfl | rfl | rfl | rfl | rfl | rfl | rfl | rfl | rfl | rfl | rfl | rfl | rfl | rfl | rfl <;> rfl
/-- A key in a block of its own. -/
def KeyRow (w : World) (b : Nat) (k : Nat → UInt8) : Prop := Row w b 26 (keyCells k).toArray
theorem KeyRow.isKey {w : World} {b : Nat} {k : Nat → UInt8} (h : KeyRow w b k) : IsKey w b k := isKey_row h
theorem KeyRow.below {w w' : World} {b : Nat} {k : Nat → UInt8} (h : KeyRow w b k) (hb : Below w.heap.size w w') : KeyRow w' b k := Row.below h hb
theorem keyVal_cells (k : Nat → UInt8) : keyVal k = .agg (keyCells k).toArray := rfl
/-- What is there while a call of Build is evaluated: operation 2: the entries are the program's; b: Build's result; b + 1: moved; b + 2: its first part; b + 4: assigned. -/
structure KoS (W : World) (ys : List Ent) (b : Nat) (E : Int) (R : Value → World → Prop) (L : Nat → Bool) (x : Nat → Value) (w : World) : Prop where
  bel : Below W.heap.size W w
  own : L 2 = true → ∃ a c, x 2 = .slice a ys.length c ∧ IsEnts w a c ys
  tup : L b = true → ∃ p, x b = .tuple #[p, .int .i64 E] ∧ R p w
  mv : L (b + 1) = true → ∃ p, x (b + 1) = .tuple #[p, .int .i64 E] ∧ R p w
  ex : L (b + 2) = true → R (x (b + 2)) w
  asg : L (b + 4) = true → R (x (b + 4)) w
section
variable {W : World} {ys : List Ent} {b : Nat} {E : Int} {R : Value → World → Prop} {L : Nat → Bool} {x : Nat → Value} {w w' : World}
theorem KoS.start (W : World) (ys : List Ent) (b : Nat) (E : Int) (R : Value → World → Prop) (x : Nat → Value) : KoS W ys b E R (fun _ => false) x W.drew :=
  ⟨(Below.refl _ _).drew, (fun h => by cases h), (fun h => by cases h), (fun h => by cases h), (fun h => by cases h), (fun h => by cases h)⟩
theorem KoS.move (h : KoS W ys b E R L x w) (hR : ∀ p w w', R p w → Below w.heap.size w w' → R p w') (hb : Below w.heap.size w w') : KoS W ys b E R L x w' :=
  ⟨h.bel.trans (hb.mono h.bel.size), fun e => by obtain ⟨a, c, h1, h2⟩ := h.own e; exact ⟨a, c, h1, h2.below hb⟩, fun e => by obtain ⟨p, h1, h2⟩ := h.tup e; exact ⟨p, h1, hR _ _ _ h2 hb⟩,
   fun e => by obtain ⟨p, h1, h2⟩ := h.mv e; exact ⟨p, h1, hR _ _ _ h2 hb⟩, fun e => hR _ _ _ (h.ex e) hb, fun e => hR _ _ _ (h.asg e) hb⟩
theorem KoS.at_ (h : KoS W ys b E R L x w) (i : Nat) (u : Value) (h2 : i = 2 → ∃ a c, u = .slice a ys.length c ∧ IsEnts w a c ys) (h3 : i = b → ∃ p, u = .tuple #[p, .int .i64 E] ∧ R p w)
    (h4 : i = b + 1 → ∃ p, u = .tuple #[p, .int .i64 E] ∧ R p w) (h5 : i = b + 2 → R u w) (h6 : i = b + 4 → R u w) : KoS W ys b E R (setL L i) (updV x i u) w := by
  have hs : ∀ j, j ≠ i → setL L i j = true → L j = true := fun j hj e => by simpa [setL, hj] using e
  have hu : ∀ j, j ≠ i → updV x i u j = x j := fun j hj => by simp [updV, hj]
  have hi : updV x i u i = u := by simp [updV]
  refine ⟨h.bel, fun e => ?_, fun e => ?_, fun e => ?_, fun e => ?_, fun e => ?_⟩
  · by_cases q : 2 = i
    · subst q; rw [hi]; exact h2 rfl
    · rw [hu _ q]; exact h.own (hs _ q e)
  · by_cases q : b = i
    · subst q; rw [hi]; exact h3 rfl
    · rw [hu _ q]; exact h.tup (hs _ q e)
  · by_cases q : b + 1 = i
    · subst q; rw [hi]; exact h4 rfl
    · rw [hu _ q]; exact h.mv (hs _ q e)
  · by_cases q : b + 2 = i
    · subst q; rw [hi]; exact h5 rfl
    · rw [hu _ q]; exact h.ex (hs _ q e)
  · by_cases q : b + 4 = i
    · subst q; rw [hi]; exact h6 rfl
    · rw [hu _ q]; exact h.asg (hs _ q e)
theorem KoS.next (h : KoS W ys b E R L x w) (i : Nat) (u : Value) (h2 : i ≠ 2) (h3 : i ≠ b) (h4 : i ≠ b + 1) (h5 : i ≠ b + 2) (h6 : i ≠ b + 4) : KoS W ys b E R (setL L i) (updV x i u) w :=
  h.at_ i u (fun e => absurd e h2) (fun e => absurd e h3) (fun e => absurd e h4) (fun e => absurd e h5) (fun e => absurd e h6)
theorem KoS.put (h : KoS W ys b E R L x w) (hR : ∀ p w w', R p w → Below w.heap.size w w' → R p w') (hb2 : 2 < b) {a : Option Addr} {c : Nat} (he : IsEnts w' a c ys) (hb : Below w.heap.size w w') : KoS W ys b E R (setL L 2) (updV x 2 (.slice a ys.length c)) w' :=
  (h.move hR hb).at_ 2 _ (fun _ => ⟨a, c, rfl, he⟩) (fun e => by omega) (fun e => by omega) (fun e => by omega) (fun e => by omega)
theorem KoS.built (h : KoS W ys b E R L x w) (hR : ∀ p w w', R p w → Below w.heap.size w w' → R p w') (hb2 : 2 < b) {p : Value} (hp : R p w') (hb : Below w.heap.size w w') : KoS W ys b E R (setL L b) (updV x b (.tuple #[p, .int .i64 E])) w' :=
  (h.move hR hb).at_ b _ (fun e => by omega) (fun _ => ⟨p, rfl, hp⟩) (fun e => by omega) (fun e => by omega) (fun e => by omega)
theorem KoS.moved (h : KoS W ys b E R L x w) (hb2 : 2 < b) {p : Value} (hp : R p w) : KoS W ys b E R (setL L (b + 1)) (updV x (b + 1) (.tuple #[p, .int .i64 E])) w :=
  h.at_ (b + 1) _ (fun e => by omega) (fun e => by omega) (fun _ => ⟨p, rfl, hp⟩) (fun e => by omega) (fun e => by omega)
theorem KoS.first (h : KoS W ys b E R L x w) (hb2 : 2 < b) {p : Value} (hp : R p w) : KoS W ys b E R (setL L (b + 2)) (updV x (b + 2) p) w :=
  h.at_ (b + 2) _ (fun e => by omega) (fun e => by omega) (fun e => by omega) (fun _ => hp) (fun e => by omega)
theorem KoS.assign (h : KoS W ys b E R L x w) (hb2 : 2 < b) {p : Value} (hp : R p w) : KoS W ys b E R (setL L (b + 4)) (updV x (b + 4) p) w :=
  h.at_ (b + 4) _ (fun e => by omega) (fun e => by omega) (fun e => by omega) (fun e => by omega) (fun _ => hp)
end
/-- A table was built. -/
def TabR (k : Nat → UInt8) (ys : List Ent) (n : Nat) (p : Value) (w : World) : Prop :=
  ∃ tb own, p = .pointer (some ⟨tb, 0, none⟩) ∧ Assigned k (srtE ys) n own ∧ TableAt w tb ((srtE ys).map (·.1)) n own
theorem TabR.below {k : Nat → UInt8} {ys : List Ent} {n : Nat} (p : Value) (w w' : World) (h : TabR k ys n p w) (hb : Below w.heap.size w w') : TabR k ys n p w' := by
  obtain ⟨tb, own, h1, h2, h3⟩ := h
  exact ⟨tb, own, h1, h2, h3.below hb⟩
/-- No table. -/
def NilR (p : Value) (_ : World) : Prop := p = .pointer none
theorem NilR.below (p : Value) (w w' : World) (h : NilR p w) (_ : Below w.heap.size w w') : NilR p w' := h
theorem chkB_yes {ys : List Ent} {m : Int} (h : chkB ys m = true) : 2 ≤ m ∧ m ≤ 1048576 ∧ primeB m.toNat = true ∧ 100 * (ys.length : Int) ≤ m ∧ validB ys = true := by
  unfold chkB at h
  rw [Bool.and_eq_true, Bool.and_eq_true, decide_eq_true_eq] at h
  obtain ⟨⟨h1, h2⟩, h3⟩ := h
  have hp := h1
  unfold isP at hp
  rw [Bool.and_eq_true, Bool.and_eq_true, decide_eq_true_eq, decide_eq_true_eq] at hp
  exact ⟨hp.1.1, hp.1.2, hp.2, h2, h3⟩
theorem valid_parts {ys : List Ent} (h : validB ys = true) : (∀ e ∈ ys, okW e = true) ∧ Apart ys := by
  unfold validB at h
  rw [Bool.and_eq_true] at h
  exact ⟨fun e he => (List.all_eq_true.1 h.1) e he, by simpa using h.2⟩
/-- Build of valid entries. -/
theorem build8_tab (k : Nat → UInt8) (ys : List Ent) (hl : ys.length ≤ 6) (hz : ∀ e ∈ ys, e.1.size ≤ 1000) (n : Nat) (hm : n ≤ 1048576) (hp : primeB n = true) (h100 : 100 * ys.length ≤ n) (hv : validB ys = true) (a : Option Addr) (c : Nat) (w : World) (hI : Ini w) (hf : IsEnts w a c ys) :
    Calls Tryd.prog 12 #[keyVal k, .slice a ys.length c, .int .i64 (n : Int)] w fun e w' => ∃ p, e = .returned (.tuple #[p, .int .i64 0]) ∧ TabR k ys n p w' ∧ Below w.heap.size w w' := by
  refine (build8 k ys hl hz n hm hp h100 hv a c w hI hf).mono ?_
  rintro e w' ⟨tb, own, es', rfl, hpm, hso, ha, ht, hb⟩
  obtain rfl : es' = srtE ys := sorted_uniq (hpm.trans (srtE_spec ys).1.symm) hso (srtE_spec ys).2 ((apart_perm hpm).2 (valid_parts hv).2)
  exact ⟨_, rfl, ⟨tb, own, rfl, ha, ht⟩, hb⟩
end Go.Proofs.YtlcpkplipfcdaaaDoor

/- ring: the reference's digits (written by genrgf.py). -/
namespace Go.Proofs.YtlcpkplipfcdaaaDoor
open Go.RowKit

/-- A digit. -/
def dch (n : Nat) : UInt8 := if n < 10 then UInt8.ofNat (48 + n) else UInt8.ofNat (87 + n)
/-- A number's digits to a base, with some fuel. -/
def prtF (b : Nat) : Nat → Nat → List UInt8
  | 0, n => [dch n]
  | k + 1, n => if n < b then [dch n] else prtF b k (n / b) ++ [dch (n % b)]
/-- A number's digits. -/
def prt (b n : Nat) : List UInt8 := prtF b 64 n
theorem prtF_small (b k n : Nat) (h : n < b) : prtF b k n = [dch n] := by
  cases k with
  | zero => rfl
  | succ k => simp [prtF, h]
theorem prtF_step (b k n : Nat) (h : b ≤ n) : prtF b (k + 1) n = prtF b k (n / b) ++ [dch (n % b)] := by
  rw [prtF, if_neg (by omega)]
/-- A number's digits, 0 where it is negative. -/
def prtI (b : Nat) (n : Int) : List UInt8 := prt b n.toNat
theorem extractL (t : ByteArray) (a b : Nat) : (t.extract a b).data.toList = (t.data.toList.drop a).take (b - a) := by
  have h : (t.extract a b).data = t.data.extract a b := ByteArray.data_extract
  rw [h]; simp [Array.toList_extract]

theorem str_eq (t : ByteArray) (l : List UInt8) (h : t.data.toList = l) : t = ⟨l.toArray⟩ := by
  cases t; simp at h; subst h; simp
theorem prtF_dec : ∀ (k n : Nat), n < 10 ^ (k + 1) → Lib.decDigits n = prtF 10 k n
  | 0, n, h => by rw [Lib.decDigits_one (by omega)]; simp [prtF, dch, show n < 10 by omega]
  | k + 1, n, h => by
    by_cases h10 : n < 10
    · rw [Lib.decDigits_one h10, prtF_small 10 _ n h10]; simp [dch, h10]
    · rw [Lib.decDigits, dif_neg h10, prtF_step 10 k n (by omega), prtF_dec k (n / 10) (by rw [Nat.div_lt_iff_lt_mul (by decide)]; rw [Nat.pow_succ] at h; exact h)]
      simp [dch, Nat.mod_lt n (show 0 < 10 by decide)]
theorem prt_dec (n : Nat) (h : n < 9223372036854775808) : Lib.decDigits n = prt 10 n := prtF_dec 64 n (Nat.lt_of_lt_of_le h (by decide))
theorem few_any (b u U t : Nat) (hb : 2 ≤ b) (h1 : 1 ≤ u) (h : u * b ^ t ≤ U) (hU : U < 9223372036854775808) : t ≤ 62 := by
  rcases Nat.lt_or_ge t 63 with h2 | h2
  · omega
  · have h3 : 2 ^ 63 ≤ b ^ t := Nat.le_trans (Nat.pow_le_pow_left hb 63) (Nat.pow_le_pow_right (by omega) h2)
    have h4 : b ^ t ≤ u * b ^ t := Nat.le_mul_of_pos_left _ h1
    have h5 : (2 : Nat) ^ 63 = 9223372036854775808 := by decide
    omega
theorem dch_piece (k : Nat) (h : k < 16) : ((⟨#[48, 49, 50, 51, 52, 53, 54, 55, 56, 57, 97, 98, 99, 100, 101, 102]⟩ : ByteArray).extract k (k + 1)) = ⟨#[dch k]⟩ := by
  have : ∀ k : Fin 16, ((⟨#[48, 49, 50, 51, 52, 53, 54, 55, 56, 57, 97, 98, 99, 100, 101, 102]⟩ : ByteArray).extract k.val (k.val + 1)).data.toList = [dch k.val] := by
    intro k
    rw [extractL]
    revert k
    decide +kernel
  exact str_eq _ _ (this ⟨k, h⟩)
theorem cons_str (c : UInt8) (T : List UInt8) : (⟨#[c]⟩ : ByteArray) ++ (⟨T.toArray⟩ : ByteArray) = ⟨(c :: T).toArray⟩ := by
  apply ByteArray.ext
  simp
/-- How far the reference's loop is. -/
def PrtTo (b U u : Nat) (T : List UInt8) : Prop := (u = 0 ∧ prt b U = T) ∨ (0 < u ∧ ∃ k, k + T.length = 64 ∧ u * b ^ T.length ≤ U ∧ prt b U = prtF b k u ++ T)
theorem prtTo_step {b U u : Nat} {T : List UInt8} (hb : 2 ≤ b) (hU : U < 9223372036854775808) (hu : 0 < u) (h : PrtTo b U u T) : PrtTo b U (u / b) (dch (u % b) :: T) := by
  rcases h with ⟨h1, _⟩ | ⟨_, k, hk, hpw, hp⟩
  · omega
  · by_cases hub : u < b
    · left
      refine ⟨Nat.div_eq_of_lt hub, ?_⟩
      rw [hp, prtF_small b k u hub, Nat.mod_eq_of_lt hub]; rfl
    · have h1 : 1 ≤ u / b := (Nat.one_le_div_iff (by omega)).2 (by omega)
      have hpw2 : u / b * b ^ (T.length + 1) ≤ U := by
        have h2 : u / b * b ≤ u := Nat.div_mul_le_self u b
        have h3 := Nat.mul_le_mul_right (b ^ T.length) h2
        rw [Nat.pow_succ, Nat.mul_comm (b ^ T.length) b, ← Nat.mul_assoc]
        omega
      have ht := few_any b (u / b) U (T.length + 1) hb h1 hpw2 hU
      obtain ⟨k', rfl⟩ : ∃ k', k = k' + 1 := ⟨k - 1, by omega⟩
      right
      refine ⟨by omega, k', by simp; omega, by simpa using hpw2, ?_⟩
      rw [hp, prtF_step b k' u (by omega), List.append_assoc]; rfl

set_option maxRecDepth 100000 in
set_option maxHeartbeats 2000000 in
theorem print10 (n : Int) (hn : n < 9223372036854775808) (w : World) :
    Calls Tryd.prog 54 #[.int .i64 n, .int .i64 10] w fun e w' => e = .returned (.string ⟨(prtI 10 n).toArray⟩) ∧ Below w.heap.size w w' := by
  unfold prtI
  by_cases h : n ≤ 0
  · rw [show n.toNat = 0 by omega, show (prt 10 0).toArray = #[48] by decide +kernel]
    go_enter Tryd.func54, Tryd.ntmps54
    go_wp2_with fail
    go_ret
    exact ⟨rfl, Below.refl _ _⟩
  · obtain ⟨U, rfl⟩ := Int.eq_ofNat_of_zero_le (show 0 ≤ n by omega)
    rw [Int.toNat_natCast]
    have hU : U < 9223372036854775808 := by omega
    have hU0 : 0 < U := by omega
    obtain ⟨R, hR⟩ : ∃ R : ByteArray, R = ⟨(prt 10 U).toArray⟩ := ⟨_, rfl⟩
    rw [← hR]
    have HR := Lib.hid hR
    clear hR hn
    go_enter Tryd.func54, Tryd.ntmps54
    go_wp2_with fail
    go_loopw [0, 5] (fun x s wr => ∃ (u : Nat) (T : List UInt8), x = .int .i64 (u : Int) ∧ s = .string ⟨T.toArray⟩ ∧ u < 9223372036854775808 ∧ Hid (PrtTo 10 U u T) ∧ Below w.heap.size w wr) (fun x _ _ => (intOf x).toNat)
    case atStart => exact ⟨U, [], rfl, rfl, hU, .inr ⟨hU0, 64, rfl, by simp, by simp [prt]⟩, Below.refl _ _⟩
    case round =>
      obtain ⟨u, T, rfl, rfl, hu, hp, hb⟩ := hrel
      by_cases h0 : 0 < u
      · have HP := Lib.hid (prtTo_step (by decide) hU h0 hp.out)
        have g0 : (u : Int) > 0 := by omega
        obtain ⟨r, hr⟩ : ∃ r, r = u % 10 := ⟨_, rfl⟩
        obtain ⟨v, hv⟩ : ∃ v, v = u / 10 := ⟨_, rfl⟩
        have hlt2 : v < u := by rw [hv]; exact Nat.div_lt_self h0 (by decide)
        have hr16 : r < 10 := by omega
        have e1 : (u : Int).tmod 10 = (r : Int) := by rw [Int.tmod_eq_emod_of_nonneg (by omega)]; omega
        have e2 : (u : Int).tdiv 10 = (v : Int) := by rw [Int.tdiv_eq_ediv_of_nonneg (by omega)]; omega
        have e3 : (u : Int) % 10 = (r : Int) := by omega
        have e4 : (u : Int) / 10 = (v : Int) := by omega
        rw [← hr, ← hv] at HP
        have m0 : (0 : Int) ≤ (r : Int) := by omega
        have m2 : (r : Int) ≤ (r : Int) + 1 := by omega
        have m3 : (r : Int) + 1 ≤ 16 := by omega
        have m4 : ((r : Int) + 1).toNat = r + 1 := by omega
        have m5 : IntKind.i64.wrap ((r : Int) + 1) = (r : Int) + 1 := IntWalk.i64_in _ (by omega)
        have hd := dch_piece r (by omega)
        have htl : T.length ≤ 64 := by
          rcases hp.out with ⟨h1, _⟩ | ⟨_, k, hk, _⟩
          · omega
          · omega
        have hadd : ∀ W : World, (Op.stringOp .add ⟨#[dch r]⟩ ⟨T.toArray⟩).run Tryd.prog W = .ok (.string ⟨(dch r :: T).toArray⟩) W := fun W => by
          rw [run_string_add_sum W _ _ (by rw [Lib.size_eq, Lib.size_eq]; simp; omega), cons_str]
        have HL := Lib.hid hlt2
        clear hr hv hlt2
        have hbn : ∀ n, Below w.heap.size w (wr.drewN n) := fun n => hb.trans ⟨rfl, rfl, rfl, Nat.le_refl _, fun _ _ => rfl⟩
        go_wp2_with fail
        go_quiet (fail)
        go_wp2_with fail
        go_roundw
        case rel => exact ⟨v, dch r :: T, rfl, rfl, by have := HL.out; omega, HP, hbn _⟩
        case measure => have := HL.out; simp [intOf]; omega
      · have hst : Hid (R = ⟨T.toArray⟩) := by
          rcases hp.out with ⟨_, h2⟩ | ⟨h1, _⟩
          · have h3 := HR.out
            rw [h2] at h3
            exact h3
          · omega
        have g0 : ¬ (u : Int) > 0 := by omega
        go_wp2_with fail
        go_ret
        exact ⟨by rw [hst.out]; rfl, hb⟩

theorem print10N (i : Nat) (hi : i < 1000000) (w : World) :
    Calls Tryd.prog 54 #[.int .i64 (i : Nat), .int .i64 10] w fun e w' => e = .returned (.string (digB i)) ∧ Below w.heap.size w w' := by
  have h := print10 (i : Nat) (by omega) w
  unfold prtI at h
  rw [Int.toNat_natCast, ← prt_dec i (by omega)] at h
  exact h
end Go.Proofs.YtlcpkplipfcdaaaDoor

/- ring: a point put into its place (for the reference's Build). -/
namespace Go.Proofs.YtlcpkplipfcdaaaDoor
open Go.RowKit Go.Sort

theorem srtP_low (qs : List Pt) (p q : Pt) (a : Nat) (hq : (srtP qs)[a]? = some q) (h : ¬ ltPt p q) : ∀ x ∈ (srtP qs).take (a + 1), ¬ ltPt p x := by
  intro x hx h1
  obtain ⟨i, hi, rfl⟩ := List.getElem_of_mem hx
  have ha := (List.getElem?_eq_some_iff.1 hq).1
  have hq2 := (List.getElem?_eq_some_iff.1 hq).2
  rw [List.length_take] at hi
  rw [List.getElem_take] at h1
  rcases Nat.lt_or_ge i a with h2 | h2
  · have hs := List.pairwise_iff_getElem.1 (srtP_sorted qs) i a (by omega) ha h2
    rw [hq2] at hs
    by_cases h3 : ltPt (srtP qs)[i] q
    · exact h (ltPt_trans h1 h3)
    · rw [ltPt_tri _ _ h3 hs] at h1; exact h h1
  · obtain rfl : i = a := by omega
    rw [hq2] at h1; exact h h1
theorem srtP_ins (qs : List Pt) (p : Pt) (a : Nat) (h1 : ∀ x ∈ (srtP qs).drop a, ltPt p x) (h2 : ∀ x ∈ (srtP qs).take a, ¬ ltPt p x) : srtP (qs ++ [p]) = (srtP qs).take a ++ p :: (srtP qs).drop a := by
  have hs := srtP_sorted qs
  have hl : (srtP qs).take a ++ (srtP qs).drop a = srtP qs := List.take_append_drop a _
  refine sortedP_uniq ?_ (srtP_sorted _) ?_
  · refine (srtP_perm _).trans ?_
    refine List.Perm.trans ?_ List.perm_middle.symm
    rw [hl]
    exact (List.perm_append_comm (l₁ := qs) (l₂ := [p])).trans ((srtP_perm qs).symm.cons p)
  · rw [← hl, List.pairwise_append] at hs
    obtain ⟨s1, s2, s3⟩ := hs
    rw [List.pairwise_append]
    refine ⟨s1, List.pairwise_cons.2 ⟨fun x hx h => ?_, s2⟩, fun x hx y hy => ?_⟩
    · exact ltPt_irrefl p (ltPt_trans (h1 x hx) h)
    · rcases List.mem_cons.1 hy with rfl | hy
      · exact h2 x hx
      · exact s3 x hx y hy
theorem cellsP_set : ∀ (l : List Pt) (j : Nat) (p : Pt), j < l.length → ((cellsP l).set (j * 2) (.int .u64 (p.1 : Nat))).set (j * 2 + 1) (.string p.2) = cellsP (l.set j p)
  | [], j, p, h => by simp at h
  | x :: l, 0, p, _ => rfl
  | x :: l, j + 1, p, h => by
    have := cellsP_set l j p (by simpa using h)
    rw [show (j + 1) * 2 = j * 2 + 1 + 1 by omega]
    show _ = Value.int .u64 (x.1 : Nat) :: .string x.2 :: cellsP (l.set j p)
    rw [← this]
    rfl
/-- The list while a point moves down. -/
def insL (ps : List Pt) (a : Nat) (X : Pt) : List Pt := ps.take a ++ X :: ps.drop a
theorem insL_len (ps : List Pt) (a : Nat) (X : Pt) : (insL ps a X).length = ps.length + 1 := by
  unfold insL
  rw [List.length_append, List.length_cons, List.length_take, List.length_drop]
  omega
theorem insL_end (ps : List Pt) (X : Pt) : insL ps ps.length X = ps ++ [X] := by simp [insL]
theorem insL_low (ps : List Pt) (a : Nat) (X : Pt) (h : a < ps.length) : (insL ps (a + 1) X)[a]? = ps[a]? := by
  unfold insL
  rw [List.getElem?_append_left (by rw [List.length_take]; omega), List.getElem?_take, if_pos (by omega)]
theorem insL_down (ps : List Pt) (a : Nat) (X : Pt) (h : a < ps.length) : (insL ps (a + 1) X).set (a + 1) ps[a] = insL ps a ps[a] := by
  unfold insL
  have hl : (ps.take (a + 1)).length = a + 1 := by rw [List.length_take]; omega
  rw [List.set_append_right _ _ (by omega), hl, Nat.sub_self]
  show ps.take (a + 1) ++ ps[a] :: ps.drop (a + 1) = _
  rw [List.take_succ_eq_append_getElem h, List.drop_eq_getElem_cons h, List.append_assoc]
  rfl
theorem insL_put (ps : List Pt) (a : Nat) (X p : Pt) (h : a ≤ ps.length) : (insL ps a X).set a p = insL ps a p := by
  unfold insL
  have hl : (ps.take a).length = a := by rw [List.length_take]; omega
  rw [List.set_append_right _ _ (by omega), hl, Nat.sub_self]
  rfl
theorem drop_down {ps : List Pt} {a : Nat} {P : Pt → Prop} (h : a < ps.length) (h1 : P ps[a]) (h2 : ∀ x ∈ ps.drop (a + 1), P x) : ∀ x ∈ ps.drop a, P x := by
  rw [List.drop_eq_getElem_cons h]
  intro x hx
  rcases List.mem_cons.1 hx with rfl | hx
  · exact h1
  · exact h2 x hx
theorem ownsRow_putR {w : World} {base g n c j : Nat} {e : TypeId} {sz : Nat} {xs : List Value} {u : Value} (h : w.ownsRow base e sz (.slice (some ⟨g, 0, none⟩) n c) n xs) (hj : j < xs.length) :
    (w.setCell ⟨g, j, none⟩ u).ownsRow base e sz (.slice (some ⟨g, 0, none⟩) n c) n (xs.set j u) ∧ w.cell? ⟨g, j, none⟩ = xs[j]? ∧ w.frozen? ⟨g, j, none⟩ = false ∧ base ≤ g := by
  obtain ⟨hl, ⟨hx, _⟩ | ⟨g', cap, cur, hx, hb, hg, hcap, hcm, hcs, htk⟩⟩ := h
  · injection hx with h1; cases h1
  · injection hx with h1 h2 h3
    obtain rfl : g = g' := by injection h1 with h1; injection h1
    subst h3
    have hR : Row w g e cur := hg
    have hjn : j < n * sz := by rw [← hl]; exact hj
    refine ⟨⟨by rw [List.length_set]; exact hl, .inr ⟨g, c, cur.setIfInBounds j u, rfl, hb, hR.put j u, hcap, hcm, by rw [Array.size_setIfInBounds]; exact hcs, ?_⟩⟩, ?_, hR.free j, hb⟩
    · rw [Array.toList_setIfInBounds, List.take_set, htk]
    · rw [hR.cell j, ← htk, List.getElem?_take, if_pos hjn, Array.getElem?_toList]
/-- Two cells put. -/
theorem ownsRow_put2 {w : World} {base g n c j : Nat} {e : TypeId} {l : List Pt} (p : Pt) (h : w.ownsRow base e 2 (.slice (some ⟨g, 0, none⟩) n c) n (cellsP l)) (hj : j < l.length) :
    ((w.setCell ⟨g, j * 2, none⟩ (.int .u64 (p.1 : Nat))).setCell ⟨g, j * 2 + 1, none⟩ (.string p.2)).ownsRow base e 2 (.slice (some ⟨g, 0, none⟩) n c) n (cellsP (l.set j p)) ∧ (∃ q : Pt, l[j]? = some q ∧ w.cell? ⟨g, j * 2, none⟩ = some (.int .u64 (q.1 : Nat)) ∧ w.cell? ⟨g, j * 2 + 1, none⟩ = some (.string q.2)) ∧ w.frozen? ⟨g, j * 2, none⟩ = false ∧ w.frozen? ⟨g, j * 2 + 1, none⟩ = false ∧ base ≤ g := by
  have hcl := cellsP_length l
  obtain ⟨a1, a2, a3, a4⟩ := ownsRow_putR (j := j * 2) (u := .int .u64 (p.1 : Nat)) h (by omega)
  obtain ⟨b1, b2, b3, b4⟩ := ownsRow_putR (j := j * 2 + 1) (u := .string p.2) a1 (by rw [List.length_set]; omega)
  obtain ⟨_, d2, d3, _⟩ := ownsRow_putR (j := j * 2 + 1) (u := .string p.2) h (by omega)
  obtain ⟨k1, k2⟩ := cellsP_at l j l[j] (by simp [hj])
  rw [cellsP_set l j p hj] at b1
  exact ⟨b1, ⟨l[j], by simp [hj], by rw [a2, k1], by rw [d2, k2]⟩, a3, d3, a4⟩
theorem own_pts {w : World} {base : Nat} {e : TypeId} {a : Option Addr} {c : Nat} {ps : List Pt} (h : w.ownsRow base e 2 (.slice a ps.length c) ps.length (cellsP ps)) : PtsAt w a c ps := by
  rcases Nat.eq_zero_or_pos ps.length with h0 | h0
  · exact .inl (List.eq_nil_of_length_eq_zero h0)
  · obtain ⟨n, hn⟩ : ∃ n, ps.length = n + 1 := ⟨ps.length - 1, by omega⟩
    have h' := h
    rw [hn] at h'
    obtain ⟨g, cap, hg⟩ := ownsRow_succ h'
    obtain ⟨rfl, rfl⟩ : a = some ⟨g, 0, none⟩ ∧ c = cap := by injection hg with h1 _ h3; exact ⟨h1, h3⟩
    have hcap := own_capM h
    refine .inr ⟨g, 0, rfl, hcap.2.2, hcap.1, fun j p hp => ?_⟩
    have hj := (List.getElem?_eq_some_iff.1 hp).1
    obtain ⟨_, ⟨q, hq, c1, c2⟩, _⟩ := ownsRow_put2 (j := j) p h hj
    rw [hp] at hq
    obtain rfl := Option.some.inj hq
    rw [Nat.zero_add]
    exact ⟨c1, c2⟩
theorem infoPtR : (Tryd.prog.info? 63).map (fun i => (i.zero, i.size, i.bytes)) = some (some (.agg #[.int .u64 0, .string ⟨#[]⟩]), 2, 24) := by kernel_rfl
theorem less_true {a b : ByteArray} (h : nmB a < nmB b) : Op.bytesLess a.toList b.toList = true := by rw [less_eq]; exact decide_eq_true h
theorem less_false {a b : ByteArray} (h : ¬ nmB a < nmB b) : Op.bytesLess a.toList b.toList = false := by rw [less_eq]; exact decide_eq_false h
theorem gmE_one {es : List Ent} (h : ∀ e ∈ es, 1 ≤ e.2) (k : Nat → UInt8) (p : Nat) : ptsL k p (max 1 (gmE es)).toNat es = ptsL k p (gmE es).toNat es := by
  match es with
  | [] => rfl
  | e :: l =>
    have h1 := h e (by simp)
    have h2 : e.2 ≤ gmE (e :: l) := gmE_ge (by simp)
    rw [show max 1 (gmE (e :: l)) = gmE (e :: l) by omega]
theorem dig_small {i : Nat} (h : i < 1000000) : (digB i).size ≤ 10 := by
  have h2 := decDigits_len 6 i (by omega)
  have h3 : (digB i).data.toList = Lib.decDigits i := rfl
  rw [Lib.size_eq, h3]; omega
/-- The number of a point, of the reference. -/
theorem sum_pt (k : Nat → UInt8) (kb : ByteArray) (hk1 : (16 : Int) ≤ kb.size) (e1 : kb.extract 0 8 = ⟨(keyPart k 0).toArray⟩) (e2 : kb.extract 8 16 = ⟨(keyPart k 8).toArray⟩) (N : ByteArray) (hN : N.size ≤ 1000000) (i : Nat) (hi : i < 1000000) (w : World) :
    Calls Tryd.prog 44 #[.string kb, .string (N ++ ⟨#[35]⟩ ++ digB i)] w fun e w' => e = .returned (.int .u64 (ptV k N i : Nat)) ∧ Below w.heap.size w w' := by
  have hd := dig_small hi
  have := sum13 k kb hk1 e1 e2 (N ++ ⟨#[35]⟩ ++ digB i) (by rw [ByteArray.size_append, ByteArray.size_append]; have : (⟨#[35]⟩ : ByteArray).size = 1 := rfl; omega) w
  rw [cat_data, cat_data, show (⟨#[35]⟩ : ByteArray) = sepB from rfl, (hashN_is k _).1] at this
  exact this
end Go.Proofs.YtlcpkplipfcdaaaDoor

/- the reference's Build of a ring (written by genrgh.py). -/
namespace Go.Proofs.YtlcpkplipfcdaaaDoor
open Go.RowKit Go.Sort

/-- What is there while a point is made. -/
structure RbP (W : World) (eb : Nat) (N : ByteArray) (V : Int) (L : Nat → Bool) (x : Nat → Value) (w : World) : Prop where
  bel : Below W.heap.size W w
  box : Row w eb 44 #[.string N, .int .i64 V]
  z11 : L 11 = true → ∃ g, x 11 = .pointer (some ⟨g, 0, none⟩) ∧ W.heap.size ≤ g ∧ Row w g 63 #[.int .u64 0, .string ⟨#[]⟩]
section
variable {W : World} {eb : Nat} {N : ByteArray} {V : Int} {L : Nat → Bool} {x : Nat → Value} {w w' : World}
theorem RbP.below (h : RbP W eb N V L x w) (hb : Below w.heap.size w w') : RbP W eb N V L x w' :=
  ⟨h.bel.trans (hb.mono h.bel.size), h.box.below hb, fun e => by obtain ⟨g, h1, h2, h3⟩ := h.z11 e; exact ⟨g, h1, h2, h3.below hb⟩⟩
theorem RbP.next (h : RbP W eb N V L x w) (i : Nat) (u : Value) (h5 : i ≠ 11) : RbP W eb N V (setL L i) (updV x i u) w :=
  ⟨h.bel, h.box, fun e => by
    obtain ⟨g, h1, h2⟩ := h.z11 (by simpa [setL, Ne.symm h5] using e)
    exact ⟨g, by simp [updV, Ne.symm h5, h1], h2⟩⟩
theorem RbP.put (h : RbP W eb N V L x w) : RbP W eb N V (setL L 11) (updV x 11 (.pointer (some ⟨w.heap.size, 0, none⟩))) (w.alloc (.cells #[.int .u64 0, .string ⟨#[]⟩] 63)) := by
  have h' := h.below (below_alloc w (.cells #[.int .u64 0, .string ⟨#[]⟩] 63))
  exact ⟨h'.bel, h'.box, fun _ => ⟨w.heap.size, by simp [updV], h.bel.size, Row.new w _ _⟩⟩
end
set_option maxRecDepth 100000 in
set_option maxHeartbeats 8000000 in
theorem refBuild30 (k : Nat → UInt8) (kb : ByteArray) (hk1 : (16 : Int) ≤ kb.size) (e1 : kb.extract 0 8 = ⟨(keyPart k 0).toArray⟩) (e2 : kb.extract 8 16 = ⟨(keyPart k 8).toArray⟩)
    (es : List Ent) (hl : es.length ≤ 6) (hz : ∀ e ∈ es, e.1.size ≤ 1000) (hv : validB es = true) (per : Int) (p : Nat) (hper : max 1 (min per 256) = (p : Int)) (a : Option Addr) (c : Nat) (w : World) (hf : IsEnts w a c es) :
    Calls Tryd.prog 30 #[.string kb, .slice a es.length c, .int .i64 per] w fun e w' => ∃ a' c', e = .returned (.slice a' (srtP (ptsL k p (gmE es).toNat es)).length c') ∧ PtsAt w' a' c' (srtP (ptsL k p (gmE es).toNat es)) ∧ Below w.heap.size w w' := by
  obtain ⟨i0, hi0, hz0, hz1, hz2⟩ := info_parts infoPtR
  have hok : ∀ e ∈ es, okW e = true := by
    unfold validB at hv
    rw [Bool.and_eq_true] at hv
    exact fun e he => List.all_eq_true.1 hv.1 e he
  have hrange : ∀ e ∈ es, 1 ≤ e.2 ∧ e.2 ≤ 65535 := fun e he => by have := hok e he; unfold okW at this; simpa using this
  rw [← gmE_one (fun e he => (hrange e he).1) k p]
  have hG65 : gmE es ≤ 65535 := gmE_le (by decide) fun e he => (hrange e he).2
  have HGG := Lib.hid (fun e (he : e ∈ es) => gmE_ge he)
  obtain ⟨G, hG⟩ : ∃ G : Nat, max 1 (gmE es) = (G : Int) := ⟨(max 1 (gmE es)).toNat, by omega⟩
  have HGE : Hid (max 1 (gmE es) = (G : Int)) := hG
  have hg1 : 1 ≤ G := by omega
  have hg65 : G ≤ 65535 := by omega
  have HGL : Hid (gmE es ≤ (G : Int)) := by show _ ≤ _; omega
  rw [hG, Int.toNat_natCast]
  have hp1 : 1 ≤ p ∧ p ≤ 256 := by omega
  have HF := Lib.hid hf
  have HRG := Lib.hid hrange
  have HZ := Lib.hid hz
  have HSP0 := Lib.hid (fun N hN i hi W => sum_pt k kb hk1 e1 e2 N hN i hi W)
  have HB0 := Lib.hid (Below.refl w.heap.size w)
  clear hf hok hrange hv hz hG hG65 hk1 e1 e2
  go_enter Tryd.func30, Tryd.ntmps30
  go_wp2_with fail
  go_loopw [8, 22] (fun g i wr => ∃ (j : Nat) (g' : Int), j ≤ es.length ∧ g = .int .i64 g' ∧ i = .int .i64 (j : Int) ∧ Hid (g' = max 1 (gmE (es.take j))) ∧ Hid (Below w.heap.size w wr)) (fun _ i _ => es.length - (intOf i).toNat)
  case atStart => exact ⟨0, 1, Nat.zero_le _, rfl, rfl, rfl, HB0⟩
  case round =>
    clear HB0
    obtain ⟨j, g', hj, rfl, rfl, HG, HB⟩ := hrel
    by_cases hlt : j < es.length
    · obtain h0 | ⟨bk, o, rfl, hbk, hc, hcell⟩ := HF.out.below HB.out
      · subst h0; simp at hlt
      obtain ⟨c1, c2⟩ := hcell j es[j] (by simp [hlt])
      have j1 : (j : Int) < es.length := by omega
      have HG2 : Hid (max g' es[j].2 = max 1 (gmE (es.take (j + 1)))) := by
        show _ = _
        rw [gmE_step hlt, HG.out]; omega
      generalize es[j] = e at *
      obtain ⟨N, V⟩ := e
      simp only at c1 c2 HG2
      have HBA := Lib.hid (HB.out.alloc HB.out.size (.cells #[.string N, .int .i64 V] 44))
      clear hcell
      go_wp2_with fail
      go_roundw
      case rel => exact ⟨j + 1, _, hlt, rfl, by go_num, HG2, HBA⟩
      case measure => simp [intOf]; omega
    · obtain rfl : j = es.length := by omega
      have hne : ¬ (es.length : Int) < es.length := by omega
      obtain rfl : g' = (G : Int) := by rw [HG.out, List.take_length]; exact HGE.out
      clear HG HGE
      have HBL := Lib.hid HB.out.size
      go_upto_region 8 with fail
      have O0 : Hid ((wr.alloc (.cells #[] 63)).ownsRow w.heap.size 63 2 (.slice (some ⟨wr.heap.size, 0, none⟩) 0 0) 0 (cellsP (srtP (ptsL k p G (es.take 0))))) := by
        have := World.ownsRow_lit (e := 63) (size := 2) wr #[] 0 HB.out.size (by decide) (by simp)
        show World.ownsRow _ _ _ _ _ _ _
        rw [List.take_zero, show ptsL k p G [] = [] from rfl, srtP_nil]
        exact this
      have L0 := Lib.hid (HB.out.alloc HB.out.size (.cells #[] 63))
      have HN0 : Hid ((srtP (ptsL k p G (es.take 0))).length = 0) := by
        show _ = _
        rw [List.take_zero, show ptsL k p G [] = [] from rfl, srtP_nil]; rfl
      clear HB hlt hj hne
      go_wp2_with fail
      go_loopw [11, 34] (fun v i wr => ∃ (j m : Nat) (a' : Option Addr) (c' : Nat), j ≤ es.length ∧ v = .slice a' m c' ∧ i = .int .i64 (j : Int) ∧ Hid ((srtP (ptsL k p G (es.take j))).length = m) ∧ Hid (wr.ownsRow w.heap.size 63 2 (.slice a' m c') m (cellsP (srtP (ptsL k p G (es.take j))))) ∧ Hid (Below w.heap.size w wr)) (fun _ i _ => es.length - (intOf i).toNat)
      case atStart => exact ⟨0, 0, _, _, Nat.zero_le _, rfl, rfl, HN0, O0, L0⟩
      case round =>
        clear O0 L0 HN0
        obtain ⟨j, m, a1, c1', hj, rfl, rfl, HM, HO, HB⟩ := hrel
        by_cases hlt : j < es.length
        · obtain h0 | ⟨bk, o, rfl, hbk, hc, hcell⟩ := HF.out.below HB.out
          · subst h0; simp at hlt
          obtain ⟨c1, c2⟩ := hcell j es[j] (by simp [hlt])
          have hrg := HRG.out es[j] (List.getElem_mem hlt)
          have hgg := HGG.out es[j] (List.getElem_mem hlt)
          have hzz := HZ.out es[j] (List.getElem_mem hlt)
          have HST := Lib.hid (ptsL_step (k := k) (p := p) (G := G) hlt)
          have HTL : Hid (∀ i, i ≤ cntP p es[j].2.toNat G → (ptsL k p G (es.take j) ++ (ptsE k p G es[j]).take i).length ≤ 2000) := fun i hi => by
            have h1 := ptsL_le (k := k) (p := p) (G := G) (es := es.take j) (fun e he => by
              have h2 := HRG.out e (List.mem_of_mem_take he)
              have h3 := HGG.out e (List.mem_of_mem_take he)
              have h5 := HGL.out
              have := cnt_le (p := p) (W := e.2.toNat) (G := G) hp1.1 (by omega)
              omega)
            have h5 := HGL.out
            have h4 := cnt_le (p := p) (W := es[j].2.toNat) (G := G) hp1.1 (by omega)
            rw [List.length_append, List.length_take, ptsE_len]
            rw [List.length_take] at h1
            omega
          have HES : Hid (∀ i, i < cntP p (es[j]).2.toNat G → (ptsE k p G es[j]).take (i + 1) = (ptsE k p G es[j]).take i ++ [(ptV k (es[j]).1 i, (es[j]).1)]) := fun i h => ptsE_step h
          have hcl := cnt_le (p := p) (W := es[j].2.toNat) (G := G) hp1.1 (by have h5 := HGL.out; omega)
          have HEL := Lib.hid (ptsE_len k p G es[j])
          have j1 : (j : Int) < es.length := by omega
          generalize es[j] = e at *
          obtain ⟨N, V⟩ := e
          simp only at c1 c2 hrg hgg hzz HES hcl HTL HEL
          obtain ⟨U, rfl⟩ : ∃ U : Nat, V = (U : Int) := ⟨V.toNat, by omega⟩
          rw [Int.toNat_natCast] at HES hcl HTL HEL
          have HOa := Lib.hid (HO.out.alloc (.cells #[.string N, .int .i64 (U : Nat)] 44))
          have HBa := Lib.hid (HB.out.alloc HB.out.size (.cells #[.string N, .int .i64 (U : Nat)] 44))
          have HXa := Lib.hid (Row.new wr 44 #[.string N, .int .i64 (U : Nat)])
          have hpu : p * U ≤ 256 * 65535 := Nat.mul_le_mul hp1.2 (by omega)
          have hmul : (p : Int) * (U : Int) = ((p * U : Nat) : Int) := by simp
          have hwm := wrapR ((p * U : Nat) : Int) (by omega) (by omega)
          have hql : p * U / G ≤ p * U := Nat.div_le_self _ _
          have hquo : ((p * U : Nat) : Int).tdiv (G : Int) = ((p * U / G : Nat) : Int) := by rw [Int.tdiv_eq_ediv_of_nonneg (by omega)]; rfl
          have hmx : max 1 ((p * U / G : Nat) : Int) = ((cntP p U G : Nat) : Int) := by unfold cntP; omega
          have hG1 : ¬ (G : Int) = 0 := by omega
          have hG2 : ¬ G = 0 := by omega
          generalize p * U / G = q9 at hql hquo hmx
          have hwq := wrapR (q9 : Int) (by omega) (by omega)
          generalize p * U = pu at *
          clear hcell HO HB hbk
          go_upto_region 12 with fail
          clear c1 c2
          generalize heb : wr.heap.size = eb at *
          clear heb
          generalize wr.alloc (.cells #[.string N, .int .i64 (U : Nat)] 44) = wa at *
          have HN0 : Hid (wa.ownsRow w.heap.size 63 2 (.slice a1 m c1') m (cellsP (srtP (ptsL k p G (es.take j) ++ (ptsE k p G (N, (U : Int))).take 0)))) := by
            rw [List.take_zero, List.append_nil]; exact HOa
          have HM0 : Hid ((srtP (ptsL k p G (es.take j) ++ (ptsE k p G (N, (U : Int))).take 0)).length = m) := by
            rw [List.take_zero, List.append_nil]; exact HM
          clear HOa HM
          have HCL := Lib.hid hcl
          generalize hcn : cntP p U G = cn at *
          have HCN := Lib.hid hcn
          clear hcn
          generalize ptsL k p G (es.take j) = ps0 at *
          go_wp2_with fail
          go_loopw [11, 14] (fun v i wr => ∃ (i' m : Nat) (a' : Option Addr) (c' : Nat), i' ≤ cn ∧ v = .slice a' m c' ∧ i = .int .i64 (i' : Int) ∧ Hid (Row wr eb 44 #[.string N, .int .i64 (U : Nat)]) ∧ Hid ((srtP (ps0 ++ (ptsE k p G (N, (U : Int))).take i')).length = m) ∧ Hid (wr.ownsRow w.heap.size 63 2 (.slice a' m c') m (cellsP (srtP (ps0 ++ (ptsE k p G (N, (U : Int))).take i')))) ∧ Hid (Below w.heap.size w wr)) (fun _ i _ => cn - (intOf i).toNat)
          case atStart => exact ⟨0, m, _, _, Nat.zero_le _, rfl, rfl, HXa, HM0, HN0, HBa⟩
          case round =>
            clear HXa HN0 HBa HM0
            obtain ⟨i, m, a1, c1', hi, rfl, rfl, HX, HM, HO, HB⟩ := hrel
            have r1 : wr.cell? ⟨eb, 1, none⟩ = some (.int .i64 (U : Nat)) := by rw [HX.out.cell]; rfl
            by_cases hlt2 : i < cn
            · have HSTE := Lib.hid (HES.out i hlt2)
              have HTLE := Lib.hid (HTL.out i (by omega))
              have i1 : (i : Int) < cn := by omega
              have hi6 : i < 1000000 := by omega
              have HPR := Lib.hid (fun W => print10N i hi6 W)
              have HSP := Lib.hid (fun W => HSP0.out N (by omega) i hi6 W)
              have HINS : Hid (∀ a, (∀ x ∈ (srtP (ps0 ++ (ptsE k p G (N, (U : Int))).take i)).drop a, ltPt (ptV k N i, N) x) → (∀ x ∈ (srtP (ps0 ++ (ptsE k p G (N, (U : Int))).take i)).take a, ¬ ltPt (ptV k N i, N) x) → srtP (ps0 ++ (ptsE k p G (N, (U : Int))).take (i + 1)) = insL (srtP (ps0 ++ (ptsE k p G (N, (U : Int))).take i)) a (ptV k N i, N)) := fun a h1 h2 => by
                rw [HSTE.out, ← List.append_assoc]
                exact srtP_ins _ _ a h1 h2
              have HLOW : Hid (∀ a q, (srtP (ps0 ++ (ptsE k p G (N, (U : Int))).take i))[a]? = some q → ¬ ltPt (ptV k N i, N) q → ∀ x ∈ (srtP (ps0 ++ (ptsE k p G (N, (U : Int))).take i)).take (a + 1), ¬ ltPt (ptV k N i, N) x) := fun a q h1 h2 => srtP_low _ _ q a h1 h2
              have hm20 : m ≤ 2000 := by rw [← HM.out, (srtP_perm _).length_eq]; exact HTLE.out
              clear HSTE HTLE
              have hDS := Lib.hid (dig_small hi6)
              generalize ptV k N i = p1 at *
              generalize hD : digB i = D at *
              generalize srtP (ps0 ++ (ptsE k p G (N, (U : Int))).take i) = PS at *
              clear hD
              have HA1 : Hid (∀ W : World, (Op.stringOp .add N ⟨#[35]⟩).run Tryd.prog W = .ok (.string (N ++ ⟨#[35]⟩)) W) := fun W => run_string_add_sum W _ _ (by have : (⟨#[35]⟩ : ByteArray).size = 1 := rfl; omega)
              have HA2 : Hid (∀ W : World, (Op.stringOp .add (N ++ ⟨#[35]⟩) D).run Tryd.prog W = .ok (.string (N ++ ⟨#[35]⟩ ++ D)) W) := fun W => run_string_add_sum W _ _ (by have h1 : (⟨#[35]⟩ : ByteArray).size = 1 := rfl; have h2 := hDS.out; rw [ByteArray.size_append]; omega)
              have HMV : Hid (∃ V : Int, V = (U : Int)) := ⟨_, rfl⟩
              obtain ⟨V, hV⟩ := HMV.out
              go_upto_region 15 with fail
              rw [← hV] at HX
              clear hmul hwm hquo hmx hwq hG1 hG2 r1 HMV
              have HVE := Lib.hid hV
              clear hV
              refine region_mixt 12 [some (.string kb), some (.pointer (some ⟨eb, 0, none⟩)), some (.string N), some (.string (N ++ ⟨#[35]⟩)), some (.int .i64 (i : Nat)), some (.string D), some (.string (N ++ ⟨#[35]⟩ ++ D)), some (.int .u64 (p1 : Nat)), some (.pointer (some ⟨eb, 0, none⟩)), some (.string N), some (.agg #[.int .u64 (p1 : Nat), .string N]), none]
                [[false, false, false, false, false, false, false, false, false, false, false, false], [false, false, false, false, false, false, false, false, false, false, false, false], [false, true, false, false, false, false, false, false, false, false, false, false], [false, false, true, false, false, false, false, false, false, false, false, false], [false, false, false, false, false, false, false, false, false, false, false, false], [false, false, false, false, true, false, false, false, false, false, false, false], [false, false, false, true, false, true, false, false, false, false, false, false], [true, false, false, false, false, true, true, false, false, false, false, false], [false, false, false, false, false, false, false, false, false, false, false, false], [false, false, false, false, false, false, false, false, true, false, false, false], [false, false, false, false, false, false, false, true, false, true, false, false], [false, false, false, false, false, false, false, false, false, false, false, false]]
                (fun LL xx w9 => RbP wr eb N V LL xx w9)
                (by kernel_rfl) (by kernel_rfl) (by kernel_rfl) (by kernel_rfl) (by kernel_rfl) (by decide) ?_ ?_ ?_
              · intro x
                exact ⟨⟨rfl, rfl, rfl, Nat.le_refl _, fun _ _ => rfl⟩, HX.out.drew, (fun h => by cases h)⟩
              · simp only [List.take_succ_cons, List.take_zero]
                refine ⟨?_, ?_, ?_, ?_, ?_, ?_, ?_, ?_, ?_, ?_, ?_, ?_, trivial⟩
                all_goals
                  intro L x w9 hS hl hp K9 hK9
                  have hs : RbP wr eb N V L x w9 := hS
                  clear hS
                  replace hK9 := hK9.out
                  simp only [actMix, pickV, List.tail_cons, List.headD_cons, Act.put, List.setIfInBounds_toArray, List.set_cons_zero, List.set_cons_succ] at hK9 ⊢
                · clear hp
                  go_simp
                  with_reducible refine hK9 _ ?_
                  exact hs.next 0 _ (by decide)
                · clear hp
                  go_simp
                  with_reducible refine hK9 _ ?_
                  exact hs.next 1 _ (by decide)
                · have q1 : w9.cell? ⟨eb, 0, none⟩ = some (.string N) := by rw [hs.box.cell]; rfl
                  clear hp
                  go_simp
                  with_reducible refine hK9 _ ?_
                  exact hs.next 2 _ (by decide)
                · have hA1 := HA1.out
                  clear hp
                  go_simp
                  with_reducible refine hK9 _ ?_
                  exact hs.next 3 _ (by decide)
                · clear hp
                  go_simp
                  with_reducible refine hK9 _ ?_
                  exact hs.next 4 _ (by decide)
                · clear hp
                  go_simp
                  refine (HPR.out w9).mono ?_
                  rintro e w8 ⟨rfl, hB8⟩
                  go_simp
                  with_reducible refine hK9 _ ?_
                  exact (hs.below hB8).next 5 _ (by decide)
                · have hA2 := HA2.out
                  clear hp
                  go_simp
                  with_reducible refine hK9 _ ?_
                  exact hs.next 6 _ (by decide)
                · clear hp
                  go_simp
                  refine (HSP.out w9).mono ?_
                  rintro e w8 ⟨rfl, hB8⟩
                  go_simp
                  with_reducible refine hK9 _ ?_
                  exact (hs.below hB8).next 7 _ (by decide)
                · clear hp
                  go_simp
                  with_reducible refine hK9 _ ?_
                  exact hs.next 8 _ (by decide)
                · have q1 : w9.cell? ⟨eb, 0, none⟩ = some (.string N) := by rw [hs.box.cell]; rfl
                  clear hp
                  go_simp
                  with_reducible refine hK9 _ ?_
                  exact hs.next 9 _ (by decide)
                · clear hp
                  go_simp
                  with_reducible refine hK9 _ ?_
                  exact hs.next 10 _ (by decide)
                · clear hp
                  go_simp
                  with_reducible refine hK9 _ _ ?_
                  exact hs.put
              intro L x w9 hS hL
              have hs : RbP wr eb N V L x w9 := hS
              obtain ⟨pb, hxp, hpb, hrp⟩ := hs.z11 (hL 11 (by decide))
              simp only [actMix, pickV, List.tail_cons, List.headD_cons, Act.put, List.setIfInBounds_toArray, List.set_cons_zero, List.set_cons_succ, List.replicate_succ, List.replicate_zero, List.drop_succ_cons, List.drop_zero, List.take_succ_cons, List.take_zero]
              generalize x 11 = xp at *
              subst hxp
              have f0 := hrp.free 0
              have f1 := hrp.free 1
              have c0 : w9.cell? ⟨pb, 0, none⟩ = some (.int .u64 0) := by rw [hrp.cell]; rfl
              have c1 : w9.cell? ⟨pb, 1, none⟩ = some (.string ⟨#[]⟩) := by rw [hrp.cell]; rfl
              have RF := (hrp.put 0 (.int .u64 (p1 : Nat))).put 1 (.string N)
              have hne1 : eb ≠ pb := hs.box.ne hrp (by decide)
              have HP3 : Hid (Row ((w9.setCell ⟨pb, 0, none⟩ (.int .u64 (p1 : Nat))).setCell ⟨pb, 1, none⟩ (.string N)) pb 63 #[.int .u64 (p1 : Nat), .string N]) := RF
              have HX3 : Hid (Row ((w9.setCell ⟨pb, 0, none⟩ (.int .u64 (p1 : Nat))).setCell ⟨pb, 1, none⟩ (.string N)) eb 44 #[.string N, .int .i64 V]) := (hs.box.far (p := ⟨pb, 0, none⟩) hne1 _).far (p := ⟨pb, 1, none⟩) hne1 _
              have ho9 := ownB_keepR HO.out hs.bel
              have hown : (Value.slice a1 m c1').ownBlock ≠ some pb := fun e => by
                have := (HO.out.lt _ e).2; omega
              have HO3 : Hid (((w9.setCell ⟨pb, 0, none⟩ (.int .u64 (p1 : Nat))).setCell ⟨pb, 1, none⟩ (.string N)).ownsRow w.heap.size 63 2 (.slice a1 m c1') m (cellsP PS)) := own_farR (own_farR ho9 hown _) hown _
              have hwp : w.heap.size ≤ pb := Nat.le_trans HB.out.size hpb
              have HB3 := Lib.hid (((HB.out.trans (hs.bel.mono HB.out.size)).setCell (p := ⟨pb, 0, none⟩) hwp (.int .u64 (p1 : Nat))).setCell (p := ⟨pb, 1, none⟩) hwp (.string N))
              have HOW := Lib.hid (And.intro hown hne1)
              have HLT : Hid (∀ y, (Value.slice a1 m c1').ownBlock = some y → y < pb ∧ w.heap.size ≤ y) := fun y e => by
                have := HO.out.lt _ e; omega
              clear hS hs hL hrp RF hne1 ho9 hown HX HO HB HPR HSP hwp hpb
              go_upto_region 16 with fail
              clear f0 f1 c0 c1
              generalize (w9.setCell ⟨pb, 0, none⟩ (.int .u64 (p1 : Nat))).setCell ⟨pb, 1, none⟩ (.string N) = w10 at *
              have HPB := Lib.hid HP3.out.lt
              have q0 : w10.cell? ⟨pb, 0, none⟩ = some (.int .u64 (p1 : Nat)) := by rw [HP3.out.cell]; rfl
              have q1 : w10.cell? ⟨pb, 1, none⟩ = some (.string N) := by rw [HP3.out.cell]; rfl
              have HPA := Lib.hid (HP3.out.alloc (.cells #[.int .u64 (p1 : Nat), .string N] 63))
              have HXA := Lib.hid (HX3.out.alloc (.cells #[.int .u64 (p1 : Nat), .string N] 63))
              have HOA := Lib.hid (HO3.out.alloc (.cells #[.int .u64 (p1 : Nat), .string N] 63))
              have HBA := Lib.hid (HB3.out.alloc HB3.out.size (.cells #[.int .u64 (p1 : Nat), .string N] 63))
              have HCA : Hid (∀ (q : Nat) u, [Value.int .u64 (p1 : Nat), .string N][q]? = some u → (w10.alloc (.cells #[.int .u64 (p1 : Nat), .string N] 63)).cell? ((⟨w10.heap.size, 0, none⟩ : Addr).add q) = some u) := fun q u hu => by
                rw [Addr.add_mid, Nat.zero_add, (Row.new w10 63 #[.int .u64 (p1 : Nat), .string N]).cell, List.getElem?_toArray]
                exact hu
              clear HP3 HX3 HO3 HB3
              go_upto_region 17 with fail
              go_wp2_with (at_builtin; refine wpList_append_lies _ rfl _ _ 60 rfl w.heap.size 63 i0 (.agg #[.int .u64 0, .string ⟨#[]⟩]) 2 24 Tryd.underlying60 hi0 hz0 hz1 hz2 rfl (by decide) _ _ _ rfl HOA.out ⟨w10.heap.size, 0, none⟩ 1 1 [.int .u64 (p1 : Nat), .string N] rfl rfl HCA.out (by intro u hu; simp at hu; rcases hu with rfl | rfl <;> rfl) (by decide) (by unfold maxLen; omega) (by omega) HBA.out.size _ rfl ?_; intro g2 cap2 w11 hown2 hgrow2 hwh2 hlt3)
              have hpb2 := HPB.out
              have hgp : pb ≠ g2 ∧ w.heap.size ≤ g2 := by
                rcases hwh2 with e | e
                · have := HLT.out _ e; omega
                · have h5 := HBA.out.size
                  subst e
                  have : (w10.alloc (.cells #[.int .u64 (p1 : Nat), .string N] 63)).heap.size = w10.heap.size + 1 := World.size_alloc _ _
                  omega
              have hge : eb ≠ g2 := fun e => own_ne (own_zeroR hown2) (HXA.out.grown hgrow2 (own_ne (own_zeroR HOA.out) HXA.out (by decide))) (by decide) (by rw [e]; rfl)
              have HNE : Hid (pb ≠ g2 ∧ eb ≠ g2 ∧ w.heap.size ≤ g2) := ⟨hgp.1, hge, hgp.2⟩
              have HP2 := Lib.hid (HPA.out.grown hgrow2 HOW.out.1)
              have HX2 := Lib.hid (HXA.out.grown hgrow2 (own_ne (own_zeroR HOA.out) HXA.out (by decide)))
              have HB2 := Lib.hid (HBA.out.grown hgrow2 HBA.out.size (fun y e => (HLT.out y e).2))
              have HPL : Hid (PS.length = m) := HM
              have HO2 : Hid (w11.ownsRow w.heap.size 63 2 (.slice (some ⟨g2, 0, none⟩) (m + 1) cap2) (m + 1) (cellsP (insL PS m (p1, N)))) := by
                have h5 := insL_end PS (p1, N)
                rw [HPL.out] at h5
                show World.ownsRow _ _ _ _ _ _ _
                rw [h5, cellsP_append]
                exact hown2
              obtain ⟨m1, hm1⟩ : ∃ m1, m1 = m + 1 := ⟨_, rfl⟩
              have HM1 : Hid (m1 = m + 1) := hm1
              rw [← hm1] at HO2 ⊢
              have HD2 : Hid (∀ y ∈ PS.drop m, ltPt (p1, N) y) := by
                show ∀ y ∈ _, _
                rw [List.drop_of_length_le (by rw [HPL.out]; exact Nat.le_refl _)]
                intro y hy; simp at hy
              have hmm : m < m1 := by omega
              clear hown2 hgrow2 hwh2 hlt3 hgp hge hpb2 HPA HXA HOA HBA HCA HOW HLT HPB q0 q1 hm1 HM
              go_wp2_with fail
              go_loopw [16] (fun x wr => ∃ (a : Nat) (X : Pt), a ≤ m ∧ x = .int .i64 (a : Int) ∧ Hid (wr.ownsRow w.heap.size 63 2 (.slice (some ⟨g2, 0, none⟩) m1 cap2) m1 (cellsP (insL PS a X))) ∧ Hid (Row wr pb 63 #[.int .u64 (p1 : Nat), .string N]) ∧ Hid (Row wr eb 44 #[.string N, .int .i64 V]) ∧ Hid (∀ y ∈ PS.drop a, ltPt (p1, N) y) ∧ Hid (Below w.heap.size w wr)) (fun x _ => (intOf x).toNat)
              case atStart => exact ⟨m, _, Nat.le_refl _, rfl, HO2, HP2, HX2, HD2, HB2⟩
              case round =>
                clear HO2 HP2 HX2 HD2 HB2
                rename_i wr0
                obtain ⟨a, X, ha, rfl, HO4, HP4, HX4, HD4, HB4⟩ := hrel
                have y0 : wr.cell? ⟨pb, 0, none⟩ = some (.int .u64 (p1 : Nat)) := by rw [HP4.out.cell]; rfl
                have y1 : wr.cell? ⟨pb, 1, none⟩ = some (.string N) := by rw [HP4.out.cell]; rfl
                by_cases h0 : a = 0
                · have g0 : ¬ (0 : Int) < (a : Int) := by omega
                  have g0n : ¬ 0 < a := by omega
                  have g0d : decide ((0 : Int) < (a : Int)) = false := decide_eq_false (by omega)
                  have g0e : decide (0 < a) = false := decide_eq_false (by omega)
                  have hdr := HD4.out
                  have htk : ∀ x ∈ PS.take a, ¬ ltPt (p1, N) x := by rw [h0]; intro x hx; simp at hx
                  clear h0
                  have HEQ := Lib.hid (HINS.out a hdr htk)
                  have a1' : (a : Int) < m1 := by omega
                  obtain ⟨e5, ⟨qx, hqx, x1, x2⟩, x3, x4, _⟩ := ownsRow_put2 (j := a) (p1, N) HO4.out (by rw [insL_len, HPL.out]; omega)
                  rw [insL_put _ _ _ _ (by rw [HPL.out]; omega), ← HEQ.out] at e5
                  have HO5 := Lib.hid e5
                  have HX5 : Hid (Row ((wr.setCell ⟨g2, a * 2, none⟩ (.int .u64 (p1 : Nat))).setCell ⟨g2, a * 2 + 1, none⟩ (.string N)) eb 44 #[.string N, .int .i64 V]) := (HX4.out.far (p := ⟨g2, a * 2, none⟩) HNE.out.2.1 _).far (p := ⟨g2, a * 2 + 1, none⟩) HNE.out.2.1 _
                  have HB5 : ∀ n, Hid (Below w.heap.size w (((wr.drewN n).setCell ⟨g2, a * 2, none⟩ (.int .u64 (p1 : Nat))).setCell ⟨g2, a * 2 + 1, none⟩ (.string N))) := fun n => ((HB4.out.trans (⟨rfl, rfl, rfl, Nat.le_refl _, fun _ _ => rfl⟩ : Below w.heap.size wr (wr.drewN n))).setCell (p := ⟨g2, a * 2, none⟩) HNE.out.2.2 (.int .u64 (p1 : Nat))).setCell (p := ⟨g2, a * 2 + 1, none⟩) HNE.out.2.2 (.string N)
                  have HL5 : Hid ((srtP (ps0 ++ (ptsE k p G (N, (U : Int))).take (i + 1))).length = m1) := by
                    show _ = _
                    rw [HEQ.out, insL_len, HPL.out, HM1.out]
                  clear e5 hqx hdr htk HO4 HX4 HB4 HD4 HP4
                  go_wp2_with fail
                  go_quiet (fail)
                  go_wp2_with fail
                  go_roundw
                  case rel =>
                    refine ⟨i + 1, m1, _, _, hlt2, rfl, by go_num, ?_, HL5, HO5, HB5 _⟩
                    rw [← HVE.out]; exact HX5
                  case measure => simp [intOf]; omega
                · obtain ⟨b, hb⟩ : ∃ b, a = b + 1 := ⟨a - 1, by omega⟩
                  have g0 : (0 : Int) < (a : Int) := by omega
                  have g0n : 0 < a := by omega
                  have g0d : decide ((0 : Int) < (a : Int)) = true := decide_eq_true (by omega)
                  have g0e : decide (0 < a) = true := decide_eq_true (by omega)
                  have e1 : (a : Int) - 1 = (b : Int) := by omega
                  have b1 : (b : Int) < m1 := by omega
                  have b0 : (0 : Int) ≤ (b : Int) := by omega
                  have hbl : b < PS.length := by rw [HPL.out]; omega
                  obtain ⟨_, ⟨q, hq, k1, k2⟩, _, _, _⟩ := ownsRow_put2 (j := b) (p1, N) HO4.out (by rw [insL_len]; omega)
                  rw [hb, insL_low PS b X hbl] at hq
                  have HQ := Lib.hid hq
                  have hq2 : PS[b]'hbl = q := (List.getElem?_eq_some_iff.1 hq).2
                  have HAB := Lib.hid hb
                  have HAM := Lib.hid ha
                  obtain ⟨qv, qn⟩ := q
                  simp only at k1 k2
                  clear hq h0
                  by_cases hlo : ltPt (p1, N) (qv, qn)
                  · have HD5 : Hid (∀ y ∈ PS.drop b, ltPt (p1, N) y) := drop_down hbl (by rw [hq2]; exact hlo) (by rw [← hb]; exact HD4.out)
                    obtain ⟨e5, ⟨qx, hqx, x1, x2⟩, x3, x4, _⟩ := ownsRow_put2 (j := a) (qv, qn) HO4.out (by rw [insL_len, HPL.out]; omega)
                    have h6 := insL_down PS b X hbl
                    rw [hq2, ← hb] at h6
                    rw [h6] at e5
                    have HO5 := Lib.hid e5
                    have HP5 : Hid (Row ((wr.setCell ⟨g2, a * 2, none⟩ (.int .u64 (qv : Nat))).setCell ⟨g2, a * 2 + 1, none⟩ (.string qn)) pb 63 #[.int .u64 (p1 : Nat), .string N]) := (HP4.out.far (p := ⟨g2, a * 2, none⟩) HNE.out.1 _).far (p := ⟨g2, a * 2 + 1, none⟩) HNE.out.1 _
                    have HX5 : Hid (Row ((wr.setCell ⟨g2, a * 2, none⟩ (.int .u64 (qv : Nat))).setCell ⟨g2, a * 2 + 1, none⟩ (.string qn)) eb 44 #[.string N, .int .i64 V]) := (HX4.out.far (p := ⟨g2, a * 2, none⟩) HNE.out.2.1 _).far (p := ⟨g2, a * 2 + 1, none⟩) HNE.out.2.1 _
                    have HB5 : ∀ n, Hid (Below w.heap.size w (((wr.drewN n).setCell ⟨g2, a * 2, none⟩ (.int .u64 (qv : Nat))).setCell ⟨g2, a * 2 + 1, none⟩ (.string qn))) := fun n => ((HB4.out.trans (⟨rfl, rfl, rfl, Nat.le_refl _, fun _ _ => rfl⟩ : Below w.heap.size wr (wr.drewN n))).setCell (p := ⟨g2, a * 2, none⟩) HNE.out.2.2 (.int .u64 (qv : Nat))).setCell (p := ⟨g2, a * 2 + 1, none⟩) HNE.out.2.2 (.string qn)
                    have a1' : (a : Int) < m1 := by omega
                    clear e5 hqx h6 hq2 HO4 HP4 HX4 HD4 HB4 hb
                    by_cases hgt : qv > p1
                    · have g1 : (p1 : Int) < (qv : Int) := by omega
                      have g1n : p1 < qv := by omega
                      have g1d : decide ((p1 : Int) < (qv : Int)) = true := decide_eq_true (by omega)
                      have g1e : decide (p1 < qv) = true := decide_eq_true (by omega)
                      clear hlo hgt
                      go_wp2_with fail
                      go_quiet (fail)
                      go_wp2_with fail
                      go_roundw
                      case rel => exact ⟨b, (_, _), by have h7 := HAB.out; have h8 := HAM.out; omega, rfl, HO5, HP5, HX5, HD5, HB5 _⟩
                      case measure => have := HAB.out; simp [intOf]; omega
                    · have hqe : qv = p1 ∧ nmB N < nmB qn := by
                        unfold ltPt at hlo
                        rcases hlo with h | ⟨h, h2⟩
                        · exact absurd h hgt
                        · exact ⟨h.symm, h2⟩
                      obtain ⟨rfl, hnn⟩ := hqe
                      have g1 : ¬ (qv : Int) < (qv : Int) := by omega
                      have g1n : ¬ qv < qv := by omega
                      have g1d : decide ((qv : Int) < (qv : Int)) = false := decide_eq_false (by omega)
                      have g1e : decide (qv < qv) = false := decide_eq_false (by omega)
                      have g2' : Op.bytesLess qn.toList N.toList = false := less_false (fun h => List.lt_irrefl _ (List.lt_trans h hnn))
                      have g3' : (qn.toList == N.toList) = false := by rw [same_eq]; exact decide_eq_false (fun h => List.lt_irrefl (nmB N) (by rw [h] at hnn; exact hnn))
                      clear hlo hgt hnn
                      go_wp2_with fail
                      go_quiet (fail)
                      go_wp2_with fail
                      go_roundw
                      case rel => exact ⟨b, (_, _), by have h7 := HAB.out; have h8 := HAM.out; omega, rfl, HO5, HP5, HX5, HD5, HB5 _⟩
                      case measure => have := HAB.out; simp [intOf]; omega
                  · have hdr := HD4.out
                    have htk : ∀ x ∈ PS.take a, ¬ ltPt (p1, N) x := by rw [hb]; exact HLOW.out b _ HQ.out hlo
                    by_cases hqe : qv = p1
                    · have hnn : ¬ nmB N < nmB qn := fun h => hlo (.inr ⟨hqe.symm, h⟩)
                      subst hqe
                      have g1 : ¬ (qv : Int) < (qv : Int) := by omega
                      have g1n : ¬ qv < qv := by omega
                      have g1d : decide ((qv : Int) < (qv : Int)) = false := decide_eq_false (by omega)
                      have g1e : decide (qv < qv) = false := decide_eq_false (by omega)
                      have hcs : (Op.bytesLess qn.toList N.toList = true ∧ (qn.toList == N.toList) = false) ∨ (Op.bytesLess qn.toList N.toList = false ∧ (qn.toList == N.toList) = true) := by
                        rw [less_eq, same_eq]
                        by_cases h1 : nmB qn = nmB N
                        · exact .inr ⟨decide_eq_false (by rw [h1]; exact List.lt_irrefl _), decide_eq_true h1⟩
                        · refine .inl ⟨decide_eq_true ?_, decide_eq_false h1⟩
                          exact Classical.byContradiction fun h2 => h1 (List.le_antisymm (List.not_lt.1 hnn) (List.not_lt.1 h2))
                      clear hlo hnn hq2 hb
                      rcases hcs with ⟨g2', g3'⟩ | ⟨g2', g3'⟩
                      all_goals
                        have HEQ := Lib.hid (HINS.out a hdr htk)
                        have a1' : (a : Int) < m1 := by omega
                        obtain ⟨e5, ⟨qx, hqx, x1, x2⟩, x3, x4, _⟩ := ownsRow_put2 (j := a) (qv, N) HO4.out (by rw [insL_len, HPL.out]; omega)
                        rw [insL_put _ _ _ _ (by rw [HPL.out]; omega), ← HEQ.out] at e5
                        have HO5 := Lib.hid e5
                        have HX5 : Hid (Row ((wr.setCell ⟨g2, a * 2, none⟩ (.int .u64 (qv : Nat))).setCell ⟨g2, a * 2 + 1, none⟩ (.string N)) eb 44 #[.string N, .int .i64 V]) := (HX4.out.far (p := ⟨g2, a * 2, none⟩) HNE.out.2.1 _).far (p := ⟨g2, a * 2 + 1, none⟩) HNE.out.2.1 _
                        have HB5 : ∀ n, Hid (Below w.heap.size w (((wr.drewN n).setCell ⟨g2, a * 2, none⟩ (.int .u64 (qv : Nat))).setCell ⟨g2, a * 2 + 1, none⟩ (.string N))) := fun n => ((HB4.out.trans (⟨rfl, rfl, rfl, Nat.le_refl _, fun _ _ => rfl⟩ : Below w.heap.size wr (wr.drewN n))).setCell (p := ⟨g2, a * 2, none⟩) HNE.out.2.2 (.int .u64 (qv : Nat))).setCell (p := ⟨g2, a * 2 + 1, none⟩) HNE.out.2.2 (.string N)
                        have HL5 : Hid ((srtP (ps0 ++ (ptsE k p G (N, (U : Int))).take (i + 1))).length = m1) := by
                          show _ = _
                          rw [HEQ.out, insL_len, HPL.out, HM1.out]
                        clear e5 hqx hdr htk HO4 HX4 HB4 HD4 HP4
                        go_wp2_with fail
                        go_quiet (fail)
                        go_wp2_with fail
                        go_roundw
                        case rel =>
                          refine ⟨i + 1, m1, _, _, hlt2, rfl, by go_num, ?_, HL5, HO5, HB5 _⟩
                          rw [← HVE.out]; exact HX5
                        case measure => simp [intOf]; omega
                    · have hng : ¬ qv > p1 := fun h => hlo (.inl h)
                      have g1 : ¬ (p1 : Int) < (qv : Int) := by omega
                      have g1n : ¬ p1 < qv := by omega
                      have g1d : decide ((p1 : Int) < (qv : Int)) = false := decide_eq_false (by omega)
                      have g1e : decide (p1 < qv) = false := decide_eq_false (by omega)
                      have g2' : decide ((qv : Int) = (p1 : Int)) = false := decide_eq_false (by omega)
                      have g2'n : decide (qv = p1) = false := decide_eq_false (by omega)
                      have g2'e : (qv == p1) = false := by rw [beq_eq_false_iff_ne]; omega
                      have g3' : ((qv : Int) == (p1 : Int)) = false := by rw [beq_eq_false_iff_ne]; omega
                      clear hlo hng hqe hq2 hb
                      have HEQ := Lib.hid (HINS.out a hdr htk)
                      have a1' : (a : Int) < m1 := by omega
                      obtain ⟨e5, ⟨qx, hqx, x1, x2⟩, x3, x4, _⟩ := ownsRow_put2 (j := a) (p1, N) HO4.out (by rw [insL_len, HPL.out]; omega)
                      rw [insL_put _ _ _ _ (by rw [HPL.out]; omega), ← HEQ.out] at e5
                      have HO5 := Lib.hid e5
                      have HX5 : Hid (Row ((wr.setCell ⟨g2, a * 2, none⟩ (.int .u64 (p1 : Nat))).setCell ⟨g2, a * 2 + 1, none⟩ (.string N)) eb 44 #[.string N, .int .i64 V]) := (HX4.out.far (p := ⟨g2, a * 2, none⟩) HNE.out.2.1 _).far (p := ⟨g2, a * 2 + 1, none⟩) HNE.out.2.1 _
                      have HB5 : ∀ n, Hid (Below w.heap.size w (((wr.drewN n).setCell ⟨g2, a * 2, none⟩ (.int .u64 (p1 : Nat))).setCell ⟨g2, a * 2 + 1, none⟩ (.string N))) := fun n => ((HB4.out.trans (⟨rfl, rfl, rfl, Nat.le_refl _, fun _ _ => rfl⟩ : Below w.heap.size wr (wr.drewN n))).setCell (p := ⟨g2, a * 2, none⟩) HNE.out.2.2 (.int .u64 (p1 : Nat))).setCell (p := ⟨g2, a * 2 + 1, none⟩) HNE.out.2.2 (.string N)
                      have HL5 : Hid ((srtP (ps0 ++ (ptsE k p G (N, (U : Int))).take (i + 1))).length = m1) := by
                        show _ = _
                        rw [HEQ.out, insL_len, HPL.out, HM1.out]
                      clear e5 hqx hdr htk HO4 HX4 HB4 HD4 HP4
                      go_wp2_with fail
                      go_quiet (fail)
                      go_wp2_with fail
                      go_roundw
                      case rel =>
                        refine ⟨i + 1, m1, _, _, hlt2, rfl, by go_num, ?_, HL5, HO5, HB5 _⟩
                        rw [← HVE.out]; exact HX5
                      case measure => simp [intOf]; omega
            · obtain rfl : i = cn := by omega
              have hne : ¬ (i : Int) < i := by omega
              have HN9 : Hid (wr.ownsRow w.heap.size 63 2 (.slice a1 m c1') m (cellsP (srtP (ptsL k p G (es.take (j + 1)))))) := by
                have := HO.out
                rw [List.take_of_length_le (by rw [HEL.out]; exact Nat.le_refl _)] at this
                show World.ownsRow _ _ _ _ _ _ _
                rw [HST.out]; exact this
              have HM9 : Hid ((srtP (ptsL k p G (es.take (j + 1)))).length = m) := by
                have := HM.out
                rw [List.take_of_length_le (by rw [HEL.out]; exact Nat.le_refl _)] at this
                show _ = _
                rw [HST.out]; exact this
              go_wp2_with fail
              go_roundw
              case rel => exact ⟨j + 1, m, _, _, hlt, rfl, by go_num, HM9, HN9, HB⟩
              case measure => simp [intOf]; omega
        · obtain rfl : j = es.length := by omega
          have hne : ¬ (es.length : Int) < es.length := by omega
          have ho := HO.out
          have hm := HM.out
          rw [List.take_length] at ho hm
          subst hm
          have HPT := Lib.hid (own_pts ho)
          clear ho
          go_wp2_with fail
          go_ret
          exact ⟨_, _, rfl, HPT.out, HB.out⟩
end Go.Proofs.YtlcpkplipfcdaaaDoor

