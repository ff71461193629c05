/- BLAKE2s, the program's own: its tables, and process. -/
import Derived.Test.YtllmlngfmcbaaaaGreatDoorBBlock
import Derived.Test.YtllmlngfmcbaaaaGreatDoorReg
namespace Go.Proofs.YtllmlngfmcbaaaaGreatDoor
open Go.RowKit Go.Lib

/-- The first words. -/
def ivList : List Int := [1779033703, 3144134277, 1013904242, 2773480762, 1359893119, 2600822924, 528734635, 1541459225]
def iv (i : Nat) : Int := ivList.getD i 0
/-- The orders of the ten rounds. -/
def orderRows : List (List Nat) :=
  [[0, 1, 2, 3, 4, 5, 6, 7, 8, 9, 10, 11, 12, 13, 14, 15],
   [14, 10, 4, 8, 9, 15, 13, 6, 1, 12, 0, 2, 11, 7, 5, 3],
   [11, 8, 12, 0, 5, 2, 15, 13, 10, 14, 3, 6, 7, 1, 9, 4],
   [7, 9, 3, 1, 13, 12, 11, 14, 2, 6, 5, 10, 4, 0, 15, 8],
   [9, 0, 5, 7, 2, 4, 10, 15, 14, 1, 11, 12, 6, 8, 3, 13],
   [2, 12, 6, 10, 0, 11, 8, 3, 4, 13, 7, 5, 15, 14, 1, 9],
   [12, 5, 1, 15, 14, 13, 4, 10, 0, 7, 6, 3, 9, 2, 8, 11],
   [13, 11, 7, 14, 12, 1, 3, 9, 5, 0, 15, 4, 8, 6, 2, 10],
   [6, 15, 14, 9, 11, 3, 0, 8, 12, 2, 13, 7, 1, 4, 10, 5],
   [10, 2, 8, 4, 7, 6, 1, 5, 15, 11, 9, 14, 3, 12, 13, 0]]
def perm (r i : Nat) : Nat := (orderRows.getD r []).getD i 0
theorem perm_lt (r : Nat) (hr : r < 10) : ∀ i, i < 16 → perm r i < 16 := by
  have h : ∀ r : Fin 10, ∀ i : Fin 16, perm r i < 16 := by decide +kernel
  exact fun i hi => h ⟨r, hr⟩ ⟨i, hi⟩
/-- The cells of a row of the table of orders. -/
def permCells (s : Nat → Nat) : List Value := (List.range 16).map fun i => .int .u8 (s i : Nat)
theorem permCells_length (s : Nat → Nat) : (permCells s).length = 16 := by simp [permCells]
theorem permVal_cells (s : Nat → Nat) : permVal s = .agg (permCells s).toArray := rfl

/-- What the program's tables hold. -/
structure Tabs (w : World) : Prop where
  lt0 : 0 < w.heap.size
  lt1 : 1 < w.heap.size
  ini : ∀ i, i < 8 → w.cell? ⟨0, i, none⟩ = some (.int .u32 (iv i))
  per : ∀ r, r < 10 → w.rangeAt 1 (r * 16) (permCells (perm r))
theorem Tabs.below {w w' : World} (h : Tabs w) (hb : Below w.heap.size w w') : Tabs w' := by
  obtain ⟨hc, _⟩ := bcell hb
  have hz := hb.size
  exact ⟨by have := h.lt0; omega, by have := h.lt1; omega, fun i hi => by rw [hc _ _ h.lt0]; exact h.ini i hi, fun r hr j v hv => by rw [hc _ _ h.lt1]; exact h.per r hr j v hv⟩

/-- The words while the first loop runs. -/
def fill (h : Nat → Int) (j k : Nat) : Int := if k < j then h k else if 8 ≤ k ∧ k < 8 + j then iv (k - 8) else 0
theorem fill_step (h : Nat → Int) (j : Nat) (hj : j < 8) : upd (upd (fill h j) j (h j)) (8 + j) (iv j) = fill h (j + 1) := by
  funext k
  unfold upd fill
  by_cases e : k = 8 + j
  · subst e
    rw [if_pos rfl, if_neg (by omega), if_pos (by omega), show 8 + j - 8 = j by omega]
  · rw [if_neg e]
    by_cases e2 : k = j
    · subst e2; rw [if_pos rfl, if_pos (by omega)]
    · rw [if_neg e2]
      by_cases h1 : k < j
      · rw [if_pos h1, if_pos (by omega)]
      · rw [if_neg h1, if_neg (by omega : ¬ k < j + 1)]
        by_cases h2 : 8 ≤ k ∧ k < 8 + j
        · rw [if_pos h2, if_pos (by omega)]
        · rw [if_neg h2, if_neg (by omega)]
/-- The sixteen words at the start. -/
def mixStart (h : Nat → Int) (t : Int) (last : Bool) : Nat → Int :=
  let f := upd (fill h 8) 12 (x32 (fill h 8 12) (t % 4294967296))
  let f := upd f 13 (x32 (fill h 8 13) (t / 4294967296))
  if last then upd f 14 (x32 IntKind.u32.max (fill h 8 14)) else f
/-- So many rounds. -/
def rows (f m : Nat → Int) : Nat → Nat → Int
  | 0 => f
  | r + 1 => rowF (rows f m r) m (perm r)
/-- The state behind a block. -/
def procF (h m : Nat → Int) (t : Int) (last : Bool) (i : Nat) : Int :=
  x32 (h i) (x32 (rows (mixStart h t last) m 10 i) (rows (mixStart h t last) m 10 (8 + i)))
theorem Tabs.drew {w : World} (h : Tabs w) : Tabs w.drew := ⟨h.lt0, h.lt1, h.ini, h.per⟩
theorem Tabs.only3 {w w' : World} {bk : Nat} (h : Tabs w) (ho : Only bk w w') (h0 : 0 < bk) (h1 : 1 < bk) : Tabs w' :=
  ⟨Nat.lt_of_lt_of_eq h.lt0 ho.size.symm, Nat.lt_of_lt_of_eq h.lt1 ho.size.symm, fun i hi => (World.cell?_of_block (w := w) (ho.block _ (Nat.ne_of_lt h0))).trans (h.ini i hi), fun r hr j v hv => (World.cell?_of_block (w := w) (ho.block _ (Nat.ne_of_lt h1))).trans (h.per r hr j v hv)⟩
theorem words_stored {n : Nat} {w : World} {b : Nat} {f : Nat → Int} (h : Words n w b f) (g : Nat → Int) : Words n (w.setCells b 0 (wordsCells n g)) b g := fun i hi => by
  have h1 := range_setCells (w := w) (b := b) (wordsCells n g) (by rw [wordsCells_length]; exact words_there h) i (.int .u32 (g i)) (by simp [wordsCells, hi])
  rw [Nat.zero_add] at h1
  exact ⟨h1, by rw [World.frozen?_setCells]; exact (h i hi).2⟩
def val8 (f : Nat → Int) : Value := .agg #[.int .u32 (f 0), .int .u32 (f 1), .int .u32 (f 2), .int .u32 (f 3), .int .u32 (f 4), .int .u32 (f 5), .int .u32 (f 6), .int .u32 (f 7)]
theorem val8_cells (f : Nat → Int) : val8 f = .agg (wordsCells 8 f).toArray := rfl

set_option maxRecDepth 100000 in

set_option maxHeartbeats 1000000 in
theorem process27 (q m : Nat → Int) (t : Int) (last : Bool) (w : World) (ht : Tabs w) (ht0 : 0 ≤ t) (ht1 : t < 18446744073709551616) :
    Calls Tryz.prog 67 #[val8 q, wordsVal m, .int .u64 t, .bool last] w fun e w' => e = .returned (val8 (procF q m t last)) ∧ Below w.heap.size w w' := by
  have HT := Lib.hid ht
  clear ht
  unfold val8 wordsVal
  go_enter Tryz.func67, Tryz.ntmps67
  go_wp2_with fail
  generalize hW : World.alloc (World.alloc (World.alloc (World.alloc w _) _) _) _ = w0
  have z1 : ∀ o, (w.alloc o).heap.size = w.heap.size + 1 := fun o => by simp
  have z2 : ∀ o p, ((w.alloc o).alloc p).heap.size = w.heap.size + 1 + 1 := fun o p => by simp
  have z3 : ∀ o p q, (((w.alloc o).alloc p).alloc q).heap.size = w.heap.size + 1 + 1 + 1 := fun o p q => by simp
  have qH : Words 8 w0 w.heap.size q := by
    subst hW
    exact (((words_new8 w q _).below (below_alloc _ _) (by rw [z1]; omega)).below (below_alloc _ _) (by rw [z2]; omega)).below (below_alloc _ _) (by rw [z3]; omega)
  have qM : Words 16 w0 (w.heap.size + 1) m := by
    subst hW
    refine ((Words.below ?_ (below_alloc _ _) (by rw [z2]; omega)).below (below_alloc _ _) (by rw [z3]; omega))
    have := words_new (w.alloc (.cells (wordsCells 8 q).toArray 89)) m 91
    rw [z1] at this
    exact this
  have qR : Words 8 w0 (w.heap.size + 1 + 1) (fun _ => 0) := by
    subst hW
    refine Words.below ?_ (below_alloc _ _) (by rw [z3]; omega)
    have := words_new8 ((w.alloc (.cells (wordsCells 8 q).toArray 89)).alloc (.cells (wordsCells 16 m).toArray 91)) (fun _ => 0) 89
    rw [z2] at this
    exact this
  have qV : Words 16 w0 (w.heap.size + 1 + 1 + 1) (fun _ => 0) := by
    subst hW
    have := words_new (((w.alloc (.cells (wordsCells 8 q).toArray 89)).alloc (.cells (wordsCells 16 m).toArray 91)).alloc (.cells (wordsCells 8 fun _ => 0).toArray 89)) (fun _ => 0) 91
    rw [z3] at this
    exact this
  have L0 : Below w.heap.size w w0 := by subst hW; exact ((((Below.refl _ _).alloc (Nat.le_refl _) _).alloc (by simp) _).alloc (by simp; omega) _).alloc (by simp; omega) _
  have Z0 : w.heap.size + 1 + 1 + 1 < w0.heap.size := by subst hW; simp
  have H0 := Lib.hid qH
  have M0 := Lib.hid qM
  have R0 := Lib.hid qR
  have V0 := Lib.hid (Words.congr qV (g := fill q 0) (fun i _ => by unfold fill; rw [if_neg (by omega), if_neg (by omega)]))
  clear hW qH qM qR qV z1 z2 z3
  generalize (Value.agg #[.int .u32 (q 0), .int .u32 (q 1), .int .u32 (q 2), .int .u32 (q 3), .int .u32 (q 4), .int .u32 (q 5), .int .u32 (q 6), .int .u32 (q 7)]) = vh
  generalize (Value.agg #[.int .u32 (m 0), .int .u32 (m 1), .int .u32 (m 2), .int .u32 (m 3), .int .u32 (m 4), .int .u32 (m 5), .int .u32 (m 6), .int .u32 (m 7), .int .u32 (m 8), .int .u32 (m 9), .int .u32 (m 10), .int .u32 (m 11), .int .u32 (m 12), .int .u32 (m 13), .int .u32 (m 14), .int .u32 (m 15)]) = vm
  generalize hB : w.heap.size = B at *
  have HB := Lib.hid hB
  clear hB
  go_loopw [10, 13] (fun _ i wr => ∃ j : Nat, j ≤ 8 ∧ i = .int .i64 (j : Int) ∧ Hid (Words 8 wr B q) ∧ Hid (Words 16 wr (B + 1) m) ∧ Hid (Words 8 wr (B + 1 + 1) (fun _ => 0)) ∧ Hid (Words 16 wr (B + 1 + 1 + 1) (fill q j)) ∧ B + 1 + 1 + 1 < wr.heap.size ∧ Below B w wr)
    (fun _ i _ => 8 - (intOf i).toNat)
  case atStart => exact ⟨0, by decide, rfl, H0, M0, R0, V0, Z0, L0⟩
  case round =>
    clear H0 M0 R0 V0 L0 Z0
    obtain ⟨j, hj, rfl, H, M, R, V, Z, hb⟩ := hrel
    have T : Hid (Tabs wr) := HT.out.below (by rw [HB.out]; exact hb)
    have g0 : 0 < B := by have := HT.out.lt0; rw [HB.out] at this; exact this
    have g1 : 1 < B := by have := HT.out.lt1; rw [HB.out] at this; exact this
    by_cases hlt : j < 8
    · have cH := (H.out j hlt).1
      have cI := T.out.ini j hlt
      have cV := (V.out j (by omega)).1
      have zV := (V.out j (by omega)).2
      have cW := (V.out (8 + j) (by omega)).1
      have zW := (V.out (8 + j) (by omega)).2
      have d1 : (0 : Int) ≤ (j : Int) := by omega
      have d2 : (j : Int) < 8 := by omega
      have d3 : IntKind.i64.wrap (8 + (j : Int)) = 8 + (j : Int) := IntWalk.i64_in _ (by omega)
      have d4 : (0 : Int) ≤ 8 + (j : Int) := by omega
      have d5 : (8 + (j : Int)).toNat = 8 + j := by omega
      have d6 : 8 + (j : Int) < 16 := by omega
      have d7 : (j : Int) < 16 := by omega
      go_wp2_with fail
      refine region_mix [some (.int .i64 (j : Int)), some (.int .i64 (j : Int)), some (.int .i64 (8 + (j : Int))), some (.int .i64 (j : Int)), some (.pointer (some ⟨B, j, none⟩)), some (.int .u32 (q j)), some (.int .i64 (j : Int)), some (.pointer (some ⟨0, j, none⟩)), some (.int .u32 (iv j)), some (.pointer (some ⟨B + 1 + 1 + 1, j, none⟩)), some (undef), some (.pointer (some ⟨B + 1 + 1 + 1, 8 + j, none⟩)), some (undef)]
        [[false, false, false, false, false, false, false, false, false, false, false, false, false], [false, false, false, false, false, false, false, false, false, false, false, false, false], [false, true, false, false, false, false, false, false, false, false, false, false, false], [false, false, false, false, false, false, false, false, false, false, false, false, false], [false, false, false, true, false, false, false, false, false, false, false, false, false], [false, false, false, false, true, false, false, false, false, false, false, false, false], [false, false, false, false, false, false, false, false, false, false, false, false, false], [false, false, false, false, false, false, true, false, false, false, false, false, false], [false, false, false, false, false, false, false, true, false, false, false, false, false], [true, false, false, true, true, true, false, false, false, false, false, false, false], [true, false, false, true, true, true, false, false, false, true, false, false, false], [true, true, true, true, true, true, true, true, true, true, true, false, false], [true, true, true, true, true, true, true, true, true, true, true, true, false]]
        (fun L x w1 => w1.cell? ⟨B, j, none⟩ = some (.int .u32 (q j)) ∧ w1.cell? ⟨0, j, none⟩ = some (.int .u32 (iv j)) ∧ Hid (Words 8 w1 B q) ∧ Hid (Words 16 w1 (B + 1) m) ∧ Hid (Words 8 w1 (B + 1 + 1) (fun _ => 0)) ∧
          Hid (Words 16 w1 (B + 1 + 1 + 1) (fun k => if k = 8 + j ∧ L 12 = true then iv j else if k = j ∧ L 10 = true then q j else fill q j k)) ∧ B + 1 + 1 + 1 < w1.heap.size ∧ Below B w w1)
        (by kernel_rfl) (by kernel_rfl) (by kernel_rfl) (by kernel_rfl) ?_ ?_ ?_
      · intro _
        refine ⟨cH, cI, H, M, R, V.out.congr (fun i _ => ?_), Z, hb.drew⟩
        simp
      · refine ⟨?_, ?_, ?_, ?_, ?_, ?_, ?_, ?_, ?_, ?_, ?_, ?_, ?_, trivial⟩
        all_goals
          intro L x w1 hS hl hp K hK
          have c1 := hS.1
          have c2 := hS.2.1
          have c3 := hS.2.2.1
          have c4 := hS.2.2.2.1
          have c5 := hS.2.2.2.2.1
          have c6 := hS.2.2.2.2.2.1
          have c7 := hS.2.2.2.2.2.2.1
          have c8 := hS.2.2.2.2.2.2.2
          clear cH cI cV zV cW zW H M R V Z T hb hl hp hS
          replace hK := hK.out
          simp only [actMix, pickV, List.tail_cons, List.headD_cons, Act.put, List.setIfInBounds_toArray, List.set_cons_zero, List.set_cons_succ] at hK ⊢
        iterate 10
          · go_simp
            with_reducible refine hK _ ?_
            exact ⟨c1, c2, c3, c4, c5, c6.out.congr fun i _ => by simp [setL], c7, c8⟩
        · have k1 := (c6.out j (by omega)).1
          have k2 := (c6.out j (by omega)).2
          go_simp
          have hon : Only (B + 1 + 1 + 1) w1 (w1.setCell ⟨B + 1 + 1 + 1, j, none⟩ (.int .u32 (q j))) := (Only.refl _ _).put j _
          with_reducible refine hK _ ?_
          refine ⟨?_, ?_, c3.out.only hon (by omega), c4.out.only hon (by omega), c5.out.only hon (by omega), (c6.out.put j (q j)).congr fun i _ => ?_, by simpa using c7, hon.below c8 (by omega)⟩
          · rw [World.cell?_setCell_far _ _ _ _ (show B + 1 + 1 + 1 ≠ B by omega)]; exact c1
          · rw [World.cell?_setCell_far _ _ _ _ (show B + 1 + 1 + 1 ≠ 0 by omega)]; exact c2
          · unfold upd setL
            by_cases e : i = j
            · subst e; simp
            · simp [e]
        · go_simp
          with_reducible refine hK _ ?_
          exact ⟨c1, c2, c3, c4, c5, c6.out.congr fun i _ => by simp [setL], c7, c8⟩
        · have k1 := (c6.out (8 + j) (by omega)).1
          have k2 := (c6.out (8 + j) (by omega)).2
          go_simp
          have hon : Only (B + 1 + 1 + 1) w1 (w1.setCell ⟨B + 1 + 1 + 1, 8 + j, none⟩ (.int .u32 (iv j))) := (Only.refl _ _).put (8 + j) _
          with_reducible refine hK _ ?_
          refine ⟨?_, ?_, c3.out.only hon (by omega), c4.out.only hon (by omega), c5.out.only hon (by omega), (c6.out.put (8 + j) (iv j)).congr fun i _ => ?_, by simpa using c7, hon.below c8 (by omega)⟩
          · rw [World.cell?_setCell_far _ _ _ _ (show B + 1 + 1 + 1 ≠ B by omega)]; exact c1
          · rw [World.cell?_setCell_far _ _ _ _ (show B + 1 + 1 + 1 ≠ 0 by omega)]; exact c2
          · unfold upd setL
            by_cases e : i = 8 + j
            · subst e; simp
            · simp [e]
      · intro L x w1 hS hL
        have c1 := hS.1
        have c2 := hS.2.1
        have c3 := hS.2.2.1
        have c4 := hS.2.2.2.1
        have c5 := hS.2.2.2.2.1
        have c6 := hS.2.2.2.2.2.1
        have c7 := hS.2.2.2.2.2.2.1
        have c8 := hS.2.2.2.2.2.2.2
        have L10 : L 10 = true := hL 10 (by decide)
        have L12 : L 12 = true := hL 12 (by decide)
        simp only [actMix, pickV, List.tail_cons, List.headD_cons, Act.put, List.setIfInBounds_toArray, List.set_cons_zero, List.set_cons_succ, List.size_toArray, List.length_cons, List.length_nil, List.replicate_succ, List.replicate_zero, Nat.reduceAdd]
        go_wp2_with fail
        go_roundw
        case rel =>
          refine ⟨j + 1, by omega, by go_num, c3, c4, c5, c6.out.congr fun i _ => ?_, c7, c8⟩
          rw [← fill_step q j hlt]
          unfold upd
          simp [L10, L12]
        case measure => simp [intOf]; omega
    · obtain rfl : j = 8 := by omega
      clear hlt hj
      have k1 := (V.out 12 (by decide)).1
      have k2 := (V.out 12 (by decide)).2
      have k3 := (V.out 13 (by decide)).1
      have k4 := (V.out 13 (by decide)).2
      have k5 := (V.out 14 (by decide)).1
      have k6 := (V.out 14 (by decide)).2
      cases last
      all_goals
        go_wp2_with fail
        generalize hW : World.setCell _ _ _ = w2
        generalize (Value.int .i64 ((8 : Nat) : Int)) = v8
      · have hV : Words 16 w2 (B + 1 + 1 + 1) (mixStart q t false) := by subst hW; exact (V.out.put 12 _).put 13 _
        have hon : Only (B + 1 + 1 + 1) wr w2 := by subst hW; exact ((Only.refl _ _).put _ _).put _ _
        have V2 := Lib.hid hV
        have HON := Lib.hid hon
        clear hW hV k1 k2 k3 k4 k5 k6 hon
        have F2 := Lib.hid (show mixStart q t false = mixStart q t false from rfl)
        have H2 := Lib.hid (H.out.only HON.out (by omega))
        have M2 := Lib.hid (M.out.only HON.out (by omega))
        have R2 := Lib.hid (R.out.only HON.out (by omega))
        have L2 := HON.out.below hb (by omega)
        have Z2 : B + 1 + 1 + 1 < w2.heap.size := Nat.lt_of_lt_of_eq Z HON.out.size.symm
        clear H M R V Z hb T HON F2
        go_loopw [11, 46] (fun _ i wr => ∃ r : Nat, r ≤ 10 ∧ i = .int .i64 (r : Int) ∧ Hid (Words 8 wr B q) ∧ Hid (Words 16 wr (B + 1) m) ∧ Hid (Words 8 wr (B + 1 + 1) (fun _ => 0)) ∧ Hid (Words 16 wr (B + 1 + 1 + 1) (rows (mixStart q t false) m r)) ∧ B + 1 + 1 + 1 < wr.heap.size ∧ Below B w wr)
          (fun _ i _ => 10 - (intOf i).toNat)
        case atStart => exact ⟨0, by decide, rfl, H2, M2, R2, V2, Z2, L2⟩
        case round =>
          clear H2 M2 R2 V2 Z2 L2
          obtain ⟨r, hr, rfl, H, M, R, V, Z, hb⟩ := hrel
          have T : Hid (Tabs wr) := HT.out.below (by rw [HB.out]; exact hb)
          by_cases hlt : r < 10
          · obtain ⟨f, hf⟩ : ∃ f, f = rows (mixStart q t false) m r := ⟨_, rfl⟩
            rw [← hf] at V
            have hf' : rows (mixStart q t false) m (r + 1) = rowF f m (perm r) := by rw [hf]; rfl
            have HF := Lib.hid hf'
            clear hf hf'
            have hd : decide ((r : Int) < 10) = true := by simp; omega
            go_wp2_with fail
            refine region_mix [some (wordsVal f), some (wordsVal m), some (.int .i64 (r : Int)), some (.pointer (some ⟨1, r * 16, none⟩)), some (permVal (perm r)), some (wordsVal (rowF f m (perm r))), some (undef)]
              [[false, false, false, false, false, false, false], [false, false, false, false, false, false, false], [false, false, false, false, false, false, false], [false, false, true, false, false, false, false], [false, false, false, true, false, false, false], [true, true, false, false, true, false, false], [true, true, true, true, true, true, false]]
              (fun L x w1 => Hid (Words 8 w1 B q) ∧ Hid (Words 16 w1 (B + 1) m) ∧ Hid (Words 8 w1 (B + 1 + 1) (fun _ => 0)) ∧ Hid (Words 16 w1 (B + 1 + 1 + 1) (if L 6 = true then rowF f m (perm r) else f)) ∧ Hid (Tabs w1) ∧ B + 1 + 1 + 1 < w1.heap.size ∧ Below B w w1 ∧ (L 6 = true → L 0 = true))
              (by kernel_rfl) (by kernel_rfl) (by kernel_rfl) (by kernel_rfl) ?_ ?_ ?_
            · intro _
              exact ⟨H, M, R, Lib.hid (Words.congr V.out.drew (fun i _ => by simp)), Lib.hid T.out.drew, Z, hb.drew, fun h => by cases h⟩
            · refine ⟨?_, ?_, ?_, ?_, ?_, ?_, ?_, trivial⟩
              all_goals
                intro L x w1 hS hl hp K hK
                have c1 := hS.1
                have c2 := hS.2.1
                have c3 := hS.2.2.1
                have c4 := hS.2.2.2.1
                have c5 := hS.2.2.2.2.1
                have c6 := hS.2.2.2.2.2.1
                have c7 := hS.2.2.2.2.2.2.1
                have c8 := hS.2.2.2.2.2.2.2
                clear H M R V Z T hb hS
                replace hK := hK.out
                simp only [actMix, pickV, List.tail_cons, List.headD_cons, Act.put, List.setIfInBounds_toArray, List.set_cons_zero, List.set_cons_succ] at hK ⊢
              · have hL6 : L 6 = false := by
                  cases hL : L 6 with
                  | false => rfl
                  | true => have := c8 hL; rw [hl] at this; cases this
                have c4' : Words 16 w1 (B + 1 + 1 + 1) f := Words.congr c4.out (fun i _ => by simp [hL6])
                rw [if_pos (by rfl)]
                refine wp_load_mid 91 _ rfl (B + 1 + 1 + 1) 0 rfl (wordsCells 16 f) _ (wordsCells_range c4') Tryz.underlying91 rfl (by rw [wordsCells_length]; kernel_rfl) ?_
                rw [← wordsVal_cells]
                simp only [Act.put, List.setIfInBounds_toArray, List.set_cons_zero, List.set_cons_succ]
                with_reducible refine hK _ ?_
                exact ⟨c1, c2, c3, Lib.hid (Words.congr c4.out (fun i _ => by simp [setL])), c5, c6, c7, fun _ => by simp [setL]⟩
              · rw [if_pos (by rfl)]
                refine wp_load_mid 91 _ rfl (B + 1) 0 rfl (wordsCells 16 m) _ (wordsCells_range c2.out) Tryz.underlying91 rfl (by rw [wordsCells_length]; kernel_rfl) ?_
                rw [← wordsVal_cells]
                simp only [Act.put, List.setIfInBounds_toArray, List.set_cons_zero, List.set_cons_succ]
                with_reducible refine hK _ ?_
                exact ⟨c1, c2, c3, Lib.hid (Words.congr c4.out (fun i _ => by simp [setL])), c5, c6, c7, fun h => by simp [setL] at h ⊢; exact c8 h⟩
              · go_simp
                with_reducible refine hK _ ?_
                exact ⟨c1, c2, c3, Lib.hid (Words.congr c4.out (fun i _ => by simp [setL])), c5, c6, c7, fun h => by simp [setL] at h ⊢; exact c8 h⟩
              · have d1 : (0 : Int) ≤ (r : Int) := by omega
                have d2 : (r : Int) < 10 := by omega
                go_simp
                with_reducible refine hK _ ?_
                exact ⟨c1, c2, c3, Lib.hid (Words.congr c4.out (fun i _ => by simp [setL])), c5, c6, c7, fun h => by simp [setL] at h ⊢; exact c8 h⟩
              · rw [if_pos (by rfl)]
                refine wp_load_mid 115 _ rfl 1 (r * 16) rfl (permCells (perm r)) _ (c5.out.per r hlt) Tryz.underlying115 rfl (by rw [permCells_length]; kernel_rfl) ?_
                rw [← permVal_cells]
                simp only [Act.put, List.setIfInBounds_toArray, List.set_cons_zero, List.set_cons_succ]
                with_reducible refine hK _ ?_
                exact ⟨c1, c2, c3, Lib.hid (Words.congr c4.out (fun i _ => by simp [setL])), c5, c6, c7, fun h => by simp [setL] at h ⊢; exact c8 h⟩
              · go_simp
                refine (mixAll47 f m (perm r) (perm_lt r hlt) _).mono ?_
                rintro e w2 ⟨rfl, hb2⟩
                have hlt2 : B + 1 + 1 + 1 < w1.heap.size := c6
                with_reducible refine hK _ ?_
                exact ⟨c1.out.below hb2 (by omega), c2.out.below hb2 (by omega), c3.out.below hb2 (by omega), Lib.hid (Words.congr (c4.out.below hb2 (by omega)) (fun i _ => by simp [setL])), c5.out.below hb2, Nat.lt_of_lt_of_le c6 hb2.size, c7.trans (hb2.mono (by omega)), fun h => by simp [setL] at h ⊢; exact c8 h⟩
              · have hL0 : L 0 = true := allL_mem hp 0 (by decide +kernel)
                rw [if_pos (by rfl)]
                have hth := words_there c4.out
                have hno := words_stored c4.out (rowF f m (perm r))
                have hlen := wordsCells_length 16 (rowF f m (perm r))
                have hone := wordsCells_one 16 (rowF f m (perm r))
                have hon := only_setCells (B + 1 + 1 + 1) (wordsCells 16 (rowF f m (perm r))) 0 w1
                refine wp_store_mid 91 _ _ rfl (B + 1 + 1 + 1) 0 (wordsCells 16 (rowF f m (perm r))).toArray rfl rfl (by rw [List.size_toArray, hlen]; exact hth) (by rw [List.size_toArray, hlen]; kernel_rfl) hone ?_
                simp only [Act.put]
                with_reducible refine hK _ ?_
                exact ⟨c1.out.only hon (by omega), c2.out.only hon (by omega), c3.out.only hon (by omega), Lib.hid (Words.congr hno (fun i _ => by simp [setL])), c5.out.only3 hon (by omega) (by omega), Nat.lt_of_lt_of_eq c6 hon.size.symm, hon.below c7 (by omega), fun _ => by simp [setL]; exact hL0⟩
            · intro L x w1 hS hL
              have c1 := hS.1
              have c2 := hS.2.1
              have c3 := hS.2.2.1
              have c4 := hS.2.2.2.1
              have c5 := hS.2.2.2.2.1
              have c6 := hS.2.2.2.2.2.1
              have c7 := hS.2.2.2.2.2.2.1
              have L6 : L 6 = true := hL 6 (by decide)
              clear H M R V Z T hb hS
              simp only [actMix, pickV, List.tail_cons, List.headD_cons, Act.put, List.setIfInBounds_toArray, List.set_cons_zero, List.set_cons_succ, List.size_toArray, List.length_cons, List.length_nil, List.replicate_succ, List.replicate_zero, Nat.reduceAdd]
              go_wp2_with fail
              go_roundw
              case rel => exact ⟨r + 1, by omega, by go_num, c1, c2, c3, Lib.hid (by rw [HF.out]; exact Words.congr c4.out (fun i _ => by simp [L6])), c6, c7⟩
              case measure => simp [intOf]; omega
          · obtain rfl : r = 10 := by omega
            clear hlt hr
            obtain ⟨f, hf⟩ : ∃ f, f = rows (mixStart q t false) m 10 := ⟨_, rfl⟩
            rw [← hf] at V
            have HF := Lib.hid hf
            clear hf
            go_wp2_with fail
            generalize (Value.int .i64 ((10 : Nat) : Int)) = v10
            have H3 := Lib.hid (Words.congr H.out (g := fun k => if k < 0 then x32 (q k) (x32 (f k) (f (8 + k))) else q k) (fun i _ => rfl))
            have L3 := hb
            have Z3 := Z
            obtain ⟨wo, hwo⟩ : ∃ wo, wo = wr := ⟨_, rfl⟩
            have V3 := V
            have R3 := R
            clear M H V R hb Z T
            subst hwo
            go_loopw [12, 56] (fun _ i wr => ∃ j : Nat, j ≤ 8 ∧ i = .int .i64 (j : Int) ∧ Hid (Words 8 wr B (fun k => if k < j then x32 (q k) (x32 (f k) (f (8 + k))) else q k)) ∧ Hid (Words 8 wr (B + 1 + 1) (fun _ => 0)) ∧ Hid (Words 16 wr (B + 1 + 1 + 1) f) ∧ B + 1 + 1 + 1 < wr.heap.size ∧ Below B w wr)
              (fun _ i _ => 8 - (intOf i).toNat)
            case atStart => exact ⟨0, by decide, rfl, H3, R3, V3, Z3, L3⟩
            case round =>
              clear H3 R3 V3 Z3 L3
              obtain ⟨j, hj, rfl, H, R, V, Z, hb⟩ := hrel
              by_cases hlt : j < 8
              · have cH : wr.cell? ⟨B, j, none⟩ = some (.int .u32 (q j)) := by have := (H.out j hlt).1; simpa using this
                have zH := (H.out j hlt).2
                have cV := (V.out j (by omega)).1
                have cW := (V.out (8 + j) (by omega)).1
                have d2 : (j : Int) < 8 := by omega
                have d3 : IntKind.i64.wrap (8 + (j : Int)) = 8 + (j : Int) := IntWalk.i64_in _ (by omega)
                have d4 : (0 : Int) ≤ 8 + (j : Int) := by omega
                have d5 : (8 + (j : Int)).toNat = 8 + j := by omega
                have d6 : 8 + (j : Int) < 16 := by omega
                have d7 : (j : Int) < 16 := by omega
                go_wp2_with fail
                refine region_tail 12 (by kernel_rfl) (by kernel_rfl) ?_
                simp only [List.take_succ_cons, List.take_zero, List.drop_succ_cons, List.drop_zero]
                repeat still_step
                refine still_tail_nil ?_
                go_wp2_with fail
                have hon : Only B wr (wr.setCell ⟨B, j, none⟩ (.int .u32 (bits .xor .u32 (q j) (bits .xor .u32 (f j) (f (8 + j)))))).drew := ((Only.refl _ _).put _ _).drew
                have H9 := Lib.hid (H.out.put j (bits .xor .u32 (q j) (bits .xor .u32 (f j) (f (8 + j))))).drew
                clear d3 d5 cH zH cV cW
                go_roundw
                case rel =>
                  refine ⟨j + 1, hlt, by go_num, Lib.hid (Words.congr H9.out fun i _ => ?_), R.out.only hon (by omega), V.out.only hon (by omega), Nat.lt_of_lt_of_eq Z hon.size.symm, hon.below hb (Nat.le_refl _)⟩
                  unfold upd
                  by_cases e : i = j
                  · subst e; rw [if_pos rfl, if_pos (by omega)]; rfl
                  · rw [if_neg e]
                    show (if i < j then x32 (q i) (x32 (f i) (f (8 + i))) else q i) = _
                    by_cases h1 : i < j
                    · rw [if_pos h1, if_pos (by omega)]
                    · rw [if_neg h1, if_neg (by omega)]
                case measure => simp [intOf]; omega
              · obtain rfl : j = 8 := by omega
                have hH : Words 8 wr B (procF q m t false) := Words.congr H.out (fun i hi => by rw [if_pos hi, HF.out]; rfl)
                have hrange := wordsCells_range hH
                have hthere := words_there R.out
                have hu := Tryz.underlying89
                have hsz8 : (Tryz.prog.info? 89).map (·.size) = some 8 := by kernel_rfl
                have hlen := wordsCells_length 8 (procF q m t false)
                have hone := wordsCells_one 8 (procF q m t false)
                have hval := val8_cells (procF q m t false)
                unfold val8 at hval
                generalize hcs : wordsCells 8 (procF q m t false) = cs at *
                have hs1 : (Tryz.prog.info? 89).map (·.size) = some cs.length := by rw [hlen]; exact hsz8
                have hs2 : (Tryz.prog.info? 89).map (·.size) = some cs.toArray.size := by rw [List.size_toArray, hlen]; exact hsz8
                have ht2 : wr.there (B + 1 + 1) 0 cs.toArray.size := by rw [List.size_toArray, hlen]; exact hthere
                have ht3 : wr.there (B + 1 + 1) 0 cs.length := by rw [hlen]; exact hthere
                have HT3 := Lib.hid ht3
                have HS := Lib.hid hs1
                have HVAL := Lib.hid hval
                clear hcs hlen hsz8 hH hthere H R V ht3 hval
                go_wp2_with (first
                  | (refine wpList_load_row rfl 89 _ rfl _ rfl cs _ hrange hu rfl hs1 ?_)
                  | (refine wpList_store_row rfl 89 _ _ rfl _ cs.toArray rfl rfl ht2 hs2 hone ?_))
                refine bodyPost_ret (v := .agg cs.toArray) (results_row _ 8 89 rfl _ _ (B + 1 + 1) _ rfl (run_loadVar_mid _ _ 0 _ cs _ (range_setCells cs HT3.out) hu rfl HS.out)) rfl ⟨congrArg Ending.returned HVAL.out.symm, ?_⟩
                rw [HB.out]
                exact (only_setCells (B + 1 + 1) cs 0 wr).below hb (by omega)

      · have hV : Words 16 w2 (B + 1 + 1 + 1) (mixStart q t true) := by subst hW; exact ((V.out.put 12 _).put 13 _).put 14 _
        have hon : Only (B + 1 + 1 + 1) wr w2 := by subst hW; exact (((Only.refl _ _).put _ _).put _ _).put _ _
        have V2 := Lib.hid hV
        have HON := Lib.hid hon
        clear hW hV k1 k2 k3 k4 k5 k6 hon
        have F2 := Lib.hid (show mixStart q t true = mixStart q t true from rfl)
        have H2 := Lib.hid (H.out.only HON.out (by omega))
        have M2 := Lib.hid (M.out.only HON.out (by omega))
        have R2 := Lib.hid (R.out.only HON.out (by omega))
        have L2 := HON.out.below hb (by omega)
        have Z2 : B + 1 + 1 + 1 < w2.heap.size := Nat.lt_of_lt_of_eq Z HON.out.size.symm
        clear H M R V Z hb T HON F2
        go_loopw [11, 46] (fun _ i wr => ∃ r : Nat, r ≤ 10 ∧ i = .int .i64 (r : Int) ∧ Hid (Words 8 wr B q) ∧ Hid (Words 16 wr (B + 1) m) ∧ Hid (Words 8 wr (B + 1 + 1) (fun _ => 0)) ∧ Hid (Words 16 wr (B + 1 + 1 + 1) (rows (mixStart q t true) m r)) ∧ B + 1 + 1 + 1 < wr.heap.size ∧ Below B w wr)
          (fun _ i _ => 10 - (intOf i).toNat)
        case atStart => exact ⟨0, by decide, rfl, H2, M2, R2, V2, Z2, L2⟩
        case round =>
          clear H2 M2 R2 V2 Z2 L2
          obtain ⟨r, hr, rfl, H, M, R, V, Z, hb⟩ := hrel
          have T : Hid (Tabs wr) := HT.out.below (by rw [HB.out]; exact hb)
          by_cases hlt : r < 10
          · obtain ⟨f, hf⟩ : ∃ f, f = rows (mixStart q t true) m r := ⟨_, rfl⟩
            rw [← hf] at V
            have hf' : rows (mixStart q t true) m (r + 1) = rowF f m (perm r) := by rw [hf]; rfl
            have HF := Lib.hid hf'
            clear hf hf'
            have hd : decide ((r : Int) < 10) = true := by simp; omega
            go_wp2_with fail
            refine region_mix [some (wordsVal f), some (wordsVal m), some (.int .i64 (r : Int)), some (.pointer (some ⟨1, r * 16, none⟩)), some (permVal (perm r)), some (wordsVal (rowF f m (perm r))), some (undef)]
              [[false, false, false, false, false, false, false], [false, false, false, false, false, false, false], [false, false, false, false, false, false, false], [false, false, true, false, false, false, false], [false, false, false, true, false, false, false], [true, true, false, false, true, false, false], [true, true, true, true, true, true, false]]
              (fun L x w1 => Hid (Words 8 w1 B q) ∧ Hid (Words 16 w1 (B + 1) m) ∧ Hid (Words 8 w1 (B + 1 + 1) (fun _ => 0)) ∧ Hid (Words 16 w1 (B + 1 + 1 + 1) (if L 6 = true then rowF f m (perm r) else f)) ∧ Hid (Tabs w1) ∧ B + 1 + 1 + 1 < w1.heap.size ∧ Below B w w1 ∧ (L 6 = true → L 0 = true))
              (by kernel_rfl) (by kernel_rfl) (by kernel_rfl) (by kernel_rfl) ?_ ?_ ?_
            · intro _
              exact ⟨H, M, R, Lib.hid (Words.congr V.out.drew (fun i _ => by simp)), Lib.hid T.out.drew, Z, hb.drew, fun h => by cases h⟩
            · refine ⟨?_, ?_, ?_, ?_, ?_, ?_, ?_, trivial⟩
              all_goals
                intro L x w1 hS hl hp K hK
                have c1 := hS.1
                have c2 := hS.2.1
                have c3 := hS.2.2.1
                have c4 := hS.2.2.2.1
                have c5 := hS.2.2.2.2.1
                have c6 := hS.2.2.2.2.2.1
                have c7 := hS.2.2.2.2.2.2.1
                have c8 := hS.2.2.2.2.2.2.2
                clear H M R V Z T hb hS
                replace hK := hK.out
                simp only [actMix, pickV, List.tail_cons, List.headD_cons, Act.put, List.setIfInBounds_toArray, List.set_cons_zero, List.set_cons_succ] at hK ⊢
              · have hL6 : L 6 = false := by
                  cases hL : L 6 with
                  | false => rfl
                  | true => have := c8 hL; rw [hl] at this; cases this
                have c4' : Words 16 w1 (B + 1 + 1 + 1) f := Words.congr c4.out (fun i _ => by simp [hL6])
                rw [if_pos (by rfl)]
                refine wp_load_mid 91 _ rfl (B + 1 + 1 + 1) 0 rfl (wordsCells 16 f) _ (wordsCells_range c4') Tryz.underlying91 rfl (by rw [wordsCells_length]; kernel_rfl) ?_
                rw [← wordsVal_cells]
                simp only [Act.put, List.setIfInBounds_toArray, List.set_cons_zero, List.set_cons_succ]
                with_reducible refine hK _ ?_
                exact ⟨c1, c2, c3, Lib.hid (Words.congr c4.out (fun i _ => by simp [setL])), c5, c6, c7, fun _ => by simp [setL]⟩
              · rw [if_pos (by rfl)]
                refine wp_load_mid 91 _ rfl (B + 1) 0 rfl (wordsCells 16 m) _ (wordsCells_range c2.out) Tryz.underlying91 rfl (by rw [wordsCells_length]; kernel_rfl) ?_
                rw [← wordsVal_cells]
                simp only [Act.put, List.setIfInBounds_toArray, List.set_cons_zero, List.set_cons_succ]
                with_reducible refine hK _ ?_
                exact ⟨c1, c2, c3, Lib.hid (Words.congr c4.out (fun i _ => by simp [setL])), c5, c6, c7, fun h => by simp [setL] at h ⊢; exact c8 h⟩
              · go_simp
                with_reducible refine hK _ ?_
                exact ⟨c1, c2, c3, Lib.hid (Words.congr c4.out (fun i _ => by simp [setL])), c5, c6, c7, fun h => by simp [setL] at h ⊢; exact c8 h⟩
              · have d1 : (0 : Int) ≤ (r : Int) := by omega
                have d2 : (r : Int) < 10 := by omega
                go_simp
                with_reducible refine hK _ ?_
                exact ⟨c1, c2, c3, Lib.hid (Words.congr c4.out (fun i _ => by simp [setL])), c5, c6, c7, fun h => by simp [setL] at h ⊢; exact c8 h⟩
              · rw [if_pos (by rfl)]
                refine wp_load_mid 115 _ rfl 1 (r * 16) rfl (permCells (perm r)) _ (c5.out.per r hlt) Tryz.underlying115 rfl (by rw [permCells_length]; kernel_rfl) ?_
                rw [← permVal_cells]
                simp only [Act.put, List.setIfInBounds_toArray, List.set_cons_zero, List.set_cons_succ]
                with_reducible refine hK _ ?_
                exact ⟨c1, c2, c3, Lib.hid (Words.congr c4.out (fun i _ => by simp [setL])), c5, c6, c7, fun h => by simp [setL] at h ⊢; exact c8 h⟩
              · go_simp
                refine (mixAll47 f m (perm r) (perm_lt r hlt) _).mono ?_
                rintro e w2 ⟨rfl, hb2⟩
                have hlt2 : B + 1 + 1 + 1 < w1.heap.size := c6
                with_reducible refine hK _ ?_
                exact ⟨c1.out.below hb2 (by omega), c2.out.below hb2 (by omega), c3.out.below hb2 (by omega), Lib.hid (Words.congr (c4.out.below hb2 (by omega)) (fun i _ => by simp [setL])), c5.out.below hb2, Nat.lt_of_lt_of_le c6 hb2.size, c7.trans (hb2.mono (by omega)), fun h => by simp [setL] at h ⊢; exact c8 h⟩
              · have hL0 : L 0 = true := allL_mem hp 0 (by decide +kernel)
                rw [if_pos (by rfl)]
                have hth := words_there c4.out
                have hno := words_stored c4.out (rowF f m (perm r))
                have hlen := wordsCells_length 16 (rowF f m (perm r))
                have hone := wordsCells_one 16 (rowF f m (perm r))
                have hon := only_setCells (B + 1 + 1 + 1) (wordsCells 16 (rowF f m (perm r))) 0 w1
                refine wp_store_mid 91 _ _ rfl (B + 1 + 1 + 1) 0 (wordsCells 16 (rowF f m (perm r))).toArray rfl rfl (by rw [List.size_toArray, hlen]; exact hth) (by rw [List.size_toArray, hlen]; kernel_rfl) hone ?_
                simp only [Act.put]
                with_reducible refine hK _ ?_
                exact ⟨c1.out.only hon (by omega), c2.out.only hon (by omega), c3.out.only hon (by omega), Lib.hid (Words.congr hno (fun i _ => by simp [setL])), c5.out.only3 hon (by omega) (by omega), Nat.lt_of_lt_of_eq c6 hon.size.symm, hon.below c7 (by omega), fun _ => by simp [setL]; exact hL0⟩
            · intro L x w1 hS hL
              have c1 := hS.1
              have c2 := hS.2.1
              have c3 := hS.2.2.1
              have c4 := hS.2.2.2.1
              have c5 := hS.2.2.2.2.1
              have c6 := hS.2.2.2.2.2.1
              have c7 := hS.2.2.2.2.2.2.1
              have L6 : L 6 = true := hL 6 (by decide)
              clear H M R V Z T hb hS
              simp only [actMix, pickV, List.tail_cons, List.headD_cons, Act.put, List.setIfInBounds_toArray, List.set_cons_zero, List.set_cons_succ, List.size_toArray, List.length_cons, List.length_nil, List.replicate_succ, List.replicate_zero, Nat.reduceAdd]
              go_wp2_with fail
              go_roundw
              case rel => exact ⟨r + 1, by omega, by go_num, c1, c2, c3, Lib.hid (by rw [HF.out]; exact Words.congr c4.out (fun i _ => by simp [L6])), c6, c7⟩
              case measure => simp [intOf]; omega
          · obtain rfl : r = 10 := by omega
            clear hlt hr
            obtain ⟨f, hf⟩ : ∃ f, f = rows (mixStart q t true) m 10 := ⟨_, rfl⟩
            rw [← hf] at V
            have HF := Lib.hid hf
            clear hf
            go_wp2_with fail
            generalize (Value.int .i64 ((10 : Nat) : Int)) = v10
            have H3 := Lib.hid (Words.congr H.out (g := fun k => if k < 0 then x32 (q k) (x32 (f k) (f (8 + k))) else q k) (fun i _ => rfl))
            have L3 := hb
            have Z3 := Z
            obtain ⟨wo, hwo⟩ : ∃ wo, wo = wr := ⟨_, rfl⟩
            have V3 := V
            have R3 := R
            clear M H V R hb Z T
            subst hwo
            go_loopw [12, 56] (fun _ i wr => ∃ j : Nat, j ≤ 8 ∧ i = .int .i64 (j : Int) ∧ Hid (Words 8 wr B (fun k => if k < j then x32 (q k) (x32 (f k) (f (8 + k))) else q k)) ∧ Hid (Words 8 wr (B + 1 + 1) (fun _ => 0)) ∧ Hid (Words 16 wr (B + 1 + 1 + 1) f) ∧ B + 1 + 1 + 1 < wr.heap.size ∧ Below B w wr)
              (fun _ i _ => 8 - (intOf i).toNat)
            case atStart => exact ⟨0, by decide, rfl, H3, R3, V3, Z3, L3⟩
            case round =>
              clear H3 R3 V3 Z3 L3
              obtain ⟨j, hj, rfl, H, R, V, Z, hb⟩ := hrel
              by_cases hlt : j < 8
              · have cH : wr.cell? ⟨B, j, none⟩ = some (.int .u32 (q j)) := by have := (H.out j hlt).1; simpa using this
                have zH := (H.out j hlt).2
                have cV := (V.out j (by omega)).1
                have cW := (V.out (8 + j) (by omega)).1
                have d2 : (j : Int) < 8 := by omega
                have d3 : IntKind.i64.wrap (8 + (j : Int)) = 8 + (j : Int) := IntWalk.i64_in _ (by omega)
                have d4 : (0 : Int) ≤ 8 + (j : Int) := by omega
                have d5 : (8 + (j : Int)).toNat = 8 + j := by omega
                have d6 : 8 + (j : Int) < 16 := by omega
                have d7 : (j : Int) < 16 := by omega
                go_wp2_with fail
                refine region_tail 12 (by kernel_rfl) (by kernel_rfl) ?_
                simp only [List.take_succ_cons, List.take_zero, List.drop_succ_cons, List.drop_zero]
                repeat still_step
                refine still_tail_nil ?_
                go_wp2_with fail
                have hon : Only B wr (wr.setCell ⟨B, j, none⟩ (.int .u32 (bits .xor .u32 (q j) (bits .xor .u32 (f j) (f (8 + j)))))).drew := ((Only.refl _ _).put _ _).drew
                have H9 := Lib.hid (H.out.put j (bits .xor .u32 (q j) (bits .xor .u32 (f j) (f (8 + j))))).drew
                clear d3 d5 cH zH cV cW
                go_roundw
                case rel =>
                  refine ⟨j + 1, hlt, by go_num, Lib.hid (Words.congr H9.out fun i _ => ?_), R.out.only hon (by omega), V.out.only hon (by omega), Nat.lt_of_lt_of_eq Z hon.size.symm, hon.below hb (Nat.le_refl _)⟩
                  unfold upd
                  by_cases e : i = j
                  · subst e; rw [if_pos rfl, if_pos (by omega)]; rfl
                  · rw [if_neg e]
                    show (if i < j then x32 (q i) (x32 (f i) (f (8 + i))) else q i) = _
                    by_cases h1 : i < j
                    · rw [if_pos h1, if_pos (by omega)]
                    · rw [if_neg h1, if_neg (by omega)]
                case measure => simp [intOf]; omega
              · obtain rfl : j = 8 := by omega
                have hH : Words 8 wr B (procF q m t true) := Words.congr H.out (fun i hi => by rw [if_pos hi, HF.out]; rfl)
                have hrange := wordsCells_range hH
                have hthere := words_there R.out
                have hu := Tryz.underlying89
                have hsz8 : (Tryz.prog.info? 89).map (·.size) = some 8 := by kernel_rfl
                have hlen := wordsCells_length 8 (procF q m t true)
                have hone := wordsCells_one 8 (procF q m t true)
                have hval := val8_cells (procF q m t true)
                unfold val8 at hval
                generalize hcs : wordsCells 8 (procF q m t true) = cs at *
                have hs1 : (Tryz.prog.info? 89).map (·.size) = some cs.length := by rw [hlen]; exact hsz8
                have hs2 : (Tryz.prog.info? 89).map (·.size) = some cs.toArray.size := by rw [List.size_toArray, hlen]; exact hsz8
                have ht2 : wr.there (B + 1 + 1) 0 cs.toArray.size := by rw [List.size_toArray, hlen]; exact hthere
                have ht3 : wr.there (B + 1 + 1) 0 cs.length := by rw [hlen]; exact hthere
                have HT3 := Lib.hid ht3
                have HS := Lib.hid hs1
                have HVAL := Lib.hid hval
                clear hcs hlen hsz8 hH hthere H R V ht3 hval
                go_wp2_with (first
                  | (refine wpList_load_row rfl 89 _ rfl _ rfl cs _ hrange hu rfl hs1 ?_)
                  | (refine wpList_store_row rfl 89 _ _ rfl _ cs.toArray rfl rfl ht2 hs2 hone ?_))
                refine bodyPost_ret (v := .agg cs.toArray) (results_row _ 8 89 rfl _ _ (B + 1 + 1) _ rfl (run_loadVar_mid _ _ 0 _ cs _ (range_setCells cs HT3.out) hu rfl HS.out)) rfl ⟨congrArg Ending.returned HVAL.out.symm, ?_⟩
                rw [HB.out]
                exact (only_setCells (B + 1 + 1) cs 0 wr).below hb (by omega)

end Go.Proofs.YtllmlngfmcbaaaaGreatDoor
