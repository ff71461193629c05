/- BLAKE2s, the program's own: Sum. -/
import Derived.Test.YtllmlngfmcbaaaaGreatDoorBProc
import Derived.Test.YtllmlngfmcbaaaaGreatDoorRegT
import Derived.Test.YtllmlngfmcbaaaaGreatDoorJoin
import Derived.Lib.IndexBytes
namespace Go.Proofs.YtllmlngfmcbaaaaGreatDoor
open Go.RowKit Go.Lib

theorem extract_list' (t : ByteArray) (a b : Nat) : t.extract a b = ⟨((t.data.toList.drop a).take (b - a)).toArray⟩ := by
  have h : (t.extract a b).data = t.data.extract a b := ByteArray.data_extract
  have h2 : (t.data.extract a b).toList = (t.data.toList.drop a).take (b - a) := by simp [Array.toList_extract]
  rw [← h2, ← h]
/-- The state at the start. -/
def blake0 : Nat → Int := upd iv 0 (x32 (iv 0) 16842784)
/-- So many full blocks. -/
def absB (l : List UInt8) : Nat → Nat → Int
  | 0 => blake0
  | k + 1 => procF (absB l k) (wordsOf (l.drop (64 * k))) (((64 * k : Nat) : Int) + 64) false
/-- BLAKE2s: the state at the end. -/
def blakeF (l : List UInt8) : Nat → Int :=
  procF (absB l ((l.length - 1) / 64)) (wordsOf (l.drop (64 * ((l.length - 1) / 64)))) (l.length : Int) true
/-- BLAKE2s: the bytes. -/
def blakeB (l : List UInt8) : Nat → Int := byteOf (blakeF l)

set_option maxRecDepth 100000 in
set_option maxHeartbeats 1000000 in
theorem bsum12 (a : Option Addr) (c : Nat) (xs : List ByteArray) (w : World) (ht : Tabs w) (h : IsStrs w a c xs) (hn : xs.length ≤ 140737488355328) (hl : (flat xs).length ≤ 140737488355328) :
    Calls Tryz.prog 49 #[.slice a xs.length c] w fun e w' => e = .returned (.agg (bytesCells 32 (blakeB (flat xs))).toArray) ∧ Below w.heap.size w w' := by
  have glt0 := ht.lt0
  have glt1 := ht.lt1
  have HT := Lib.hid ht
  have HX := Lib.hid h
  clear ht h
  go_enter Tryz.func49, Tryz.ntmps49
  go_wp2_with fail
  generalize hW : World.alloc w _ = W
  have hb : Below w.heap.size w W := by subst hW; exact ((Below.refl _ _).alloc (Nat.le_refl _) _)
  have hz : w.heap.size < W.heap.size := by subst hW; simp
  have hO : Bytes 32 W w.heap.size (fun _ => 0) := by subst hW; exact bytes_zero w 32 60
  have HO := Lib.hid hO
  clear hW hO
  refine (join25 W a c xs (HX.out.below hb) hn hl).mono ?_
  rintro e w1 ⟨rfl, hb1⟩
  have T1 : Hid (Tabs w1) := (HT.out.below hb).below hb1
  have O1 : Hid (Bytes 32 w1 w.heap.size (fun _ => 0)) := HO.out.below hb1 hz
  have hbel : Below w.heap.size w w1 := hb.trans (hb1.mono (Nat.le_of_lt hz))
  have hz1 := Nat.lt_of_lt_of_le hz hb1.size
  clear hb hz hb1 HO HT HX
  obtain ⟨s, hs⟩ : ∃ s : ByteArray, s = ⟨(flat xs).toArray⟩ := ⟨_, rfl⟩
  have hsl : s.data.toList = flat xs := by rw [hs]
  rw [← hs]
  have hsz : s.size ≤ 140737488355328 := by rw [Lib.size_eq, hsl]; exact hl
  have HSL := Lib.hid hsl
  clear hs hl hn hsl
  have hrange : w1.rangeAt 0 0 (wordsCells 8 iv) := fun j v hv => by
    have hj : j < 8 := by
      have := (List.getElem?_eq_some_iff.1 hv).1
      rwa [wordsCells_length] at this
    have h1 : (wordsCells 8 iv)[j]? = some (.int .u32 (iv j)) := by simp [wordsCells, hj]
    obtain rfl : Value.int .u32 (iv j) = v := Option.some.inj (h1.symm.trans hv)
    rw [Nat.zero_add]
    exact T1.out.ini j hj
  have hu := Tryz.underlying89
  have hsz8 : (Tryz.prog.info? 89).map (·.size) = some 8 := by kernel_rfl
  have hlen := wordsCells_length 8 iv
  have hone := wordsCells_one 8 iv
  have hone0 : ((wordsCells 8 fun _ => 0).toArray).all (·.oneCell') = true := wordsCells_one 8 _
  have hs1 : (Tryz.prog.info? 89).map (·.size) = some (wordsCells 8 iv).length := by rw [hlen]; exact hsz8
  have hs2 : (Tryz.prog.info? 89).map (·.size) = some (wordsCells 8 iv).toArray.size := by rw [List.size_toArray, hlen]; exact hsz8
  have ht2 : (w1.alloc (.cells (wordsCells 8 fun _ => 0).toArray 89)).there w1.heap.size 0 (wordsCells 8 iv).toArray.size := by
    have h8 : (wordsCells 8 iv).toArray.size = 8 := by rw [List.size_toArray, hlen]
    rw [h8]
    exact words_there (words_new8 w1 (fun _ => 0) 89)
  have c0 := (words_stored (words_new8 w1 (fun _ => 0) 89) iv 0 (by decide)).1
  have z0 := (words_stored (words_new8 w1 (fun _ => 0) 89) iv 0 (by decide)).2
  have hst := words_stored (words_new8 w1 (fun _ => 0) 89) iv
  generalize hcs : wordsCells 8 iv = cs at *
  go_wp2_with (first
    | (refine wpList_load_row rfl 89 _ rfl _ rfl cs _ hrange hu rfl hs1 ?_)
    | (refine wpList_store_row rfl 89 _ _ rfl _ cs.toArray rfl rfl ht2 hs2 hone ?_))
  generalize hW : World.setCell _ _ _ = w2
  have V2 : Hid (Words 8 w2 w1.heap.size blake0) := by subst hW; exact hst.put 0 _
  have hon := only_setCells w1.heap.size cs 0 (w1.alloc (.cells (wordsCells 8 fun _ => 0).toArray 89))
  have hon2 : Only w1.heap.size (w1.alloc (.cells (wordsCells 8 fun _ => 0).toArray 89)) w2 := by subst hW; exact hon.put 0 _
  have L2 : Below w1.heap.size w1 w2 := hon2.below (below_alloc _ _) (Nat.le_refl _)
  have T2 : Hid (Tabs w2) := T1.out.below L2
  have O2 : Hid (Bytes 32 w2 w.heap.size (fun _ => 0)) := O1.out.below L2 hz1
  have Z2 : w1.heap.size < w2.heap.size := by rw [hon2.size]; simp
  have B2 : Below w.heap.size w w2 := hbel.trans (L2.mono (Nat.le_of_lt hz1))
  clear hW hon hon2 L2 c0 z0 hst hrange hs1 hs2 ht2 hone hlen hcs T1 O1 hbel hone0
  generalize hB1 : w1.heap.size = B1 at *
  generalize hB0 : w.heap.size = B0 at *
  have T1lt0 : Hid (0 < B0) := glt0
  have T1lt1 : Hid (1 < B0) := glt1
  have HB0 := Lib.hid hB0
  clear hB1 hB0 glt0 glt1
  have lt0 : B0 < B1 := hz1
  clear hz1
  generalize (Value.agg cs.toArray) = vcs
  generalize bits BinOp.xor IntKind.u32 (iv 0) 16842784 = v11
  generalize iv 0 = v10
  go_loopw [5] (fun i wr => ∃ k : Nat, (k = 0 ∨ 64 * k < s.size) ∧ i = .int .i64 ((64 * k : Nat) : Int) ∧ Hid (Words 8 wr B1 (absB s.data.toList k)) ∧ Hid (Tabs wr) ∧ Hid (Bytes 32 wr B0 (fun _ => 0)) ∧ B1 < wr.heap.size ∧ Below B0 w wr)
    (fun i _ => s.size - (RowKit.intOf i).toNat)
  case atStart => exact ⟨0, .inl rfl, rfl, V2, T2, O2, Z2, B2⟩
  case round =>
    clear V2 T2 O2 Z2 B2
    obtain ⟨k, hk, rfl, V, T, O, Z, hb⟩ := hrel
    obtain ⟨d, hd⟩ : ∃ d, d = 64 * k := ⟨_, rfl⟩
    rw [← hd] at hk ⊢
    have hk0 : k = 0 → d = 0 := fun h => by rw [hd, h]
    have HD := Lib.hid hd
    clear hd
    have hds : d ≤ s.size := by
      rcases hk with h | h
      · have := hk0 h; omega
      · omega
    have j1 : (0 : Int) ≤ (d : Int) := by omega
    have j2 : (d : Int) ≤ s.size := by omega
    have j3 : IntKind.i64.wrap ((d : Int) + 64) = (d : Int) + 64 := IntWalk.i64_in _ (by omega)
    have j4 : IntKind.i64.wrap ((s.size : Int) - d) = (s.size : Int) - d := IntWalk.i64_in _ (by omega)
    have he : s.extract d s.size = ⟨(s.data.toList.drop d).toArray⟩ := by
      rw [extract_list', List.take_of_length_le (by rw [List.length_drop, ← Lib.size_eq]; omega)]
    have HK0 := Lib.hid hk0
    clear hk0
    obtain ⟨f, hf⟩ : ∃ f, f = absB s.data.toList k := ⟨_, rfl⟩
    rw [← hf] at V
    have hf' : absB s.data.toList (k + 1) = procF f (wordsOf (s.data.toList.drop d)) ((d : Int) + 64) false := by rw [hf, HD.out]; rfl
    have HF' := Lib.hid hf'
    have HF := Lib.hid hf
    clear hf hf'
    by_cases hlt : d + 64 < s.size
    · have j5 : (64 : Int) < (s.size : Int) - d := by omega
      have j6 : decide ((64 : Int) < (s.size : Int) - d) = true := by simp; omega
      have j7 : IntKind.u64.wrap ((d : Int) + 64) = ((d : Int) + 64) := by rw [IntKind.wrap_u64]; omega
      go_wp2_with fail
      refine region_mixt 9 [some (val8 f), some (.string s), some (.int .i64 (d : Int)), some (.string ⟨(s.data.toList.drop d).toArray⟩), some (wordsVal (wordsOf (s.data.toList.drop d))), some (.int .i64 (d : Int)), some (.int .i64 ((d : Int) + 64)), some (.int .u64 ((d : Int) + 64)), some (val8 (procF f (wordsOf (s.data.toList.drop d)) ((d : Int) + 64) false))]
        [[false, false, false, false, false, false, false, false, false], [false, false, false, false, false, false, false, false, false], [false, false, false, false, false, false, false, false, false], [false, true, true, false, false, false, false, false, false], [false, false, false, true, false, false, false, false, false], [false, false, false, false, false, false, false, false, false], [false, false, false, false, false, true, false, false, false], [false, false, false, false, false, false, true, false, false], [true, false, false, false, true, false, false, true, false]]
        (fun L x w1 => Hid (Words 8 w1 B1 f) ∧ Hid (Tabs w1) ∧ Hid (Bytes 32 w1 B0 (fun _ => 0)) ∧ B1 < w1.heap.size ∧ Below B0 w w1)
        (by kernel_rfl) (by kernel_rfl) (by kernel_rfl) (by kernel_rfl) (by kernel_rfl) (by decide) ?_ ?_ ?_
      · intro _
        exact ⟨V.out.drew, Lib.hid T.out.drew, O, Z, hb.drew⟩
      · simp only [List.take_succ_cons, List.take_zero]
        refine ⟨?_, ?_, ?_, ?_, ?_, ?_, ?_, ?_, ?_, trivial⟩
        all_goals
          intro L x w1 hS hl hp K hK
          have c1 := hS.1
          have c2 := hS.2.1
          have c3 := hS.2.2.1
          have c4 := hS.2.2.2.1
          have c5 := hS.2.2.2.2
          clear V T O Z hb hl hp
          replace hK := hK.out
          simp only [actMix, pickV, List.tail_cons, List.headD_cons, Act.put, List.setIfInBounds_toArray, List.set_cons_zero, List.set_cons_succ] at hK ⊢
        · clear hS
          rw [if_pos (by rfl)]
          refine wp_load_mid 89 _ rfl B1 0 rfl (wordsCells 8 f) _ (wordsCells_range c1.out) Tryz.underlying89 rfl (by rw [wordsCells_length]; kernel_rfl) ?_
          rw [← val8_cells]
          simp only [Act.put, List.setIfInBounds_toArray, List.set_cons_zero, List.set_cons_succ]
          with_reducible refine hK _ ?_
          exact ⟨c1, c2, c3, c4, c5⟩
        iterate 3
          · clear hS
            go_simp
            with_reducible refine hK _ ?_
            exact ⟨c1, c2, c3, c4, c5⟩
        · clear hS
          go_simp
          refine (block36 _ _).mono ?_
          rintro e w2 ⟨rfl, hb2⟩
          with_reducible refine hK _ ?_
          exact ⟨Lib.hid (c1.out.below hb2 c4), c2.out.below hb2, c3.out.below hb2 (by omega), Nat.lt_of_lt_of_le c4 hb2.size, c5.trans (hb2.mono (by omega))⟩
        iterate 3
          · clear hS
            go_simp
            with_reducible refine hK _ ?_
            exact ⟨c1, c2, c3, c4, c5⟩
        · clear hS
          go_simp
          refine (process27 f _ _ false _ c2.out (by omega) (by omega)).mono ?_
          rintro e w2 ⟨rfl, hb2⟩
          with_reducible refine hK _ ?_
          exact ⟨Lib.hid (c1.out.below hb2 c4), c2.out.below hb2, c3.out.below hb2 (by omega), Nat.lt_of_lt_of_le c4 hb2.size, c5.trans (hb2.mono (by omega))⟩
      · intro L x w1 hS hL
        have c1 := hS.1
        have c2 := hS.2.1
        have c3 := hS.2.2.1
        have c4 := hS.2.2.2.1
        have c5 := hS.2.2.2.2
        clear V T O Z hb hS hL
        simp only [actMix, pickV, List.tail_cons, List.headD_cons, Act.put, List.setIfInBounds_toArray, List.set_cons_zero, List.set_cons_succ, List.replicate_succ, List.replicate_zero, List.drop_succ_cons, List.drop_zero, List.take_succ_cons, List.take_zero]
        obtain ⟨g, hg⟩ : ∃ g, g = procF f (wordsOf (s.data.toList.drop d)) ((d : Int) + 64) false := ⟨_, rfl⟩
        rw [← hg]
        have hth := words_there c1.out
        have hlen := wordsCells_length 8 g
        have hone := wordsCells_one 8 g
        have hno := Lib.hid (words_stored c1.out g)
        have hon := only_setCells B1 (wordsCells 8 g) 0 w1
        have hs2 : (Tryz.prog.info? 89).map (·.size) = some (wordsCells 8 g).toArray.size := by rw [List.size_toArray, hlen]; kernel_rfl
        have h8 : (wordsCells 8 g).toArray.size = 8 := by rw [List.size_toArray, hlen]
        have ht2 : w1.there B1 0 (wordsCells 8 g).toArray.size := by rw [h8]; exact hth
        rw [val8_cells g]
        have HG := Lib.hid hg
        clear hg hth hlen h8
        generalize wordsCells 8 g = cs at *
        generalize val8 f = vf
        go_wp2_with (refine wpList_store_row rfl 89 _ _ rfl _ cs.toArray rfl rfl ht2 hs2 hone ?_)
        go_roundw
        case rel =>
          refine ⟨k + 1, .inr ?_, ?_, ?_, c2.out.only3 hon (by have := T1lt0.out; omega) (by have := T1lt1.out; omega), c3.out.only hon (by omega), Nat.lt_of_lt_of_eq c4 hon.size.symm, hon.below c5 (by omega)⟩
          · have := HD.out; omega
          · have := HD.out
            rw [show 64 * (k + 1) = d + 64 by omega]
            go_num
          · rw [HF'.out, ← HG.out]; exact hno
        case measure =>
          have := HD.out
          simp [RowKit.intOf]; omega
    · have j6 : decide ((64 : Int) < (s.size : Int) - d) = false := by simp; omega
      have j7 : IntKind.u64.wrap (s.size : Int) = (s.size : Int) := by rw [IntKind.wrap_u64]; omega
      have hkk : k = (s.data.toList.length - 1) / 64 := by
        have := HD.out
        rw [← Lib.size_eq]
        rcases hk with h | h <;> omega
      have hfin : blakeF s.data.toList = procF f (wordsOf (s.data.toList.drop d)) (s.size : Int) true := by
        unfold blakeF
        rw [← hkk, ← HD.out, ← HF.out, ← Lib.size_eq]
      have HFIN := Lib.hid hfin
      have J7 := Lib.hid j7
      clear hfin hkk HF' j7
      go_wp2_with fail
      refine region_mixt 10 [some (val8 f), some (.string s), some (.int .i64 (d : Int)), some (.string ⟨(s.data.toList.drop d).toArray⟩), some (wordsVal (wordsOf (s.data.toList.drop d))), some (.string s), some (.int .i64 (s.size : Int)), some (.int .u64 (s.size : Int)), some (val8 (procF f (wordsOf (s.data.toList.drop d)) (s.size : Int) true)), some (.agg (bytesCells 32 (byteOf (procF f (wordsOf (s.data.toList.drop d)) (s.size : Int) true))).toArray)]
        [[false, false, false, false, false, false, false, false, false, false], [false, false, false, false, false, false, false, false, false, false], [false, false, false, false, false, false, false, false, false, false], [false, true, true, false, false, false, false, false, false, false], [false, false, false, true, false, false, false, false, false, false], [false, false, false, false, false, false, false, false, false, false], [false, false, false, false, false, true, false, false, false, false], [false, false, false, false, false, false, true, false, false, false], [true, false, false, false, true, false, false, true, false, false], [false, false, false, false, false, false, false, false, true, false]]
        (fun L x w1 => Hid (Words 8 w1 B1 f) ∧ Hid (Tabs w1) ∧ Hid (Bytes 32 w1 B0 (fun _ => 0)) ∧ B1 < w1.heap.size ∧ Below B0 w w1)
        (by kernel_rfl) (by kernel_rfl) (by kernel_rfl) (by kernel_rfl) (by kernel_rfl) (by decide) ?_ ?_ ?_
      · intro _
        exact ⟨V.out.drew, Lib.hid T.out.drew, O, Z, hb.drew⟩
      · simp only [List.take_succ_cons, List.take_zero]
        refine ⟨?_, ?_, ?_, ?_, ?_, ?_, ?_, ?_, ?_, ?_, trivial⟩
        all_goals
          intro L x w1 hS hl hp K hK
          have c1 := hS.1
          have c2 := hS.2.1
          have c3 := hS.2.2.1
          have c4 := hS.2.2.2.1
          have c5 := hS.2.2.2.2
          clear V T O Z hb hl hp
          replace hK := hK.out
          simp only [actMix, pickV, List.tail_cons, List.headD_cons, Act.put, List.setIfInBounds_toArray, List.set_cons_zero, List.set_cons_succ] at hK ⊢
        · clear hS
          rw [if_pos (by rfl)]
          refine wp_load_mid 89 _ rfl B1 0 rfl (wordsCells 8 f) _ (wordsCells_range c1.out) Tryz.underlying89 rfl (by rw [wordsCells_length]; kernel_rfl) ?_
          rw [← val8_cells]
          simp only [Act.put, List.setIfInBounds_toArray, List.set_cons_zero, List.set_cons_succ]
          with_reducible refine hK _ ?_
          exact ⟨c1, c2, c3, c4, c5⟩
        iterate 3
          · clear hS
            go_simp
            with_reducible refine hK _ ?_
            exact ⟨c1, c2, c3, c4, c5⟩
        · clear hS
          go_simp
          refine (block36 _ _).mono ?_
          rintro e w2 ⟨rfl, hb2⟩
          with_reducible refine hK _ ?_
          exact ⟨Lib.hid (c1.out.below hb2 c4), c2.out.below hb2, c3.out.below hb2 (by omega), Nat.lt_of_lt_of_le c4 hb2.size, c5.trans (hb2.mono (by omega))⟩
        iterate 2
          · clear hS
            go_simp
            with_reducible refine hK _ ?_
            exact ⟨c1, c2, c3, c4, c5⟩
        · clear hS
          have j7 := J7.out
          go_simp
          with_reducible refine hK _ ?_
          exact ⟨c1, c2, c3, c4, c5⟩
        · clear hS
          go_simp
          refine (process27 f _ _ true _ c2.out (by omega) (by omega)).mono ?_
          rintro e w2 ⟨rfl, hb2⟩
          with_reducible refine hK _ ?_
          exact ⟨Lib.hid (c1.out.below hb2 c4), c2.out.below hb2, c3.out.below hb2 (by omega), Nat.lt_of_lt_of_le c4 hb2.size, c5.trans (hb2.mono (by omega))⟩
        · clear hS
          go_simp
          refine (bytes37 (procF f (wordsOf (s.data.toList.drop d)) (s.size : Int) true) _).mono ?_
          rintro e w2 ⟨rfl, hb2⟩
          with_reducible refine hK _ ?_
          exact ⟨Lib.hid (c1.out.below hb2 c4), c2.out.below hb2, c3.out.below hb2 (by omega), Nat.lt_of_lt_of_le c4 hb2.size, c5.trans (hb2.mono (by omega))⟩
      · intro L x w1 hS hL
        have c1 := hS.1
        have c2 := hS.2.1
        have c3 := hS.2.2.1
        have c4 := hS.2.2.2.1
        have c5 := hS.2.2.2.2
        clear V T O Z hb hS hL
        simp only [actMix, pickV, List.tail_cons, List.headD_cons, Act.put, List.setIfInBounds_toArray, List.set_cons_zero, List.set_cons_succ, List.replicate_succ, List.replicate_zero, List.drop_succ_cons, List.drop_zero, List.take_succ_cons, List.take_zero]
        obtain ⟨g, hg⟩ : ∃ g, g = procF f (wordsOf (s.data.toList.drop d)) (s.size : Int) true := ⟨_, rfl⟩
        rw [← hg]
        have hfin2 : blakeB s.data.toList = byteOf g := by unfold blakeB; rw [HFIN.out, hg]
        rw [HSL.out] at hfin2
        have hth := bytes_there c3.out
        have hlen := bytesCells_length 32 (byteOf g)
        have hone : (bytesCells 32 (byteOf g)).toArray.all (·.oneCell') = true := by
          rw [Array.all_eq_true_iff_forall_mem]
          intro v hv
          simp [bytesCells] at hv
          obtain ⟨i, _, rfl⟩ := hv
          rfl
        have hon := only_setCells B0 (bytesCells 32 (byteOf g)) 0 w1
        have hu := Tryz.underlying60
        have hsz32 : (Tryz.prog.info? 60).map (·.size) = some (bytesCells 32 (byteOf g)).length := by rw [hlen]; kernel_rfl
        have hs2 : (Tryz.prog.info? 60).map (·.size) = some (bytesCells 32 (byteOf g)).toArray.size := by rw [List.size_toArray]; exact hsz32
        have h8 : (bytesCells 32 (byteOf g)).toArray.size = 32 := by rw [List.size_toArray, hlen]
        have ht2 : w1.there B0 0 (bytesCells 32 (byteOf g)).toArray.size := by rw [h8]; exact hth
        have ht3 : w1.there B0 0 (bytesCells 32 (byteOf g)).length := by rw [hlen]; exact hth
        have HT3 := Lib.hid ht3
        have HS := Lib.hid hsz32
        have HV := Lib.hid (congrArg (fun q => Ending.returned (.agg (bytesCells 32 q).toArray)) hfin2)
        clear hg hth hlen h8 ht3 hfin2 hsz32
        generalize bytesCells 32 (byteOf g) = cs at *
        generalize val8 f = vf
        generalize val8 g = vg
        go_wp2_with (refine wpList_store_row rfl 60 _ _ rfl _ cs.toArray rfl rfl ht2 hs2 hone ?_)
        refine bodyPost_ret (v := .agg cs.toArray) (results_row _ 2 60 rfl _ _ B0 _ rfl (run_loadVar_mid _ _ 0 _ cs _ (range_setCells cs HT3.out) hu rfl HS.out)) rfl ⟨HV.out.symm, ?_⟩
        rw [HB0.out]
        exact hon.below c5 (Nat.le_refl _)
end Go.Proofs.YtllmlngfmcbaaaaGreatDoor
