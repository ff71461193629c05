/- stewardlaw24.Is (written by genplx.py). -/
import Derived.Test.YtoikgphbicnhaabPlW
import Derived.Test.YtoikgphbicnhaabMx
import Derived.Laws.StructEq
namespace Go.Proofs.Ytoikgphbicnhaab
open Go.RowKit Go.Maps Go.Shelf Go.Sort

theorem sumB_take {l : List Bk} {j : Nat} (hj : j < l.length) : sumB (l.take (j + 1)) = sumB (l.take j) + l[j].bz := by
  rw [List.take_add_one, List.getElem?_eq_getElem hj, Option.toList_some]
  unfold sumB
  rw [List.map_append, List.sum_append]
  simp only [List.map_cons, List.map_nil, List.sum_cons, List.sum_nil, Int.add_zero]
theorem sumB_bound {l : List Bk} (h : ∀ b ∈ l, 0 ≤ b.bz ∧ b.bz ≤ 65535) (j : Nat) : 0 ≤ sumB (l.take j) ∧ sumB (l.take j) ≤ 65535 * (l.length : Int) := by
  have h1 := sumL_bound (l := l.take j) (fun b hb => h b (List.mem_of_mem_take hb)) (fun _ => false)
  rw [sumL_none (fun _ => rfl)] at h1
  have : (l.take j).length ≤ l.length := by rw [List.length_take]; omega
  omega
set_option maxRecDepth 100000 in
set_option maxHeartbeats 8000000 in
theorem is10 (W : World) (B pb n : Nat) (l : List Bk) (O : Nat → Prop) (a : Option Addr) (c : Nat) (w : World) (hp : PoolB W B pb n l O w) (hx : IsBks w a c l) :
    Calls Try.prog 10 #[.pointer (some ⟨pb, 0, none⟩), .slice a l.length c] w fun e w' => e = .returned (.bool true) ∧ Below w.heap.size w w' := by
  have HP := Lib.hid hp
  have HX := Lib.hid hx
  have hlen := hp.good.2
  have HG := Lib.hid hp.good.1
  clear hp hx
  go_enter Try.func10, Try.ntmps10
  go_wp2_with fail
  refine (listB W B pb n l O w HP.out).mono ?_
  rintro e w2 ⟨lv, rfl, ho, hb⟩
  obtain ⟨la, lc, hlv⟩ := own_slice ho
  subst hlv
  have HB2 := Lib.hid hb
  have HP2 := Lib.hid (HP.out.below hb)
  have HX2 := Lib.hid (HX.out.below hb)
  have HL2 := Lib.hid (isBks_own ho).2.1
  clear ho hb HP HX
  go_wp2_with fail
  go_loopw [6, 20] (fun u i wr => ∃ j : Nat, j ≤ l.length ∧ i = .int .i64 (j : Int) ∧ u = .int .i64 (sumB (l.take j)) ∧ Hid (Below w2.heap.size w2 wr)) (fun _ i _ => l.length - (intOf i).toNat)
  case atStart => exact ⟨0, Nat.zero_le _, rfl, rfl, Below.refl _ _⟩
  case round =>
    obtain ⟨j, hj, rfl, rfl, hbj⟩ := hrel
    by_cases hjl : j < l.length
    · have j1 : (j : Int) < l.length := by omega
      obtain h0 | ⟨bk, oo, rfl, hbk, hcc, hcell⟩ := HX2.out.below hbj.out
      · subst h0; simp at hjl
      obtain h0 | ⟨bl, ol, rfl, hbl, hcl, hcelll⟩ := HL2.out.below hbj.out
      · subst h0; simp at hjl
      obtain ⟨x0, x1, x2, x3, x4⟩ := hcell j l[j] (by simp [hjl])
      obtain ⟨y0, y1, y2, y3, y4⟩ := hcelll j l[j] (by simp [hjl])
      have hmem := List.getElem_mem hjl
      have hfd := fndB_of_mem HG.out.ap hmem
      have hnz := HG.out.sz _ hmem
      have hsb := sumB_bound (good_bz HG.out) j
      have hbz := good_bz HG.out _ hmem
      have hst := sumB_take hjl
      obtain ⟨E, hE⟩ : ∃ E, E = l[j] := ⟨_, rfl⟩
      rw [← hE] at x0 x1 x2 x3 x4 y0 y1 y2 y3 y4 hfd hnz hbz hst
      obtain ⟨n1, w1, c1, s1, z1⟩ := E
      simp only at x0 x1 x2 x3 x4 y0 y1 y2 y3 y4 hfd hnz hbz hst
      obtain ⟨S, hS⟩ : ∃ S, S = sumB (l.take j) := ⟨_, rfl⟩
      rw [← hS] at hsb hst ⊢
      have hs0 : 0 ≤ S := hsb.1
      have hs1 : S ≤ 67107840 := by omega
      obtain ⟨hz0, hz1⟩ := hbz
      have HST := Lib.hid hst
      have HY := Lib.hid (And.intro y0 (And.intro y1 (And.intro y2 (And.intro y3 y4))))
      have HBL := Lib.hid hbl
      have HB8 := Lib.hid (hbj.out.alloc hbj.out.size (.cells #[.string n1, .int .i64 w1, .int .i64 c1, .int .i64 s1, .int .i64 z1] 61))
      have HR8 := Lib.hid (Row.new wr 61 #[.string n1, .int .i64 w1, .int .i64 c1, .int .i64 s1, .int .i64 z1])
      obtain ⟨b8, hb8⟩ : ∃ b8, b8 = wr.heap.size := ⟨_, rfl⟩
      obtain ⟨w8, hw8⟩ : ∃ w8, w8 = wr.alloc (.cells #[.string n1, .int .i64 w1, .int .i64 c1, .int .i64 s1, .int .i64 z1] 61) := ⟨_, rfl⟩
      rw [← hb8, ← hw8] at HR8
      rw [← hw8] at HB8
      have HBW : Hid (Below wr.heap.size wr w8) := by rw [hw8]; exact below_alloc wr _
      have HGET : Hid (Calls Try.prog 12 #[.pointer (some ⟨pb, 0, none⟩), .string n1] w8 fun e w' => e = .returned (.tuple #[.agg #[.string n1, .int .i64 w1, .int .i64 c1, .int .i64 s1, .int .i64 z1], .bool true]) ∧ Below w8.heap.size w8 w') := by
        have := getB W B pb n l O n1 hnz w8 (HP2.out.below HB8.out)
        rw [hfd] at this
        exact this
      have HDR : Hid (∀ W9, Below w2.heap.size w2 W9 → Calls Try.prog 23 #[.pointer (some ⟨pb, 0, none⟩), .string n1] W9 fun e w' => e = .returned (.bool ((s1 == 1) && (z1 == 0))) ∧ Below W9.heap.size W9 w') := fun W9 hb9 => by
        have := drainedB W B pb n l O n1 hnz W9 (HP2.out.below hb9)
        rw [hfd] at this
        exact this
      clear hcell hcelll hE hmem hfd hnz hsb hst hS y0 y1 y2 y3 y4 hbk hcc hbj
      go_wp2_with fail
      rw [← hw8, ← hb8]
      clear hw8 hb8 x0 x1 x2 x3 x4
      refine HGET.out.mono ?_
      rintro e w9 ⟨rfl, hb9⟩
      have HB9 := Lib.hid (HB8.out.trans (hb9.mono HB8.out.size))
      have HR9 := Lib.hid (HR8.out.below hb9)
      have HBW9 := Lib.hid (HBW.out.trans (hb9.mono HBW.out.size))
      clear hb9
      have HBA := Lib.hid (HB9.out.alloc HB9.out.size (.cells #[.string n1, .int .i64 w1, .int .i64 c1, .int .i64 s1, .int .i64 z1] 33))
      have HRA := Lib.hid (HR9.out.alloc (.cells #[.string n1, .int .i64 w1, .int .i64 c1, .int .i64 s1, .int .i64 z1] 33))
      have HBWA := Lib.hid (HBW9.out.alloc HBW9.out.size (.cells #[.string n1, .int .i64 w1, .int .i64 c1, .int .i64 s1, .int .i64 z1] 33))
      have HRX := Lib.hid (Row.new w9 33 #[.string n1, .int .i64 w1, .int .i64 c1, .int .i64 s1, .int .i64 z1])
      obtain ⟨bx, hbx⟩ : ∃ bx, bx = w9.heap.size := ⟨_, rfl⟩
      obtain ⟨wx, hwx⟩ : ∃ wx, wx = w9.alloc (.cells #[.string n1, .int .i64 w1, .int .i64 c1, .int .i64 s1, .int .i64 z1] 33) := ⟨_, rfl⟩
      rw [← hwx] at HBA HRA HBWA HRX
      rw [← hbx] at HRX
      have HNE : Hid (∀ W9 : World, (binOp .neq 61 (.agg #[.string n1, .int .i64 w1, .int .i64 c1, .int .i64 s1, .int .i64 z1]) (.agg #[.string n1, .int .i64 w1, .int .i64 c1, .int .i64 s1, .int .i64 z1])).run Try.prog W9 = .ok (.bool false) W9 ∧ (binOp .neq 33 (.agg #[.string n1, .int .i64 w1, .int .i64 c1, .int .i64 s1, .int .i64 z1]) (.agg #[.string n1, .int .i64 w1, .int .i64 c1, .int .i64 s1, .int .i64 z1])).run Try.prog W9 = .ok (.bool false) W9) := fun W9 => by
        constructor
        · simp [go_sem]
        · simp [go_sem]
      have hj0 : (0 : Int) ≤ (j : Int) := by omega
      go_wp2_with fail
      rw [← hwx, ← hbx]
      clear hwx hbx
      have HYX : Hid (wx.cell? ⟨bl, ol + j * 5, none⟩ = some (.string n1) ∧ wx.cell? ⟨bl, ol + j * 5 + 1, none⟩ = some (.int .i64 w1) ∧ wx.cell? ⟨bl, ol + j * 5 + 2, none⟩ = some (.int .i64 c1) ∧ wx.cell? ⟨bl, ol + j * 5 + 3, none⟩ = some (.int .i64 s1) ∧ wx.cell? ⟨bl, ol + j * 5 + 4, none⟩ = some (.int .i64 z1)) := by
        rw [(bcell HBWA.out).1 _ _ HBL.out, (bcell HBWA.out).1 _ _ HBL.out, (bcell HBWA.out).1 _ _ HBL.out, (bcell HBWA.out).1 _ _ HBL.out, (bcell HBWA.out).1 _ _ HBL.out]
        exact HY.out
      have HBLX : Hid (bl < wx.heap.size) := Nat.lt_of_lt_of_le HBL.out HBWA.out.size
      obtain ⟨q1, hq1⟩ : ∃ q1, q1 = (s1 == 1) := ⟨_, rfl⟩
      obtain ⟨q2, hq2⟩ : ∃ q2, q2 = (z1 == 0) := ⟨_, rfl⟩
      rw [← hq1, ← hq2] at HDR
      have HQ1 := Lib.hid hq1.symm
      have HQ2 := Lib.hid hq2.symm
      clear hq1 hq2
      cases q1 with
      | true =>
        rw [Bool.true_and] at HDR
        have HQQ : Hid ((q2 != q2) = false) := by cases q2 <;> rfl
        refine region_mixt 33 [some (.slice (some ⟨bl, ol, none⟩) l.length lc), some (.int .i64 (j : Int)), some (.pointer (some ⟨bl, ol + j * 5, none⟩)), some (.agg #[.string n1, .int .i64 w1, .int .i64 c1, .int .i64 s1, .int .i64 z1]), some (.agg #[.string n1, .int .i64 w1, .int .i64 c1, .int .i64 s1, .int .i64 z1]), some (.bool false), some (.bool false), some (.bool true), some (.bool false), some (.bool false), some (.bool false), some (.agg #[.string n1, .int .i64 w1, .int .i64 c1, .int .i64 s1, .int .i64 z1]), some (.slice (some ⟨bl, ol, none⟩) l.length lc), some (.int .i64 (j : Int)), some (.pointer (some ⟨bl, ol + j * 5, none⟩)), some (.agg #[.string n1, .int .i64 w1, .int .i64 c1, .int .i64 s1, .int .i64 z1]), some (.bool false), some (.bool false), some (.bool false), some (.pointer (some ⟨pb, 0, none⟩)), some (.pointer (some ⟨b8, 0, none⟩)), some (.string n1), some (.bool q2), some (.pointer (some ⟨b8, 3, none⟩)), some (.int .i64 s1), some (.bool true), some (.bool true), some (.pointer (some ⟨b8, 4, none⟩)), some (.int .i64 z1), some (.bool q2), some (.bool q2), some (.bool false), some (.bool false)]
          [[false, false, false, false, false, false, false, false, false, false, false, false, false, false, false, false, false, false, false, false, false, false, false, false, false, false, false, false, false, false, false, false, false], [false, false, false, false, false, false, false, false, false, false, false, false, false, false, false, false, false, false, false, false, false, false, false, false, false, false, false, false, false, false, false, false, false], [true, true, false, false, false, false, false, false, false, false, false, false, false, false, false, false, false, false, false, false, false, false, false, false, false, false, false, false, false, false, false, false, false], [false, false, true, false, false, false, false, false, false, false, false, false, false, false, false, false, false, false, false, false, false, false, false, false, false, false, false, false, false, false, false, false, false], [false, false, false, false, false, false, false, false, false, false, false, false, false, false, false, false, false, false, false, false, false, false, false, false, false, false, false, false, false, false, false, false, false], [false, false, false, true, true, false, false, false, false, false, false, false, false, false, false, false, false, false, false, false, false, false, false, false, false, false, false, false, false, false, false, false, false], [false, false, false, false, false, true, false, false, false, false, false, false, false, false, false, false, false, false, false, false, false, false, false, false, false, false, false, false, false, false, false, false, false], [false, false, false, false, false, false, true, false, false, false, false, false, false, false, false, false, false, false, false, false, false, false, false, false, false, false, false, false, false, false, false, false, false], [false, false, false, false, false, false, true, true, false, false, false, false, false, false, false, false, false, false, false, false, false, false, false, false, false, false, false, false, false, false, false, false, false], [false, false, false, false, false, false, true, false, true, false, false, false, false, false, false, false, false, false, false, false, false, false, false, false, false, false, false, false, false, false, false, false, false], [false, false, false, false, false, false, true, false, false, true, false, false, false, false, false, false, false, false, false, false, false, false, false, false, false, false, false, false, false, false, false, false, false], [false, false, false, false, false, false, false, false, false, false, true, false, false, false, false, false, false, false, false, false, false, false, false, false, false, false, false, false, false, false, false, false, false], [false, false, false, false, false, false, false, false, false, false, true, false, false, false, false, false, false, false, false, false, false, false, false, false, false, false, false, false, false, false, false, false, false], [false, false, false, false, false, false, false, false, false, false, true, false, false, false, false, false, false, false, false, false, false, false, false, false, false, false, false, false, false, false, false, false, false], [false, false, false, false, false, false, false, false, false, false, true, false, true, true, false, false, false, false, false, false, false, false, false, false, false, false, false, false, false, false, false, false, false], [false, false, false, false, false, false, false, false, false, false, true, false, false, false, true, false, false, false, false, false, false, false, false, false, false, false, false, false, false, false, false, false, false], [false, false, false, false, false, false, false, false, false, false, true, true, false, false, false, true, false, false, false, false, false, false, false, false, false, false, false, false, false, false, false, false, false], [false, false, false, false, false, false, false, false, false, false, true, false, false, false, false, false, true, false, false, false, false, false, false, false, false, false, false, false, false, false, false, false, false], [false, false, false, false, false, false, false, false, false, false, true, false, false, false, false, false, false, true, false, false, false, false, false, false, false, false, false, false, false, false, false, false, false], [false, false, false, false, false, false, false, false, false, false, false, false, false, false, false, false, false, false, true, false, false, false, false, false, false, false, false, false, false, false, false, false, false], [false, false, false, false, false, false, false, false, false, false, false, false, false, false, false, false, false, false, true, false, false, false, false, false, false, false, false, false, false, false, false, false, false], [false, false, false, false, false, false, false, false, false, false, false, false, false, false, false, false, false, false, true, false, true, false, false, false, false, false, false, false, false, false, false, false, false], [false, false, false, false, false, false, false, false, false, false, false, false, false, false, false, false, false, false, true, true, false, true, false, false, false, false, false, false, false, false, false, false, false], [false, false, false, false, false, false, false, false, false, false, false, false, false, false, false, false, false, false, true, false, false, false, false, false, false, false, false, false, false, false, false, false, false], [false, false, false, false, false, false, false, false, false, false, false, false, false, false, false, false, false, false, true, false, false, false, false, true, false, false, false, false, false, false, false, false, false], [false, false, false, false, false, false, false, false, false, false, false, false, false, false, false, false, false, false, true, false, false, false, false, false, true, false, false, false, false, false, false, false, false], [false, false, false, false, false, false, false, false, false, false, false, false, false, false, false, false, false, false, true, false, false, false, true, false, false, true, false, false, false, false, false, false, false], [false, false, false, false, false, false, false, false, false, false, false, false, false, false, false, false, false, false, false, false, false, false, false, false, false, false, true, false, false, false, false, false, false], [false, false, false, false, false, false, false, false, false, false, false, false, false, false, false, false, false, false, false, false, false, false, false, false, false, false, true, true, false, false, false, false, false], [false, false, false, false, false, false, false, false, false, false, false, false, false, false, false, false, false, false, false, false, false, false, false, false, false, false, true, false, true, false, false, false, false], [false, false, false, false, false, false, false, false, false, false, false, false, false, false, false, false, false, false, true, false, false, false, false, false, false, false, true, false, false, true, false, false, false], [false, false, false, false, false, false, false, false, false, false, false, false, false, false, false, false, false, false, true, false, false, false, true, false, false, false, false, false, false, false, true, false, false], [false, false, false, false, false, false, false, false, false, false, false, false, false, false, false, false, false, false, true, false, false, false, false, false, false, false, false, false, false, false, false, true, false]]
          (fun LL xx w9 => MxS wx [] [] LL xx w9)
          (by kernel_rfl) (by kernel_rfl) (by kernel_rfl) (by kernel_rfl) (by kernel_rfl) (by decide) ?_ ?_ ?_
        · intro x
          exact MxS.start (by simp)
        · simp only [List.take_succ_cons, List.take_zero]
          refine ⟨?_, ?_, ?_, ?_, ?_, ?_, ?_, ?_, ?_, ?_, ?_, ?_, ?_, ?_, ?_, ?_, ?_, ?_, ?_, ?_, ?_, ?_, ?_, ?_, ?_, ?_, ?_, ?_, ?_, ?_, ?_, ?_, ?_, trivial⟩
          all_goals
            intro L x w9 hS hl hp K9 hK9
            have hs : MxS wx [] [] L x w9 := hS
            clear hS
            replace hK9 := hK9.out
            simp only [actMix, pickV, List.tail_cons, List.headD_cons, Act.put, List.setIfInBounds_toArray, List.set_cons_zero, List.set_cons_succ] at hK9 ⊢
          · clear hp
            go_simp
            with_reducible refine hK9 _ ?_
            exact hs.next 0 _ (by simp [MxI])
          · clear hp
            go_simp
            with_reducible refine hK9 _ ?_
            exact hs.next 1 _ (by simp [MxI])
          · clear hp
            go_simp
            with_reducible refine hK9 _ ?_
            exact hs.next 2 _ (by simp [MxI])
          · clear hp
            have hyy := HYX.out
            have g0 : w9.cell? ⟨bl, ol + j * 5, none⟩ = some (.string n1) := by rw [(bcell hs.bel0).1 _ _ HBLX.out]; exact hyy.1
            have g1 : w9.cell? ⟨bl, ol + j * 5 + 1, none⟩ = some (.int .i64 w1) := by rw [(bcell hs.bel0).1 _ _ HBLX.out]; exact hyy.2.1
            have g2 : w9.cell? ⟨bl, ol + j * 5 + 2, none⟩ = some (.int .i64 c1) := by rw [(bcell hs.bel0).1 _ _ HBLX.out]; exact hyy.2.2.1
            have g3 : w9.cell? ⟨bl, ol + j * 5 + 3, none⟩ = some (.int .i64 s1) := by rw [(bcell hs.bel0).1 _ _ HBLX.out]; exact hyy.2.2.2.1
            have g4 : w9.cell? ⟨bl, ol + j * 5 + 4, none⟩ = some (.int .i64 z1) := by rw [(bcell hs.bel0).1 _ _ HBLX.out]; exact hyy.2.2.2.2
            go_simp
            with_reducible refine hK9 _ ?_
            exact hs.next 3 _ (by simp [MxI])
          · clear hp
            have g0 : w9.cell? ⟨b8, 0, none⟩ = some (.string n1) := (hs.row HRA.out (by simp)).cell 0
            have g1 : w9.cell? ⟨b8, 1, none⟩ = some (.int .i64 w1) := (hs.row HRA.out (by simp)).cell 1
            have g2 : w9.cell? ⟨b8, 2, none⟩ = some (.int .i64 c1) := (hs.row HRA.out (by simp)).cell 2
            have g3 : w9.cell? ⟨b8, 3, none⟩ = some (.int .i64 s1) := (hs.row HRA.out (by simp)).cell 3
            have g4 : w9.cell? ⟨b8, 4, none⟩ = some (.int .i64 z1) := (hs.row HRA.out (by simp)).cell 4
            go_simp
            with_reducible refine hK9 _ ?_
            exact hs.next 4 _ (by simp [MxI])
          · clear hp
            have hne := (HNE.out w9).1
            go_simp
            with_reducible refine hK9 _ ?_
            exact hs.next 5 _ (by simp [MxI])
          · clear hp
            go_simp
            with_reducible refine hK9 _ ?_
            exact hs.next 6 _ (by simp [MxI])
          · clear hp
            go_simp
            with_reducible refine hK9 _ ?_
            exact hs.next 7 _ (by simp [MxI])
          · clear hp
            go_simp
            with_reducible refine hK9 _ ?_
            exact hs.next 8 _ (by simp [MxI])
          · clear hp
            go_simp
            with_reducible refine hK9 _ ?_
            exact hs.next 9 _ (by simp [MxI])
          · clear hp
            go_simp
            with_reducible refine hK9 _ ?_
            exact hs.next 10 _ (by simp [MxI])
          · clear hp
            have g0 : w9.cell? ⟨bx, 0, none⟩ = some (.string n1) := (hs.row HRX.out (by simp)).cell 0
            have g1 : w9.cell? ⟨bx, 1, none⟩ = some (.int .i64 w1) := (hs.row HRX.out (by simp)).cell 1
            have g2 : w9.cell? ⟨bx, 2, none⟩ = some (.int .i64 c1) := (hs.row HRX.out (by simp)).cell 2
            have g3 : w9.cell? ⟨bx, 3, none⟩ = some (.int .i64 s1) := (hs.row HRX.out (by simp)).cell 3
            have g4 : w9.cell? ⟨bx, 4, none⟩ = some (.int .i64 z1) := (hs.row HRX.out (by simp)).cell 4
            go_simp
            with_reducible refine hK9 _ ?_
            exact hs.next 11 _ (by simp [MxI])
          · clear hp
            go_simp
            with_reducible refine hK9 _ ?_
            exact hs.next 12 _ (by simp [MxI])
          · clear hp
            go_simp
            with_reducible refine hK9 _ ?_
            exact hs.next 13 _ (by simp [MxI])
          · clear hp
            go_simp
            with_reducible refine hK9 _ ?_
            exact hs.next 14 _ (by simp [MxI])
          · clear hp
            have hyy := HYX.out
            have g0 : w9.cell? ⟨bl, ol + j * 5, none⟩ = some (.string n1) := by rw [(bcell hs.bel0).1 _ _ HBLX.out]; exact hyy.1
            have g1 : w9.cell? ⟨bl, ol + j * 5 + 1, none⟩ = some (.int .i64 w1) := by rw [(bcell hs.bel0).1 _ _ HBLX.out]; exact hyy.2.1
            have g2 : w9.cell? ⟨bl, ol + j * 5 + 2, none⟩ = some (.int .i64 c1) := by rw [(bcell hs.bel0).1 _ _ HBLX.out]; exact hyy.2.2.1
            have g3 : w9.cell? ⟨bl, ol + j * 5 + 3, none⟩ = some (.int .i64 s1) := by rw [(bcell hs.bel0).1 _ _ HBLX.out]; exact hyy.2.2.2.1
            have g4 : w9.cell? ⟨bl, ol + j * 5 + 4, none⟩ = some (.int .i64 z1) := by rw [(bcell hs.bel0).1 _ _ HBLX.out]; exact hyy.2.2.2.2
            go_simp
            with_reducible refine hK9 _ ?_
            exact hs.next 15 _ (by simp [MxI])
          · clear hp
            have hne := (HNE.out w9).2
            go_simp
            with_reducible refine hK9 _ ?_
            exact hs.next 16 _ (by simp [MxI])
          · clear hp
            go_simp
            with_reducible refine hK9 _ ?_
            exact hs.next 17 _ (by simp [MxI])
          · clear hp
            go_simp
            with_reducible refine hK9 _ ?_
            exact hs.next 18 _ (by simp [MxI])
          · clear hp
            go_simp
            with_reducible refine hK9 _ ?_
            exact hs.next 19 _ (by simp [MxI])
          · clear hp
            go_simp
            with_reducible refine hK9 _ ?_
            exact hs.next 20 _ (by simp [MxI])
          · clear hp
            have g0 : w9.cell? ⟨b8, 0, none⟩ = some (.string n1) := (hs.row HRA.out (by simp)).cell 0
            go_simp
            with_reducible refine hK9 _ ?_
            exact hs.next 21 _ (by simp [MxI])
          · clear hp
            go_simp
            refine (HDR.out w9 (HBA.out.trans (hs.bel0.mono HBA.out.size))).mono ?_
            rintro e w8 ⟨rfl, hB8⟩
            go_simp
            with_reducible refine hK9 _ ?_
            exact (hs.below hB8).next 22 _ (by simp [MxI])
          · clear hp
            go_simp
            with_reducible refine hK9 _ ?_
            exact hs.next 23 _ (by simp [MxI])
          · clear hp
            have g0 : w9.cell? ⟨b8, 3, none⟩ = some (.int .i64 s1) := (hs.row HRA.out (by simp)).cell 3
            go_simp
            with_reducible refine hK9 _ ?_
            exact hs.next 24 _ (by simp [MxI])
          · clear hp
            have hq1 := HQ1.out
            go_simp
            with_reducible refine hK9 _ ?_
            exact hs.next 25 _ (by simp [MxI])
          · clear hp
            go_simp
            with_reducible refine hK9 _ ?_
            exact hs.next 26 _ (by simp [MxI])
          · clear hp
            go_simp
            with_reducible refine hK9 _ ?_
            exact hs.next 27 _ (by simp [MxI])
          · clear hp
            have g0 : w9.cell? ⟨b8, 4, none⟩ = some (.int .i64 z1) := (hs.row HRA.out (by simp)).cell 4
            go_simp
            with_reducible refine hK9 _ ?_
            exact hs.next 28 _ (by simp [MxI])
          · clear hp
            have hq2 := HQ2.out
            go_simp
            with_reducible refine hK9 _ ?_
            exact hs.next 29 _ (by simp [MxI])
          · clear hp
            go_simp
            with_reducible refine hK9 _ ?_
            exact hs.next 30 _ (by simp [MxI])
          · clear hp
            have hqq := HQQ.out
            go_simp
            with_reducible refine hK9 _ ?_
            exact hs.next 31 _ (by simp [MxI])
          · clear hp
            go_simp
            with_reducible refine hK9 _ ?_
            exact hs.next 32 _ (by simp [MxI])
        intro L x w9 hS hL
        have hs : MxS wx [] [] L x w9 := hS
        clear hS
        simp only [actMix, pickV, List.tail_cons, List.headD_cons, Act.put, List.setIfInBounds_toArray, List.set_cons_zero, List.set_cons_succ, List.replicate_succ, List.replicate_zero, List.drop_succ_cons, List.drop_zero, List.take_succ_cons, List.take_zero]
        have HBE := Lib.hid (HBA.out.trans (hs.bel0.mono HBA.out.size))
        have hrr := hs.row HRA.out (by simp)
        have g4 : w9.cell? ⟨b8, 4, none⟩ = some (.int .i64 z1) := hrr.cell 4
        clear hs hL hrr
        go_wp2_with fail
        go_roundw
        case rel => exact ⟨j + 1, hjl, by go_num, by rw [HST.out], HBE⟩
        case measure => simp [intOf]; omega
      | false =>
        rw [Bool.false_and] at HDR
        refine region_mixt 33 [some (.slice (some ⟨bl, ol, none⟩) l.length lc), some (.int .i64 (j : Int)), some (.pointer (some ⟨bl, ol + j * 5, none⟩)), some (.agg #[.string n1, .int .i64 w1, .int .i64 c1, .int .i64 s1, .int .i64 z1]), some (.agg #[.string n1, .int .i64 w1, .int .i64 c1, .int .i64 s1, .int .i64 z1]), some (.bool false), some (.bool false), some (.bool true), some (.bool false), some (.bool false), some (.bool false), some (.agg #[.string n1, .int .i64 w1, .int .i64 c1, .int .i64 s1, .int .i64 z1]), some (.slice (some ⟨bl, ol, none⟩) l.length lc), some (.int .i64 (j : Int)), some (.pointer (some ⟨bl, ol + j * 5, none⟩)), some (.agg #[.string n1, .int .i64 w1, .int .i64 c1, .int .i64 s1, .int .i64 z1]), some (.bool false), some (.bool false), some (.bool false), some (.pointer (some ⟨pb, 0, none⟩)), some (.pointer (some ⟨b8, 0, none⟩)), some (.string n1), some (.bool false), some (.pointer (some ⟨b8, 3, none⟩)), some (.int .i64 s1), some (.bool false), some (.bool false), some (undef), some (undef), some (undef), some (.bool false), some (.bool false), some (.bool false)]
          [[false, false, false, false, false, false, false, false, false, false, false, false, false, false, false, false, false, false, false, false, false, false, false, false, false, false, false, false, false, false, false, false, false], [false, false, false, false, false, false, false, false, false, false, false, false, false, false, false, false, false, false, false, false, false, false, false, false, false, false, false, false, false, false, false, false, false], [true, true, false, false, false, false, false, false, false, false, false, false, false, false, false, false, false, false, false, false, false, false, false, false, false, false, false, false, false, false, false, false, false], [false, false, true, false, false, false, false, false, false, false, false, false, false, false, false, false, false, false, false, false, false, false, false, false, false, false, false, false, false, false, false, false, false], [false, false, false, false, false, false, false, false, false, false, false, false, false, false, false, false, false, false, false, false, false, false, false, false, false, false, false, false, false, false, false, false, false], [false, false, false, true, true, false, false, false, false, false, false, false, false, false, false, false, false, false, false, false, false, false, false, false, false, false, false, false, false, false, false, false, false], [false, false, false, false, false, true, false, false, false, false, false, false, false, false, false, false, false, false, false, false, false, false, false, false, false, false, false, false, false, false, false, false, false], [false, false, false, false, false, false, true, false, false, false, false, false, false, false, false, false, false, false, false, false, false, false, false, false, false, false, false, false, false, false, false, false, false], [false, false, false, false, false, false, true, true, false, false, false, false, false, false, false, false, false, false, false, false, false, false, false, false, false, false, false, false, false, false, false, false, false], [false, false, false, false, false, false, true, false, true, false, false, false, false, false, false, false, false, false, false, false, false, false, false, false, false, false, false, false, false, false, false, false, false], [false, false, false, false, false, false, true, false, false, true, false, false, false, false, false, false, false, false, false, false, false, false, false, false, false, false, false, false, false, false, false, false, false], [false, false, false, false, false, false, false, false, false, false, true, false, false, false, false, false, false, false, false, false, false, false, false, false, false, false, false, false, false, false, false, false, false], [false, false, false, false, false, false, false, false, false, false, true, false, false, false, false, false, false, false, false, false, false, false, false, false, false, false, false, false, false, false, false, false, false], [false, false, false, false, false, false, false, false, false, false, true, false, false, false, false, false, false, false, false, false, false, false, false, false, false, false, false, false, false, false, false, false, false], [false, false, false, false, false, false, false, false, false, false, true, false, true, true, false, false, false, false, false, false, false, false, false, false, false, false, false, false, false, false, false, false, false], [false, false, false, false, false, false, false, false, false, false, true, false, false, false, true, false, false, false, false, false, false, false, false, false, false, false, false, false, false, false, false, false, false], [false, false, false, false, false, false, false, false, false, false, true, true, false, false, false, true, false, false, false, false, false, false, false, false, false, false, false, false, false, false, false, false, false], [false, false, false, false, false, false, false, false, false, false, true, false, false, false, false, false, true, false, false, false, false, false, false, false, false, false, false, false, false, false, false, false, false], [false, false, false, false, false, false, false, false, false, false, true, false, false, false, false, false, false, true, false, false, false, false, false, false, false, false, false, false, false, false, false, false, false], [false, false, false, false, false, false, false, false, false, false, false, false, false, false, false, false, false, false, true, false, false, false, false, false, false, false, false, false, false, false, false, false, false], [false, false, false, false, false, false, false, false, false, false, false, false, false, false, false, false, false, false, true, false, false, false, false, false, false, false, false, false, false, false, false, false, false], [false, false, false, false, false, false, false, false, false, false, false, false, false, false, false, false, false, false, true, false, true, false, false, false, false, false, false, false, false, false, false, false, false], [false, false, false, false, false, false, false, false, false, false, false, false, false, false, false, false, false, false, true, true, false, true, false, false, false, false, false, false, false, false, false, false, false], [false, false, false, false, false, false, false, false, false, false, false, false, false, false, false, false, false, false, true, false, false, false, false, false, false, false, false, false, false, false, false, false, false], [false, false, false, false, false, false, false, false, false, false, false, false, false, false, false, false, false, false, true, false, false, false, false, true, false, false, false, false, false, false, false, false, false], [false, false, false, false, false, false, false, false, false, false, false, false, false, false, false, false, false, false, true, false, false, false, false, false, true, false, false, false, false, false, false, false, false], [false, false, false, false, false, false, false, false, false, false, false, false, false, false, false, false, false, false, true, false, false, false, true, false, false, true, false, false, false, false, false, false, false], [false, false, false, false, false, false, false, false, false, false, false, false, false, false, false, false, false, false, false, false, false, false, false, false, false, false, true, false, false, false, false, false, false], [false, false, false, false, false, false, false, false, false, false, false, false, false, false, false, false, false, false, false, false, false, false, false, false, false, false, true, true, false, false, false, false, false], [false, false, false, false, false, false, false, false, false, false, false, false, false, false, false, false, false, false, false, false, false, false, false, false, false, false, true, false, true, false, false, false, false], [false, false, false, false, false, false, false, false, false, false, false, false, false, false, false, false, false, false, true, false, false, false, false, false, false, false, true, false, false, true, false, false, false], [false, false, false, false, false, false, false, false, false, false, false, false, false, false, false, false, false, false, true, false, false, false, true, false, false, false, false, false, false, false, true, false, false], [false, false, false, false, false, false, false, false, false, false, false, false, false, false, false, false, false, false, true, false, false, false, false, false, false, false, false, false, false, false, false, true, false]]
          (fun LL xx w9 => MxS wx [] [] LL xx w9)
          (by kernel_rfl) (by kernel_rfl) (by kernel_rfl) (by kernel_rfl) (by kernel_rfl) (by decide) ?_ ?_ ?_
        · intro x
          exact MxS.start (by simp)
        · simp only [List.take_succ_cons, List.take_zero]
          refine ⟨?_, ?_, ?_, ?_, ?_, ?_, ?_, ?_, ?_, ?_, ?_, ?_, ?_, ?_, ?_, ?_, ?_, ?_, ?_, ?_, ?_, ?_, ?_, ?_, ?_, ?_, ?_, ?_, ?_, ?_, ?_, ?_, ?_, trivial⟩
          all_goals
            intro L x w9 hS hl hp K9 hK9
            have hs : MxS wx [] [] L x w9 := hS
            clear hS
            replace hK9 := hK9.out
            simp only [actMix, pickV, List.tail_cons, List.headD_cons, Act.put, List.setIfInBounds_toArray, List.set_cons_zero, List.set_cons_succ] at hK9 ⊢
          · clear hp
            go_simp
            with_reducible refine hK9 _ ?_
            exact hs.next 0 _ (by simp [MxI])
          · clear hp
            go_simp
            with_reducible refine hK9 _ ?_
            exact hs.next 1 _ (by simp [MxI])
          · clear hp
            go_simp
            with_reducible refine hK9 _ ?_
            exact hs.next 2 _ (by simp [MxI])
          · clear hp
            have hyy := HYX.out
            have g0 : w9.cell? ⟨bl, ol + j * 5, none⟩ = some (.string n1) := by rw [(bcell hs.bel0).1 _ _ HBLX.out]; exact hyy.1
            have g1 : w9.cell? ⟨bl, ol + j * 5 + 1, none⟩ = some (.int .i64 w1) := by rw [(bcell hs.bel0).1 _ _ HBLX.out]; exact hyy.2.1
            have g2 : w9.cell? ⟨bl, ol + j * 5 + 2, none⟩ = some (.int .i64 c1) := by rw [(bcell hs.bel0).1 _ _ HBLX.out]; exact hyy.2.2.1
            have g3 : w9.cell? ⟨bl, ol + j * 5 + 3, none⟩ = some (.int .i64 s1) := by rw [(bcell hs.bel0).1 _ _ HBLX.out]; exact hyy.2.2.2.1
            have g4 : w9.cell? ⟨bl, ol + j * 5 + 4, none⟩ = some (.int .i64 z1) := by rw [(bcell hs.bel0).1 _ _ HBLX.out]; exact hyy.2.2.2.2
            go_simp
            with_reducible refine hK9 _ ?_
            exact hs.next 3 _ (by simp [MxI])
          · clear hp
            have g0 : w9.cell? ⟨b8, 0, none⟩ = some (.string n1) := (hs.row HRA.out (by simp)).cell 0
            have g1 : w9.cell? ⟨b8, 1, none⟩ = some (.int .i64 w1) := (hs.row HRA.out (by simp)).cell 1
            have g2 : w9.cell? ⟨b8, 2, none⟩ = some (.int .i64 c1) := (hs.row HRA.out (by simp)).cell 2
            have g3 : w9.cell? ⟨b8, 3, none⟩ = some (.int .i64 s1) := (hs.row HRA.out (by simp)).cell 3
            have g4 : w9.cell? ⟨b8, 4, none⟩ = some (.int .i64 z1) := (hs.row HRA.out (by simp)).cell 4
            go_simp
            with_reducible refine hK9 _ ?_
            exact hs.next 4 _ (by simp [MxI])
          · clear hp
            have hne := (HNE.out w9).1
            go_simp
            with_reducible refine hK9 _ ?_
            exact hs.next 5 _ (by simp [MxI])
          · clear hp
            go_simp
            with_reducible refine hK9 _ ?_
            exact hs.next 6 _ (by simp [MxI])
          · clear hp
            go_simp
            with_reducible refine hK9 _ ?_
            exact hs.next 7 _ (by simp [MxI])
          · clear hp
            go_simp
            with_reducible refine hK9 _ ?_
            exact hs.next 8 _ (by simp [MxI])
          · clear hp
            go_simp
            with_reducible refine hK9 _ ?_
            exact hs.next 9 _ (by simp [MxI])
          · clear hp
            go_simp
            with_reducible refine hK9 _ ?_
            exact hs.next 10 _ (by simp [MxI])
          · clear hp
            have g0 : w9.cell? ⟨bx, 0, none⟩ = some (.string n1) := (hs.row HRX.out (by simp)).cell 0
            have g1 : w9.cell? ⟨bx, 1, none⟩ = some (.int .i64 w1) := (hs.row HRX.out (by simp)).cell 1
            have g2 : w9.cell? ⟨bx, 2, none⟩ = some (.int .i64 c1) := (hs.row HRX.out (by simp)).cell 2
            have g3 : w9.cell? ⟨bx, 3, none⟩ = some (.int .i64 s1) := (hs.row HRX.out (by simp)).cell 3
            have g4 : w9.cell? ⟨bx, 4, none⟩ = some (.int .i64 z1) := (hs.row HRX.out (by simp)).cell 4
            go_simp
            with_reducible refine hK9 _ ?_
            exact hs.next 11 _ (by simp [MxI])
          · clear hp
            go_simp
            with_reducible refine hK9 _ ?_
            exact hs.next 12 _ (by simp [MxI])
          · clear hp
            go_simp
            with_reducible refine hK9 _ ?_
            exact hs.next 13 _ (by simp [MxI])
          · clear hp
            go_simp
            with_reducible refine hK9 _ ?_
            exact hs.next 14 _ (by simp [MxI])
          · clear hp
            have hyy := HYX.out
            have g0 : w9.cell? ⟨bl, ol + j * 5, none⟩ = some (.string n1) := by rw [(bcell hs.bel0).1 _ _ HBLX.out]; exact hyy.1
            have g1 : w9.cell? ⟨bl, ol + j * 5 + 1, none⟩ = some (.int .i64 w1) := by rw [(bcell hs.bel0).1 _ _ HBLX.out]; exact hyy.2.1
            have g2 : w9.cell? ⟨bl, ol + j * 5 + 2, none⟩ = some (.int .i64 c1) := by rw [(bcell hs.bel0).1 _ _ HBLX.out]; exact hyy.2.2.1
            have g3 : w9.cell? ⟨bl, ol + j * 5 + 3, none⟩ = some (.int .i64 s1) := by rw [(bcell hs.bel0).1 _ _ HBLX.out]; exact hyy.2.2.2.1
            have g4 : w9.cell? ⟨bl, ol + j * 5 + 4, none⟩ = some (.int .i64 z1) := by rw [(bcell hs.bel0).1 _ _ HBLX.out]; exact hyy.2.2.2.2
            go_simp
            with_reducible refine hK9 _ ?_
            exact hs.next 15 _ (by simp [MxI])
          · clear hp
            have hne := (HNE.out w9).2
            go_simp
            with_reducible refine hK9 _ ?_
            exact hs.next 16 _ (by simp [MxI])
          · clear hp
            go_simp
            with_reducible refine hK9 _ ?_
            exact hs.next 17 _ (by simp [MxI])
          · clear hp
            go_simp
            with_reducible refine hK9 _ ?_
            exact hs.next 18 _ (by simp [MxI])
          · clear hp
            go_simp
            with_reducible refine hK9 _ ?_
            exact hs.next 19 _ (by simp [MxI])
          · clear hp
            go_simp
            with_reducible refine hK9 _ ?_
            exact hs.next 20 _ (by simp [MxI])
          · clear hp
            have g0 : w9.cell? ⟨b8, 0, none⟩ = some (.string n1) := (hs.row HRA.out (by simp)).cell 0
            go_simp
            with_reducible refine hK9 _ ?_
            exact hs.next 21 _ (by simp [MxI])
          · clear hp
            go_simp
            refine (HDR.out w9 (HBA.out.trans (hs.bel0.mono HBA.out.size))).mono ?_
            rintro e w8 ⟨rfl, hB8⟩
            go_simp
            with_reducible refine hK9 _ ?_
            exact (hs.below hB8).next 22 _ (by simp [MxI])
          · clear hp
            go_simp
            with_reducible refine hK9 _ ?_
            exact hs.next 23 _ (by simp [MxI])
          · clear hp
            have g0 : w9.cell? ⟨b8, 3, none⟩ = some (.int .i64 s1) := (hs.row HRA.out (by simp)).cell 3
            go_simp
            with_reducible refine hK9 _ ?_
            exact hs.next 24 _ (by simp [MxI])
          · clear hp
            have hq1 := HQ1.out
            go_simp
            with_reducible refine hK9 _ ?_
            exact hs.next 25 _ (by simp [MxI])
          · clear hp
            go_simp
            with_reducible refine hK9 _ ?_
            exact hs.next 26 _ (by simp [MxI])
          · clear hp
            go_simp
            with_reducible refine hK9 _ ?_
            exact hs.next 27 _ (by simp [MxI])
          · clear hp
            go_simp
            with_reducible refine hK9 _ ?_
            exact hs.next 28 _ (by simp [MxI])
          · clear hp
            go_simp
            with_reducible refine hK9 _ ?_
            exact hs.next 29 _ (by simp [MxI])
          · clear hp
            go_simp
            with_reducible refine hK9 _ ?_
            exact hs.next 30 _ (by simp [MxI])
          · clear hp
            go_simp
            with_reducible refine hK9 _ ?_
            exact hs.next 31 _ (by simp [MxI])
          · clear hp
            go_simp
            with_reducible refine hK9 _ ?_
            exact hs.next 32 _ (by simp [MxI])
        intro L x w9 hS hL
        have hs : MxS wx [] [] L x w9 := hS
        clear hS
        simp only [actMix, pickV, List.tail_cons, List.headD_cons, Act.put, List.setIfInBounds_toArray, List.set_cons_zero, List.set_cons_succ, List.replicate_succ, List.replicate_zero, List.drop_succ_cons, List.drop_zero, List.take_succ_cons, List.take_zero]
        have HBE := Lib.hid (HBA.out.trans (hs.bel0.mono HBA.out.size))
        have hrr := hs.row HRA.out (by simp)
        have g4 : w9.cell? ⟨b8, 4, none⟩ = some (.int .i64 z1) := hrr.cell 4
        clear hs hL hrr
        go_wp2_with fail
        go_roundw
        case rel => exact ⟨j + 1, hjl, by go_num, by rw [HST.out], HBE⟩
        case measure => simp [intOf]; omega
    · obtain rfl : j = l.length := by omega
      have hj0 : ¬ ((l.length : Int) < l.length) := by omega
      rw [List.take_of_length_le (Nat.le_refl _)]
      have hbu := busyB W B pb n l O wr (HP2.out.below hbj.out)
      go_wp2_with fail
      refine hbu.mono ?_
      clear hbu
      rintro e w8 ⟨rfl, hb8⟩
      have HEND := Lib.hid (HB2.out.trans ((hbj.out.trans (hb8.mono hbj.out.size)).mono HB2.out.size))
      have ht : (sumB l == sumB l) = true := by simp
      clear hb8
      go_wp2_with fail
      go_ret
      exact ⟨rfl, HEND.out⟩
end Go.Proofs.Ytoikgphbicnhaab
