/- draws: the walk of Shuffle. -/
import Derived.Test.YtbgppkjcmgljnaaDrC
namespace Go.Proofs.Ytbgppkjcmgljnaa
open Go.RowKit

set_option maxHeartbeats 4000000 in
set_option maxRecDepth 100000 in
theorem shuffle10 (b M n : Nat) (hn : n ≤ 100) (xs : List Nat) (s : Nat) (hs : s ≤ 1000) (w : World) (hd : DrawsAt w b M xs s) :
    Calls Try.prog 10 #[.pointer (some ⟨b, 0, none⟩), .int .i64 (n : Int)] w (ShufPost w b n) := by
  have hblt := hd.lt
  have hMle := hd.room
  obtain ⟨cs, hmk0, hr0⟩ := makeI n (by omega) w
  have hmk := hmk0 w rfl
  clear hmk0
  have hk0 : Keep2 b w.heap.size w (w.alloc (.cells cs 3)) := by
    have hh : ∀ g, g < w.heap.size → (w.alloc (.cells cs 3)).heap[g]? = w.heap[g]? := fun g hg => by
      show (w.heap.push _)[g]? = _
      rw [Array.getElem?_push_lt hg, Array.getElem?_eq_getElem hg]
    exact ⟨fun B hB => (Below.refl B w).alloc (by omega) _, by simp, fun g o _ hg => by simp only [World.cell?, hh g hg], fun g o hg => by simp only [World.frozen?, hh g hg]⟩
  have hd0 := hd.alloc (.cells cs 3)
  obtain ⟨lb, hlb⟩ : ∃ lb, lb = w.heap.size := ⟨_, rfl⟩
  unfold ShufPost
  rw [← hlb] at hr0 hk0 hmk hblt hMle ⊢
  have hm1 : (if (n : Int) > 0 then (n : Int) else 0) = (n : Int) := by split <;> omega
  have hm2 : (if (4096 : Int) < (n : Int) then (4096 : Int) else (n : Int)) = (n : Int) := by rw [if_neg (by omega)]
  generalize hW0 : w.alloc (.cells cs 3) = w0 at *
  have HR := Lib.hid hr0
  have HK := Lib.hid hk0
  have HD := Lib.hid hd0
  clear hr0 hk0 hd0 hW0 hd hlb
  go_enter Try.func10, Try.ntmps10
  go_wp2_with fail
  clear hm1 hm2 hmk
  go_loopw [15] (fun iv wr => ∃ i : Nat, i ≤ n ∧ iv = .int .i64 (i : Int) ∧ Hid (RowI wr lb n (fillF i)) ∧ Hid (Keep2 b lb w wr) ∧ Hid (DrawsAt wr b M xs s)) (fun iv _ => n - (intOf iv).toNat)
  case atStart => exact ⟨0, Nat.zero_le _, rfl, (show Hid (RowI w0 lb n (fillF 0)) from fun j hj => HR.out j hj), HK, HD⟩
  case round =>
    clear HR HK HD
    obtain ⟨i, hi, rfl, HR, HK, HD⟩ := hrel
    by_cases hlt : i < n
    · obtain ⟨ci, fi⟩ := HR.out i hlt
      have hlt' : (i : Int) < n := by omega
      have hin2 : (n : Int) ≤ 100 := by omega
      go_wp2_with fail
      go_roundw
      case rel =>
        refine ⟨i + 1, hlt, by go_num, ?_, HK.out.set hblt _, HD.out.set hblt hMle _⟩
        intro j hj
        have h : _ ∧ _ := HR.out.set hlt i j hj
        simp only at h
        have e : (if j = i then i else fillF i j) = fillF (i + 1) j := by
          unfold fillF
          by_cases e1 : j = i
          · subst e1; rw [if_pos rfl, if_pos (by omega)]
          · by_cases e2 : j < i
            · rw [if_neg e1, if_pos e2, if_pos (by omega)]
            · rw [if_neg e1, if_neg e2, if_neg (by omega)]
        rw [e] at h
        exact h
      case measure => simp [intOf]; omega
    · have e0 : n = i := by omega
      subst e0
      have HR2 : Hid (RowI wr lb n id) := by
        intro j hj
        have h := HR.out j hj
        rw [show fillF n j = j from if_pos hj] at h
        exact h
      clear HR
      go_wp2_with fail
      go_loopw [7] (fun iv wr => ∃ (z : Int) (f : Nat → Nat) (ys : List Nat) (t : Nat), iv = .int .i64 z ∧ -1 ≤ z ∧ z < n ∧ Hid (RowI wr lb n f) ∧ Hid (Inj f n) ∧ Hid (Keep2 b lb w wr) ∧ Hid (DrawsAt wr b M ys t) ∧ (t : Int) + z ≤ 2000) (fun iv _ => (intOf iv).toNat)
      case atStart => exact ⟨(n : Int) - 1, id, xs, s, rfl, by omega, by omega, HR2, ⟨fun _ h => h, fun _ _ _ _ h => h⟩, HK, HD, by omega⟩
      case round =>
        clear HR2 HK HD
        obtain ⟨z, f, ys, t, rfl, hz1, hz2, HR, HI, HK, HD, hts⟩ := hrel
        by_cases hz : 0 < z
        · obtain ⟨i, rfl⟩ := Int.eq_ofNat_of_zero_le (show 0 ≤ z by omega)
          have hin : i < n := by omega
          obtain ⟨j, hj, hji⟩ := pickN_ok HD.out.le (n := i + 1) (by omega)
          have hP := pick12 b M (i + 1) (by omega) (by omega) ys t (by omega) wr HD.out
          rw [hj] at hP
          have hl := lackN_le ys t
          have HP := Lib.hid hP
          have HTS := Lib.hid hts
          clear hts hl
          have i0 : (0 : Int) < i := hz
          have i1 : (i : Int) < 100 := by omega
          clear hP hj
          go_wp2_with fail
          refine HP.out.mono ?_
          rintro e w2 ⟨rfl, hd2, ht2⟩
          have HD2 := Lib.hid hd2
          have HK2 := Lib.hid (HK.out.touch ht2)
          have HR2 := Lib.hid (HR.out.touch ht2 (by omega))
          clear hd2 ht2 HP HD HK HR
          go_wp2_with fail
          have hjn : j < n := by omega
          have hjn' : (j : Int) < n := by omega
          have hin' : (i : Int) < n := by omega
          obtain ⟨W, hW⟩ : ∃ W, W = w2.drew := ⟨_, rfl⟩
          have HRW : Hid (RowI W lb n f) := by rw [hW]; exact HR2.out
          have HKW : Hid (Keep2 b lb w W) := by rw [hW]; exact HK2.out.drew
          have HDW : Hid (DrawsAt W b M ys.tail (lackN ys t)) := by rw [hW]; exact HD2.out.drew
          have HWW := Lib.hid hW
          clear HR2 HK2 HD2 hW
          refine region_mixt 14 [some (.slice (some ⟨lb, 0, none⟩) n n), some (.int .i64 (i : Int)), some (.slice (some ⟨lb, 0, none⟩) n n), some (.int .i64 (j : Int)), some (.slice (some ⟨lb, 0, none⟩) n n), some (.int .i64 (j : Int)), some (.pointer (some ⟨lb, j, none⟩)), some (.int .i64 ((f j : Nat) : Int)), some (.slice (some ⟨lb, 0, none⟩) n n), some (.int .i64 (i : Int)), some (.pointer (some ⟨lb, i, none⟩)), some (.int .i64 ((f i : Nat) : Int)), some (.pointer (some ⟨lb, i, none⟩)), none]
            [[false, false, false, false, false, false, false, false, false, false, false, false, false, false], [false, false, false, false, false, false, false, false, false, false, false, false, false, false], [false, false, false, false, false, false, false, false, false, false, false, false, false, false], [false, false, false, false, false, false, false, false, false, false, false, false, false, false], [false, false, false, false, false, false, false, false, false, false, false, false, false, false], [false, false, false, false, false, false, false, false, false, false, false, false, false, false], [false, false, false, false, true, true, false, false, false, false, false, false, false, false], [false, false, false, false, false, false, true, false, false, false, false, false, false, false], [false, false, false, false, false, false, false, false, false, false, false, false, false, false], [false, false, false, false, false, false, false, false, false, false, false, false, false, false], [false, false, false, false, false, false, false, false, true, true, false, false, false, false], [false, false, false, false, false, false, false, false, false, false, true, false, false, false], [true, true, false, false, true, true, true, true, false, false, false, true, false, false], [true, true, false, false, true, true, true, true, false, false, false, true, true, false]]
            (fun LL x w1 => SwS W lb i (f j) LL w1)
            (by kernel_rfl) (by kernel_rfl) (by kernel_rfl) (by kernel_rfl) (by kernel_rfl) (by decide) ?_ ?_ ?_
          · intro _
            exact ⟨fun _ => HWW.out.symm, fun h => (by cases h)⟩
          · simp only [List.take_succ_cons, List.take_zero]
            refine ⟨?_, ?_, ?_, ?_, ?_, ?_, ?_, ?_, ?_, ?_, ?_, ?_, ?_, ?_, trivial⟩
            all_goals
              intro LL x w9 hS hl9 hp K hK
              have hs9 : SwS W lb i (f j) LL w9 := hS
              clear hS
              replace hK := hK.out
              simp only [actMix, pickV, List.tail_cons, List.headD_cons, Act.put, List.setIfInBounds_toArray, List.set_cons_zero, List.set_cons_succ] at hK ⊢
            iterate 7
              · clear hp
                go_simp
                with_reducible refine hK _ ?_
                exact hs9.keep _ (by decide)
            · clear hp
              have e13 : LL 13 = false := by
                cases h13 : LL 13
                · rfl
                · rw [(hs9.yes h13).2.1] at hl9; cases hl9
              obtain rfl := hs9.no e13
              obtain ⟨cj, _⟩ := HRW.out j hjn
              go_simp
              with_reducible refine hK _ ?_
              exact hs9.keep _ (by decide)
            iterate 3
              · clear hp
                go_simp
                with_reducible refine hK _ ?_
                exact hs9.keep _ (by decide)
            · clear hp
              have e13 : LL 13 = false := by
                cases h13 : LL 13
                · rfl
                · rw [(hs9.yes h13).2.2] at hl9; cases hl9
              obtain rfl := hs9.no e13
              obtain ⟨cj, _⟩ := HRW.out i hin
              go_simp
              with_reducible refine hK _ ?_
              exact hs9.keep _ (by decide)
            · clear hp
              go_simp
              with_reducible refine hK _ ?_
              exact hs9.keep _ (by decide)
            · have h7 := allL_mem hp 7 (by decide +kernel)
              have h11 := allL_mem hp 11 (by decide +kernel)
              clear hp
              obtain rfl := hs9.no hl9
              obtain ⟨cj, fj⟩ := HRW.out i hin
              go_simp
              with_reducible refine hK undef _ ?_
              refine ⟨fun e => ?_, fun _ => ⟨rfl, ?_, ?_⟩⟩
              · simp [setL] at e
              · simpa [setL] using h7
              · simpa [setL] using h11
          · intro LL x w9 hS hall
            have hs9 : SwS W lb i (f j) LL w9 := hS
            obtain ⟨rfl, _, _⟩ := hs9.yes (hall 13 (by decide))
            clear hS hs9 hall
            have HR9 : Hid (RowI (W.setCell ⟨lb, i, none⟩ (.int .i64 ((f j : Nat) : Int))) lb n (fun k => if k = i then f j else f k)) := HRW.out.set hin (f j)
            have HK9 := Lib.hid (HKW.out.set (k := i) hblt (.int .i64 ((f j : Nat) : Int)))
            have HD9 := Lib.hid (HDW.out.set (k := i) hblt hMle (.int .i64 ((f j : Nat) : Int)))
            clear HRW HKW HDW HWW
            generalize W.setCell ⟨lb, i, none⟩ (.int .i64 ((f j : Nat) : Int)) = W9 at *
            obtain ⟨cj, fj⟩ := HR9.out j hjn
            simp only [actMix, pickV, List.tail_cons, List.headD_cons, Act.put, List.setIfInBounds_toArray, List.set_cons_zero, List.set_cons_succ, List.replicate_succ, List.replicate_zero, List.drop_succ_cons, List.drop_zero, List.take_succ_cons, List.take_zero]
            go_wp2_with fail
            refine ⟨⟨(i : Int) - 1, swp f i j, ys.tail, lackN ys t, rfl, by omega, by omega, ?_, HI.out.swp hin hjn, HK9.out.set hblt _, HD9.out.set hblt hMle _, by have := lackN_le ys t; have := HTS.out; omega⟩, by simp [intOf]; omega⟩
            intro k hk
            have h : _ ∧ _ := HR9.out.set hjn (f i) k hk
            exact h
        · go_wp2_with fail
          go_ret
          exact ⟨rfl, f, HR.out, HI.out, HK.out⟩
end Go.Proofs.Ytbgppkjcmgljnaa
