/- The walk of the statement MacSums. -/
import Derived.Test.YtfelkdghjbecpaaDoorLawMacSame
namespace Go.Proofs.YtfelkdghjbecpaaDoor
open Go.RowKit

theorem tag_at (k s : ByteArray) (hk : k.size ≤ 1000000) (hs : s.size ≤ 1000000) (b : Nat) (w : World) (ht : Tabs w) (hc : w.cell? ⟨b, 0, none⟩ = some (.string s)) :
    Calls Tryd.prog 22 #[.string k, .slice (some ⟨b, 0, none⟩) 1 1] w fun e w' => e = .returned (.string ⟨(tagL k.data.toList s.data.toList).toArray⟩) ∧ Below w.heap.size w w' := by
  have := tag22 k hk ⟨b, 0, none⟩ 1 [s] w ht (.inr ⟨b, 0, rfl, World.block_lt_of_cell? w _ hc, by simp, fun j x hx => by
    match j, hx with
    | 0, hx => obtain rfl : s = x := Option.some.inj hx; exact hc
    | j + 1, hx => simp at hx⟩) (by simp) (by rw [flat_one, ← Lib.size_eq]; exact hs)
  rw [flat_one] at this
  exact this
theorem msum_one (k s : ByteArray) (hk : k.size ≤ 1000000) (hs : s.size ≤ 1000000) (w : World) (T : TypeId) (ht : Tabs w) :
    Calls Tryd.prog 20 #[.string k, .slice (some ⟨w.heap.size, 0, none⟩) 1 1] (w.alloc (.cells #[.string s] T)) fun e w' => e = .returned (.agg (bytesCells 32 (blakeB (macOut k.data.toList s.data.toList))).toArray) ∧ Below w.heap.size w w' := by
  have := msum20 k hk ⟨w.heap.size, 0, none⟩ 1 [s] (w.alloc (.cells #[.string s] T)) (ht.below (below_alloc _ _)) (strs_new w s T) (by simp) (by rw [flat_one, ← Lib.size_eq]; exact hs)
  rw [flat_one] at this
  exact this.mono fun e w' ⟨he, hb⟩ => ⟨he, (below_alloc w _).trans (hb.mono (by simp))⟩

set_option maxHeartbeats 1000000 in
theorem lawMacSums (key s : ByteArray) (w : World) (ht : Tabs w) :
    Calls Tryd.prog 6 #[.string key, .string s] w fun e w' => e = .returned (.bool true) ∧ Below w.heap.size w w' := by
  have HT := Lib.hid ht
  clear ht
  go_enter Tryd.func6, Tryd.ntmps6
  go_wp2_with fail
  refine (mawake19 w HT.out).mono ?_
  rintro e w1 ⟨rfl, hb1⟩
  have T1 : Hid (Tabs w1) := HT.out.below hb1
  clear HT
  go_wp2_with fail
  refine (cut11 key 80 _).mono ?_
  rintro e w' ⟨rfl, rfl⟩
  go_wp2_with fail
  refine (cut11 s 100 _).mono ?_
  rintro e w' ⟨rfl, rfl⟩
  obtain ⟨k, hk⟩ : ∃ k, k = cutS key 80 := ⟨_, rfl⟩
  obtain ⟨x, hx⟩ : ∃ x, x = cutS s 100 := ⟨_, rfl⟩
  have hkz : k.size ≤ 80 := by rw [hk]; exact cutS_size _ _
  have hxz : x.size ≤ 100 := by rw [hx]; exact cutS_size _ _
  rw [← hk, ← hx]
  clear hk hx
  obtain ⟨l, hl⟩ : ∃ l, l = macOut k.data.toList x.data.toList := ⟨_, rfl⟩
  have hms := msum_one k x (by omega) (by omega) w1 9 T1.out
  rw [← hl] at hms
  have HMS := Lib.hid hms
  have hrm := fun W => rmac21 k x (by omega) (by omega) W
  rw [← hl] at hrm
  have HRM := Lib.hid hrm
  obtain ⟨T, hT⟩ : ∃ T : ByteArray, T = ⟨(tagL k.data.toList x.data.toList).toArray⟩ := ⟨_, rfl⟩
  have htg := fun b W hW hc => tag_at k x (by omega) (by omega) b W hW hc
  have hrt := fun W => rtag23 k x (by omega) (by omega) W
  rw [← hT] at htg hrt
  have HTG := Lib.hid htg
  have HRT := Lib.hid hrt
  clear hms hrm htg hrt hl hT
  go_wp2_with fail
  refine HMS.out.mono ?_
  rintro e w2 ⟨rfl, hb2⟩
  have T2 : Hid (Tabs w2) := T1.out.below hb2
  have hbel : Below w.heap.size w w2 := hb1.trans (hb2.mono hb1.size)
  obtain ⟨hkp, hkb, hkz⟩ := hash_kept w2 l 24 #[.int .u8 0, .int .u8 0, .int .u8 0, .int .u8 0, .int .u8 0, .int .u8 0, .int .u8 0, .int .u8 0, .int .u8 0, .int .u8 0, .int .u8 0, .int .u8 0, .int .u8 0, .int .u8 0, .int .u8 0, .int .u8 0, .int .u8 0, .int .u8 0, .int .u8 0, .int .u8 0, .int .u8 0, .int .u8 0, .int .u8 0, .int .u8 0, .int .u8 0, .int .u8 0, .int .u8 0, .int .u8 0, .int .u8 0, .int .u8 0, .int .u8 0, .int .u8 0] rfl
  have hth := hash_there w2 l 24 #[.int .u8 0, .int .u8 0, .int .u8 0, .int .u8 0, .int .u8 0, .int .u8 0, .int .u8 0, .int .u8 0, .int .u8 0, .int .u8 0, .int .u8 0, .int .u8 0, .int .u8 0, .int .u8 0, .int .u8 0, .int .u8 0, .int .u8 0, .int .u8 0, .int .u8 0, .int .u8 0, .int .u8 0, .int .u8 0, .int .u8 0, .int .u8 0, .int .u8 0, .int .u8 0, .int .u8 0, .int .u8 0, .int .u8 0, .int .u8 0, .int .u8 0, .int .u8 0] rfl
  have hs2 := size32 (blakeB l)
  have hone := bytesCells_one 32 (blakeB l)
  have HK := Lib.hid hkp
  have HKB := Lib.hid (hbel.trans (hkb.mono hbel.size))
  have T3 := Lib.hid (T2.out.below hkb)
  have HKZ := Lib.hid hkz
  clear hkp hkb hkz hbel hb1 hb2 T1 T2 HMS
  generalize hcs : bytesCells 32 (blakeB l) = cs at *
  clear hcs
  go_wp2_with (refine wpList_store_row rfl 24 _ _ rfl _ cs.toArray rfl rfl hth hs2 hone ?_)
  generalize hW : World.setCells (World.alloc w2 _) _ _ _ = w3 at *
  clear hW hth hs2 hone
  have hz3 : w2.heap.size < w3.heap.size := HKZ.out
  have hb3 : Below w.heap.size w w3 := HKB.out
  clear HKZ HKB
  generalize w2.heap.size = b at *
  refine region_mixt 16 [some (.slice (some ⟨b, 0, none⟩) 32 32), some (.string ⟨(blakeL l).toArray⟩), some (.string k), some (.string x), some (.string ⟨(blakeL l).toArray⟩), some (.bool true), some (.bool true), some (.string k), some (.string x), none, some (.string T), some (.string k), some (.string x), some (.string T), some (.bool true), some (.bool true)]
    [[false, false, false, false, false, false, false, false, false, false, false, false, false, false, false, false], [true, false, false, false, false, false, false, false, false, false, false, false, false, false, false, false], [false, false, false, false, false, false, false, false, false, false, false, false, false, false, false, false], [false, false, false, false, false, false, false, false, false, false, false, false, false, false, false, false], [false, false, true, true, false, false, false, false, false, false, false, false, false, false, false, false], [false, true, false, false, true, false, false, false, false, false, false, false, false, false, false, false], [false, false, false, false, true, true, false, false, false, false, false, false, false, false, false, false], [false, false, false, false, false, false, true, false, false, false, false, false, false, false, false, false], [false, false, false, false, false, false, true, false, false, false, false, false, false, false, false, false], [false, false, false, false, false, false, true, false, true, false, false, false, false, false, false, false], [false, false, false, false, false, false, true, true, false, true, false, false, false, false, false, false], [false, false, false, false, false, false, true, false, false, false, false, false, false, false, false, false], [false, false, false, false, false, false, true, false, false, false, false, false, false, false, false, false], [false, false, false, false, false, false, true, false, false, false, true, true, true, false, false, false], [false, false, false, false, false, false, true, false, false, false, true, false, false, true, false, false], [false, false, false, false, false, false, true, false, false, false, false, false, false, false, true, false]]
    (fun L x9 w1 => Hid (Bytes 32 w1 b (blakeB l)) ∧ Hid (Tabs w1) ∧ Below w.heap.size w w1 ∧ b < w1.heap.size ∧ (L 9 = true → ∃ q, x9 9 = .slice (some ⟨q, 0, none⟩) 1 1 ∧ w1.cell? ⟨q, 0, none⟩ = some (.string x)))
    (by kernel_rfl) (by kernel_rfl) (by kernel_rfl) (by kernel_rfl) (by kernel_rfl) (by decide) ?_ ?_ ?_
  · intro _
    exact ⟨Lib.hid (bytes_drew HK.out), Lib.hid T3.out.drew, hb3.drew, hz3, fun h => (by cases h)⟩
  · simp only [List.take_succ_cons, List.take_zero]
    refine ⟨?_, ?_, ?_, ?_, ?_, ?_, ?_, ?_, ?_, ?_, ?_, ?_, ?_, ?_, ?_, ?_, trivial⟩
    all_goals
      intro L x9 w9 hS hl hp K hK
      have c1 := hS.1
      have c2 := hS.2.1
      have c3 := hS.2.2.1
      have c4 := hS.2.2.2.1
      have c5 := hS.2.2.2.2
      clear hS HK T3 hb3 hz3
      replace hK := hK.out
      simp only [actMix, pickV, List.tail_cons, List.headD_cons, Act.put, List.setIfInBounds_toArray, List.set_cons_zero, List.set_cons_succ] at hK ⊢
    · clear hp
      go_simp
      with_reducible refine hK _ ?_
      exact ⟨c1, c2, c3, c4, fun h => (by simpa [updV] using c5 (by simpa [setL] using h))⟩
    · clear hp
      have hcv := bytes_string c1.out 32
      rw [hash_str] at hcv
      go_simp
      with_reducible refine hK _ ?_
      exact ⟨c1, c2, c3, c4, fun h => (by simpa [updV] using c5 (by simpa [setL] using h))⟩
    iterate 2
      · clear hp
        go_simp
        with_reducible refine hK _ ?_
        exact ⟨c1, c2, c3, c4, fun h => (by simpa [updV] using c5 (by simpa [setL] using h))⟩
    · clear hp
      go_simp
      refine (HRM.out _).mono ?_
      rintro e w8 ⟨rfl, hb8⟩
      with_reducible refine hK _ ?_
      exact ⟨Lib.hid (c1.out.below hb8 c4), c2.out.below hb8, c3.trans (hb8.mono c3.size), Nat.lt_of_lt_of_le c4 hb8.size, fun h => by
        obtain ⟨q, q1, q2⟩ := c5 (by simpa [setL] using h)
        exact ⟨q, by simpa [updV] using q1, by rw [(bcell hb8).1 _ _ (World.block_lt_of_cell? w9 _ q2)]; exact q2⟩⟩
    iterate 4
      · clear hp
        go_simp
        with_reducible refine hK _ ?_
        exact ⟨c1, c2, c3, c4, fun h => (by simpa [updV] using c5 (by simpa [setL] using h))⟩
    · clear hp c5
      go_simp
      with_reducible refine hK _ _ ?_
      have hb8 := below_alloc w9 (.cells #[.string x] 9)
      exact ⟨Lib.hid (c1.out.below hb8 c4), c2.out.below hb8, c3.trans (hb8.mono c3.size), Nat.lt_of_lt_of_le c4 hb8.size, fun _ => ⟨w9.heap.size, by simp [updV], by simp⟩⟩
    · have h9 : L 9 = true := allL_mem hp 9 (by decide +kernel)
      obtain ⟨b9, h1, h2⟩ := c5 h9
      clear hp
      rw [h1] at hK ⊢
      go_simp
      refine (HTG.out b9 w9 c2.out h2).mono ?_
      rintro e w8 ⟨rfl, hb8⟩
      with_reducible refine hK _ ?_
      exact ⟨Lib.hid (c1.out.below hb8 c4), c2.out.below hb8, c3.trans (hb8.mono c3.size), Nat.lt_of_lt_of_le c4 hb8.size, fun h => by
        obtain ⟨q, q1, q2⟩ := c5 (by simpa [setL] using h)
        exact ⟨q, by simpa [updV] using q1, by rw [(bcell hb8).1 _ _ (World.block_lt_of_cell? w9 _ q2)]; exact q2⟩⟩
    iterate 2
      · clear hp
        go_simp
        with_reducible refine hK _ ?_
        exact ⟨c1, c2, c3, c4, fun h => (by simpa [updV] using c5 (by simpa [setL] using h))⟩
    · clear hp
      go_simp
      refine (HRT.out _).mono ?_
      rintro e w8 ⟨rfl, hb8⟩
      with_reducible refine hK _ ?_
      exact ⟨Lib.hid (c1.out.below hb8 c4), c2.out.below hb8, c3.trans (hb8.mono c3.size), Nat.lt_of_lt_of_le c4 hb8.size, fun h => by
        obtain ⟨q, q1, q2⟩ := c5 (by simpa [setL] using h)
        exact ⟨q, by simpa [updV] using q1, by rw [(bcell hb8).1 _ _ (World.block_lt_of_cell? w9 _ q2)]; exact q2⟩⟩
    iterate 2
      · clear hp
        go_simp
        with_reducible refine hK _ ?_
        exact ⟨c1, c2, c3, c4, fun h => (by simpa [updV] using c5 (by simpa [setL] using h))⟩
  · intro L x9 w9 hS hL
    have c3 := hS.2.2.1
    clear hS hL HK T3 hb3
    simp only [actMix, pickV, List.tail_cons, List.headD_cons, Act.put, List.setIfInBounds_toArray, List.set_cons_zero, List.set_cons_succ, List.replicate_succ, List.replicate_zero, List.drop_succ_cons, List.drop_zero, List.take_succ_cons, List.take_zero]
    go_wp2_with fail
    go_ret
    exact ⟨rfl, c3⟩
end Go.Proofs.YtfelkdghjbecpaaDoor
