/- The walk of the statement BlakeSums. -/
import Derived.Test.YtfelkdghjbecpaaDoorBAwake
namespace Go.Proofs.YtfelkdghjbecpaaDoor
open Go.RowKit

theorem Bytes.drew {n : Nat} {w : World} {b : Nat} {f : Nat → Int} (h : Bytes n w b f) : Bytes n w.drew b f := h
set_option maxHeartbeats 400000 in
theorem lawBlakeSums (s : ByteArray) (w : World) (ht : Tabs w) :
    Calls Tryd.prog 3 #[.string s] w fun e w' => e = .returned (.bool true) ∧ Below w.heap.size w w' := by
  have HT := Lib.hid ht
  clear ht
  go_enter Tryd.func3, Tryd.ntmps3
  go_wp2_with fail
  refine (bawake10 w HT.out).mono ?_
  rintro e w1 ⟨rfl, hb1⟩
  have T1 : Hid (Tabs w1) := HT.out.below hb1
  clear HT
  go_wp2_with (go_at_call 11; refine (cut11 s 200 _).mono ?_; rintro e w' ⟨rfl, rfl⟩)
  obtain ⟨t, hteq⟩ : ∃ t, t = cutS s 200 := ⟨_, rfl⟩
  have htz : t.size ≤ 200 := by rw [hteq]; exact cutS_size s 200
  rw [← hteq]
  clear hteq
  refine (bsum_one t w1 _ T1.out (by omega)).mono ?_
  rintro e w2 ⟨rfl, hb2⟩
  have hbel : Below w.heap.size w w2 := hb1.trans (hb2.mono hb1.size)
  obtain ⟨l, hl⟩ : ∃ l, l = t.data.toList := ⟨_, rfl⟩
  rw [← hl]
  obtain ⟨hk, hkb, hkz⟩ := hash_kept w2 l 24 #[.int .u8 0, .int .u8 0, .int .u8 0, .int .u8 0, .int .u8 0, .int .u8 0, .int .u8 0, .int .u8 0, .int .u8 0, .int .u8 0, .int .u8 0, .int .u8 0, .int .u8 0, .int .u8 0, .int .u8 0, .int .u8 0, .int .u8 0, .int .u8 0, .int .u8 0, .int .u8 0, .int .u8 0, .int .u8 0, .int .u8 0, .int .u8 0, .int .u8 0, .int .u8 0, .int .u8 0, .int .u8 0, .int .u8 0, .int .u8 0, .int .u8 0, .int .u8 0] rfl
  have hth := hash_there w2 l 24 #[.int .u8 0, .int .u8 0, .int .u8 0, .int .u8 0, .int .u8 0, .int .u8 0, .int .u8 0, .int .u8 0, .int .u8 0, .int .u8 0, .int .u8 0, .int .u8 0, .int .u8 0, .int .u8 0, .int .u8 0, .int .u8 0, .int .u8 0, .int .u8 0, .int .u8 0, .int .u8 0, .int .u8 0, .int .u8 0, .int .u8 0, .int .u8 0, .int .u8 0, .int .u8 0, .int .u8 0, .int .u8 0, .int .u8 0, .int .u8 0, .int .u8 0, .int .u8 0] rfl
  have hs2 := size32 (blakeB l)
  have hone := bytesCells_one 32 (blakeB l)
  have HK := Lib.hid hk
  have HKB := Lib.hid (hbel.trans (hkb.mono hbel.size))
  have hrs := fun W => rsum13 blkSpec t (by omega) W
  rw [← hl] at hrs
  have HRS := Lib.hid hrs
  clear hl hk hkb hbel hb1 hb2 T1 hrs
  generalize hcs : bytesCells 32 (blakeB l) = cs at *
  have HCS := Lib.hid hcs
  clear hcs
  go_wp2_with (refine wpList_store_row rfl 24 _ _ rfl _ cs.toArray rfl rfl hth hs2 hone ?_)
  have HK2 : Hid (Bytes 32 ((w2.alloc (.cells #[.int .u8 0, .int .u8 0, .int .u8 0, .int .u8 0, .int .u8 0, .int .u8 0, .int .u8 0, .int .u8 0, .int .u8 0, .int .u8 0, .int .u8 0, .int .u8 0, .int .u8 0, .int .u8 0, .int .u8 0, .int .u8 0, .int .u8 0, .int .u8 0, .int .u8 0, .int .u8 0, .int .u8 0, .int .u8 0, .int .u8 0, .int .u8 0, .int .u8 0, .int .u8 0, .int .u8 0, .int .u8 0, .int .u8 0, .int .u8 0, .int .u8 0, .int .u8 0] 24)).setCells w2.heap.size 0 cs) w2.heap.size (blakeB l)) := HK.out
  have HKB2 : Hid (Below w.heap.size w ((w2.alloc (.cells #[.int .u8 0, .int .u8 0, .int .u8 0, .int .u8 0, .int .u8 0, .int .u8 0, .int .u8 0, .int .u8 0, .int .u8 0, .int .u8 0, .int .u8 0, .int .u8 0, .int .u8 0, .int .u8 0, .int .u8 0, .int .u8 0, .int .u8 0, .int .u8 0, .int .u8 0, .int .u8 0, .int .u8 0, .int .u8 0, .int .u8 0, .int .u8 0, .int .u8 0, .int .u8 0, .int .u8 0, .int .u8 0, .int .u8 0, .int .u8 0, .int .u8 0, .int .u8 0] 24)).setCells w2.heap.size 0 cs)) := HKB.out
  have hkz2 : w2.heap.size < ((w2.alloc (.cells #[.int .u8 0, .int .u8 0, .int .u8 0, .int .u8 0, .int .u8 0, .int .u8 0, .int .u8 0, .int .u8 0, .int .u8 0, .int .u8 0, .int .u8 0, .int .u8 0, .int .u8 0, .int .u8 0, .int .u8 0, .int .u8 0, .int .u8 0, .int .u8 0, .int .u8 0, .int .u8 0, .int .u8 0, .int .u8 0, .int .u8 0, .int .u8 0, .int .u8 0, .int .u8 0, .int .u8 0, .int .u8 0, .int .u8 0, .int .u8 0, .int .u8 0, .int .u8 0] 24)).setCells w2.heap.size 0 cs).heap.size := hkz
  clear HK HKB hkz HCS hth hs2 hone
  generalize hW : World.setCells _ _ _ _ = w3 at *
  clear hW
  generalize w2.heap.size = b at *
  refine region_mixt 5 [some (.slice (some ⟨b, 0, none⟩) 32 32), some (.string ⟨(blakeL l).toArray⟩), some (.string t), some (.string ⟨(blakeL l).toArray⟩), some (.bool true)]
    [[false, false, false, false, false], [true, false, false, false, false], [false, false, false, false, false], [false, false, true, false, false], [false, true, false, true, false]]
    (fun L x w1 => Hid (Bytes 32 w1 b (blakeB l)) ∧ Below w.heap.size w w1 ∧ b < w1.heap.size)
    (by kernel_rfl) (by kernel_rfl) (by kernel_rfl) (by kernel_rfl) (by kernel_rfl) (by decide) ?_ ?_ ?_
  · intro _
    exact ⟨Lib.hid HK2.out.drew, HKB2.out.drew, hkz2⟩
  · simp only [List.take_succ_cons, List.take_zero]
    refine ⟨?_, ?_, ?_, ?_, ?_, trivial⟩
    all_goals
      intro L x w9 hS hl hp K hK
      have c1 := hS.1
      have c2 := hS.2.1
      have c3 := hS.2.2
      clear hS hp HK2 HKB2
      replace hK := hK.out
      simp only [actMix, pickV, List.tail_cons, List.headD_cons, Act.put, List.setIfInBounds_toArray, List.set_cons_zero, List.set_cons_succ] at hK ⊢
    · go_simp
      with_reducible refine hK _ ?_
      exact ⟨c1, c2, c3⟩
    · have hcv := bytes_string c1.out 32
      rw [hash_str] at hcv
      go_simp
      with_reducible refine hK _ ?_
      exact ⟨c1, c2, c3⟩
    · go_simp
      with_reducible refine hK _ ?_
      exact ⟨c1, c2, c3⟩
    · go_simp
      refine (HRS.out _).mono ?_
      rintro e w8 ⟨rfl, hb8⟩
      with_reducible refine hK _ ?_
      exact ⟨c1.out.below hb8 c3, c2.trans (hb8.mono c2.size), Nat.lt_of_lt_of_le c3 hb8.size⟩
    · go_simp
      with_reducible refine hK _ ?_
      exact ⟨c1, c2, c3⟩
  · intro L x w9 hS hL
    have c2 := hS.2.1
    clear hS hL HK2 HKB2
    simp only [actMix, pickV, List.tail_cons, List.headD_cons, Act.put, List.setIfInBounds_toArray, List.set_cons_zero, List.set_cons_succ, List.replicate_succ, List.replicate_zero, List.drop_succ_cons, List.drop_zero, List.take_succ_cons, List.take_zero]
    go_wp2_with fail
    go_ret
    exact ⟨rfl, c2⟩
end Go.Proofs.YtfelkdghjbecpaaDoor
