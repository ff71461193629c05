/- chunked: the bytes of a chunk; step. -/
import Derived.Test.YtchpgdoidpllgaaDoorDecE
namespace Go.Proofs.YtchpgdoidpllgaaDoor
open Go.RowKit

/-- Behind the append of the bytes. -/
def Aft (G : Nat → Prop) (w : World) (sv : Value) (B : List UInt8) (v : Value) (w1 : World) : Prop :=
  w1.ownsRow 0 5 1 sv ([] : List UInt8).length (byteVals []) ∧ w1.ownsRow 0 5 1 v B.length (byteVals B) ∧ (∀ j, v.ownBlock = some j → G j) ∧ (∀ j, sv.ownBlock = some j → v.ownBlock ≠ some j) ∧ Keep G w w1
set_option maxRecDepth 100000 in
set_option maxHeartbeats 4000000 in
/-- The bytes of a chunk. -/
theorem bytes19 (G : Nat → Prop) (g : Nat) (m : Int) (k : Nat) (z : Bool) (body : List UInt8) (s : ByteArray) (n d : Nat) (hn : n = min k s.size) (hd : k = n + d) (hk : k ≤ 4294967296) (hsz : s.size ≤ 1000000000) (hbl : body.length ≤ 1000000000) (st : Int) (hst : (if d = 0 then (3 : Int) else 2) = st) (B : List UInt8) (hB : B = body ++ s.data.toList.take n) (w : World) (h : Dec G w g m 2 [] k z body 0) (hu : Up G w) :
    Calls Tryd.prog 19 #[.pointer (some ⟨g, 0, none⟩), .string s] w fun r w' => r = .returned (.string (s.extract n s.size)) ∧ Dec G w' g m st [] d z B 0 ∧ Keep G w w' := by
  obtain ⟨i0, hi, hz0, hz1, hz2⟩ := info_parts infoU8
  obtain ⟨sv, b, h⟩ := h
  have HD := Lib.hid h
  have HU := Lib.hid hu
  have HB := Lib.hid hB
  have HI := Lib.hid hi
  have HZ0 := Lib.hid hz0
  have HZ1 := Lib.hid hz1
  have HZ2 := Lib.hid hz2
  have c1 := h.c.2.1
  have c3 := h.c.2.2.2.1
  clear h hu hB hi hz0 hz1 hz2
  have hmin : min (k : Int) (s.size : Int) = (n : Int) := by omega
  have nsN : n ≤ s.size := by omega
  have ns : (n : Int) ≤ s.size := by omega
  have HSUB : Hid ((k : Int) - (n : Int) = (d : Int)) := by show _ = _; omega
  have HDK := Lib.hid hd
  clear hn hd
  go_enter Tryd.func19, Tryd.ntmps19
  go_wp2_with fail
  refine region_mixt 9 [some (.pointer (some ⟨g, 0, none⟩)), some (.pointer (some ⟨g, 0, none⟩)), some (.pointer (some ⟨g, 0, none⟩)), some (.pointer (some ⟨g, 5, none⟩)), some (b), some (.string s), some (.int .i64 (n : Int)), some (.string (s.extract 0 n)), none]
    [[false, false, false, false, false, false, false, false, false], [false, false, false, false, false, false, false, false, false], [false, true, false, false, false, false, false, false, false], [false, false, true, false, false, false, false, false, false], [false, false, false, true, false, false, false, false, false], [false, false, false, false, false, false, false, false, false], [false, false, false, false, false, false, false, false, false], [false, false, false, false, false, true, true, false, false], [false, false, false, false, true, false, false, true, false]]
    (fun L x w1 => Row w1 g 45 (decCells m 2 sv k z b 0) ∧ (L 8 = false → Below w.heap.size w w1) ∧ (L 8 = true → Aft G w sv B (x 8) w1))
    (by kernel_rfl) (by kernel_rfl) (by kernel_rfl) (by kernel_rfl) (by kernel_rfl) (by decide) ?_ ?_ ?_
  · intro _
    exact ⟨HD.out.row, fun _ => ⟨rfl, rfl, rfl, Nat.le_refl _, fun _ _ => rfl⟩, (fun h => nomatch h)⟩
  · simp only [List.take_succ_cons, List.take_zero]
    refine ⟨?_, ?_, ?_, ?_, ?_, ?_, ?_, ?_, ?_, trivial⟩
    all_goals
      intro L x w9 hS hl hp K9 hK9
      have s1 := hS.1
      have s2 := hS.2.1
      have s3 := hS.2.2
      clear hS hp
      have c5 := s1.cell 5
      replace hK9 := hK9.out
      simp only [actMix, pickV, List.tail_cons, List.headD_cons, Act.put, List.setIfInBounds_toArray, List.set_cons_zero, List.set_cons_succ] at hK9 ⊢
    iterate 8
      · clear hl
        have S2 := Lib.hid s2
        have S3 := Lib.hid s3
        clear s2 s3
        have c5' : w9.cell? ⟨g, 5, none⟩ = some b := c5
        clear c5
        go_simp
        with_reducible refine hK9 _ ?_
        exact ⟨s1, S2.out, S3.out⟩
    · rw [if_pos (by rfl)]
      have hb9 := s2 hl
      refine wp_app_str (Operand.tmp 28) (Operand.tmp 31) 43 9 rfl 5 i0 Tryd.underlying43 Tryd.underlying9 HI.out HZ0.out HZ1.out HZ2.out b body.length (byteVals body) rfl (own_bel HD.out.bo hb9) (s.extract 0 n) rfl (by rw [size_extract _ _ _ nsN]; unfold maxLen; omega) (by rw [size_extract _ _ _ nsN]; omega) ?_
      intro v' w' ho hg ha
      obtain ⟨r1, o1, g1, b1, k1⟩ := (HD.out.below hb9).grewB hg rfl ha (HU.out.below hb9)
      have hBl : B.length = body.length + (s.extract 0 n).size := by rw [HB.out, List.length_append, size_extract _ _ _ nsN, List.length_take]; have := Lib.size_eq s; omega
      have hBv : byteVals B = byteVals body ++ Lib.strCells (s.extract 0 n) := by
        rw [HB.out, strCells_bytes, extractL]
        simp [byteVals]
      refine hK9 _ _ ⟨r1, (fun h => nomatch h), fun _ => ⟨o1, ?_, g1, b1, (Keep.of_below hb9).trans k1⟩⟩
      rw [hBl, hBv]
      exact ho
  intro L x w9 hS hL
  have r9 := hS.1
  have A9 := hS.2.2 (hL 8 (by decide))
  clear hS
  generalize hx8 : x 8 = v at *
  simp only [actMix, pickV, List.tail_cons, List.headD_cons, Act.put, List.setIfInBounds_toArray, List.set_cons_zero, List.set_cons_succ, List.replicate_succ, List.replicate_zero, List.drop_succ_cons, List.drop_zero, List.take_succ_cons, List.take_zero]
  obtain ⟨va, vc, hv⟩ := own_slice A9.2.1
  subst hv
  have HD10 := Lib.hid (((decAt_put5 r9 HD.out.gG A9.1 A9.2.1 HD.out.sG A9.2.2.1 A9.2.2.2.1).set3 d).set1 st)
  have HD11 := Lib.hid ((decAt_put5 r9 HD.out.gG A9.1 A9.2.1 HD.out.sG A9.2.2.1 A9.2.2.2.1).set3 d)
  have HKK := Lib.hid (fun (v : World) (i : Nat) (u : Value) => Keep.setCell v (p := ⟨g, i, none⟩) HD.out.gG u)
  have HK9 := Lib.hid A9.2.2.2.2
  have f1 := r9.free 1
  have f3 := r9.free 3
  have f5 := r9.free 5
  have d1 := r9.cell 1
  have d3 := r9.cell 3
  have d5 := r9.cell 5
  have e1 : w9.cell? ⟨g, 1, none⟩ = some (.int .i64 2) := d1
  have e3 : w9.cell? ⟨g, 3, none⟩ = some (.int .i64 (k : Int)) := d3
  have e5 : w9.cell? ⟨g, 5, none⟩ = some b := d5
  have hsub := HSUB.out
  clear A9 r9 d1 d3 d5 c1 c3 hL HB
  by_cases h0 : d = 0
  · rw [if_pos h0] at hst
    subst hst
    subst h0
    go_wp2_with fail
    go_ret
    exact ⟨rfl, ⟨_, _, HD10.out⟩, ((HK9.out.trans (HKK.out _ _ _)).trans (HKK.out _ _ _)).trans (HKK.out _ _ _)⟩
  · rw [if_neg h0] at hst
    subst hst
    have hz : ((d : Int) == 0) = false := beq_eq_false_iff_ne.2 (by omega)
    go_wp2_with fail
    go_ret
    exact ⟨rfl, ⟨_, _, HD11.out⟩, (HK9.out.trans (HKK.out _ _ _)).trans (HKK.out _ _ _)⟩
end Go.Proofs.YtchpgdoidpllgaaDoor
