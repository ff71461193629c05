/- chunked: beginBytes. -/
import Derived.Test.YtchpgdoidpllgaaDoorDecB
namespace Go.Proofs.YtchpgdoidpllgaaDoor
open Go.RowKit

set_option maxRecDepth 100000 in
set_option maxHeartbeats 4000000 in
/-- A size's end. -/
theorem begin29 (G : Nat → Prop) (g : Nat) (m : Int) (ds : List UInt8) (k : Nat) (z : Bool) (body : List UInt8) (e : Int) (hl : ds.length ≤ 8) (hm0 : -9223372036854775808 ≤ m - body.length) (hm1 : m - body.length ≤ 9223372036854775807) (r1 : Nat) (r2 : Int) (q : Bool) (hq : (r2 != 0) = q) (hr : numR 16 8 isHex ds (m - body.length) = ((r1 : Int), r2)) (w : World) (h : Dec G w g m 1 ds k z body e) (hu : Up G w) (hy : ∀ w', Keep G w w' → Syn w') :
    Calls Tryd.prog 29 #[.pointer (some ⟨g, 0, none⟩)] w fun r w' => r = .returned (.tuple #[]) ∧
      (if q = true then Dec G w' g 0 6 [] 0 false [] r2 else Dec G w' g m 2 [] r1 (decide (r1 = 0)) body e) ∧ Keep G w w' := by
  obtain ⟨s, b, h⟩ := h
  have HD2 := Lib.hid h
  have HY := Lib.hid hy
  have HU := Lib.hid hu
  have HR := Lib.hid hr
  have HK2 := Lib.hid (Keep.refl G w)
  have CV : Hid (∀ W : World, W.ownsRow 0 5 1 s ds.length (byteVals ds) → (convert 43 9 s).run Tryd.prog W = .ok (.string ⟨ds.toArray⟩) W) := fun W h => own_string W 0 s _ h
  have HX : Hid (∀ W : World, Syn W → Calls Tryd.prog 34 #[.string ⟨ds.toArray⟩, .int .i64 (m - body.length)] W fun e w' => e = .returned (.tuple #[.int .i64 r1, .int .i64 r2]) ∧ Below W.heap.size W w') := fun W h => hex_i _ (by rw [Lib.size_eq]; simp; omega) (m - body.length) r1 r2 HR.out W h
  have fw : IntKind.i64.wrap (m - body.length) = m - body.length := IntWalk.i64_in _ (by omega)
  obtain ⟨ba, bc, hbv⟩ := own_slice h.bo
  subst hbv
  obtain ⟨sa, sc, hsv⟩ := own_slice h.so
  subst hsv
  clear h hy hu hr
  generalize (⟨ds.toArray⟩ : ByteArray) = T at *
  go_enter Tryd.func29, Tryd.ntmps29
  go_wp2_with fail
  refine region_mixt 20 [some (.pointer (some ⟨g, 0, none⟩)), some (.pointer (some ⟨g, 0, none⟩)), some (.pointer (some ⟨g, 2, none⟩)), some (.slice sa ds.length sc), some (.string T), some (.pointer (some ⟨g, 0, none⟩)), some (.pointer (some ⟨g, 0, none⟩)), some (.pointer (some ⟨g, 0, none⟩)), some (.int .i64 m), some (.pointer (some ⟨g, 0, none⟩)), some (.pointer (some ⟨g, 0, none⟩)), some (.pointer (some ⟨g, 5, none⟩)), some (.slice ba body.length bc), some (.int .i64 (body.length : Int)), some (.int .i64 (m - (body.length : Int))), some (.tuple #[.int .i64 (r1 : Int), .int .i64 r2]), some (.tuple #[.int .i64 (r1 : Int), .int .i64 r2]), some (.int .i64 (r1 : Int)), some (.int .i64 r2), some (.int .i64 (r1 : Int))]
    [[false, false, false, false, false, false, false, false, false, false, false, false, false, false, false, false, false, false, false, false], [true, false, false, false, false, false, false, false, false, false, false, false, false, false, false, false, false, false, false, false], [false, true, false, false, false, false, false, false, false, false, false, false, false, false, false, false, false, false, false, false], [false, false, true, false, false, false, false, false, false, false, false, false, false, false, false, false, false, false, false, false], [false, false, false, true, false, false, false, false, false, false, false, false, false, false, false, false, false, false, false, false], [false, false, false, false, false, false, false, false, false, false, false, false, false, false, false, false, false, false, false, false], [false, false, false, false, false, true, false, false, false, false, false, false, false, false, false, false, false, false, false, false], [false, false, false, false, false, false, true, false, false, false, false, false, false, false, false, false, false, false, false, false], [false, false, false, false, false, false, false, true, false, false, false, false, false, false, false, false, false, false, false, false], [false, false, false, false, false, false, false, false, false, false, false, false, false, false, false, false, false, false, false, false], [false, false, false, false, false, false, false, false, false, true, false, false, false, false, false, false, false, false, false, false], [false, false, false, false, false, false, false, false, false, false, true, false, false, false, false, false, false, false, false, false], [false, false, false, false, false, false, false, false, false, false, false, true, false, false, false, false, false, false, false, false], [false, false, false, false, false, false, false, false, false, false, false, false, true, false, false, false, false, false, false, false], [false, false, false, false, false, false, false, false, true, false, false, false, false, true, false, false, false, false, false, false], [false, false, false, false, true, false, false, false, false, false, false, false, false, false, true, false, false, false, false, false], [false, false, false, false, false, false, false, false, false, false, false, false, false, false, false, true, false, false, false, false], [false, false, false, false, false, false, false, false, false, false, false, false, false, false, false, false, true, false, false, false], [false, false, false, false, false, false, false, false, false, false, false, false, false, false, false, false, true, false, false, false], [true, true, true, true, true, true, true, true, true, true, true, true, true, true, true, true, true, true, false, false]]
    (fun L x w1 => Below w.heap.size w w1)
    (by kernel_rfl) (by kernel_rfl) (by kernel_rfl) (by kernel_rfl) (by kernel_rfl) (by decide) ?_ ?_ ?_
  · intro _
    exact ⟨rfl, rfl, rfl, Nat.le_refl _, fun _ _ => rfl⟩
  · simp only [List.take_succ_cons, List.take_zero]
    refine ⟨?_, ?_, ?_, ?_, ?_, ?_, ?_, ?_, ?_, ?_, ?_, ?_, ?_, ?_, ?_, ?_, ?_, ?_, ?_, ?_, trivial⟩
    all_goals
      intro L x w9 hS hl hp K9 hK9
      have hs : Below w.heap.size w w9 := hS
      clear hS hp hl
      have D9 := HD2.out.below hs
      have d0 := D9.c.1
      have d2 := D9.c.2.2.1
      have d5 := D9.c.2.2.2.2.2.1
      have dv := CV.out _ D9.so
      clear D9
      replace hK9 := hK9.out
      simp only [actMix, pickV, List.tail_cons, List.headD_cons, Act.put, List.setIfInBounds_toArray, List.set_cons_zero, List.set_cons_succ] at hK9 ⊢
    iterate 15
      · go_simp
        with_reducible refine hK9 _ ?_
        exact hs
    · go_simp
      refine (HX.out w9 (HY.out _ ((HK2.out).trans (.of_below hs)))).mono ?_
      rintro e9 w' ⟨rfl, hb'⟩
      with_reducible refine hK9 _ ?_
      exact hs.trans (hb'.mono hs.size)
    iterate 4
      · go_simp
        with_reducible refine hK9 _ ?_
        exact hs
  intro L x w9 hS hL
  have hs : Below w.heap.size w w9 := hS
  have HD9 := Lib.hid (HD2.out.below hs)
  have HK9 := Lib.hid ((Keep.of_below (G := G) hs))
  clear hS hL hs HD2 HK2
  simp only [actMix, pickV, List.tail_cons, List.headD_cons, Act.put, List.setIfInBounds_toArray, List.set_cons_zero, List.set_cons_succ, List.replicate_succ, List.replicate_zero, List.drop_succ_cons, List.drop_zero, List.take_succ_cons, List.take_zero]
  cases q
  · obtain ⟨c0, c1, c2, c3, c4, c5, c6⟩ := HD9.out.c
    have f1 := HD9.out.row.free 1
    have f2 := HD9.out.row.free 2
    have f3 := HD9.out.row.free 3
    have f4 := HD9.out.row.free 4
    have HD10 := Lib.hid (((HD9.out.set2 (own_zero HD9.out.so) (fun j hj => HD9.out.sG j ((own_any sa sc ds.length 0).trans hj)) (fun j hj => HD9.out.sb j ((own_any sa sc ds.length 0).trans hj))).set3 r1).set4 (decide (r1 = 0)))
    have K : ∀ (v : World) (i : Nat) (u : Value), Keep G v (v.setCell ⟨g, i, none⟩ u) := fun v i u => Keep.setCell v (p := ⟨g, i, none⟩) HD9.out.gG u
    have HK := Lib.hid K
    have ez : ((r1 : Int) == 0) = decide (r1 = 0) := by
      by_cases h0 : r1 = 0
      · subst h0; rfl
      · rw [decide_eq_false h0]
        exact beq_eq_false_iff_ne.2 (by omega)
    clear K c0 c6
    go_wp2_with fail
    go_end0
    exact ⟨rfl, ⟨_, _, HD10.out.set1 2⟩, (((HK9.out.trans (HK.out _ _ _)).trans (HK.out _ _ _)).trans (HK.out _ _ _)).trans (HK.out _ _ _)⟩
  · have HF := Lib.hid (fail31 G g m 1 ds k z body e r2 w9 ⟨_, _, HD9.out⟩)
    go_wp2_with fail
    refine HF.out.mono ?_
    rintro e9 w' ⟨rfl, hd, hk⟩
    go_wp2_with fail
    refine bodyPost_ret (results_none rfl _ _ _) rfl ?_
    exact ⟨rfl, hd, HK9.out.trans hk⟩
end Go.Proofs.YtchpgdoidpllgaaDoor
