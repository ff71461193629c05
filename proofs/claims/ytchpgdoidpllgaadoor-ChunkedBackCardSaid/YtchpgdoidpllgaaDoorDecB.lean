/- chunked: extendSize, beginBytes. -/
import Derived.Test.YtchpgdoidpllgaaDoorDecA
import Derived.Test.YtchpgdoidpllgaaDoorNumB
import Derived.Test.YtchpgdoidpllgaaDoorRegT
import Derived.Outline
import Derived.Maps.AppendAt
import Derived.Lib.AppendStr
import Derived.IntWalk
import Derived.WalkSpells
namespace Go.Proofs.YtchpgdoidpllgaaDoor
open Go.RowKit

theorem hex_i (T : ByteArray) (hs : T.size ≤ 1000000000) (most : Int) (r1 r2 : Int) (hr : numR 16 8 isHex T.data.toList most = (r1, r2)) (w : World) (hw : Syn w) :
    Calls Tryd.prog 34 #[.string T, .int .i64 most] w fun e w' => e = .returned (.tuple #[.int .i64 r1, .int .i64 r2]) ∧ Below w.heap.size w w' := by
  have h := hex_any T (by omega) most w hw
  rw [hr] at h
  exact h
/-- From the pieces. -/
theorem decAt_put2 {G : Nat → Prop} {w : World} {g : Nat} {m st : Int} {ds : List UInt8} {k : Nat} {z : Bool} {body : List UInt8} {e : Int} {s b s' : Value} (row : Row w g 45 (decCells m st s k z b e)) (gG : G g)
    (so : w.ownsRow 0 5 1 s' ds.length (byteVals ds)) (bo : w.ownsRow 0 5 1 b body.length (byteVals body)) (sG : ∀ j, s'.ownBlock = some j → G j) (bG : ∀ j, b.ownBlock = some j → G j) (sb : ∀ j, s'.ownBlock = some j → b.ownBlock ≠ some j) :
    DecAt G (w.setCell ⟨g, 2, none⟩ s') g m st ds k z body e s' b :=
  ⟨row.put 2 _, gG, own_set so row (by decide) _, own_set bo row (by decide) _, sG, bG, sb⟩
theorem decAt_put5 {G : Nat → Prop} {w : World} {g : Nat} {m st : Int} {ds : List UInt8} {k : Nat} {z : Bool} {body : List UInt8} {e : Int} {s b b' : Value} (row : Row w g 45 (decCells m st s k z b e)) (gG : G g)
    (so : w.ownsRow 0 5 1 s ds.length (byteVals ds)) (bo : w.ownsRow 0 5 1 b' body.length (byteVals body)) (sG : ∀ j, s.ownBlock = some j → G j) (bG : ∀ j, b'.ownBlock = some j → G j) (sb : ∀ j, s.ownBlock = some j → b'.ownBlock ≠ some j) :
    DecAt G (w.setCell ⟨g, 5, none⟩ b') g m st ds k z body e s b' :=
  ⟨row.put 5 _, gG, own_set so row (by decide) _, own_set bo row (by decide) _, sG, bG, sb⟩
theorem own_any (a : Option Addr) (c n m : Nat) : (Value.slice a n c).ownBlock = (Value.slice a m c).ownBlock := by cases a <;> rfl
theorem own_zero {w : World} {e : TypeId} {n : Nat} {a : Option Addr} {c : Nat} {xs : List Value} (h : w.ownsRow 0 e 1 (.slice a n c) n xs) : w.ownsRow 0 e 1 (.slice a 0 c) ([] : List UInt8).length (byteVals []) := by
  obtain ⟨hl, ⟨h0, hn⟩ | ⟨g, cap, cur, hv, hb, hc, hn, hm, hs, ht⟩⟩ := h
  · injection h0 with h1 h2 h3
    subst h1 h3
    exact ⟨rfl, .inl ⟨rfl, rfl⟩⟩
  · injection hv with h1 h2 h3
    subst h1 h3
    exact ⟨rfl, .inr ⟨g, _, cur, rfl, hb, hc, Nat.zero_le _, hm, hs, by simp [byteVals]⟩⟩
set_option maxRecDepth 100000 in
set_option maxHeartbeats 4000000 in
/-- What takes a size further. -/
theorem extend28 (G : Nat → Prop) (g : Nat) (m : Int) (ds : List UInt8) (k : Nat) (z : Bool) (body : List UInt8) (e : Int) (c : UInt8) (hl : ds.length ≤ 8) (r1 r2 : Int) (q : Bool) (hq : (r2 == 2) = q) (hr : numR 16 8 isHex (ds ++ [c]) m = (r1, r2)) (w : World) (h : Dec G w g m 0 ds k z body e) (hu : Up G w) (hy : ∀ w', Keep G w w' → Syn w') :
    Calls Tryd.prog 28 #[.pointer (some ⟨g, 0, none⟩), .int .u8 (c.toNat : Int)] w fun r w' => r = .returned (.tuple #[]) ∧
      (if q = true then Dec G w' g 0 6 [] 0 false [] r2 else Dec G w' g m 0 (ds ++ [c]) k z body e) ∧ Keep G w w' := by
  obtain ⟨i0, hi, hz0, hz1, hz2⟩ := info_parts infoU8
  obtain ⟨s, b, h⟩ := h
  obtain ⟨c0, c1, c2, c3, c4, c5, c6⟩ := h.c
  have f2 := h.row.free 2
  have HD := Lib.hid h
  have HY := Lib.hid hy
  have HU := Lib.hid hu
  have HR := Lib.hid hr
  clear h c1 c3 c4 c5 c6 hy hu hr
  go_enter Tryd.func28, Tryd.ntmps28
  go_wp2_with (at_builtin; refine wpList_append_own_at _ rfl _ _ 43 rfl 0 5 i0 (.int .u8 0) 1 1 Tryd.underlying43 hi hz0 hz1 hz2 rfl (by decide) _ _ _ rfl (HD.out.so.alloc _) ⟨w.heap.size, 0, none⟩ 1 1 [.int .u8 (c.toNat : Int)] rfl rfl (cell_one _ _ _) (one_cell _ _) (by unfold maxLen; omega) (by omega) (Nat.zero_le _) ?_)
  intro v' w1 hown' hgrow _ hat
  have L0 := below_alloc w (.cells #[.int .u8 (c.toNat : Int)] 5)
  obtain ⟨row1, bo1, sG1, sb1, K1⟩ := (HD.out.below L0).grewS hgrow rfl (hat.imp id (fun e => e.trans (by simp))) (HU.out.below L0)
  rw [byteVals_snoc] at hown'
  obtain ⟨n, hn⟩ : ∃ n, ds.length + 1 = n := ⟨_, rfl⟩
  rw [hn] at hown'
  obtain ⟨va, vc, rfl⟩ := own_slice hown'
  have hown2 := own_len hown' (show n = (ds ++ [c]).length by rw [← hn]; simp)
  have HD2 := Lib.hid (decAt_put2 row1 HD.out.gG hown2 bo1 sG1 HD.out.bG sb1)
  have HK2 := Lib.hid (((Keep.of_below (G := G) L0).trans K1).trans (Keep.setCell w1 (p := ⟨g, 2, none⟩) HD.out.gG (.slice va n vc)))
  have c20 := row1.cell 2
  have f20 := row1.free 2
  have c21 : w1.cell? ⟨g, 2, none⟩ = some s := c20
  clear L0 c20 row1 bo1 sG1 sb1 K1 hown' hown2 hn hgrow hat c0 c2 f2 hi hz0 hz1 hz2
  go_wp2_with fail
  clear c21 f20
  generalize w1.setCell ⟨g, 2, none⟩ (.slice va n vc) = w2 at *
  have CV : Hid (∀ W : World, W.ownsRow 0 5 1 (.slice va n vc) (ds ++ [c]).length (byteVals (ds ++ [c])) → (convert 43 9 (.slice va n vc)).run Tryd.prog W = .ok (.string ⟨(ds ++ [c]).toArray⟩) W) := fun W h => own_string W 0 (.slice va n vc) _ h
  have HX : Hid (∀ W : World, Syn W → Calls Tryd.prog 34 #[.string ⟨(ds ++ [c]).toArray⟩, .int .i64 m] W fun e w' => e = .returned (.tuple #[.int .i64 r1, .int .i64 r2]) ∧ Below W.heap.size W w') := fun W h => hex_i _ (by rw [Lib.size_eq]; simp; omega) m r1 r2 HR.out W h
  generalize (⟨(ds ++ [c]).toArray⟩ : ByteArray) = T at *
  refine region_mixt 14 [some (.pointer (some ⟨g, 0, none⟩)), some (.pointer (some ⟨g, 0, none⟩)), some (.pointer (some ⟨g, 2, none⟩)), some (.slice va n vc), some (.string T), some (.pointer (some ⟨g, 0, none⟩)), some (.pointer (some ⟨g, 0, none⟩)), some (.pointer (some ⟨g, 0, none⟩)), some (.int .i64 m), some (.tuple #[.int .i64 r1, .int .i64 r2]), some (.tuple #[.int .i64 r1, .int .i64 r2]), some (.int .i64 r1), some (.int .i64 r2), some (.int .i64 r1)]
    [[false, false, false, false, false, false, false, false, false, false, false, false, false, false], [true, false, false, false, false, false, false, false, false, false, false, false, false, false], [false, true, false, false, false, false, false, false, false, false, false, false, false, false], [false, false, true, false, false, false, false, false, false, false, false, false, false, false], [false, false, false, true, false, false, false, false, false, false, false, false, false, false], [false, false, false, false, false, false, false, false, false, false, false, false, false, false], [false, false, false, false, false, true, false, false, false, false, false, false, false, false], [false, false, false, false, false, false, true, false, false, false, false, false, false, false], [false, false, false, false, false, false, false, true, false, false, false, false, false, false], [false, false, false, false, true, false, false, false, true, false, false, false, false, false], [false, false, false, false, false, false, false, false, false, true, false, false, false, false], [false, false, false, false, false, false, false, false, false, false, true, false, false, false], [false, false, false, false, false, false, false, false, false, false, true, false, false, false], [true, true, true, true, true, true, true, true, true, true, true, true, false, false]]
    (fun L x w1 => Below w2.heap.size w2 w1)
    (by kernel_rfl) (by kernel_rfl) (by kernel_rfl) (by kernel_rfl) (by kernel_rfl) (by decide) ?_ ?_ ?_
  · intro _
    exact ⟨rfl, rfl, rfl, Nat.le_refl _, fun _ _ => rfl⟩
  · simp only [List.take_succ_cons, List.take_zero]
    refine ⟨?_, ?_, ?_, ?_, ?_, ?_, ?_, ?_, ?_, ?_, ?_, ?_, ?_, ?_, trivial⟩
    all_goals
      intro L x w9 hS hl hp K9 hK9
      have hs : Below w2.heap.size w2 w9 := hS
      clear hS hp hl
      have D9 := HD2.out.below hs
      have d0 := D9.c.1
      have d2 := D9.c.2.2.1
      have d5 := D9.c.2.2.2.2.2.1
      have dv := CV.out _ D9.so
      clear D9
      replace hK9 := hK9.out
      simp only [actMix, pickV, List.tail_cons, List.headD_cons, Act.put, List.setIfInBounds_toArray, List.set_cons_zero, List.set_cons_succ] at hK9 ⊢
    iterate 9
      · go_simp
        with_reducible refine hK9 _ ?_
        exact hs
    · go_simp
      refine (HX.out w9 (HY.out _ ((HK2.out).trans (.of_below hs)))).mono ?_
      rintro e9 w' ⟨rfl, hb'⟩
      with_reducible refine hK9 _ ?_
      exact hs.trans (hb'.mono hs.size)
    iterate 4
      · go_simp
        with_reducible refine hK9 _ ?_
        exact hs
  intro L x w9 hS hL
  have hs : Below w2.heap.size w2 w9 := hS
  have HD9 := Lib.hid (HD2.out.below hs)
  have HK9 := Lib.hid (HK2.out.trans (.of_below hs))
  clear hS hL hs HD HD2 HK2
  simp only [actMix, pickV, List.tail_cons, List.headD_cons, Act.put, List.setIfInBounds_toArray, List.set_cons_zero, List.set_cons_succ, List.replicate_succ, List.replicate_zero, List.drop_succ_cons, List.drop_zero, List.take_succ_cons, List.take_zero]
  cases q
  · go_wp2_with fail
    go_end0
    exact ⟨rfl, ⟨_, _, HD9.out⟩, HK9.out⟩
  · have HF := Lib.hid (fail31 G g m 0 (ds ++ [c]) k z body e r2 w9 ⟨_, _, HD9.out⟩)
    go_wp2_with fail
    refine HF.out.mono ?_
    rintro e9 w' ⟨rfl, hd, hk⟩
    go_wp2_with fail
    go_end0
    exact ⟨rfl, hd, HK9.out.trans hk⟩
end Go.Proofs.YtchpgdoidpllgaaDoor
