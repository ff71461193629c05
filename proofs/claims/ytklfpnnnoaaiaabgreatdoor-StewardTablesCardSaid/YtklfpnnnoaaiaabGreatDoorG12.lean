/- ring: the iterator of (*Ring).around. -/
import Derived.Stop.RegionWithIn
import Derived.RegionIn
import Derived.Test.YtklfpnnnoaaiaabGreatDoorG00
import Derived.Test.YtklfpnnnoaaiaabGreatDoorG11
namespace Go.Proofs.YtklfpnnnoaaiaabGreatDoor
open Go.RowKit Go.Shelf

attribute [local go_sem] Oper.semAt_some

theorem grownR {W W' : World} (h : Below W.heap.size W W') : W.grownBy W' none := ⟨h.os, h.tape, h.output, h.size, fun k hk _ => h.block k hk⟩
/-- All points, from one on. -/
def arL (ps : List Pt) (st : Nat) : List Pt := (List.range ps.length).map fun i => ps.getD ((st + i) % ps.length) (0, ⟨#[]⟩)
theorem arL_len (ps : List Pt) (st : Nat) : (arL ps st).length = ps.length := by simp [arL]
theorem arL_take {ps : List Pt} {st k : Nat} (hk : k < ps.length) : (arL ps st).take k ++ [ps.getD ((st + k) % ps.length) (0, ⟨#[]⟩)] = (arL ps st).take (k + 1) := by
  have h : k < (arL ps st).length := by rw [arL_len]; exact hk
  rw [List.take_succ_eq_append_getElem h]
  congr 2
  simp [arL]
/-- What a round that goes on keeps: what lay below n0, and the box B1. -/
structure KpR (n0 B1 : Nat) (W W' : World) : Prop where
  bel : Below n0 W W'
  box : W'.heap[B1]? = W.heap[B1]?
theorem KpR.trans {n0 B1 : Nat} {A B C : World} (h : KpR n0 B1 A B) (k : KpR n0 B1 B C) : KpR n0 B1 A C := ⟨h.bel.trans k.bel, k.box.trans h.box⟩
theorem KpR.of_below {n0 B1 : Nat} {W W' : World} (h : Below W.heap.size W W') (h0 : n0 ≤ W.heap.size) (h1 : B1 < W.heap.size) : KpR n0 B1 W W' := ⟨h.mono h0, h.block B1 h1⟩
def ptVal (p : Pt) : Value := .agg #[.int .u64 (p.1 : Nat), .string p.2]
set_option maxRecDepth 100000 in
set_option maxHeartbeats 4000000 in
theorem around1_in (n : Nat) (hn : 1 ≤ n) (l B1 B2 rb nn : Nat) (ps : List Pt) (hl : ps.length ≤ 100000) (hr : Rise ps) (x : Nat) (w0 : World) (hRg : RingAt w0 rb ps nn) (J Jx : List Pt → World → Prop)
    (hY : ∀ pre p W, J pre W → pre.length < ps.length → p ∈ ps → YieldAt Fence.wide (n - 1) Tryz.prog l #[ptVal p] W fun e W' =>
      (e = .returned (.bool true) ∧ J (pre ++ [p]) W' ∧ KpR w0.heap.size B1 W W') ∨ (e = .returned (.bool false) ∧ Jx (pre ++ [p]) W'))
    (W : World) (hW : Below w0.heap.size w0 W) (hJ : AbidesFrom W.heap.size J) (hB1 : W.cell? ⟨B1, 0, none⟩ = some (.pointer (some ⟨rb, 0, none⟩))) (hB2 : W.cell? ⟨B2, 0, none⟩ = some (.int .u64 (x : Nat))) (hb1 : B1 < W.heap.size) (h0 : J [] W) :
    CallsIn Fence.wide n Tryz.prog 53 #[.func (.yield l) #[] #[], .pointer (some ⟨B1, 0, none⟩), .pointer (some ⟨B2, 0, none⟩)] W fun e W' => (∃ v, e = .returned v) ∧
      ∃ st, LowAt ps x st ∧ (J (arL ps st) W' ∨ ∃ k, k ≤ ps.length ∧ Jx ((arL ps st).take k) W') := by
  refine callsIn_of_wp Tryz.func53 rfl trivial ?_ rfl
  simp only [Tryz.ntmps53, List.size_toArray, List.length_cons, List.length_nil, Nat.reduceAdd, Nat.reduceSub, Array.replicate_succ, Array.replicate_zero, List.push_toArray, List.append_toArray, List.nil_append, List.cons_append]
  obtain ⟨q1, a, c, q2, q3, q4⟩ := hRg
  have r0 : W.cell? ⟨rb, 0, none⟩ = some (.slice a ps.length c) := (hW.cell (p := ⟨rb, 0, none⟩) q1).trans q2
  have HRC : Hid (∀ V, Below w0.heap.size W V → V.cell? ⟨rb, 0, none⟩ = some (.slice a ps.length c)) := fun V h => (h.cell (p := ⟨rb, 0, none⟩) q1).trans r0
  have HPT : Hid (PtsAt w0 a c ps) := q4
  have HWB := Lib.hid hW
  have HJ := Lib.hid hJ
  have HY := Lib.hid hY
  have HBS : Hid (∀ V, Below W.heap.size W V → Calls Tryz.prog 54 #[.slice a ps.length c, .int .u64 (x : Nat), .func (.func 52) #[] #[]] V fun e w' => ∃ (st : Nat) (b : Bool), e = .returned (.tuple #[.int .i64 (st : Nat), .bool b]) ∧ LowAt ps x st ∧ Below V.heap.size V w') := fun V h => bsearch77 a c ps hl hr x V (q4.below (hW.trans (h.mono hW.size)))
  clear hY hr q2 q3 q4 hJ
  have hmx : Tryz.prog.follows .mixedOrders = true := by kernel_rfl
  gi_wp2_with fail
  gi_region_with (first | (refine ⟨trivial, (callsIn_wide.2 (HBS.out _ ?_)).mono ?_⟩; exact (Below.refl _ _).drew; rintro e V1 ⟨st, b, rfl, hLA, hbV⟩))
  all_goals
    have HLA := Lib.hid hLA
    have hbw : Below W.heap.size W V1 := ((Below.refl _ _).drew).trans hbV
    have HBW := Lib.hid hbw
    have HJ0 := Lib.hid (HJ.out [] W V1 none h0 (grownR hbw) (fun r e => by cases e))
    have s1 := HRC.out V1 (hbw.mono HWB.out.size)
    have t1 : V1.cell? ⟨B1, 0, none⟩ = some (.pointer (some ⟨rb, 0, none⟩)) := (hbw.cell (p := ⟨B1, 0, none⟩) hb1).trans hB1
    have T1 := Lib.hid t1
    clear hLA hbV hbw
    gi_wp2_with fail
    clear s1 t1
    gi_loopw [21] (fun i wr => ∃ k : Nat, k ≤ ps.length ∧ i = .int .i64 k ∧ Hid (J ((arL ps st).take k) wr) ∧ Hid (KpR w0.heap.size B1 V1 wr)) (fun i _ => ps.length - (intOf i).toNat)
    case atStart => exact ⟨0, Nat.zero_le _, rfl, HJ0, ⟨Below.refl _ _, rfl⟩⟩
    case round =>
      clear HJ0
      obtain ⟨k, hk, rfl, HJk, HK⟩ := hrel
      by_cases hlt : k < ps.length
      · have hbb : Below w0.heap.size w0 wr := (HWB.out.trans (HBW.out.mono HWB.out.size)).trans HK.out.bel
        obtain h9 | ⟨bk, o, rfl, hbk, hcc, hcell⟩ := HPT.out.below hbb
        · subst h9; simp at hlt
        have hmlt : (st + k) % ps.length < ps.length := Nat.mod_lt _ (by omega)
        have hst := HLA.out.le
        have hgd : ps.getD ((st + k) % ps.length) (0, ⟨#[]⟩) = ps[(st + k) % ps.length] := by rw [List.getD_eq_getElem?_getD, List.getElem?_eq_getElem hmlt]; rfl
        obtain ⟨c1, c2⟩ := hcell _ ps[(st + k) % ps.length] (List.getElem?_eq_getElem hmlt)
        have HTK := Lib.hid (arL_take (ps := ps) (st := st) hlt)
        have HMEM : Hid (ps[(st + k) % ps.length] ∈ ps) := List.getElem_mem hmlt
        rw [hgd] at HTK
        have ht : (((st + k : Nat) : Int)).tmod (ps.length : Int) = (((st + k) % ps.length : Nat) : Int) := by rw [Int.tmod_eq_emod_of_nonneg (by omega)]; rfl
        have hw1 := wrapR ((st : Int) + (k : Int)) (by omega) (by omega)
        rw [show ((st + k : Nat) : Int) = (st : Int) + (k : Int) by omega] at ht
        generalize hp : ps[(st + k) % ps.length] = p at *
        generalize (st + k) % ps.length = m at *
        obtain ⟨v, N⟩ := p
        simp only at c1 c2
        have m1 : (m : Int) < ps.length := by omega
        have k1 : (k : Int) < ps.length := by omega
        have z1 : ¬ (ps.length : Int) = 0 := by omega
        have z2 : ¬ ps.length = 0 := by omega
        have hw2 := wrapR (m : Int) (by omega) (by omega)
        have HJd := Lib.hid (HJ.out _ _ _ none HJk.out (grownR ((Below.refl wr.heap.size wr).drew)) (fun r e => by cases e))
        obtain ⟨fn, tmps, assign, body, hy, hR⟩ := HY.out _ (v, N) wr.drew HJd.out (by rw [List.length_take, arL_len]; omega) HMEM.out
        dsimp only [ptVal] at hy
        have s1 : wr.cell? ⟨rb, 0, none⟩ = some (.slice (some ⟨bk, o, none⟩) ps.length c) := (HK.out.bel.cell (p := ⟨rb, 0, none⟩) q1).trans (HRC.out V1 (HBW.out.mono HWB.out.size))
        have t1 : wr.cell? ⟨B1, 0, none⟩ = some (.pointer (some ⟨rb, 0, none⟩)) := (World.cell?_of_block (w := V1) HK.out.box).trans T1.out
        have hR2 := hR.mono (R' := fun e W' => ∃ q : Bool, e = .returned (.bool q) ∧ ((q = true ∧ J ((arL ps st).take k ++ [(v, N)]) W' ∧ KpR w0.heap.size B1 wr.drew W') ∨ (q = false ∧ Jx ((arL ps st).take k ++ [(v, N)]) W'))) (by
          rintro e W' (⟨h1, h2, h3⟩ | ⟨h1, h2⟩)
          · exact ⟨true, h1, .inl ⟨rfl, h2, h3⟩⟩
          · exact ⟨false, h1, .inr ⟨rfl, h2⟩⟩)
        have HHR := Lib.hid hR2
        clear hcell hgd hp hR hR2 hst hbb
        gi_wp2_with fail
        gi_region_with (first
          | (refine HHR.out.mono ?_; rintro e W3 ⟨q, rfl, hE⟩)
          | (refine ⟨(fun h => by cases h), HHR.out.mono ?_⟩; rintro e W3 ⟨q, rfl, hE⟩))
        all_goals
          rcases hE with ⟨rfl, hJ3, hk3⟩ | ⟨rfl, hJx3⟩
          · have HJ3 := Lib.hid hJ3
            have HK3 : Hid (KpR w0.heap.size B1 V1 W3) := HK.out.trans ⟨⟨hk3.bel.os, hk3.bel.tape, hk3.bel.output, hk3.bel.size, hk3.bel.block⟩, hk3.box⟩
            clear hJ3 hk3
            gi_wp2
            go_roundw
            case rel => exact ⟨k + 1, by omega, by simp, by rw [← HTK.out]; exact HJ3, HK3⟩
            case measure => simp [intOf]; omega
          · have HX3 := Lib.hid hJx3
            clear hJx3
            gi_wp2
            refine bodyPost_ret (results_none rfl _ _ _) rfl ?_
            exact ⟨⟨_, rfl⟩, st, HLA.out, .inr ⟨k + 1, by omega, by rw [← HTK.out]; exact HX3.out⟩⟩
      · obtain rfl : k = ps.length := by omega
        have hne : ¬ ((ps.length : Int) < ps.length) := by omega
        have hJe := HJk.out
        rw [List.take_of_length_le (by rw [arL_len]; exact Nat.le_refl _)] at hJe
        have HJe := Lib.hid hJe
        clear hJe
        gi_wp2
        go_end0
        exact ⟨⟨_, rfl⟩, st, HLA.out, .inl HJe.out⟩
end Go.Proofs.YtklfpnnnoaaiaabGreatDoor

