/- Packed: RgE, RgI, RgP, RgS, RgW, RgF, RgG. -/
import Derived.Stop.RegionWithIn
import Derived.RegionIn
import Derived.IntWalk
import Derived.Test.YtklfpnnnoaaiaaaDoorG00
import Derived.Test.YtklfpnnnoaaiaaaDoorG05
import Derived.Test.YtklfpnnnoaaiaaaDoorG06
/- ring: slices.BinarySearchFunc of points. -/
namespace Go.Proofs.YtklfpnnnoaaiaaaDoor
open Go.RowKit

/-- The first point of a number or more. -/
structure LowAt (ps : List Pt) (x st : Nat) : Prop where
  le : st ≤ ps.length
  lo : ∀ i p, ps[i]? = some p → i < st → p.1 < x
  hi : ∀ i p, ps[i]? = some p → st ≤ i → x ≤ p.1
/-- The points rise. -/
def Rise (ps : List Pt) : Prop := ∀ (i j : Nat) (p q : Pt), ps[i]? = some p → ps[j]? = some q → i ≤ j → p.1 ≤ q.1
theorem compareVB (a : Nat) (N : ByteArray) (b : Nat) (w : World) : Calls Tryd.prog 35 #[.agg #[.int .u64 (a : Nat), .string N], .int .u64 (b : Nat)] w fun e w' => e = .returned (.int .i64 (cmpU a b)) ∧ Below w.heap.size w w' :=
  (compareV a N b w).mono fun _ _ ⟨h1, os, h2⟩ => ⟨h1, by rw [h2]; exact below_growR w os⟩
set_option maxRecDepth 100000 in
set_option maxHeartbeats 2000000 in
theorem bsearch77 (a : Option Addr) (c : Nat) (ps : List Pt) (hl : ps.length ≤ 100000) (hr : Rise ps) (x : Nat) (w : World) (hp : PtsAt w a c ps) :
    Calls Tryd.prog 41 #[.slice a ps.length c, .int .u64 (x : Nat), .func (.func 35) #[] #[]] w fun e w' => ∃ (st : Nat) (b : Bool), e = .returned (.tuple #[.int .i64 (st : Nat), .bool b]) ∧ LowAt ps x st ∧ Below w.heap.size w w' := by
  have HP := Lib.hid hp
  have HR := Lib.hid hr
  clear hp hr
  go_enter Tryd.func41, Tryd.ntmps41
  go_wp2_with fail
  go_loopw [9, 10] (fun iv jv wr => ∃ i j : Nat, i ≤ j ∧ j ≤ ps.length ∧ iv = .int .i64 (i : Nat) ∧ jv = .int .i64 (j : Nat) ∧ Hid (∀ q p, ps[q]? = some p → q < i → p.1 < x) ∧ Hid (∀ q p, ps[q]? = some p → j ≤ q → x ≤ p.1) ∧ Hid (Below w.heap.size w wr)) (fun iv jv _ => (intOf jv).toNat - (intOf iv).toNat)
  case atStart => exact ⟨0, ps.length, Nat.zero_le _, Nat.le_refl _, rfl, rfl, (fun q p _ h => absurd h (by omega)), (fun q p h h2 => by rw [List.getElem?_eq_none h2] at h; cases h), Below.refl _ _⟩
  case round =>
    obtain ⟨i, j, hij, hjl, rfl, rfl, HL, HH, HB⟩ := hrel
    by_cases hlt : i < j
    · obtain h0 | ⟨bk, o, rfl, hbk, hc, hcell⟩ := HP.out.below HB.out
      · subst h0; simp at hjl; omega
      obtain ⟨m, hm⟩ : ∃ m, m = (i + j) / 2 := ⟨_, rfl⟩
      have hml : m < ps.length := by omega
      obtain ⟨c1, c2⟩ := hcell m ps[m] (by simp [hml])
      have HPM : Hid (ps[m]? = some ps[m]) := by show _ = _; simp [hml]
      generalize ps[m] = p at *
      obtain ⟨v, N⟩ := p
      simp only at c1 c2
      have i1 : (i : Int) < j := by omega
      have hw1 := wrapR ((i : Int) + (j : Int)) (by omega) (by omega)
      have hcm := fun W => compareVB v N x W
      clear hcell
      go_upto_region 5 with fail
      rw [show ((i : Int) + (j : Int)) / 2 = (m : Int) by omega]
      have m1 : (m : Int) < ps.length := by omega
      have HMM := Lib.hid hm
      have hw2 := wrapR ((m : Int) + 1) (by omega) (by omega)
      have HCM := Lib.hid hcm
      clear hm hw1 hcm
      by_cases hv : v < x
      · have hcv : cmpU v x = -1 := if_pos hv
        rw [hcv] at HCM
        clear hcv
        go_wp2_with (go_at_call 35; refine (HCM.out _).mono ?_; rintro e w9 ⟨rfl, hb9⟩; have HB9 := Lib.hid (HB.out.trans (hb9.mono HB.out.size)); clear hb9)
        go_roundw
        case rel => exact ⟨m + 1, j, by have := HMM.out; omega, hjl, by go_num, rfl, (fun q p' h1 h2 => Nat.lt_of_le_of_lt (HR.out q m p' _ h1 HPM.out (by omega)) hv), HH, HB9⟩
        case measure => have := HMM.out; simp [intOf]; omega
      · have hcv : ¬ cmpU v x < 0 := by unfold cmpU; rw [if_neg hv]; split <;> decide
        generalize cmpU v x = cv at *
        go_wp2_with (go_at_call 35; refine (HCM.out _).mono ?_; rintro e w9 ⟨rfl, hb9⟩; have HB9 := Lib.hid (HB.out.trans (hb9.mono HB.out.size)); clear hb9)
        go_roundw
        case rel => exact ⟨i, m, by have := HMM.out; omega, by omega, rfl, rfl, HL, (fun q p' h1 h2 => Nat.le_trans (Nat.le_of_not_lt hv) (HR.out m q _ p' HPM.out h1 h2)), HB9⟩
        case measure => have := HMM.out; simp [intOf]; omega
    · obtain rfl : i = j := by omega
      have hne : ¬ (i : Int) < i := by omega
      have HLA : Hid (LowAt ps x i) := ⟨hjl, HL.out, HH.out⟩
      by_cases hin : i < ps.length
      · obtain h0 | ⟨bk, o, rfl, hbk, hc, hcell⟩ := HP.out.below HB.out
        · subst h0; simp at hin
        obtain ⟨c1, c2⟩ := hcell i ps[i] (by simp [hin])
        generalize ps[i] = p at *
        obtain ⟨v, N⟩ := p
        simp only at c1 c2
        have i1 : (i : Int) < ps.length := by omega
        have HCM := Lib.hid (fun W => compareVB v N x W)
        generalize cmpU v x = cv at *
        clear hcell
        go_wp2_with (go_at_call 35; refine (HCM.out _).mono ?_; rintro e w9 ⟨rfl, hb9⟩; have HB9 := Lib.hid (HB.out.trans (hb9.mono HB.out.size)); clear hb9)
        go_ret2
        exact ⟨i, _, rfl, HLA.out, HB9.out⟩
      · have i1 : ¬ (i : Int) < ps.length := by omega
        go_wp2_with fail
        go_ret2
        exact ⟨i, .inl rfl, HLA.out, HB.out⟩
end Go.Proofs.YtklfpnnnoaaiaaaDoor

/- ring: the iterator of (*Ring).around. -/
namespace Go.Proofs.YtklfpnnnoaaiaaaDoor
open Go.RowKit Go.Shelf

attribute [local go_sem] Oper.semAt_some

theorem grownR {W W' : World} (h : Below W.heap.size W W') : W.grownBy W' none := ⟨h.os, h.tape, h.output, h.size, fun k hk _ => h.block k hk⟩
/-- All points, from one on. -/
def arL (ps : List Pt) (st : Nat) : List Pt := (List.range ps.length).map fun i => ps.getD ((st + i) % ps.length) (0, ⟨#[]⟩)
theorem arL_len (ps : List Pt) (st : Nat) : (arL ps st).length = ps.length := by simp [arL]
theorem arL_take {ps : List Pt} {st k : Nat} (hk : k < ps.length) : (arL ps st).take k ++ [ps.getD ((st + k) % ps.length) (0, ⟨#[]⟩)] = (arL ps st).take (k + 1) := by
  have h : k < (arL ps st).length := by rw [arL_len]; exact hk
  rw [List.take_succ_eq_append_getElem h]
  congr 2
  simp [arL]
/-- What a round that goes on keeps: what lay below n0, and the box B1. -/
structure KpR (n0 B1 : Nat) (W W' : World) : Prop where
  bel : Below n0 W W'
  box : W'.heap[B1]? = W.heap[B1]?
theorem KpR.trans {n0 B1 : Nat} {A B C : World} (h : KpR n0 B1 A B) (k : KpR n0 B1 B C) : KpR n0 B1 A C := ⟨h.bel.trans k.bel, k.box.trans h.box⟩
theorem KpR.of_below {n0 B1 : Nat} {W W' : World} (h : Below W.heap.size W W') (h0 : n0 ≤ W.heap.size) (h1 : B1 < W.heap.size) : KpR n0 B1 W W' := ⟨h.mono h0, h.block B1 h1⟩
def ptVal (p : Pt) : Value := .agg #[.int .u64 (p.1 : Nat), .string p.2]
set_option maxRecDepth 100000 in
set_option maxHeartbeats 4000000 in
theorem around1_in (n : Nat) (hn : 1 ≤ n) (l B1 B2 rb nn : Nat) (ps : List Pt) (hl : ps.length ≤ 100000) (hr : Rise ps) (x : Nat) (w0 : World) (hRg : RingAt w0 rb ps nn) (J Jx : List Pt → World → Prop)
    (hY : ∀ pre p W, J pre W → pre.length < ps.length → p ∈ ps → YieldAt Fence.wide (n - 1) Tryd.prog l #[ptVal p] W fun e W' =>
      (e = .returned (.bool true) ∧ J (pre ++ [p]) W' ∧ KpR w0.heap.size B1 W W') ∨ (e = .returned (.bool false) ∧ Jx (pre ++ [p]) W'))
    (W : World) (hW : Below w0.heap.size w0 W) (hJ : AbidesFrom W.heap.size J) (hB1 : W.cell? ⟨B1, 0, none⟩ = some (.pointer (some ⟨rb, 0, none⟩))) (hB2 : W.cell? ⟨B2, 0, none⟩ = some (.int .u64 (x : Nat))) (hb1 : B1 < W.heap.size) (h0 : J [] W) :
    CallsIn Fence.wide n Tryd.prog 40 #[.func (.yield l) #[] #[], .pointer (some ⟨B1, 0, none⟩), .pointer (some ⟨B2, 0, none⟩)] W fun e W' => (∃ v, e = .returned v) ∧
      ∃ st, LowAt ps x st ∧ (J (arL ps st) W' ∨ ∃ k, k ≤ ps.length ∧ Jx ((arL ps st).take k) W') := by
  refine callsIn_of_wp Tryd.func40 rfl trivial ?_ rfl
  simp only [Tryd.ntmps40, List.size_toArray, List.length_cons, List.length_nil, Nat.reduceAdd, Nat.reduceSub, Array.replicate_succ, Array.replicate_zero, List.push_toArray, List.append_toArray, List.nil_append, List.cons_append]
  obtain ⟨q1, a, c, q2, q3, q4⟩ := hRg
  have r0 : W.cell? ⟨rb, 0, none⟩ = some (.slice a ps.length c) := (hW.cell (p := ⟨rb, 0, none⟩) q1).trans q2
  have HRC : Hid (∀ V, Below w0.heap.size W V → V.cell? ⟨rb, 0, none⟩ = some (.slice a ps.length c)) := fun V h => (h.cell (p := ⟨rb, 0, none⟩) q1).trans r0
  have HPT : Hid (PtsAt w0 a c ps) := q4
  have HWB := Lib.hid hW
  have HJ := Lib.hid hJ
  have HY := Lib.hid hY
  have HBS : Hid (∀ V, Below W.heap.size W V → Calls Tryd.prog 41 #[.slice a ps.length c, .int .u64 (x : Nat), .func (.func 35) #[] #[]] V fun e w' => ∃ (st : Nat) (b : Bool), e = .returned (.tuple #[.int .i64 (st : Nat), .bool b]) ∧ LowAt ps x st ∧ Below V.heap.size V w') := fun V h => bsearch77 a c ps hl hr x V (q4.below (hW.trans (h.mono hW.size)))
  clear hY hr q2 q3 q4 hJ
  have hmx : Tryd.prog.follows .mixedOrders = true := by kernel_rfl
  gi_wp2_with fail
  gi_region_with (first | (refine ⟨trivial, (callsIn_wide.2 (HBS.out _ ?_)).mono ?_⟩; exact (Below.refl _ _).drew; rintro e V1 ⟨st, b, rfl, hLA, hbV⟩))
  all_goals
    have HLA := Lib.hid hLA
    have hbw : Below W.heap.size W V1 := ((Below.refl _ _).drew).trans hbV
    have HBW := Lib.hid hbw
    have HJ0 := Lib.hid (HJ.out [] W V1 none h0 (grownR hbw) (fun r e => by cases e))
    have s1 := HRC.out V1 (hbw.mono HWB.out.size)
    have t1 : V1.cell? ⟨B1, 0, none⟩ = some (.pointer (some ⟨rb, 0, none⟩)) := (hbw.cell (p := ⟨B1, 0, none⟩) hb1).trans hB1
    have T1 := Lib.hid t1
    clear hLA hbV hbw
    gi_wp2_with fail
    clear s1 t1
    gi_loopw [21] (fun i wr => ∃ k : Nat, k ≤ ps.length ∧ i = .int .i64 k ∧ Hid (J ((arL ps st).take k) wr) ∧ Hid (KpR w0.heap.size B1 V1 wr)) (fun i _ => ps.length - (intOf i).toNat)
    case atStart => exact ⟨0, Nat.zero_le _, rfl, HJ0, ⟨Below.refl _ _, rfl⟩⟩
    case round =>
      clear HJ0
      obtain ⟨k, hk, rfl, HJk, HK⟩ := hrel
      by_cases hlt : k < ps.length
      · have hbb : Below w0.heap.size w0 wr := (HWB.out.trans (HBW.out.mono HWB.out.size)).trans HK.out.bel
        obtain h9 | ⟨bk, o, rfl, hbk, hcc, hcell⟩ := HPT.out.below hbb
        · subst h9; simp at hlt
        have hmlt : (st + k) % ps.length < ps.length := Nat.mod_lt _ (by omega)
        have hst := HLA.out.le
        have hgd : ps.getD ((st + k) % ps.length) (0, ⟨#[]⟩) = ps[(st + k) % ps.length] := by rw [List.getD_eq_getElem?_getD, List.getElem?_eq_getElem hmlt]; rfl
        obtain ⟨c1, c2⟩ := hcell _ ps[(st + k) % ps.length] (List.getElem?_eq_getElem hmlt)
        have HTK := Lib.hid (arL_take (ps := ps) (st := st) hlt)
        have HMEM : Hid (ps[(st + k) % ps.length] ∈ ps) := List.getElem_mem hmlt
        rw [hgd] at HTK
        have ht : (((st + k : Nat) : Int)).tmod (ps.length : Int) = (((st + k) % ps.length : Nat) : Int) := by rw [Int.tmod_eq_emod_of_nonneg (by omega)]; rfl
        have hw1 := wrapR ((st : Int) + (k : Int)) (by omega) (by omega)
        rw [show ((st + k : Nat) : Int) = (st : Int) + (k : Int) by omega] at ht
        generalize hp : ps[(st + k) % ps.length] = p at *
        generalize (st + k) % ps.length = m at *
        obtain ⟨v, N⟩ := p
        simp only at c1 c2
        have m1 : (m : Int) < ps.length := by omega
        have k1 : (k : Int) < ps.length := by omega
        have z1 : ¬ (ps.length : Int) = 0 := by omega
        have z2 : ¬ ps.length = 0 := by omega
        have hw2 := wrapR (m : Int) (by omega) (by omega)
        have HJd := Lib.hid (HJ.out _ _ _ none HJk.out (grownR ((Below.refl wr.heap.size wr).drew)) (fun r e => by cases e))
        obtain ⟨fn, tmps, assign, body, hy, hR⟩ := HY.out _ (v, N) wr.drew HJd.out (by rw [List.length_take, arL_len]; omega) HMEM.out
        dsimp only [ptVal] at hy
        have s1 : wr.cell? ⟨rb, 0, none⟩ = some (.slice (some ⟨bk, o, none⟩) ps.length c) := (HK.out.bel.cell (p := ⟨rb, 0, none⟩) q1).trans (HRC.out V1 (HBW.out.mono HWB.out.size))
        have t1 : wr.cell? ⟨B1, 0, none⟩ = some (.pointer (some ⟨rb, 0, none⟩)) := (World.cell?_of_block (w := V1) HK.out.box).trans T1.out
        have hR2 := hR.mono (R' := fun e W' => ∃ q : Bool, e = .returned (.bool q) ∧ ((q = true ∧ J ((arL ps st).take k ++ [(v, N)]) W' ∧ KpR w0.heap.size B1 wr.drew W') ∨ (q = false ∧ Jx ((arL ps st).take k ++ [(v, N)]) W'))) (by
          rintro e W' (⟨h1, h2, h3⟩ | ⟨h1, h2⟩)
          · exact ⟨true, h1, .inl ⟨rfl, h2, h3⟩⟩
          · exact ⟨false, h1, .inr ⟨rfl, h2⟩⟩)
        have HHR := Lib.hid hR2
        clear hcell hgd hp hR hR2 hst hbb
        gi_wp2_with fail
        gi_region_with (first
          | (refine HHR.out.mono ?_; rintro e W3 ⟨q, rfl, hE⟩)
          | (refine ⟨(fun h => by cases h), HHR.out.mono ?_⟩; rintro e W3 ⟨q, rfl, hE⟩))
        all_goals
          rcases hE with ⟨rfl, hJ3, hk3⟩ | ⟨rfl, hJx3⟩
          · have HJ3 := Lib.hid hJ3
            have HK3 : Hid (KpR w0.heap.size B1 V1 W3) := HK.out.trans ⟨⟨hk3.bel.os, hk3.bel.tape, hk3.bel.output, hk3.bel.size, hk3.bel.block⟩, hk3.box⟩
            clear hJ3 hk3
            gi_wp2
            go_roundw
            case rel => exact ⟨k + 1, by omega, by simp, by rw [← HTK.out]; exact HJ3, HK3⟩
            case measure => simp [intOf]; omega
          · have HX3 := Lib.hid hJx3
            clear hJx3
            gi_wp2
            refine bodyPost_ret (results_none rfl _ _ _) rfl ?_
            exact ⟨⟨_, rfl⟩, st, HLA.out, .inr ⟨k + 1, by omega, by rw [← HTK.out]; exact HX3.out⟩⟩
      · obtain rfl : k = ps.length := by omega
        have hne : ¬ ((ps.length : Int) < ps.length) := by omega
        have hJe := HJk.out
        rw [List.take_of_length_le (by rw [arL_len]; exact Nat.le_refl _)] at hJe
        have HJe := Lib.hid hJe
        clear hJe
        gi_wp2
        go_end0
        exact ⟨⟨_, rfl⟩, st, HLA.out, .inl HJe.out⟩
end Go.Proofs.YtklfpnnnoaaiaaaDoor

/- ring: around, Pick. -/
namespace Go.Proofs.YtklfpnnnoaaiaaaDoor
open Go.RowKit Go.Shelf

attribute [local go_sem] Oper.semAt_some

/-- (*Ring).around: the ring and the number are boxed; the function value captures the boxes. -/
theorem around55 (p : Option Addr) (x : Nat) (n : Nat) (w : World) :
    CallsIn Fence.wide n Tryd.prog 27 #[.pointer p, .int .u64 (x : Nat)] w fun e w' => e = .returned (.func (.func 40) #[] #[.pointer (some ⟨w.heap.size, 0, none⟩), .pointer (some ⟨w.heap.size + 1, 0, none⟩)]) ∧ w' = (w.alloc (.cells #[.pointer p] 29)).alloc (.cells #[.int .u64 (x : Nat)] 23) := by
  refine callsIn_of_wp Tryd.func27 rfl trivial ?_ rfl
  simp only [Tryd.ntmps27, List.size_toArray, List.length_cons, List.length_nil, Nat.reduceAdd, Nat.reduceSub, Array.replicate_succ, Array.replicate_zero, List.push_toArray, List.append_toArray, List.nil_append, List.cons_append]
  gi_wp2
  go_ret
  exact ⟨rfl, rfl⟩
theorem around_stops (n : Nat) (hn : 1 ≤ n) (B1 B2 rb nn : Nat) (ps : List Pt) (hl : ps.length ≤ 100000) (hr : Rise ps) (x : Nat) (w0 : World) (hRg : RingAt w0 rb ps nn) (w : World) (hw : Below w0.heap.size w0 w) (hb1 : B1 < w.heap.size) (hb2 : B2 < w.heap.size)
    (hB1 : w.cell? ⟨B1, 0, none⟩ = some (.pointer (some ⟨rb, 0, none⟩))) (hB2 : w.cell? ⟨B2, 0, none⟩ = some (.int .u64 (x : Nat))) :
    SeqStopsK Fence.wide n Tryd.prog 40 #[.pointer (some ⟨B1, 0, none⟩), .pointer (some ⟨B2, 0, none⟩)] (fun p : Pt => #[ptVal p]) (KpR w0.heap.size B1) (fun ys => ∃ st, LowAt ps x st ∧ ys = arL ps st) (fun pre => ∃ st k, LowAt ps x st ∧ k ≤ ps.length ∧ pre = (arL ps st).take k) ps.length w := fun l J Jx W hW hJ _ hY h0 => by
  refine (around1_in n hn l B1 B2 rb nn ps hl hr x w0 hRg J Jx (fun pre p W h1 h2 _ => hY pre p W h1 h2) W (hw.trans (hW.mono hw.size)) hJ ((hW.cell (p := ⟨B1, 0, none⟩) hb1).trans hB1) ((hW.cell (p := ⟨B2, 0, none⟩) hb2).trans hB2) (Nat.lt_of_lt_of_le hb1 hW.size) h0).mono ?_
  rintro e W' ⟨he, st, hst, hj | ⟨k, hk, hj⟩⟩
  · exact ⟨he, .inl ⟨_, ⟨st, hst, rfl⟩, hj⟩⟩
  · exact ⟨he, .inr ⟨_, ⟨st, k, hst, hk, rfl⟩, hj⟩⟩
/-- The same, where it is known that each point is one of the ring's. -/
theorem around_stopsS (n : Nat) (hn : 1 ≤ n) (B1 B2 rb nn : Nat) (ps : List Pt) (hl : ps.length ≤ 100000) (hr : Rise ps) (x : Nat) (w0 : World) (hRg : RingAt w0 rb ps nn) (w : World) (hw : Below w0.heap.size w0 w) (hb1 : B1 < w.heap.size) (hb2 : B2 < w.heap.size)
    (hB1 : w.cell? ⟨B1, 0, none⟩ = some (.pointer (some ⟨rb, 0, none⟩))) (hB2 : w.cell? ⟨B2, 0, none⟩ = some (.int .u64 (x : Nat))) :
    SeqStopsK Fence.wide n Tryd.prog 40 #[.pointer (some ⟨B1, 0, none⟩), .pointer (some ⟨B2, 0, none⟩)] (fun p : { p : Pt // p ∈ ps } => #[ptVal p.1]) (KpR w0.heap.size B1) (fun ys => ∃ st, LowAt ps x st ∧ ys.map (·.1) = arL ps st) (fun pre => ∃ st k, LowAt ps x st ∧ k ≤ ps.length ∧ pre.map (·.1) = (arL ps st).take k) ps.length w := fun l J Jx W hW hJ hJx hY h0 => by
  refine (around1_in n hn l B1 B2 rb nn ps hl hr x w0 hRg (fun m W => ∃ m' : List { p : Pt // p ∈ ps }, m'.map (·.1) = m ∧ J m' W) (fun m W => ∃ m' : List { p : Pt // p ∈ ps }, m'.map (·.1) = m ∧ Jx m' W) ?_ W (hw.trans (hW.mono hw.size)) ?_ ((hW.cell (p := ⟨B1, 0, none⟩) hb1).trans hB1) ((hW.cell (p := ⟨B2, 0, none⟩) hb2).trans hB2) (Nat.lt_of_lt_of_le hb1 hW.size) ⟨[], rfl, h0⟩).mono ?_
  · rintro pre p W1 ⟨m', rfl, hj⟩ hlt hmem
    obtain ⟨fn, tmps, assign, body, hy, hR⟩ := hY m' ⟨p, hmem⟩ W1 hj (by simpa using hlt)
    refine ⟨fn, tmps, assign, body, hy, hR.mono ?_⟩
    rintro e W' (⟨h1, h2, h3⟩ | ⟨h1, h2⟩)
    · exact .inl ⟨h1, ⟨_, by simp, h2⟩, h3⟩
    · exact .inr ⟨h1, ⟨_, by simp, h2⟩⟩
  · rintro s A B row ⟨m', h1, h2⟩ hg hrr
    exact ⟨m', h1, hJ m' A B row h2 hg hrr⟩
  · rintro e W' ⟨he, st, hst, ⟨m', h1, hj⟩ | ⟨k, hk, m', h1, hj⟩⟩
    · exact ⟨he, .inl ⟨m', ⟨st, hst, h1⟩, hj⟩⟩
    · exact ⟨he, .inr ⟨m', ⟨st, k, hst, hk, h1⟩, hj⟩⟩
theorem kpR_b {n0 B1 : Nat} {w : World} (hn : n0 ≤ w.heap.size) (hb : B1 < w.heap.size) (W : World) (l : Nat) (o o' : Obj) (hl : w.heap.size ≤ l) (h : W.heap[l]? = some o) (hc : o.isCells = false) (hk : o.isWalk = false) : KpR n0 B1 W (W.putObj l o') := by
  refine ⟨belowK_b hn W l o o' hl h hc hk, ?_⟩
  exact (grownBy_putObj' W l o').block B1 (by have := (Array.getElem?_eq_some_iff.1 h).1; omega) (by intro e; injection e with e; omega)
/-- The name for a number. -/
def pickP (ps : List Pt) (st : Nat) : ByteArray := ((arL ps st).head?.map (·.2)).getD ⟨#[]⟩
set_option maxRecDepth 100000 in
set_option maxHeartbeats 4000000 in
theorem pick34_in (n : Nat) (hn : 3 ≤ n) (rb nn : Nat) (ps : List Pt) (hl : ps.length ≤ 100000) (hr : Rise ps) (x : Nat) (w : World) (hRg : RingAt w rb ps nn) :
    CallsIn Fence.wide n Tryd.prog 13 #[.pointer (some ⟨rb, 0, none⟩), .int .u64 (x : Nat)] w fun e w' => ∃ st, LowAt ps x st ∧ e = .returned (.string (pickP ps st)) ∧ Below w.heap.size w w' := by
  have h1 : 1 ≤ n := by omega
  refine callsIn_of_wp_marks Tryd.func13 rfl trivial ?_ rfl
  simp only [Tryd.ntmps13, List.size_toArray, List.length_cons, List.length_nil, Nat.reduceAdd, Nat.reduceSub, Array.replicate_succ, Array.replicate_zero, List.push_toArray, List.append_toArray, List.nil_append, List.cons_append]
  gi_wp2_with fail
  refine ⟨trivial, (around55 _ _ _ _).mono ?_⟩
  rintro e w' ⟨rfl, rfl⟩
  gi_wp2_with fail
  have bR := Boxed.new w 9 (.string ⟨#[]⟩)
  have bA := Boxed.new (w.alloc (.cells #[.string ⟨#[]⟩] 9)) 29 (.pointer (some ⟨rb, 0, none⟩))
  have bB := Boxed.new ((w.alloc (.cells #[.string ⟨#[]⟩] 9)).alloc (.cells #[.pointer (some ⟨rb, 0, none⟩)] 29)) 23 (.int .u64 (x : Nat))
  rw [World.size_alloc] at bA
  rw [World.size_alloc, World.size_alloc] at bB
  have hB0 : Below w.heap.size w (((w.alloc (.cells #[.string ⟨#[]⟩] 9)).alloc (.cells #[.pointer (some ⟨rb, 0, none⟩)] 29)).alloc (.cells #[.int .u64 (x : Nat)] 23)) := (((Below.refl _ w).alloc (Nat.le_refl _) _).alloc (by simp) _).alloc (by simp; omega) _
  have bR3 := (bR.alloc (.cells #[.pointer (some ⟨rb, 0, none⟩)] 29)).alloc (.cells #[.int .u64 (x : Nat)] 23)
  have bA3 := bA.alloc (.cells #[.int .u64 (x : Nat)] 23)
  refine wpIn_rangeFunc_ownH rfl h1 (gf := 40) (lb := #[.pointer (some ⟨w.heap.size + 1, 0, none⟩), .pointer (some ⟨w.heap.size + 1 + 1, 0, none⟩)]) rfl trivial (enters_of Tryd.func40 (by kernel_rfl) rfl)
    (around_stops (n - 1) (by omega) (w.heap.size + 1) (w.heap.size + 1 + 1) rb nn ps hl hr x w hRg _ hB0 (by simp) (by simp) bA3.cell bB.cell) KpR.trans (kpR_b (by simp; omega) (by simp)) (Below.refl _ _) (fun _ => rfl)
    (fun pre W => (pre = [] ∧ Boxed W w.heap.size 9 (.string ⟨#[]⟩) ∧ Boxed W (w.heap.size + 1) 29 (.pointer (some ⟨rb, 0, none⟩))) ∧ Below w.heap.size w W)
    (fun c pre W => (c = .ret ∧ ∃ p : Pt, pre = [p] ∧ Boxed W w.heap.size 9 (.string p.2)) ∧ Below w.heap.size w W)
    (OwnFrom.and (Own.from (fun s A B row hs hg hr => ⟨hs.1, (boxed_own (β := Unit) w.heap.size 9 (fun _ => .string ⟨#[]⟩)) () A B row hs.2.1 hg hr, (boxed_own (β := Unit) (w.heap.size + 1) 29 (fun _ => .pointer (some ⟨rb, 0, none⟩))) () A B row hs.2.2 hg hr⟩) _) (ownFrom_below (Nat.le_refl _) (by simp; omega)))
    (fun c => OwnFrom.and (Own.from (fun s A B row hs hg hr => by obtain ⟨hc, p, e1, e2⟩ := hs; exact ⟨hc, p, e1, (boxed_own (β := Unit) w.heap.size 9 (fun _ => .string p.2)) () A B row e2 hg hr⟩) _) (ownFrom_below (Nat.le_refl _) (by simp; omega)))
    ⟨⟨rfl, bR3, bA3⟩, hB0⟩
    (fun p a' W => ∃ Bx, w.heap.size < Bx ∧ W.heap[Bx]? = some (.cells #[.int .u64 (p.1 : Nat), .string p.2] 62 (0, 0)) ∧ a' = { tmps := #[.pointer (some ⟨rb, 0, none⟩), .int .u64 (x : Nat), undef, undef, .pointer (some ⟨w.heap.size, 0, none⟩), .pointer (some ⟨Bx, 0, none⟩), .pointer (some ⟨rb, 0, none⟩), .int .u64 (x : Nat), .func (.func 40) #[] #[.pointer (some ⟨w.heap.size + 1, 0, none⟩), .pointer (some ⟨w.heap.size + 1 + 1, 0, none⟩)], ptVal p, undef, undef], defers := [] })
    (fun p a' => fun s A B row hs hg hr => by
      obtain ⟨Bx, h1, h2, h3⟩ := hs
      exact ⟨Bx, h1, (cells_own (β := Unit) Bx _ _).from _ () A B row h2 hg hr, h3⟩) ?assign ?body ?done ?stop
  case assign =>
    rintro l pre ⟨v, N⟩ W K ⟨⟨hp, hbx, hba⟩, hB⟩ hK
    dsimp only [ptVal]
    gi_wp2
    exact hK _ _ ((KeepsOthers.alloc _ _).from _) (KpR.of_below (below_alloc W _) hB.size hba.lt) ⟨⟨hp, hbx.alloc _, hba.alloc _⟩, hB.alloc hB.size _⟩ ⟨W.heap.size, hbx.lt, heap_alloc_new W _, rfl⟩
  case body =>
    rintro l pre ⟨v, N⟩ a' W hl2 ⟨r, hr2⟩ ⟨⟨rfl, hbx, hba⟩, hB⟩ ⟨Bx, hBx, hbX, rfl⟩ hlt
    have cx1 : W.cell? ⟨Bx, 1, none⟩ = some (.string N) := by rw [cell_of_row W Bx 1 _ _ _ hbX]; rfl
    have hvc := hbx.cell
    have hvf := hbx.frozen
    gi_wp2
    exact ⟨(KeepsOthers.setCell _ _ _).from _, ⟨rfl, v, N, rfl, hbx.set _⟩, hB.setCell (p := ⟨w.heap.size, 0, none⟩) (Nat.le_refl _) _⟩
  case done =>
    rintro D ys W hD ⟨st, hst, rfl⟩ ⟨⟨hne, hbx, hba⟩, hB⟩ hK
    have hvc := hbx.cell
    have hvf := hbx.frozen
    gi_wp2
    have hK' := (KeepsOthers.setCell W ⟨w.heap.size, 0, none⟩ (.string ⟨#[]⟩)).same D _ hK rfl
    refine ⟨by simp, .inl ⟨_, _, rfl, run_takeDeferred hK', ?_⟩⟩
    have hc5 := cell_kept (World.cell?_setCell_same' W ⟨w.heap.size, 0, none⟩ (.string ⟨#[]⟩) (by rw [hvc]; rfl)) (grownBy_putObj' _ D (.deferred none)) (fun r e => by cases e; exact ⟨_, hK', rfl⟩)
    have hpk : pickP ps st = ⟨#[]⟩ := by unfold pickP; rw [hne]; rfl
    refine ⟨.string ⟨#[]⟩, ?_, st, hst, by rw [hpk], (hB.setCell (p := ⟨w.heap.size, 0, none⟩) (Nat.le_refl _) _).trans (belowK_b (w := w) (Nat.le_refl _) _ D _ _ (by simp at hD; omega) hK' rfl rfl)⟩
    simp [results, Tryd.f13, go_sem, hc5]
  case stop =>
    rintro D c pre W hD ⟨st, k, hst, hk, rfl⟩ ⟨⟨rfl, p, e1, hbx⟩, hB⟩ hK
    have hpk : pickP ps st = p.2 := by
      unfold pickP
      cases h : arL ps st with
      | nil => rw [h] at e1; simp at e1
      | cons y l =>
        rw [h] at e1
        cases k with
        | zero => simp at e1
        | succ k => rw [List.take_succ_cons] at e1; injection e1 with e2 e3; rw [e2]; rfl
    have hvc := hbx.cell
    clear e1
    gi_wp2
    refine ⟨by simp, .inl ⟨_, _, rfl, run_takeDeferred hK, ?_⟩⟩
    have hc5 := cell_kept hvc (grownBy_putObj' _ D (.deferred none)) (fun r e => by cases e; exact ⟨_, hK, rfl⟩)
    refine ⟨.string p.2, ?_, st, hst, by rw [hpk], hB.trans (belowK_b (w := w) (Nat.le_refl _) _ D _ _ (by simp at hD; omega) hK rfl rfl)⟩
    simp [results, Tryd.f13, go_sem, hc5]
theorem pick34 (rb nn : Nat) (ps : List Pt) (hl : ps.length ≤ 100000) (hr : Rise ps) (x : Nat) (w : World) (hRg : RingAt w rb ps nn) :
    Calls Tryd.prog 13 #[.pointer (some ⟨rb, 0, none⟩), .int .u64 (x : Nat)] w fun e w' => ∃ st, LowAt ps x st ∧ e = .returned (.string (pickP ps st)) ∧ Below w.heap.size w w' := callsIn_wide.1 (pick34_in 3 (by decide) rb nn ps hl hr x w hRg)
end Go.Proofs.YtklfpnnnoaaiaaaDoor

/- ring: sorted points; Len, Point; the law's Own. -/
namespace Go.Proofs.YtklfpnnnoaaiaaaDoor
open Go.RowKit Go.Sort

theorem lePt_trans (x y z : Pt) (h1 : (!(ltOf cmpP) y x) = true) (h2 : (!(ltOf cmpP) z y) = true) : (!(ltOf cmpP) z x) = true := by
  rw [ltP] at *
  simp only [Bool.not_eq_true', decide_eq_false_iff_not] at *
  intro h3
  by_cases e : ltPt y z
  · exact h1 (ltPt_trans e h3)
  · have := ltPt_tri y z e h2
    subst this
    exact h1 h3
theorem lePt_total (x y : Pt) : ((!(ltOf cmpP) y x) || (!(ltOf cmpP) x y)) = true := by
  rw [ltP, ltP]
  by_cases h : ltPt y x
  · have : ¬ ltPt x y := fun h2 => ltPt_irrefl x (ltPt_trans h2 h)
    simp [this]
  · simp [h]
theorem srtP_sorted (ps : List Pt) : (srtP ps).Pairwise fun a b => ¬ ltPt b a := by
  have h := List.pairwise_mergeSort (le := fun x y => !(ltOf cmpP) y x) lePt_trans lePt_total ps
  refine List.Pairwise.imp (fun {a b} h => ?_) h
  rw [ltP] at h
  simpa using h
theorem srtP_rise (ps : List Pt) : Rise (srtP ps) := by
  intro i j p q hi hj hij
  rcases Nat.lt_or_ge i j with h | h
  · have hs := List.pairwise_iff_getElem.1 (srtP_sorted ps) i j (List.getElem?_eq_some_iff.1 hi).1 (List.getElem?_eq_some_iff.1 hj).1 h
    rw [(List.getElem?_eq_some_iff.1 hi).2, (List.getElem?_eq_some_iff.1 hj).2] at hs
    unfold ltPt at hs
    omega
  · obtain rfl : i = j := by omega
    rw [hi] at hj
    rw [Option.some.inj hj]
    exact Nat.le_refl _
theorem sortedP_uniq : ∀ {l l' : List Pt}, l.Perm l' → l.Pairwise (fun a b => ¬ ltPt b a) → l'.Pairwise (fun a b => ¬ ltPt b a) → l = l' := by
  intro l l' hp h h'
  refine List.Perm.eq_of_pairwise (le := fun a b => ¬ ltPt b a) (fun a b _ _ h1 h2 => ltPt_tri a b h2 h1) h h' hp
theorem srtP_uniq {l l' : List Pt} (hp : l.Perm l') : srtP l = srtP l' :=
  sortedP_uniq (((srtP_perm l).trans hp).trans (srtP_perm l').symm) (srtP_sorted l) (srtP_sorted l')
theorem gmE_perm {l l' : List Ent} (h : l.Perm l') : gmE l = gmE l' := by
  induction h with
  | nil => rfl
  | cons x _ ih => show max x.2 (gmE _) = max x.2 (gmE _); rw [ih]
  | swap x y l => show max y.2 (max x.2 (gmE l)) = max x.2 (max y.2 (gmE l)); omega
  | trans _ _ h1 h2 => rw [h1, h2]
theorem ptsL_perm {k : Nat → UInt8} {p G : Nat} {l l' : List Ent} (h : l.Perm l') : (ptsL k p G l).Perm (ptsL k p G l') := List.Perm.flatMap_right _ h
set_option maxHeartbeats 1000000 in
theorem len31 (rb nn : Nat) (ps : List Pt) (w : World) (h : RingAt w rb ps nn) :
    Calls Tryd.prog 17 #[.pointer (some ⟨rb, 0, none⟩)] w fun e w' => e = .returned (.int .i64 (ps.length : Nat)) ∧ w' = w := by
  obtain ⟨h1, a, c, h2, h3, h4⟩ := h
  clear h3 h4
  go_enter Tryd.func17, Tryd.ntmps17
  go_wp2_with fail
  go_ret
  exact ⟨rfl, rfl⟩
def ptAt (ps : List Pt) (i : Int) : Pt := if i < 0 ∨ (ps.length : Int) ≤ i then (0, ⟨#[]⟩) else ps.getD i.toNat (0, ⟨#[]⟩)
theorem infoREnt : (Tryd.prog.info? 53).map (fun i => (i.zero, i.size, i.bytes)) = some (some (.agg #[.string ⟨#[]⟩, .int .i64 0]), 2, 24) := by kernel_rfl
set_option maxRecDepth 100000 in
set_option maxHeartbeats 2000000 in
theorem own28 (a : Option Addr) (c : Nat) (es : List Ent) (hl : es.length ≤ 1000) (w : World) (hf : IsEnts w a c es) :
    Calls Tryd.prog 9 #[.slice a es.length c] w fun e w' => ∃ a' c', e = .returned (.slice a' es.length c') ∧ IsEnts w' a' c' es ∧ Below w.heap.size w w' := by
  obtain ⟨i0, hi, hz0, hz1, hz2⟩ := info_parts infoREnt
  have HFF := Lib.hid hf
  clear hf
  go_enter Tryd.func9, Tryd.ntmps9
  go_wp2_with fail
  go_loopw [3, 8] (fun v i wr => ∃ j : Nat, j ≤ es.length ∧ i = .int .i64 (j : Int) ∧ Hid (wr.ownsRow w.heap.size 53 2 v j (cellsE (es.take j))) ∧ Hid (Below w.heap.size w wr)) (fun _ i _ => es.length - (intOf i).toNat)
  case atStart => exact ⟨0, Nat.zero_le _, rfl, World.ownsRow_nil _ _ _ _, Below.refl _ _⟩
  case round =>
    obtain ⟨j, hj, rfl, ho, hb⟩ := hrel
    by_cases hlt : j < es.length
    · have j1 : (j : Int) < es.length := by omega
      obtain h0 | ⟨bk, o, rfl, hbk, hc, hcell⟩ := HFF.out.below hb.out
      · subst h0; simp at hlt
      obtain ⟨c1, c2⟩ := hcell j es[j] (by simp [hlt])
      have hst := Lib.hid (cellsE_step hlt)
      generalize es[j] = e at *
      obtain ⟨N, V⟩ := e
      simp only at c1 c2 hst
      have hsz := hb.out.size
      have hb1 := hb.out.alloc hsz (.cells #[.string N, .int .i64 V] 51)
      have HB2 := Lib.hid (hb1.alloc hb1.size (.cells #[.string N, .int .i64 V] 53))
      have HO2 := Lib.hid ((ho.out.alloc (.cells #[.string N, .int .i64 V] 51)).alloc (.cells #[.string N, .int .i64 V] 53))
      clear hcell ho hb hb1
      go_wp2_with (at_builtin; refine wpList_append_own _ rfl _ _ 33 rfl w.heap.size 53 i0 (.agg #[.string ⟨#[]⟩, .int .i64 0]) 2 24 Tryd.underlying33 hi hz0 hz1 hz2 rfl (by decide) _ _ _ rfl HO2.out ⟨wr.heap.size + 1, 0, none⟩ 1 1 [.string N, .int .i64 V] rfl rfl (by have := cells_ent (wr.alloc (.cells #[.string N, .int .i64 V] 51)) N V 53; simpa using this) (ent_one _ _) (by unfold maxLen; omega) (by omega) HB2.out.size ?_; intro v' w4 hown' hgrow _; have HB5 : Hid (Below w.heap.size w w4) := HB2.out.grown hgrow HB2.out.size (fun k hk => (HO2.out.lt k hk).1); have HO5 := Lib.hid hown'; clear hown' hgrow HB2 HO2)
      go_roundw
      case rel => exact ⟨j + 1, hlt, by go_num, by rw [hst.out]; exact HO5, HB5⟩
      case measure => simp [intOf]; omega
    · obtain rfl : j = es.length := by omega
      have hne : ¬ ((es.length : Int) < es.length) := by omega
      go_wp2_with fail
      go_ret
      have ho' := ho.out
      rw [List.take_length] at ho'
      obtain ⟨a', c', rfl⟩ := own_slice ho'
      exact ⟨a', c', rfl, (isEnts_own ho').2.1, hb.out⟩
end Go.Proofs.YtklfpnnnoaaiaaaDoor

/- ring: the reference's Check; the law's awake. -/
namespace Go.Proofs.YtklfpnnnoaaiaaaDoor
open Go.RowKit

set_option maxHeartbeats 4000000 in
set_option maxRecDepth 100000 in
theorem check29 (a : Option Addr) (c : Nat) (es : List Ent) (hl : es.length ≤ 1000) (w : World) (hf : IsEnts w a c es) :
    Calls Tryd.prog 10 #[.slice a es.length c] w fun e w' => e = .returned (.int .i64 (if validB es then 0 else 1)) ∧ Below w.heap.size w w' := by
  have HF := Lib.hid hf
  clear hf
  have k1 : ¬ ((1024 : Int) < es.length) := by omega
  obtain ⟨r, hr⟩ : ∃ r : Int, r = (if validB es then 0 else 1) := ⟨_, rfl⟩
  have HRR := Lib.hid hr
  rw [← hr]
  clear hr
  go_enter Tryd.func10, Tryd.ntmps10
  go_wp2_with fail
  go_loopw [12] (fun p wr => ∃ i : Nat, i ≤ es.length ∧ p = .int .i64 (i : Int) ∧ Hid (∀ e ∈ es.take i, okW e = true) ∧ Hid (Apart (es.take i)) ∧ Hid (Below w.heap.size w wr)) (fun p _ => es.length - (intOf p).toNat)
  case atStart => exact ⟨0, Nat.zero_le _, rfl, (fun e he => by simp at he), (by simp [Hid, Apart]), Below.refl _ _⟩
  case round =>
    obtain ⟨i, hi, rfl, HW, HA, HB⟩ := hrel
    by_cases hlt : i < es.length
    · obtain h0 | ⟨bk, o, rfl, hbk, hc, hcell⟩ := HF.out
      · subst h0; simp at hlt
      have HC := Lib.hid hcell
      obtain ⟨d1, d2⟩ := hcell i es[i] (by simp [hlt])
      have c1 : wr.cell? ⟨bk, o + i * 2, none⟩ = some (.string es[i].1) := by rw [(bcell HB.out).1 _ _ hbk]; exact d1
      have c2 : wr.cell? ⟨bk, o + i * 2 + 1, none⟩ = some (.int .i64 es[i].2) := by rw [(bcell HB.out).1 _ _ hbk]; exact d2
      have j1 : (i : Int) < es.length := by omega
      have HBAD := Lib.hid (validB_bad (es := es) hlt)
      have HALL := Lib.hid (all_step (es := es) hlt HW.out)
      have hokd : okW es[i] = (decide (1 ≤ es[i].2) && decide (es[i].2 ≤ 65535)) := rfl
      obtain ⟨e, he⟩ : ∃ e, e = es[i] := ⟨_, rfl⟩
      have HE := Lib.hid he
      rw [← he] at c1 c2 HBAD HALL hokd
      clear hcell he d1 d2
      obtain ⟨N, V⟩ := e
      simp only at c1 c2 hokd
      have HBA := Lib.hid (HB.out.alloc HB.out.size (.cells #[.string N, .int .i64 V] 51))
      have HBX := Lib.hid (Row.new wr 51 #[.string N, .int .i64 V])
      have j2 : (i : Int) ≤ es.length := by omega
      have j3 : (i : Int) ≤ c := by omega
      have HOKD := Lib.hid hokd
      clear hokd
      go_wp2_with fail
      clear c1 c2
      generalize wr.alloc (.cells #[.string N, .int .i64 V] 51) = wa at *
      generalize wr.heap.size = eb at *
      go_loopw [21] (fun p w3 => ∃ q : Nat, q ≤ i ∧ p = .int .i64 (q : Int) ∧ Hid (∀ e ∈ es.take q, e.1 ≠ N) ∧ Hid (Row w3 eb 51 #[.string N, .int .i64 V]) ∧ Hid (Below w.heap.size w w3)) (fun p _ => i - (intOf p).toNat)
      case atStart => exact ⟨0, Nat.zero_le _, rfl, (fun e he => by simp at he), HBX, HBA⟩
      case round =>
        clear HBX HBA HB
        obtain ⟨q, hq, rfl, HN, HX, HB⟩ := hrel
        have e0 : wr.cell? ⟨eb, 0, none⟩ = some (.string N) := by rw [HX.out.cell]; rfl
        by_cases hqi : q < i
        · have hql : q < es.length := by omega
          obtain ⟨d1, d2⟩ := HC.out q es[q] (by simp [hql])
          have c1 : wr.cell? ⟨bk, o + q * 2, none⟩ = some (.string es[q].1) := by rw [(bcell HB.out).1 _ _ hbk]; exact d1
          have c2 : wr.cell? ⟨bk, o + q * 2 + 1, none⟩ = some (.int .i64 es[q].2) := by rw [(bcell HB.out).1 _ _ hbk]; exact d2
          have q1 : (q : Int) < i := by omega
          have HBD := Lib.hid (apart_bad (es := es) hqi hlt)
          have HNS := Lib.hid (name_step (es := es) (N := N) hql HN.out)
          have he := HE.out
          rw [← he] at HBD
          have e1 : (wr.alloc (.cells #[.string es[q].1, .int .i64 es[q].2] 51)).cell? ⟨eb, 0, none⟩ = some (.string N) := by rw [((HX.out.alloc _).cell 0)]; rfl
          have HX2 := Lib.hid (HX.out.alloc (.cells #[.string es[q].1, .int .i64 es[q].2] 51))
          have HB2 := Lib.hid (HB.out.alloc HB.out.size (.cells #[.string es[q].1, .int .i64 es[q].2] 51))
          clear d1 d2 he HB HX
          generalize es[q] = f at *
          obtain ⟨X, U⟩ := f
          simp only at *
          by_cases hx : X = N
          · subst hx
            have HV := Lib.hid (HBD.out rfl)
            clear HBD HNS
            go_wp2_with fail
            go_ret
            exact ⟨by rw [HRR.out, HV.out]; rfl, HB2.out⟩
          · have HN2 := Lib.hid (HNS.out hx)
            have hxb : (X.toList == N.toList) = false := by rw [strEqM]; exact decide_eq_false hx
            clear HBD HNS
            go_wp2_with fail
            go_roundw
            case rel => exact ⟨q + 1, hqi, by go_num, HN2, HX2, HB2⟩
            case measure => simp [intOf]; omega
        · obtain rfl : q = i := by omega
          have hne : ¬ (q : Int) < q := by omega
          have hnm := HN.out
          have he := HE.out
          have HA9 := Lib.hid (apart_next hlt HA.out (by rw [← he]; exact HN.out))
          clear he hnm
          have e1' : wr.cell? ⟨eb, 1, none⟩ = some (.int .i64 V) := by rw [HX.out.cell]; rfl
          have hokd := HOKD.out
          by_cases h1 : V < 1
          · have hb : okW (N, V) = false := by rw [hokd, decide_eq_false (by omega)]; rfl
            have HV := Lib.hid (HBAD.out hb)
            clear hokd
            go_wp2_with fail
            go_ret
            exact ⟨by rw [HRR.out, HV.out]; rfl, HB.out⟩
          by_cases h2 : 65535 < V
          · have hb : okW (N, V) = false := by rw [hokd, decide_eq_true (by omega), decide_eq_false (by omega)]; rfl
            have HV := Lib.hid (HBAD.out hb)
            clear hokd
            go_wp2_with fail
            go_ret
            exact ⟨by rw [HRR.out, HV.out]; rfl, HB.out⟩
          have hb : okW (N, V) = true := by rw [hokd, decide_eq_true (by omega), decide_eq_true (by omega)]; rfl
          have HA2 := Lib.hid (HALL.out hb)
          clear hokd
          go_wp2_with fail
          go_roundw
          case rel => exact ⟨q + 1, hlt, by go_num, HA2, HA9, HB⟩
          case measure => simp [intOf]; omega
    · obtain rfl : i = es.length := by omega
      have hne : ¬ (es.length : Int) < es.length := by omega
      have HV : Hid (validB es = true) := by
        have h1 := HW.out
        have h2 := HA.out
        rw [List.take_length] at h1 h2
        exact valid_all h1 h2
      go_wp2_with fail
      go_ret
      exact ⟨by rw [HRR.out, HV.out]; rfl, HB.out⟩
theorem isEnts_oneR (w : World) (n : ByteArray) (v : Int) (T : TypeId) : IsEnts (w.alloc (.cells #[.string n, .int .i64 v] T)) (some ⟨w.heap.size, 0, none⟩) 1 [(n, v)] := by
  refine .inr ⟨w.heap.size, 0, rfl, by simp, by simp, fun j e he => ?_⟩
  match j, he with
  | 0, he => obtain rfl : (n, v) = e := by simpa using he
             constructor <;> simp
  | j + 1, he => simp at he
/-- Whom a number is assigned to. -/
theorem pick_mem {ps : List Pt} (hne : ps ≠ []) (st : Nat) : ∃ p ∈ ps, pickP ps st = p.2 := by
  have hl : 0 < ps.length := List.length_pos_iff.2 hne
  have hm : (st + 0) % ps.length < ps.length := Nat.mod_lt _ hl
  refine ⟨ps[(st + 0) % ps.length], List.getElem_mem hm, ?_⟩
  unfold pickP
  have : (arL ps st).head? = some ps[(st + 0) % ps.length] := by
    rw [List.head?_eq_getElem?]
    unfold arL
    rw [List.getElem?_map, List.getElem?_range hl, Option.map_some, List.getD_eq_getElem?_getD, List.getElem?_eq_getElem hm, Option.getD_some]
  rw [this]; rfl
theorem ptsL_name {k : Nat → UInt8} {p G : Nat} {es : List Ent} {q : Pt} (h : q ∈ ptsL k p G es) : ∃ e ∈ es, q.2 = e.1 := by
  unfold ptsL at h
  obtain ⟨e, he, hq⟩ := List.mem_flatMap.1 h
  unfold ptsE at hq
  obtain ⟨i, _, rfl⟩ := List.mem_map.1 hq
  exact ⟨e, he, rfl⟩
set_option maxRecDepth 100000 in
set_option maxHeartbeats 4000000 in
theorem awake26 (w : World) (hi : Ini w) (hpw : Pow w) :
    Calls Tryd.prog 5 #[] w fun e w' => e = .returned (.bool true) ∧ Below w.heap.size w w' := by
  have hk := key17 ⟨#[107]⟩ w
  generalize (fun i => (⟨#[107]⟩ : ByteArray).data.toList.getD i 0) = kf at hk
  have HK := Lib.hid hk
  have HI := Lib.hid hi
  have HPW := Lib.hid hpw
  clear hk hi hpw
  have hck : validB [((⟨#[97]⟩ : ByteArray), (3 : Int))] = true := valid_all (by intro e he; obtain rfl : e = _ := (by simpa using he); rfl) (by unfold Apart; exact List.pairwise_singleton _ _)
  have hB : ∀ W, Ini W → Pow W → ∀ b c, IsEnts W (some ⟨b, 0, none⟩) c [((⟨#[97]⟩ : ByteArray), (3 : Int))] → Calls Tryd.prog 8 #[keyVal kf, .slice (some ⟨b, 0, none⟩) 1 c, .int .i64 4] W fun e w' => ∃ rb ps, e = .returned (.tuple #[.pointer (some ⟨rb, 0, none⟩), .int .i64 0]) ∧ RingAt w' rb ps 1 ∧ ps.length = 4 ∧ Rise ps ∧ (∀ p ∈ ps, p.2 = ⟨#[97]⟩) ∧ Below W.heap.size W w' := by
    intro W hI hP b c hE
    refine (ringBuild27 kf [((⟨#[97]⟩ : ByteArray), (3 : Int))] (by simp) (by intro e he; obtain rfl : e = _ := (by simpa using he); decide) hck 4 4 (by decide) (some ⟨b, 0, none⟩) c W hI hP hE).mono ?_
    rintro e w' ⟨rb, rfl, hr, hb⟩
    refine ⟨rb, _, rfl, hr, ?_, srtP_rise _, fun p hp => ?_, hb⟩
    · rw [(srtP_perm _).length_eq]
      show (ptsE kf 4 3 (⟨#[97]⟩, 3) ++ []).length = 4
      rw [List.append_nil, ptsE_len]
      decide
    · obtain ⟨e, he, h2⟩ := ptsL_name ((srtP_perm _).mem_iff.1 hp)
      obtain rfl : e = _ := (by simpa using he)
      exact h2
  have HB := Lib.hid hB
  clear hB hck
  have HLN : Hid (∀ (rb : Nat) (ps : List Pt) (W : World), RingAt W rb ps 1 → ps.length = 4 → Calls Tryd.prog 17 #[.pointer (some ⟨rb, 0, none⟩)] W fun e w' => e = .returned (.int .i64 4) ∧ w' = W) := fun rb ps W h h4 => by
    have := len31 rb 1 ps W h
    rw [h4] at this
    exact this
  have HPK : Hid (∀ (rb : Nat) (ps : List Pt) (x : Nat) (W : World), RingAt W rb ps 1 → ps.length = 4 → Rise ps → (∀ p ∈ ps, p.2 = ⟨#[97]⟩) → Calls Tryd.prog 13 #[.pointer (some ⟨rb, 0, none⟩), .int .u64 (x : Nat)] W fun e w' => e = .returned (.string ⟨#[97]⟩) ∧ Below W.heap.size W w') := fun rb ps x W h h4 hr hn => by
    refine (pick34 rb 1 ps (by omega) hr x W h).mono ?_
    rintro e w' ⟨st, _, rfl, hb⟩
    obtain ⟨p, hp, h2⟩ := pick_mem (ps := ps) (fun e => by rw [e] at h4; simp at h4) st
    rw [h2, hn p hp]
    exact ⟨rfl, hb⟩
  have eqa : ((⟨#[97]⟩ : ByteArray).toList == (⟨#[97]⟩ : ByteArray).toList) = true := by simp
  go_enter Tryd.func5, Tryd.ntmps5
  go_wp2_with (first
    | (go_at_call 7; refine HK.out.mono ?_; rintro e w1 ⟨rfl, hB1⟩; have HB1 := Lib.hid hB1; have HI1 := Lib.hid (HI.out.below hB1); have HP1 := Lib.hid (HPW.out.below hB1); clear hB1)
    | (go_at_call 8; have hba := below_alloc w1 (.cells #[.string ⟨#[97]⟩, .int .i64 3] 53); refine (HB.out _ (HI1.out.below hba) (HP1.out.below hba) _ 1 (isEnts_oneR w1 ⟨#[97]⟩ 3 53)).mono ?_; rintro e w2 ⟨rb, ps, rfl, hr, h4, hrs, hnm, hb⟩; have HR := Lib.hid hr; have H4 := Lib.hid h4; have HRS := Lib.hid hrs; have HNM := Lib.hid hnm; have HB2 := Lib.hid (HB1.out.trans ((hba.trans (hb.mono hba.size)).mono HB1.out.size)); clear hba hr h4 hrs hnm hb)
    | (go_at_call 17; refine (HLN.out rb ps _ HR.out H4.out).mono ?_; rintro e w3 ⟨rfl, hw3⟩; subst hw3)
    | (go_at_call 13; refine (HPK.out rb ps 0 _ HR.out H4.out HRS.out HNM.out).mono ?_; rintro e w4 ⟨rfl, hB4⟩; have HR4 := Lib.hid (HR.out.below hB4); have HB4 := Lib.hid (HB2.out.trans (hB4.mono HB2.out.size)); clear hB4 HR)
    | (go_at_call 13; refine (HPK.out rb ps 9223372036854775808 _ HR4.out H4.out HRS.out HNM.out).mono ?_; rintro e w5 ⟨rfl, hB5⟩))
  go_ret
  exact ⟨rfl, HB4.out.trans (hB5.mono HB4.out.size)⟩
end Go.Proofs.YtklfpnnnoaaiaaaDoor

/- ring: the reference's digits (written by genrgf.py). -/
namespace Go.Proofs.YtklfpnnnoaaiaaaDoor
open Go.RowKit

/-- A digit. -/
def dch (n : Nat) : UInt8 := if n < 10 then UInt8.ofNat (48 + n) else UInt8.ofNat (87 + n)
/-- A number's digits to a base, with some fuel. -/
def prtF (b : Nat) : Nat → Nat → List UInt8
  | 0, n => [dch n]
  | k + 1, n => if n < b then [dch n] else prtF b k (n / b) ++ [dch (n % b)]
/-- A number's digits. -/
def prt (b n : Nat) : List UInt8 := prtF b 64 n
theorem prtF_small (b k n : Nat) (h : n < b) : prtF b k n = [dch n] := by
  cases k with
  | zero => rfl
  | succ k => simp [prtF, h]
theorem prtF_step (b k n : Nat) (h : b ≤ n) : prtF b (k + 1) n = prtF b k (n / b) ++ [dch (n % b)] := by
  rw [prtF, if_neg (by omega)]
/-- A number's digits, 0 where it is negative. -/
def prtI (b : Nat) (n : Int) : List UInt8 := prt b n.toNat
theorem extractL (t : ByteArray) (a b : Nat) : (t.extract a b).data.toList = (t.data.toList.drop a).take (b - a) := by
  have h : (t.extract a b).data = t.data.extract a b := ByteArray.data_extract
  rw [h]; simp [Array.toList_extract]

theorem str_eq (t : ByteArray) (l : List UInt8) (h : t.data.toList = l) : t = ⟨l.toArray⟩ := by
  cases t; simp at h; subst h; simp
theorem prtF_dec : ∀ (k n : Nat), n < 10 ^ (k + 1) → Lib.decDigits n = prtF 10 k n
  | 0, n, h => by rw [Lib.decDigits_one (by omega)]; simp [prtF, dch, show n < 10 by omega]
  | k + 1, n, h => by
    by_cases h10 : n < 10
    · rw [Lib.decDigits_one h10, prtF_small 10 _ n h10]; simp [dch, h10]
    · rw [Lib.decDigits, dif_neg h10, prtF_step 10 k n (by omega), prtF_dec k (n / 10) (by rw [Nat.div_lt_iff_lt_mul (by decide)]; rw [Nat.pow_succ] at h; exact h)]
      simp [dch, Nat.mod_lt n (show 0 < 10 by decide)]
theorem prt_dec (n : Nat) (h : n < 9223372036854775808) : Lib.decDigits n = prt 10 n := prtF_dec 64 n (Nat.lt_of_lt_of_le h (by decide))
theorem few_any (b u U t : Nat) (hb : 2 ≤ b) (h1 : 1 ≤ u) (h : u * b ^ t ≤ U) (hU : U < 9223372036854775808) : t ≤ 62 := by
  rcases Nat.lt_or_ge t 63 with h2 | h2
  · omega
  · have h3 : 2 ^ 63 ≤ b ^ t := Nat.le_trans (Nat.pow_le_pow_left hb 63) (Nat.pow_le_pow_right (by omega) h2)
    have h4 : b ^ t ≤ u * b ^ t := Nat.le_mul_of_pos_left _ h1
    have h5 : (2 : Nat) ^ 63 = 9223372036854775808 := by decide
    omega
theorem dch_piece (k : Nat) (h : k < 16) : ((⟨#[48, 49, 50, 51, 52, 53, 54, 55, 56, 57, 97, 98, 99, 100, 101, 102]⟩ : ByteArray).extract k (k + 1)) = ⟨#[dch k]⟩ := by
  have : ∀ k : Fin 16, ((⟨#[48, 49, 50, 51, 52, 53, 54, 55, 56, 57, 97, 98, 99, 100, 101, 102]⟩ : ByteArray).extract k.val (k.val + 1)).data.toList = [dch k.val] := by
    intro k
    rw [extractL]
    revert k
    decide +kernel
  exact str_eq _ _ (this ⟨k, h⟩)
theorem cons_str (c : UInt8) (T : List UInt8) : (⟨#[c]⟩ : ByteArray) ++ (⟨T.toArray⟩ : ByteArray) = ⟨(c :: T).toArray⟩ := by
  apply ByteArray.ext
  simp
/-- How far the reference's loop is. -/
def PrtTo (b U u : Nat) (T : List UInt8) : Prop := (u = 0 ∧ prt b U = T) ∨ (0 < u ∧ ∃ k, k + T.length = 64 ∧ u * b ^ T.length ≤ U ∧ prt b U = prtF b k u ++ T)
theorem prtTo_step {b U u : Nat} {T : List UInt8} (hb : 2 ≤ b) (hU : U < 9223372036854775808) (hu : 0 < u) (h : PrtTo b U u T) : PrtTo b U (u / b) (dch (u % b) :: T) := by
  rcases h with ⟨h1, _⟩ | ⟨_, k, hk, hpw, hp⟩
  · omega
  · by_cases hub : u < b
    · left
      refine ⟨Nat.div_eq_of_lt hub, ?_⟩
      rw [hp, prtF_small b k u hub, Nat.mod_eq_of_lt hub]; rfl
    · have h1 : 1 ≤ u / b := (Nat.one_le_div_iff (by omega)).2 (by omega)
      have hpw2 : u / b * b ^ (T.length + 1) ≤ U := by
        have h2 : u / b * b ≤ u := Nat.div_mul_le_self u b
        have h3 := Nat.mul_le_mul_right (b ^ T.length) h2
        rw [Nat.pow_succ, Nat.mul_comm (b ^ T.length) b, ← Nat.mul_assoc]
        omega
      have ht := few_any b (u / b) U (T.length + 1) hb h1 hpw2 hU
      obtain ⟨k', rfl⟩ : ∃ k', k = k' + 1 := ⟨k - 1, by omega⟩
      right
      refine ⟨by omega, k', by simp; omega, by simpa using hpw2, ?_⟩
      rw [hp, prtF_step b k' u (by omega), List.append_assoc]; rfl

set_option maxRecDepth 100000 in
set_option maxHeartbeats 2000000 in
theorem print10 (n : Int) (hn : n < 9223372036854775808) (w : World) :
    Calls Tryd.prog 26 #[.int .i64 n, .int .i64 10] w fun e w' => e = .returned (.string ⟨(prtI 10 n).toArray⟩) ∧ Below w.heap.size w w' := by
  unfold prtI
  by_cases h : n ≤ 0
  · rw [show n.toNat = 0 by omega, show (prt 10 0).toArray = #[48] by decide +kernel]
    go_enter Tryd.func26, Tryd.ntmps26
    go_wp2_with fail
    go_ret
    exact ⟨rfl, Below.refl _ _⟩
  · obtain ⟨U, rfl⟩ := Int.eq_ofNat_of_zero_le (show 0 ≤ n by omega)
    rw [Int.toNat_natCast]
    have hU : U < 9223372036854775808 := by omega
    have hU0 : 0 < U := by omega
    obtain ⟨R, hR⟩ : ∃ R : ByteArray, R = ⟨(prt 10 U).toArray⟩ := ⟨_, rfl⟩
    rw [← hR]
    have HR := Lib.hid hR
    clear hR hn
    go_enter Tryd.func26, Tryd.ntmps26
    go_wp2_with fail
    go_loopw [0, 5] (fun x s wr => ∃ (u : Nat) (T : List UInt8), x = .int .i64 (u : Int) ∧ s = .string ⟨T.toArray⟩ ∧ u < 9223372036854775808 ∧ Hid (PrtTo 10 U u T) ∧ Below w.heap.size w wr) (fun x _ _ => (intOf x).toNat)
    case atStart => exact ⟨U, [], rfl, rfl, hU, .inr ⟨hU0, 64, rfl, by simp, by simp [prt]⟩, Below.refl _ _⟩
    case round =>
      obtain ⟨u, T, rfl, rfl, hu, hp, hb⟩ := hrel
      by_cases h0 : 0 < u
      · have HP := Lib.hid (prtTo_step (by decide) hU h0 hp.out)
        have g0 : (u : Int) > 0 := by omega
        obtain ⟨r, hr⟩ : ∃ r, r = u % 10 := ⟨_, rfl⟩
        obtain ⟨v, hv⟩ : ∃ v, v = u / 10 := ⟨_, rfl⟩
        have hlt2 : v < u := by rw [hv]; exact Nat.div_lt_self h0 (by decide)
        have hr16 : r < 10 := by omega
        have e1 : (u : Int).tmod 10 = (r : Int) := by rw [Int.tmod_eq_emod_of_nonneg (by omega)]; omega
        have e2 : (u : Int).tdiv 10 = (v : Int) := by rw [Int.tdiv_eq_ediv_of_nonneg (by omega)]; omega
        have e3 : (u : Int) % 10 = (r : Int) := by omega
        have e4 : (u : Int) / 10 = (v : Int) := by omega
        rw [← hr, ← hv] at HP
        have m0 : (0 : Int) ≤ (r : Int) := by omega
        have m2 : (r : Int) ≤ (r : Int) + 1 := by omega
        have m3 : (r : Int) + 1 ≤ 16 := by omega
        have m4 : ((r : Int) + 1).toNat = r + 1 := by omega
        have m5 : IntKind.i64.wrap ((r : Int) + 1) = (r : Int) + 1 := IntWalk.i64_in _ (by omega)
        have hd := dch_piece r (by omega)
        have htl : T.length ≤ 64 := by
          rcases hp.out with ⟨h1, _⟩ | ⟨_, k, hk, _⟩
          · omega
          · omega
        have hadd : ∀ W : World, (Op.stringOp .add ⟨#[dch r]⟩ ⟨T.toArray⟩).run Tryd.prog W = .ok (.string ⟨(dch r :: T).toArray⟩) W := fun W => by
          rw [run_string_add_sum W _ _ (by rw [Lib.size_eq, Lib.size_eq]; simp; omega), cons_str]
        have HL := Lib.hid hlt2
        clear hr hv hlt2
        have hbn : ∀ n, Below w.heap.size w (wr.drewN n) := fun n => hb.trans ⟨rfl, rfl, rfl, Nat.le_refl _, fun _ _ => rfl⟩
        go_wp2_with fail
        go_quiet (fail)
        go_wp2_with fail
        go_roundw
        case rel => exact ⟨v, dch r :: T, rfl, rfl, by have := HL.out; omega, HP, hbn _⟩
        case measure => have := HL.out; simp [intOf]; omega
      · have hst : Hid (R = ⟨T.toArray⟩) := by
          rcases hp.out with ⟨_, h2⟩ | ⟨h1, _⟩
          · have h3 := HR.out
            rw [h2] at h3
            exact h3
          · omega
        have g0 : ¬ (u : Int) > 0 := by omega
        go_wp2_with fail
        go_ret
        exact ⟨by rw [hst.out]; rfl, hb⟩

theorem print10N (i : Nat) (hi : i < 1000000) (w : World) :
    Calls Tryd.prog 26 #[.int .i64 (i : Nat), .int .i64 10] w fun e w' => e = .returned (.string (digB i)) ∧ Below w.heap.size w w' := by
  have h := print10 (i : Nat) (by omega) w
  unfold prtI at h
  rw [Int.toNat_natCast, ← prt_dec i (by omega)] at h
  exact h
end Go.Proofs.YtklfpnnnoaaiaaaDoor

/- ring: a point put into its place (for the reference's Build). -/
namespace Go.Proofs.YtklfpnnnoaaiaaaDoor
open Go.RowKit Go.Sort

theorem srtP_low (qs : List Pt) (p q : Pt) (a : Nat) (hq : (srtP qs)[a]? = some q) (h : ¬ ltPt p q) : ∀ x ∈ (srtP qs).take (a + 1), ¬ ltPt p x := by
  intro x hx h1
  obtain ⟨i, hi, rfl⟩ := List.getElem_of_mem hx
  have ha := (List.getElem?_eq_some_iff.1 hq).1
  have hq2 := (List.getElem?_eq_some_iff.1 hq).2
  rw [List.length_take] at hi
  rw [List.getElem_take] at h1
  rcases Nat.lt_or_ge i a with h2 | h2
  · have hs := List.pairwise_iff_getElem.1 (srtP_sorted qs) i a (by omega) ha h2
    rw [hq2] at hs
    by_cases h3 : ltPt (srtP qs)[i] q
    · exact h (ltPt_trans h1 h3)
    · rw [ltPt_tri _ _ h3 hs] at h1; exact h h1
  · obtain rfl : i = a := by omega
    rw [hq2] at h1; exact h h1
theorem srtP_ins (qs : List Pt) (p : Pt) (a : Nat) (h1 : ∀ x ∈ (srtP qs).drop a, ltPt p x) (h2 : ∀ x ∈ (srtP qs).take a, ¬ ltPt p x) : srtP (qs ++ [p]) = (srtP qs).take a ++ p :: (srtP qs).drop a := by
  have hs := srtP_sorted qs
  have hl : (srtP qs).take a ++ (srtP qs).drop a = srtP qs := List.take_append_drop a _
  refine sortedP_uniq ?_ (srtP_sorted _) ?_
  · refine (srtP_perm _).trans ?_
    refine List.Perm.trans ?_ List.perm_middle.symm
    rw [hl]
    exact (List.perm_append_comm (l₁ := qs) (l₂ := [p])).trans ((srtP_perm qs).symm.cons p)
  · rw [← hl, List.pairwise_append] at hs
    obtain ⟨s1, s2, s3⟩ := hs
    rw [List.pairwise_append]
    refine ⟨s1, List.pairwise_cons.2 ⟨fun x hx h => ?_, s2⟩, fun x hx y hy => ?_⟩
    · exact ltPt_irrefl p (ltPt_trans (h1 x hx) h)
    · rcases List.mem_cons.1 hy with rfl | hy
      · exact h2 x hx
      · exact s3 x hx y hy
theorem cellsP_set : ∀ (l : List Pt) (j : Nat) (p : Pt), j < l.length → ((cellsP l).set (j * 2) (.int .u64 (p.1 : Nat))).set (j * 2 + 1) (.string p.2) = cellsP (l.set j p)
  | [], j, p, h => by simp at h
  | x :: l, 0, p, _ => rfl
  | x :: l, j + 1, p, h => by
    have := cellsP_set l j p (by simpa using h)
    rw [show (j + 1) * 2 = j * 2 + 1 + 1 by omega]
    show _ = Value.int .u64 (x.1 : Nat) :: .string x.2 :: cellsP (l.set j p)
    rw [← this]
    rfl
/-- The list while a point moves down. -/
def insL (ps : List Pt) (a : Nat) (X : Pt) : List Pt := ps.take a ++ X :: ps.drop a
theorem insL_len (ps : List Pt) (a : Nat) (X : Pt) : (insL ps a X).length = ps.length + 1 := by
  unfold insL
  rw [List.length_append, List.length_cons, List.length_take, List.length_drop]
  omega
theorem insL_end (ps : List Pt) (X : Pt) : insL ps ps.length X = ps ++ [X] := by simp [insL]
theorem insL_low (ps : List Pt) (a : Nat) (X : Pt) (h : a < ps.length) : (insL ps (a + 1) X)[a]? = ps[a]? := by
  unfold insL
  rw [List.getElem?_append_left (by rw [List.length_take]; omega), List.getElem?_take, if_pos (by omega)]
theorem insL_down (ps : List Pt) (a : Nat) (X : Pt) (h : a < ps.length) : (insL ps (a + 1) X).set (a + 1) ps[a] = insL ps a ps[a] := by
  unfold insL
  have hl : (ps.take (a + 1)).length = a + 1 := by rw [List.length_take]; omega
  rw [List.set_append_right _ _ (by omega), hl, Nat.sub_self]
  show ps.take (a + 1) ++ ps[a] :: ps.drop (a + 1) = _
  rw [List.take_succ_eq_append_getElem h, List.drop_eq_getElem_cons h, List.append_assoc]
  rfl
theorem insL_put (ps : List Pt) (a : Nat) (X p : Pt) (h : a ≤ ps.length) : (insL ps a X).set a p = insL ps a p := by
  unfold insL
  have hl : (ps.take a).length = a := by rw [List.length_take]; omega
  rw [List.set_append_right _ _ (by omega), hl, Nat.sub_self]
  rfl
theorem drop_down {ps : List Pt} {a : Nat} {P : Pt → Prop} (h : a < ps.length) (h1 : P ps[a]) (h2 : ∀ x ∈ ps.drop (a + 1), P x) : ∀ x ∈ ps.drop a, P x := by
  rw [List.drop_eq_getElem_cons h]
  intro x hx
  rcases List.mem_cons.1 hx with rfl | hx
  · exact h1
  · exact h2 x hx
theorem ownsRow_putR {w : World} {base g n c j : Nat} {e : TypeId} {sz : Nat} {xs : List Value} {u : Value} (h : w.ownsRow base e sz (.slice (some ⟨g, 0, none⟩) n c) n xs) (hj : j < xs.length) :
    (w.setCell ⟨g, j, none⟩ u).ownsRow base e sz (.slice (some ⟨g, 0, none⟩) n c) n (xs.set j u) ∧ w.cell? ⟨g, j, none⟩ = xs[j]? ∧ w.frozen? ⟨g, j, none⟩ = false ∧ base ≤ g := by
  obtain ⟨hl, ⟨hx, _⟩ | ⟨g', cap, cur, hx, hb, hg, hcap, hcm, hcs, htk⟩⟩ := h
  · injection hx with h1; cases h1
  · injection hx with h1 h2 h3
    obtain rfl : g = g' := by injection h1 with h1; injection h1
    subst h3
    have hR : Row w g e cur := hg
    have hjn : j < n * sz := by rw [← hl]; exact hj
    refine ⟨⟨by rw [List.length_set]; exact hl, .inr ⟨g, c, cur.setIfInBounds j u, rfl, hb, hR.put j u, hcap, hcm, by rw [Array.size_setIfInBounds]; exact hcs, ?_⟩⟩, ?_, hR.free j, hb⟩
    · rw [Array.toList_setIfInBounds, List.take_set, htk]
    · rw [hR.cell j, ← htk, List.getElem?_take, if_pos hjn, Array.getElem?_toList]
/-- Two cells put. -/
theorem ownsRow_put2 {w : World} {base g n c j : Nat} {e : TypeId} {l : List Pt} (p : Pt) (h : w.ownsRow base e 2 (.slice (some ⟨g, 0, none⟩) n c) n (cellsP l)) (hj : j < l.length) :
    ((w.setCell ⟨g, j * 2, none⟩ (.int .u64 (p.1 : Nat))).setCell ⟨g, j * 2 + 1, none⟩ (.string p.2)).ownsRow base e 2 (.slice (some ⟨g, 0, none⟩) n c) n (cellsP (l.set j p)) ∧ (∃ q : Pt, l[j]? = some q ∧ w.cell? ⟨g, j * 2, none⟩ = some (.int .u64 (q.1 : Nat)) ∧ w.cell? ⟨g, j * 2 + 1, none⟩ = some (.string q.2)) ∧ w.frozen? ⟨g, j * 2, none⟩ = false ∧ w.frozen? ⟨g, j * 2 + 1, none⟩ = false ∧ base ≤ g := by
  have hcl := cellsP_length l
  obtain ⟨a1, a2, a3, a4⟩ := ownsRow_putR (j := j * 2) (u := .int .u64 (p.1 : Nat)) h (by omega)
  obtain ⟨b1, b2, b3, b4⟩ := ownsRow_putR (j := j * 2 + 1) (u := .string p.2) a1 (by rw [List.length_set]; omega)
  obtain ⟨_, d2, d3, _⟩ := ownsRow_putR (j := j * 2 + 1) (u := .string p.2) h (by omega)
  obtain ⟨k1, k2⟩ := cellsP_at l j l[j] (by simp [hj])
  rw [cellsP_set l j p hj] at b1
  exact ⟨b1, ⟨l[j], by simp [hj], by rw [a2, k1], by rw [d2, k2]⟩, a3, d3, a4⟩
theorem own_pts {w : World} {base : Nat} {e : TypeId} {a : Option Addr} {c : Nat} {ps : List Pt} (h : w.ownsRow base e 2 (.slice a ps.length c) ps.length (cellsP ps)) : PtsAt w a c ps := by
  rcases Nat.eq_zero_or_pos ps.length with h0 | h0
  · exact .inl (List.eq_nil_of_length_eq_zero h0)
  · obtain ⟨n, hn⟩ : ∃ n, ps.length = n + 1 := ⟨ps.length - 1, by omega⟩
    have h' := h
    rw [hn] at h'
    obtain ⟨g, cap, hg⟩ := ownsRow_succ h'
    obtain ⟨rfl, rfl⟩ : a = some ⟨g, 0, none⟩ ∧ c = cap := by injection hg with h1 _ h3; exact ⟨h1, h3⟩
    have hcap := own_capM h
    refine .inr ⟨g, 0, rfl, hcap.2.2, hcap.1, fun j p hp => ?_⟩
    have hj := (List.getElem?_eq_some_iff.1 hp).1
    obtain ⟨_, ⟨q, hq, c1, c2⟩, _⟩ := ownsRow_put2 (j := j) p h hj
    rw [hp] at hq
    obtain rfl := Option.some.inj hq
    rw [Nat.zero_add]
    exact ⟨c1, c2⟩
theorem infoPtR : (Tryd.prog.info? 40).map (fun i => (i.zero, i.size, i.bytes)) = some (some (.agg #[.int .u64 0, .string ⟨#[]⟩]), 2, 24) := by kernel_rfl
theorem less_true {a b : ByteArray} (h : nmB a < nmB b) : Op.bytesLess a.toList b.toList = true := by rw [less_eq]; exact decide_eq_true h
theorem less_false {a b : ByteArray} (h : ¬ nmB a < nmB b) : Op.bytesLess a.toList b.toList = false := by rw [less_eq]; exact decide_eq_false h
theorem gmE_one {es : List Ent} (h : ∀ e ∈ es, 1 ≤ e.2) (k : Nat → UInt8) (p : Nat) : ptsL k p (max 1 (gmE es)).toNat es = ptsL k p (gmE es).toNat es := by
  match es with
  | [] => rfl
  | e :: l =>
    have h1 := h e (by simp)
    have h2 : e.2 ≤ gmE (e :: l) := gmE_ge (by simp)
    rw [show max 1 (gmE (e :: l)) = gmE (e :: l) by omega]
theorem dig_small {i : Nat} (h : i < 1000000) : (digB i).size ≤ 10 := by
  have h2 := decDigits_len 6 i (by omega)
  have h3 : (digB i).data.toList = Lib.decDigits i := rfl
  rw [Lib.size_eq, h3]; omega
/-- The number of a point, of the reference. -/
theorem sum_pt (k : Nat → UInt8) (kb : ByteArray) (hk1 : (16 : Int) ≤ kb.size) (e1 : kb.extract 0 8 = ⟨(keyPart k 0).toArray⟩) (e2 : kb.extract 8 16 = ⟨(keyPart k 8).toArray⟩) (N : ByteArray) (hN : N.size ≤ 1000000) (i : Nat) (hi : i < 1000000) (w : World) :
    Calls Tryd.prog 25 #[.string kb, .string (N ++ ⟨#[35]⟩ ++ digB i)] w fun e w' => e = .returned (.int .u64 (ptV k N i : Nat)) ∧ Below w.heap.size w w' := by
  have hd := dig_small hi
  have := sum13 k kb hk1 e1 e2 (N ++ ⟨#[35]⟩ ++ digB i) (by rw [ByteArray.size_append, ByteArray.size_append]; have : (⟨#[35]⟩ : ByteArray).size = 1 := rfl; omega) w
  rw [cat_data, cat_data, show (⟨#[35]⟩ : ByteArray) = sepB from rfl, (hashN_is k _).1] at this
  exact this
end Go.Proofs.YtklfpnnnoaaiaaaDoor

