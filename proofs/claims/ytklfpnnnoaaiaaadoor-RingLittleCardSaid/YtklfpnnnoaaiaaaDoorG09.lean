/- Packed: RgN, LawRgPicks, Rec, MgEO. -/
import Derived.WideKeyArr2
import Derived.Deep.SlicePairs
import Derived.Deep.MidRow
import Derived.WideKeyArgs
import Derived.DataReads
import Derived.Test.YtklfpnnnoaaiaaaDoorG00
import Derived.Test.YtklfpnnnoaaiaaaDoorG07
import Derived.Test.YtklfpnnnoaaiaaaDoorG08
/- ring: the way around without the points of one name; the ring without an entry. -/
namespace Go.Proofs.YtklfpnnnoaaiaaaDoor
open Go.RowKit

theorem arL_rot {ps : List Pt} {st : Nat} (h : st ≤ ps.length) : arL ps st = ps.drop st ++ ps.take st := by
  apply List.ext_getElem?
  intro i
  unfold arL
  by_cases hi : i < ps.length
  · rw [List.getElem?_map, List.getElem?_range hi, Option.map_some, List.getD_eq_getElem?_getD]
    have hm : (st + i) % ps.length < ps.length := Nat.mod_lt _ (by omega)
    rw [List.getElem?_eq_getElem hm, Option.getD_some, List.getElem?_append, List.length_drop]
    by_cases h1 : i < ps.length - st
    · have e : (st + i) % ps.length = st + i := Nat.mod_eq_of_lt (by omega)
      rw [if_pos h1, List.getElem?_drop, List.getElem?_eq_getElem (by omega)]
      simp only [e]
    · have e : (st + i) % ps.length = i - (ps.length - st) := by
        rw [show st + i = (i - (ps.length - st)) + ps.length by omega, Nat.add_mod_right, Nat.mod_eq_of_lt (by omega)]
      rw [if_neg h1, List.getElem?_take, if_pos (by omega), List.getElem?_eq_getElem (by omega)]
      simp only [e]
  · rw [List.getElem?_eq_none (by simp; omega), List.getElem?_eq_none (by simp; omega)]
theorem LowAt.drop {ps : List Pt} {x st : Nat} (h : LowAt ps x st) : ps.drop st = ps.filter (fun p => decide (x ≤ p.1)) ∧ ps.take st = ps.filter (fun p => decide (p.1 < x)) := by
  have h1 : (ps.take st).filter (fun p => decide (x ≤ p.1)) = [] := by
    rw [List.filter_eq_nil_iff]
    intro p hp
    obtain ⟨i, hi, rfl⟩ := List.getElem_of_mem hp
    have hl : i < st ∧ i < ps.length := by simp at hi; omega
    rw [List.getElem_take]
    have := h.lo i _ (List.getElem?_eq_getElem hl.2) hl.1
    simp; omega
  have h2 : (ps.drop st).filter (fun p => decide (x ≤ p.1)) = ps.drop st := by
    rw [List.filter_eq_self]
    intro p hp
    obtain ⟨i, hi, rfl⟩ := List.getElem_of_mem hp
    have hl : st + i < ps.length := by simp at hi; omega
    rw [List.getElem_drop]
    have := h.hi (st + i) _ (List.getElem?_eq_getElem hl) (by omega)
    simp; omega
  have h3 : (ps.take st).filter (fun p => decide (p.1 < x)) = ps.take st := by
    rw [List.filter_eq_self]
    intro p hp
    obtain ⟨i, hi, rfl⟩ := List.getElem_of_mem hp
    have hl : i < st ∧ i < ps.length := by simp at hi; omega
    rw [List.getElem_take]
    have := h.lo i _ (List.getElem?_eq_getElem hl.2) hl.1
    simp; omega
  have h4 : (ps.drop st).filter (fun p => decide (p.1 < x)) = [] := by
    rw [List.filter_eq_nil_iff]
    intro p hp
    obtain ⟨i, hi, rfl⟩ := List.getElem_of_mem hp
    have hl : st + i < ps.length := by simp at hi; omega
    rw [List.getElem_drop]
    have := h.hi (st + i) _ (List.getElem?_eq_getElem hl) (by omega)
    simp; omega
  constructor
  · conv => rhs; rw [← List.take_append_drop st ps]
    rw [List.filter_append, h1, h2, List.nil_append]
  · conv => rhs; rw [← List.take_append_drop st ps]
    rw [List.filter_append, h3, h4, List.append_nil]
/-- Without a name the way around is the same way without its points. -/
theorem arL_less {ps qs : List Pt} {x st sq : Nat} {N : ByteArray} (h : LowAt ps x st) (hq : LowAt qs x sq) (e : qs = ps.filter (fun p => decide (p.2 ≠ N))) :
    arL qs sq = (arL ps st).filter (fun p => decide (p.2 ≠ N)) := by
  rw [arL_rot h.le, arL_rot hq.le, hq.drop.1, hq.drop.2, h.drop.1, h.drop.2, List.filter_append, e]
  simp only [List.filter_filter, Bool.and_comm]
theorem nmL_filter (N : ByteArray) (L : List Pt) : (nmL L).filter (fun n => decide (n ≠ N)) = nmL (L.filter (fun p => decide (p.2 ≠ N))) := by
  rw [← List.reverse_reverse L]
  generalize L.reverse = c
  induction c with
  | nil => rfl
  | cons q c ih =>
    rw [List.reverse_cons, nmL_snoc, List.filter_append]
    by_cases hq : q.2 = N
    · have e : List.filter (fun p : Pt => decide (p.2 ≠ N)) [q] = [] := by simp [hq]
      rw [e, List.append_nil, ← ih]
      split
      · rfl
      · rw [List.filter_append]; simp [hq]
    · have e : List.filter (fun p : Pt => decide (p.2 ≠ N)) [q] = [q] := by simp [hq]
      rw [e, nmL_snoc, ← ih]
      have hi : inS ((nmL c.reverse).filter (fun n => decide (n ≠ N))) q.2 = inS (nmL c.reverse) q.2 := by
        rw [Bool.eq_iff_iff, inS_mem, inS_mem, List.mem_filter]
        simp [hq]
      rw [hi]
      split
      · rfl
      · rw [List.filter_append]; simp [hq]
theorem nmL_head (L : List Pt) : (nmL L).head? = L.head?.map (·.2) := by
  rw [← List.reverse_reverse L]
  generalize L.reverse = c
  induction c with
  | nil => rfl
  | cons q c ih =>
    rw [List.reverse_cons, nmL_snoc]
    cases hc : c.reverse with
    | nil => simp [nmL, inS]
    | cons y r =>
      rw [hc] at ih
      have hn : ∃ n l, nmL (y :: r) = n :: l := by
        cases h : nmL (y :: r) with
        | nil => rw [h] at ih; cases ih
        | cons n l => exact ⟨n, l, rfl⟩
      obtain ⟨n, l, hn⟩ := hn
      rw [hn] at ih ⊢
      split
      · exact ih
      · exact ih
/-- The one who answers without an entry: the first of the walk, or the next one. -/
theorem pick_less {ps qs : List Pt} {x st sq : Nat} {N : ByteArray} (h : LowAt ps x st) (hq : LowAt qs x sq) (e : qs = ps.filter (fun p => decide (p.2 ≠ N))) {w : List ByteArray} (hw : nmL (arL ps st) = w) (hn : w.Nodup) (h2 : 2 ≤ w.length) :
    (w[0]'(by omega) = N → pickP qs sq = w[1]) ∧ (w[0]'(by omega) ≠ N → pickP qs sq = w[0]'(by omega)) := by
  have hp : pickP qs sq = (w.filter (fun n => decide (n ≠ N))).head?.getD ⟨#[]⟩ := by
    unfold pickP
    rw [arL_less h hq e, ← nmL_head, ← nmL_filter, hw]
  match w, h2 with
  | a :: b :: r, _ =>
    constructor
    · intro ha
      have ha : a = N := ha
      have hb : b ≠ N := by
        rintro rfl
        rw [List.nodup_cons] at hn
        exact hn.1 (by rw [ha]; simp)
      rw [hp]
      simp [ha, hb]
    · intro ha
      have ha : a ≠ N := ha
      rw [hp]
      simp [ha]

theorem ptsE_name {k : Nat → UInt8} {p G : Nat} {e : Ent} {q : Pt} (h : q ∈ ptsE k p G e) : q.2 = e.1 := by
  unfold ptsE at h
  obtain ⟨i, _, rfl⟩ := List.mem_map.1 h
  rfl
theorem ptsL_none {k : Nat → UInt8} {p G : Nat} {N : ByteArray} : ∀ {es : List Ent}, (∀ e ∈ es, e.1 ≠ N) → (ptsL k p G es).filter (fun q => decide (q.2 ≠ N)) = ptsL k p G es := by
  intro es h
  rw [List.filter_eq_self]
  intro q hq
  unfold ptsL at hq
  obtain ⟨e, he, h2⟩ := List.mem_flatMap.1 hq
  rw [ptsE_name h2]
  exact decide_eq_true (h e he)
theorem ptsE_none {k : Nat → UInt8} {p G : Nat} {e : Ent} : (ptsE k p G e).filter (fun q => decide (q.2 ≠ e.1)) = [] := by
  rw [List.filter_eq_nil_iff]
  intro q hq
  rw [ptsE_name hq]
  simp
/-- The points of all entries but one. -/
theorem ptsL_less {k : Nat → UInt8} {p G : Nat} {a b : List Ent} {e : Ent} (ha : Apart (a ++ e :: b)) : ptsL k p G (a ++ b) = (ptsL k p G (a ++ e :: b)).filter (fun q => decide (q.2 ≠ e.1)) := by
  unfold Apart at ha
  rw [List.pairwise_append, List.pairwise_cons] at ha
  have h1 : ∀ x ∈ a, x.1 ≠ e.1 := fun x hx => ha.2.2 x hx e (by simp)
  have h2 : ∀ x ∈ b, x.1 ≠ e.1 := fun x hx => Ne.symm (ha.2.1.1 x hx)
  have e1 : ptsL k p G (a ++ e :: b) = ptsL k p G a ++ (ptsE k p G e ++ ptsL k p G b) := by unfold ptsL; rw [List.flatMap_append, List.flatMap_cons]
  have e2 : ptsL k p G (a ++ b) = ptsL k p G a ++ ptsL k p G b := by unfold ptsL; rw [List.flatMap_append]
  rw [e1, e2, List.filter_append, List.filter_append, ptsL_none h1, ptsL_none h2, ptsE_none, List.nil_append]
theorem srtP_less {k : Nat → UInt8} {p G : Nat} {a b : List Ent} {e : Ent} (ha : Apart (a ++ e :: b)) : srtP (ptsL k p G (a ++ b)) = (srtP (ptsL k p G (a ++ e :: b))).filter (fun q => decide (q.2 ≠ e.1)) := by
  refine sortedP_uniq ((srtP_perm _).trans ?_) (srtP_sorted _) ((srtP_sorted _).filter _)
  rw [ptsL_less ha]
  exact (srtP_perm _).symm.filter _
end Go.Proofs.YtklfpnnnoaaiaaaDoor

/- stewardlaw19.RingPicks (written by genlawrp.py). -/
namespace Go.Proofs.YtklfpnnnoaaiaaaDoor
open Go.RowKit

theorem lowAt_ex {ps : List Pt} (hr : Rise ps) (x : Nat) : ∃ st, LowAt ps x st := by
  refine ⟨ps.findIdx (fun p => decide (x ≤ p.1)), List.findIdx_le_length, fun i p hp hi => ?_, fun i p hp hi => ?_⟩
  · have hl := (List.getElem?_eq_some_iff.1 hp).1
    have := List.not_of_lt_findIdx hi
    rw [(List.getElem?_eq_some_iff.1 hp).2] at this
    simp at this
    exact this
  · have hl := (List.getElem?_eq_some_iff.1 hp).1
    have hj : ps.findIdx (fun p => decide (x ≤ p.1)) < ps.length := by omega
    have h2 := List.findIdx_getElem (w := hj)
    have h3 := of_decide_eq_true h2
    exact Nat.le_trans h3 (hr _ _ _ _ (List.getElem?_eq_getElem hj) hp hi)
theorem pickP_nil (st : Nat) : pickP [] st = ⟨#[]⟩ := rfl
theorem pickP_at {ps : List Pt} {st r : Nat} (h : r = st % ps.length) (hl : r < ps.length) : pickP ps st = ps[r].2 := by
  unfold pickP
  have hp : 0 < ps.length := by omega
  have : (arL ps st).head? = some ps[r] := by
    rw [List.head?_eq_getElem?]
    unfold arL
    rw [List.getElem?_map, List.getElem?_range hp, Option.map_some, List.getD_eq_getElem?_getD, Nat.add_zero, ← h, List.getElem?_eq_getElem hl, Option.getD_some]
  rw [this]; rfl
/-- What Walk gives is the whole way's names. -/
theorem walk_whole {ps : List Pt} {st nn : Nat} {l : List ByteArray} (hc : (nmL (arL ps st)).length = nn) (h : l = nmL (arL ps st) ∨ ∃ k, k ≤ ps.length ∧ l = nmL ((arL ps st).take k) ∧ l.length = nn) : l = nmL (arL ps st) := by
  rcases h with h | ⟨k, _, rfl, h2⟩
  · exact h
  · exact nmL_short h2 hc
section
variable (rb nn : Nat) (ps : List Pt) (hl : ps.length ≤ 100000) (hr : Rise ps) (x st : Nat) (h0 : LowAt ps x st) (w : World)
include hl hr h0
theorem pickW (hRg : RingAt w rb ps nn) :
    Calls Tryd.prog 13 #[.pointer (some ⟨rb, 0, none⟩), .int .u64 (x : Nat)] w fun e w' => e = .returned (.string (pickP ps st)) ∧ Below w.heap.size w w' := by
  refine (pick34 rb nn ps hl hr x w hRg).mono ?_
  rintro e w' ⟨st', h1, h2, h3⟩
  obtain rfl := h1.uniq h0
  exact ⟨h2, h3⟩
theorem walkW (hz : ∀ p ∈ ps, p.2.size ≤ 1000) (hc : (nmL (arL ps st)).length = nn) (hRg : RingAt w rb ps nn) :
    Calls Tryd.prog 15 #[.pointer (some ⟨rb, 0, none⟩), .int .u64 (x : Nat)] w fun e w' => ∃ a c, e = .returned (.slice a (nmL (arL ps st)).length c) ∧ IsStrs w' a c (nmL (arL ps st)) ∧ Below w.heap.size w w' := by
  refine (walk35 rb nn ps hl hz hr x w hRg).mono ?_
  rintro e w' ⟨st', l, a, c, h1, h2, h3, h4, h5⟩
  obtain rfl := h1.uniq h0
  obtain rfl := walk_whole hc h2
  exact ⟨a, c, h3, h4, h5⟩
theorem refWalkW (a : Option Addr) (c : Nat) (hp : PtsAt w a c ps) :
    Calls Tryd.prog 16 #[.slice a ps.length c, .int .u64 (x : Nat)] w fun e w' => ∃ a' c', e = .returned (.slice a' (nmL (arL ps st)).length c') ∧ IsStrs w' a' c' (nmL (arL ps st)) ∧ Below w.heap.size w w' := by
  refine (refWalk36 ps hr hl x a c w hp).mono ?_
  rintro e w' ⟨st', a', c', h1, h2, h3, h4⟩
  obtain rfl := h1.uniq h0
  rw [← nmL_all] at h2 h3
  exact ⟨a', c', h2, h3, h4⟩
theorem fromW (a : Option Addr) (c : Nat) (hp : PtsAt w a c ps) :
    Calls Tryd.prog 12 #[.slice a ps.length c, .int .u64 (x : Nat)] w fun e w' => e = .returned (.int .i64 ((st % ps.length : Nat) : Int)) ∧ Below w.heap.size w w' := by
  refine (from33 ps hr hl x a c w hp).mono ?_
  rintro e w' ⟨st', r, h1, rfl, h3, h4⟩
  obtain rfl := h1.uniq h0
  exact ⟨h3, h4⟩
end
set_option maxRecDepth 100000 in
set_option maxHeartbeats 8000000 in
theorem lawRingPicks (s : ByteArray) (a : Option Addr) (c : Nat) (es : List Ent) (hfl : es.length ≤ 9223372036854775807) (x : Int) (hx0 : 0 ≤ x) (hx1 : x < 18446744073709551616) (w : World) (hI : Ini w) (hP : Pow w) (hf : IsEnts w a c es) :
    Calls Tryd.prog 3 #[.string s, .slice a es.length c, .int .u64 x] w fun e w' => e = .returned (.bool true) ∧ Below w.heap.size w w' := by
  obtain ⟨num, rfl⟩ : ∃ n : Nat, x = (n : Int) := ⟨x.toNat, by omega⟩
  have HAW := Lib.hid (awake26 w hI hP)
  have HI : Hid (IniP w) := ⟨hI, hP⟩
  have HF := Lib.hid hf
  have HL := Lib.hid hfl
  have hkf := fun W => key17 s W
  generalize (fun i => s.data.toList.getD i 0) = kf at hkf
  have HK : Hid (∀ W, Calls Tryd.prog 7 #[.string s] W fun e w' => e = .returned (.agg #[.int .u8 (kf 0).toNat, .int .u8 (kf 1).toNat, .int .u8 (kf 2).toNat, .int .u8 (kf 3).toNat, .int .u8 (kf 4).toNat, .int .u8 (kf 5).toNat, .int .u8 (kf 6).toNat, .int .u8 (kf 7).toNat, .int .u8 (kf 8).toNat, .int .u8 (kf 9).toNat, .int .u8 (kf 10).toNat, .int .u8 (kf 11).toNat, .int .u8 (kf 12).toNat, .int .u8 (kf 13).toNat, .int .u8 (kf 14).toNat, .int .u8 (kf 15).toNat]) ∧ Below W.heap.size W w') := hkf
  clear hI hP hf hfl hkf hx0 hx1
  go_enter Tryd.func3, Tryd.ntmps3
  go_upto_region 4 with (first
    | (go_at_call 5; refine HAW.out.mono ?_; rintro e w1 ⟨rfl, hB1⟩; have HB1 := Lib.hid hB1; clear hB1)
    | (go_at_call 6; refine (few7 a c es 5 (by decide) HL.out w1 (HF.out.below HB1.out)).mono ?_; rintro e w2 ⟨u, rfl, ho2, hB2⟩; obtain ⟨au, cu, rfl⟩ := own_slice ho2; have HE2 := Lib.hid (isEnts_own ho2).2.1; have HB2 := Lib.hid (HB1.out.trans (hB2.mono HB1.out.size)); clear ho2 hB2))
  have hkl : (fewE es 5).length ≤ 6 := by unfold fewE; simp; omega
  have HZ : Hid (∀ e ∈ fewE es 5, e.1.size ≤ 1000) := by
    intro e he
    obtain ⟨g, _, rfl⟩ := List.mem_map.1 he
    exact Nat.le_trans (cutE_size g) (by decide)
  generalize fewE es 5 = ys at *
  have HI2 := Lib.hid (HI.out.below HB2.out)
  clear HAW HF HL HB1 HI
  go_upto_region 5 with (go_at_call 7; refine (HK.out _).mono ?_; rintro e w3 ⟨rfl, hB3⟩; have HB3 := Lib.hid hB3; clear hB3)
  have HE3 := Lib.hid ((HE2.out.below HB3.out).below (below_alloc w3 (.cells #[.int .u8 (kf 0).toNat, .int .u8 (kf 1).toNat, .int .u8 (kf 2).toNat, .int .u8 (kf 3).toNat, .int .u8 (kf 4).toNat, .int .u8 (kf 5).toNat, .int .u8 (kf 6).toNat, .int .u8 (kf 7).toNat, .int .u8 (kf 8).toNat, .int .u8 (kf 9).toNat, .int .u8 (kf 10).toNat, .int .u8 (kf 11).toNat, .int .u8 (kf 12).toNat, .int .u8 (kf 13).toNat, .int .u8 (kf 14).toNat, .int .u8 (kf 15).toNat] 27)))
  have HI3 := Lib.hid ((HI2.out.below HB3.out).below (below_alloc w3 (.cells #[.int .u8 (kf 0).toNat, .int .u8 (kf 1).toNat, .int .u8 (kf 2).toNat, .int .u8 (kf 3).toNat, .int .u8 (kf 4).toNat, .int .u8 (kf 5).toNat, .int .u8 (kf 6).toNat, .int .u8 (kf 7).toNat, .int .u8 (kf 8).toNat, .int .u8 (kf 9).toNat, .int .u8 (kf 10).toNat, .int .u8 (kf 11).toNat, .int .u8 (kf 12).toNat, .int .u8 (kf 13).toNat, .int .u8 (kf 14).toNat, .int .u8 (kf 15).toNat] 27)))
  have HKR : Hid (KeyRow (w3.alloc (.cells #[.int .u8 (kf 0).toNat, .int .u8 (kf 1).toNat, .int .u8 (kf 2).toNat, .int .u8 (kf 3).toNat, .int .u8 (kf 4).toNat, .int .u8 (kf 5).toNat, .int .u8 (kf 6).toNat, .int .u8 (kf 7).toNat, .int .u8 (kf 8).toNat, .int .u8 (kf 9).toNat, .int .u8 (kf 10).toNat, .int .u8 (kf 11).toNat, .int .u8 (kf 12).toNat, .int .u8 (kf 13).toNat, .int .u8 (kf 14).toNat, .int .u8 (kf 15).toNat] 27)) w3.heap.size kf) := Row.new w3 _ _
  have HBK := Lib.hid (HB2.out.trans ((HB3.out.alloc HB3.out.size (.cells #[.int .u8 (kf 0).toNat, .int .u8 (kf 1).toNat, .int .u8 (kf 2).toNat, .int .u8 (kf 3).toNat, .int .u8 (kf 4).toNat, .int .u8 (kf 5).toNat, .int .u8 (kf 6).toNat, .int .u8 (kf 7).toNat, .int .u8 (kf 8).toNat, .int .u8 (kf 9).toNat, .int .u8 (kf 10).toNat, .int .u8 (kf 11).toNat, .int .u8 (kf 12).toNat, .int .u8 (kf 13).toNat, .int .u8 (kf 14).toNat, .int .u8 (kf 15).toNat] 27)).mono HB2.out.size))
  have HKS : Hid (w3.heap.size < (w3.alloc (.cells #[.int .u8 (kf 0).toNat, .int .u8 (kf 1).toNat, .int .u8 (kf 2).toNat, .int .u8 (kf 3).toNat, .int .u8 (kf 4).toNat, .int .u8 (kf 5).toNat, .int .u8 (kf 6).toNat, .int .u8 (kf 7).toNat, .int .u8 (kf 8).toNat, .int .u8 (kf 9).toNat, .int .u8 (kf 10).toNat, .int .u8 (kf 11).toNat, .int .u8 (kf 12).toNat, .int .u8 (kf 13).toNat, .int .u8 (kf 14).toNat, .int .u8 (kf 15).toNat] 27)).heap.size) := by show _ < _; simp
  clear HB3 HE2 HI2 HK
  generalize w3.alloc (.cells #[.int .u8 (kf 0).toNat, .int .u8 (kf 1).toNat, .int .u8 (kf 2).toNat, .int .u8 (kf 3).toNat, .int .u8 (kf 4).toNat, .int .u8 (kf 5).toNat, .int .u8 (kf 6).toNat, .int .u8 (kf 7).toNat, .int .u8 (kf 8).toNat, .int .u8 (kf 9).toNat, .int .u8 (kf 10).toNat, .int .u8 (kf 11).toNat, .int .u8 (kf 12).toNat, .int .u8 (kf 13).toNat, .int .u8 (kf 14).toNat, .int .u8 (kf 15).toNat] 27) = WK at *
  generalize w3.heap.size = kb at *
  have hck := fun W h => check29 au cu ys (by omega) W h
  by_cases hc : validB ys = true
  case neg =>
    have hc : validB ys = false := by simpa using hc
    rw [hc] at hck
    have HCK : Hid (∀ W, IsEnts W au cu ys → Calls Tryd.prog 10 #[.slice au ys.length cu] W fun e w' => e = .returned (.int .i64 1) ∧ Below W.heap.size W w') := hck
    have HBLD : Hid (∀ a5 c5 w9, IniP w9 → IsEnts w9 a5 c5 ys → Calls Tryd.prog 8 #[keyVal kf, .slice a5 ys.length c5, .int .i64 10] w9 fun e w' => ∃ p, e = .returned (.tuple #[p, .int .i64 1]) ∧ NilR p w' ∧ Below w9.heap.size w9 w') := fun a5 c5 w9 _ hx => (ringBuild27_bad kf ys hkl HZ.out hc 10 a5 c5 w9 hx).mono fun _ _ ⟨h1, h2⟩ => ⟨_, h1, rfl, h2⟩
    clear hck hc
    go_wp2_with fail
    refine region_mixt 8 [some (.agg #[.int .u8 (kf 0).toNat, .int .u8 (kf 1).toNat, .int .u8 (kf 2).toNat, .int .u8 (kf 3).toNat, .int .u8 (kf 4).toNat, .int .u8 (kf 5).toNat, .int .u8 (kf 6).toNat, .int .u8 (kf 7).toNat, .int .u8 (kf 8).toNat, .int .u8 (kf 9).toNat, .int .u8 (kf 10).toNat, .int .u8 (kf 11).toNat, .int .u8 (kf 12).toNat, .int .u8 (kf 13).toNat, .int .u8 (kf 14).toNat, .int .u8 (kf 15).toNat]), some (.slice au ys.length cu), none, none, none, none, some (.int .i64 1), none]
      [[false, false, false, false, false, false, false, false], [false, false, false, false, false, false, false, false], [false, true, false, false, false, false, false, false], [true, false, true, false, false, false, false, false], [false, false, false, true, false, false, false, false], [false, false, false, false, true, false, false, false], [false, false, false, false, true, false, false, false], [true, true, true, true, true, true, false, false]]
      (fun LL xx w9 => KoS WK ys 3 1 NilR LL xx w9)
      (by kernel_rfl) (by kernel_rfl) (by kernel_rfl) (by kernel_rfl) (by kernel_rfl) (by decide) ?_ ?_ ?_
    · intro x
      exact KoS.start _ _ _ _ _ _
    · simp only [List.take_succ_cons, List.take_zero]
      refine ⟨?_, ?_, ?_, ?_, ?_, ?_, ?_, ?_, trivial⟩
      all_goals
        intro L x w9 hS hl hp K9 hK9
        have hs : KoS WK ys 3 1 NilR L x w9 := hS
        clear hS
        replace hK9 := hK9.out
        simp only [actMix, pickV, List.tail_cons, List.headD_cons, Act.put, List.setIfInBounds_toArray, List.set_cons_zero, List.set_cons_succ] at hK9 ⊢
      · clear hp
        have hkr := HKR.out.below hs.bel
        rw [if_pos (by rfl)]
        refine wp_load_mid 27 _ rfl kb 0 rfl [.int .u8 (kf 0).toNat, .int .u8 (kf 1).toNat, .int .u8 (kf 2).toNat, .int .u8 (kf 3).toNat, .int .u8 (kf 4).toNat, .int .u8 (kf 5).toNat, .int .u8 (kf 6).toNat, .int .u8 (kf 7).toNat, .int .u8 (kf 8).toNat, .int .u8 (kf 9).toNat, .int .u8 (kf 10).toNat, .int .u8 (kf 11).toNat, .int .u8 (kf 12).toNat, .int .u8 (kf 13).toNat, .int .u8 (kf 14).toNat, .int .u8 (kf 15).toNat] _ (key_range hkr.isKey) Tryd.underlying27 rfl (by kernel_rfl) ?_
        simp only [Act.put, List.setIfInBounds_toArray, List.set_cons_zero, List.set_cons_succ]
        with_reducible refine hK9 _ ?_
        exact hs.next 0 _ (by decide) (by decide) (by decide) (by decide) (by decide)
      · clear hp
        go_simp
        with_reducible refine hK9 _ ?_
        exact hs.next 1 _ (by decide) (by decide) (by decide) (by decide) (by decide)
      · clear hp
        go_simp
        refine (own28 au cu ys (by omega) w9 (HE3.out.below hs.bel)).mono ?_
        rintro e w5 ⟨a5, c5, rfl, hE5, hB5⟩
        go_simp
        with_reducible refine hK9 _ _ ?_
        exact hs.put NilR.below (by decide) hE5 hB5
      · obtain ⟨a5, c5, hx5, hE5⟩ := hs.own (allL_mem hp 2 (by decide +kernel))
        clear hp
        rw [hx5] at hK9 ⊢
        go_simp
        refine (HBLD.out a5 c5 w9 (HI3.out.below hs.bel) hE5).mono ?_
        rintro e w5 ⟨p5, rfl, hR5, hB5⟩
        go_simp
        with_reducible refine hK9 _ _ ?_
        exact hs.built NilR.below (by decide) hR5 hB5
      · obtain ⟨p5, hx5, hR5⟩ := hs.tup (allL_mem hp 3 (by decide +kernel))
        clear hp
        rw [hx5] at hK9 ⊢
        go_simp
        with_reducible refine hK9 _ _ ?_
        exact hs.moved (by decide) hR5
      · obtain ⟨p5, hx5, hR5⟩ := hs.mv (allL_mem hp 4 (by decide +kernel))
        clear hp
        rw [hx5] at hK9 ⊢
        go_simp
        with_reducible refine hK9 _ _ ?_
        exact hs.first (by decide) hR5
      · obtain ⟨p5, hx5, hR5⟩ := hs.mv (allL_mem hp 4 (by decide +kernel))
        clear hp
        rw [hx5] at hK9 ⊢
        go_simp
        with_reducible refine hK9 _ ?_
        exact hs.next 6 _ (by decide) (by decide) (by decide) (by decide) (by decide)
      · have hR5 := hs.ex (allL_mem hp 5 (by decide +kernel))
        clear hp
        go_simp
        with_reducible refine hK9 _ _ ?_
        exact hs.assign (by decide) hR5
    intro L x w9 hS hL
    have hs : KoS WK ys 3 1 NilR L x w9 := hS
    have hR9 := hs.asg (hL 7 (by decide))
    simp only [actMix, pickV, List.tail_cons, List.headD_cons, Act.put, List.setIfInBounds_toArray, List.set_cons_zero, List.set_cons_succ, List.replicate_succ, List.replicate_zero, List.drop_succ_cons, List.drop_zero, List.take_succ_cons, List.take_zero]
    generalize x 3 = xa
    generalize x 4 = xb
    generalize x 5 = xc
    generalize x 7 = xd at *
    have HI9 := Lib.hid (HI3.out.below hs.bel)
    have HKR9 := Lib.hid (HKR.out.below hs.bel)
    have HE9 := Lib.hid (HE3.out.below hs.bel)
    have HB9 := Lib.hid (HBK.out.trans (hs.bel.mono (Nat.le_trans HBK.out.size (Nat.le_refl _))))
    clear hS hs hL HKR HE3 HI3 HBK HBLD
    obtain rfl : xd = .pointer none := hR9
    go_wp2_with (go_at_call 10; refine (HCK.out _ HE9.out).mono ?_; rintro e w7 ⟨rfl, hB7⟩)
    go_ret
    exact ⟨rfl, HB9.out.trans (hB7.mono HB9.out.size)⟩
  rw [hc] at hck
  have HVB := Lib.hid hc
  have HCK : Hid (∀ W, IsEnts W au cu ys → Calls Tryd.prog 10 #[.slice au ys.length cu] W fun e w' => e = .returned (.int .i64 0) ∧ Below W.heap.size W w') := hck
  have hp1 : max 1 (min (10 : Int) 256) = ((10 : Nat) : Int) := by decide
  have HPP : Hid (max 1 (min (10 : Int) 256) = ((10 : Nat) : Int)) := hp1
  have hp2 : min (max (10 : Int) 1) 256 = ((10 : Nat) : Int) := by decide
  have HPE : Hid (srtP (ptsL kf 10 (gmE ys).toNat ys) = srtP (ptsL kf 10 (gmE ys).toNat ys)) := rfl
  have HRB := Lib.hid (fun w7 (hE : IsEnts w7 au cu ys) => refBuild30 kf (keyStr kf) (keyStr_size kf) (keyStr_a kf) (keyStr_b kf) ys hkl HZ.out HVB.out 10 10 HPP.out au cu w7 hE)
  have hbl := fun (a5 : Option Addr) (c5 : Nat) (w9 : World) (hi : IniP w9) (hx : IsEnts w9 a5 c5 ys) => ringBuild27 kf ys hkl HZ.out HVB.out 10 10 hp2 a5 c5 w9 hi.1 hi.2 hx
  have HPL : Hid ((srtP (ptsL kf 10 (gmE ys).toNat ys)).length ≤ 2000) := by
    show _ ≤ _
    rw [(srtP_perm _).length_eq]
    have hok : ∀ e ∈ ys, 1 ≤ e.2 ∧ e.2 ≤ 65535 := fun e he => by
      have := (valid_parts hc).1 e he
      unfold okW at this; simpa using this
    have h1 := ptsL_le (k := kf) (p := 10) (G := (gmE ys).toNat) (es := ys) (fun e he => by
      have h2 := hok e he
      have h3 := gmE_ge he
      have := cnt_le (p := 10) (W := e.2.toNat) (G := (gmE ys).toNat) (by omega) (by omega)
      omega)
    omega
  have hri := srtP_rise (ptsL kf 10 (gmE ys).toNat ys)
  have hnm : ∀ p ∈ srtP (ptsL kf 10 (gmE ys).toNat ys), p.2.size ≤ 1000 := fun p hp => by
    obtain ⟨e, he, h2⟩ := ptsL_name ((srtP_perm _).mem_iff.1 hp)
    rw [h2]; exact HZ.out e he
  have hct := fun st => nmL_count (k := kf) (p := 10) (G := (gmE ys).toNat) (valid_parts hc).2 st
  generalize srtP (ptsL kf 10 (gmE ys).toNat ys) = P at *
  obtain ⟨st, hst⟩ := lowAt_ex hri num
  have hplen : P.length ≤ 100000 := by have := HPL.out; omega
  have HPK := Lib.hid (fun tb W hT => pickW tb ys.length P hplen hri num st hst W hT)
  have HWK := Lib.hid (fun tb W hT => walkW tb ys.length P hplen hri num st hst W hnm (hct st) hT)
  have HRW := Lib.hid (fun a c W hT => refWalkW P hplen hri num st hst W a c hT)
  have HFR := Lib.hid (fun a c W hT => fromW P hplen hri num st hst W a c hT)
  have HN0 : Hid (P.length = 0 → pickP P st = ⟨#[]⟩) := fun h => by obtain rfl := List.eq_nil_of_length_eq_zero h; rfl
  have HN1 : Hid (∀ h : st % P.length < P.length, P[st % P.length].2 = pickP P st) := fun h => (pickP_at rfl h).symm
  have HWL : Hid ((nmL (arL P st)).length ≤ 1000) := by show _ ≤ _; rw [hct st]; omega
  generalize nmL (arL P st) = wl at *
  generalize pickP P st = N at *
  clear hri hnm hct hst hplen
  have HBLD : Hid (∀ a5 c5 w9, IniP w9 → IsEnts w9 a5 c5 ys → Calls Tryd.prog 8 #[keyVal kf, .slice a5 ys.length c5, .int .i64 10] w9 fun e w' => ∃ p, e = .returned (.tuple #[p, .int .i64 0]) ∧ RinR P ys.length p w' ∧ Below w9.heap.size w9 w') := fun a5 c5 w9 hi hx => (hbl a5 c5 w9 hi hx).mono fun _ _ ⟨rb, h1, h2, h3⟩ => ⟨_, h1, ⟨rb, rfl, h2⟩, h3⟩
  clear hck hc hbl hp1 hp2 HPP HPE
  case pos =>
    go_wp2_with fail
    refine region_mixt 8 [some (.agg #[.int .u8 (kf 0).toNat, .int .u8 (kf 1).toNat, .int .u8 (kf 2).toNat, .int .u8 (kf 3).toNat, .int .u8 (kf 4).toNat, .int .u8 (kf 5).toNat, .int .u8 (kf 6).toNat, .int .u8 (kf 7).toNat, .int .u8 (kf 8).toNat, .int .u8 (kf 9).toNat, .int .u8 (kf 10).toNat, .int .u8 (kf 11).toNat, .int .u8 (kf 12).toNat, .int .u8 (kf 13).toNat, .int .u8 (kf 14).toNat, .int .u8 (kf 15).toNat]), some (.slice au ys.length cu), none, none, none, none, some (.int .i64 0), none]
      [[false, false, false, false, false, false, false, false], [false, false, false, false, false, false, false, false], [false, true, false, false, false, false, false, false], [true, false, true, false, false, false, false, false], [false, false, false, true, false, false, false, false], [false, false, false, false, true, false, false, false], [false, false, false, false, true, false, false, false], [true, true, true, true, true, true, false, false]]
      (fun LL xx w9 => KoS WK ys 3 0 (RinR P ys.length) LL xx w9)
      (by kernel_rfl) (by kernel_rfl) (by kernel_rfl) (by kernel_rfl) (by kernel_rfl) (by decide) ?_ ?_ ?_
    · intro x
      exact KoS.start _ _ _ _ _ _
    · simp only [List.take_succ_cons, List.take_zero]
      refine ⟨?_, ?_, ?_, ?_, ?_, ?_, ?_, ?_, trivial⟩
      all_goals
        intro L x w9 hS hl hp K9 hK9
        have hs : KoS WK ys 3 0 (RinR P ys.length) L x w9 := hS
        clear hS
        replace hK9 := hK9.out
        simp only [actMix, pickV, List.tail_cons, List.headD_cons, Act.put, List.setIfInBounds_toArray, List.set_cons_zero, List.set_cons_succ] at hK9 ⊢
      · clear hp
        have hkr := HKR.out.below hs.bel
        rw [if_pos (by rfl)]
        refine wp_load_mid 27 _ rfl kb 0 rfl [.int .u8 (kf 0).toNat, .int .u8 (kf 1).toNat, .int .u8 (kf 2).toNat, .int .u8 (kf 3).toNat, .int .u8 (kf 4).toNat, .int .u8 (kf 5).toNat, .int .u8 (kf 6).toNat, .int .u8 (kf 7).toNat, .int .u8 (kf 8).toNat, .int .u8 (kf 9).toNat, .int .u8 (kf 10).toNat, .int .u8 (kf 11).toNat, .int .u8 (kf 12).toNat, .int .u8 (kf 13).toNat, .int .u8 (kf 14).toNat, .int .u8 (kf 15).toNat] _ (key_range hkr.isKey) Tryd.underlying27 rfl (by kernel_rfl) ?_
        simp only [Act.put, List.setIfInBounds_toArray, List.set_cons_zero, List.set_cons_succ]
        with_reducible refine hK9 _ ?_
        exact hs.next 0 _ (by decide) (by decide) (by decide) (by decide) (by decide)
      · clear hp
        go_simp
        with_reducible refine hK9 _ ?_
        exact hs.next 1 _ (by decide) (by decide) (by decide) (by decide) (by decide)
      · clear hp
        go_simp
        refine (own28 au cu ys (by omega) w9 (HE3.out.below hs.bel)).mono ?_
        rintro e w5 ⟨a5, c5, rfl, hE5, hB5⟩
        go_simp
        with_reducible refine hK9 _ _ ?_
        exact hs.put RinR.below (by decide) hE5 hB5
      · obtain ⟨a5, c5, hx5, hE5⟩ := hs.own (allL_mem hp 2 (by decide +kernel))
        clear hp
        rw [hx5] at hK9 ⊢
        go_simp
        refine (HBLD.out a5 c5 w9 (HI3.out.below hs.bel) hE5).mono ?_
        rintro e w5 ⟨p5, rfl, hR5, hB5⟩
        go_simp
        with_reducible refine hK9 _ _ ?_
        exact hs.built RinR.below (by decide) hR5 hB5
      · obtain ⟨p5, hx5, hR5⟩ := hs.tup (allL_mem hp 3 (by decide +kernel))
        clear hp
        rw [hx5] at hK9 ⊢
        go_simp
        with_reducible refine hK9 _ _ ?_
        exact hs.moved (by decide) hR5
      · obtain ⟨p5, hx5, hR5⟩ := hs.mv (allL_mem hp 4 (by decide +kernel))
        clear hp
        rw [hx5] at hK9 ⊢
        go_simp
        with_reducible refine hK9 _ _ ?_
        exact hs.first (by decide) hR5
      · obtain ⟨p5, hx5, hR5⟩ := hs.mv (allL_mem hp 4 (by decide +kernel))
        clear hp
        rw [hx5] at hK9 ⊢
        go_simp
        with_reducible refine hK9 _ ?_
        exact hs.next 6 _ (by decide) (by decide) (by decide) (by decide) (by decide)
      · have hR5 := hs.ex (allL_mem hp 5 (by decide +kernel))
        clear hp
        go_simp
        with_reducible refine hK9 _ _ ?_
        exact hs.assign (by decide) hR5
    intro L x w9 hS hL
    have hs : KoS WK ys 3 0 (RinR P ys.length) L x w9 := hS
    have hR9 := hs.asg (hL 7 (by decide))
    simp only [actMix, pickV, List.tail_cons, List.headD_cons, Act.put, List.setIfInBounds_toArray, List.set_cons_zero, List.set_cons_succ, List.replicate_succ, List.replicate_zero, List.drop_succ_cons, List.drop_zero, List.take_succ_cons, List.take_zero]
    generalize x 3 = xa
    generalize x 4 = xb
    generalize x 5 = xc
    generalize x 7 = xd at *
    have HI9 := Lib.hid (HI3.out.below hs.bel)
    have HKR9 := Lib.hid (HKR.out.below hs.bel)
    have HE9 := Lib.hid (HE3.out.below hs.bel)
    have HB9 := Lib.hid (HBK.out.trans (hs.bel.mono (Nat.le_trans HBK.out.size (Nat.le_refl _))))
    clear hS hs hL HKR HE3 HI3 HBK HBLD

    obtain ⟨tb, rfl, hTA⟩ := hR9
    have HTA := Lib.hid hTA
    clear hTA
    go_upto_region 10 with (go_at_call 10; refine (HCK.out _ HE9.out).mono ?_; rintro e w7 ⟨rfl, hB7⟩; have HTA7 := Lib.hid (HTA.out.below hB7); have HE7 := Lib.hid (HE9.out.below hB7); have HK7 := Lib.hid (HKR9.out.below hB7); have HB7 := Lib.hid (HB9.out.trans (hB7.mono HB9.out.size)); clear hB7)
    clear HCK HTA HE9 HKR9 HB9 HI9
    have hcv := key_all HK7.out.isKey
    have huk := Tryd.underlying27
    go_upto_region 11 with (go_at_call 11; refine (HRB.out _ HE7.out).mono ?_; rintro e w8 ⟨ap, cp, rfl, hS2, hB9⟩; have HS2 := Lib.hid hS2; have HTA9 := Lib.hid (HTA7.out.below hB9); have HB9 := Lib.hid (HB7.out.trans (hB9.mono HB7.out.size)); clear hS2 hB9)
    clear HRB HB7 HTA7 HE7 HK7 hcv huk HZ HVB
    have n2 : (N.toList == N.toList) = true := by simp
    have hpl := HPL.out
    by_cases hP0 : P.length = 0
    case' pos =>
      obtain rfl : N = ⟨#[]⟩ := HN0.out hP0
      obtain rfl := List.eq_nil_of_length_eq_zero hP0
      clear hpl HN0 HN1 HFR HPL hP0
      go_upto_region 14 with fail
    case' neg =>
      have z1 : (0 : Int) < (P.length : Int) := by omega
      have hrl : st % P.length < P.length := Nat.mod_lt _ (by omega)
      have HFW := Lib.hid (HFR.out ap cp w8 HS2.out)
      have HNE := Lib.hid (HN1.out hrl)
      go_upto_region 14 with (go_at_call 12; refine HFW.out.mono ?_; rintro e w9 ⟨rfl, hBf⟩; have r1 : ((st % P.length : Nat) : Int) < (P.length : Int) := (by omega); have HTAf := Lib.hid (HTA9.out.below hBf); have hSf := HS2.out.below hBf; have HSf := Lib.hid hSf; have HBf := Lib.hid (HB9.out.trans (hBf.mono HB9.out.size)); clear hBf; obtain h0 | ⟨bk, o, rfl, hbk, hcp, hcell⟩ := hSf; exact absurd (congrArg List.length h0) hP0; have c2 := (hcell _ _ (List.getElem?_eq_getElem hrl)).2; rw [HNE.out] at c2; clear hcell hbk hcp; generalize st % P.length = r at *)
    case pos =>
      go_wp2_with (first
        | (go_at_call 13; refine (HPK.out _ _ HTA9.out).mono ?_; rintro e wa ⟨rfl, hBa⟩; have Ta := Lib.hid (HTA9.out.below hBa); have Sa := Lib.hid (HS2.out.below hBa); have Ba := Lib.hid (HB9.out.trans (hBa.mono HB9.out.size)); clear hBa)
        | (go_at_call 15; refine (HWK.out _ _ Ta.out).mono ?_; rintro e wb ⟨a1, c1, rfl, hs1, hBb⟩; have X1 := Lib.hid hs1; have Sb := Lib.hid (Sa.out.below hBb); have Bb := Lib.hid (Ba.out.trans (hBb.mono Ba.out.size)); clear hs1 hBb)
        | (go_at_call 16; refine (HRW.out _ _ _ Sb.out).mono ?_; rintro e wc ⟨a2, c2, rfl, hs2, hBc⟩; have X2 := Lib.hid hs2; have X3 := Lib.hid (X1.out.below hBc); have Bc := Lib.hid (Bb.out.trans (hBc.mono Bb.out.size)); clear hs2 hBc)
        | (go_at_call 14; refine (sameM a1 c1 wl a2 c2 wl true (by simp) (by have := HWL.out; omega) (by have := HWL.out; omega) wc X3.out X2.out).mono ?_; rintro e wd ⟨rfl, hBd⟩; have Bd := Lib.hid (Bc.out.trans (hBd.mono Bc.out.size)); clear hBd))
      go_ret
      exact ⟨rfl, Bd.out⟩
    case neg =>
      go_wp2_with (first
        | (go_at_call 13; refine (HPK.out _ _ HTAf.out).mono ?_; rintro e wa ⟨rfl, hBa⟩; have Ta := Lib.hid (HTAf.out.below hBa); have Sa := Lib.hid (HSf.out.below hBa); have Ba := Lib.hid (HBf.out.trans (hBa.mono HBf.out.size)); clear hBa)
        | (go_at_call 15; refine (HWK.out _ _ Ta.out).mono ?_; rintro e wb ⟨a1, c1, rfl, hs1, hBb⟩; have X1 := Lib.hid hs1; have Sb := Lib.hid (Sa.out.below hBb); have Bb := Lib.hid (Ba.out.trans (hBb.mono Ba.out.size)); clear hs1 hBb)
        | (go_at_call 16; refine (HRW.out _ _ _ Sb.out).mono ?_; rintro e wc ⟨a2, c2, rfl, hs2, hBc⟩; have X2 := Lib.hid hs2; have X3 := Lib.hid (X1.out.below hBc); have Bc := Lib.hid (Bb.out.trans (hBc.mono Bb.out.size)); clear hs2 hBc)
        | (go_at_call 14; refine (sameM a1 c1 wl a2 c2 wl true (by simp) (by have := HWL.out; omega) (by have := HWL.out; omega) wc X3.out X2.out).mono ?_; rintro e wd ⟨rfl, hBd⟩; have Bd := Lib.hid (Bc.out.trans (hBd.mono Bc.out.size)); clear hBd))
      go_ret
      exact ⟨rfl, Bd.out⟩
end Go.Proofs.YtklfpnnnoaaiaaaDoor

/- Records of strings and numbers that are handed in by value. -/
namespace Go.Proofs.YtklfpnnnoaaiaaaDoor
open Go.ChangeShapes Go.WideShapes Go.ChangeAt Go.RowKit

/-- The fields of a record: their types and offsets. -/
def fieldsOf (d : TypeDesc) : List (TypeId × Nat) := match d with
  | .struct fs => fs.toList.map fun f => (f.type, f.offset)
  | _ => []
theorem fieldsOf_struct {o : Option TypeDesc} {l : List (TypeId × Nat)} (h : o.map fieldsOf = some l) (hl : l ≠ []) : ∃ fs : Array Field, o = some (.struct fs) ∧ fs.toList.map (fun f => (f.type, f.offset)) = l := by
  cases o with
  | none => cases h
  | some d =>
    cases d with
    | struct fs => exact ⟨fs, rfl, Option.some.inj h⟩
    | _ => exact absurd (Option.some.inj h).symm hl
section
variable {H : Type} {enc : TypeId × Value → H} {P : Program} {t : TypeId} {W : World} {base : Nat} {sp : Nat → Bool} {held : Bool}
theorem rec_open {l : List (TypeId × Nat)} (hu : (P.underlying t).map fieldsOf = some l) (hl : l ≠ []) {r : Reach} {b0 : Nat} {v : Value} {d : DataW H} {ps : List MemPlace}
    (hval : Value.okWide P W r b0 t v) (hd : DataW.Trod enc P W base sp held t v d ps) :
    ∃ (cs : Array Value) (xs : List (DataW H × List MemPlace)) (n : Nat), v = .agg cs ∧ cs.toList.length = P.cellsOf t ∧ d = .agg (xs.map (·.1)) ∧ ps = xs.flatMap (·.2) ∧ xs.length = l.length ∧
      ∀ (i : Nat) (u : TypeId) (o : Nat), l[i]? = some (u, o) → DataW.trod enc P W base sp held n u ((cs.toList.drop o).take (P.cellsOf u)) = xs[i]? := by
  obtain ⟨fs, hs, rfl⟩ := fieldsOf_struct hu hl
  obtain ⟨cs, rfl, hc⟩ := okWide_struct hs hval
  obtain ⟨fuel, hf⟩ := hd
  obtain ⟨xs, n, _, hx, h1, h2, h3⟩ := DataW.trod_struct hs hf
  simp only [Prod.mk.injEq] at hx
  refine ⟨cs, xs, n, rfl, h1, hx.1, hx.2, by simpa using h2, fun i u o hi => ?_⟩
  rw [List.getElem?_map] at hi
  obtain ⟨f, hf', he⟩ := Option.map_eq_some_iff.1 hi
  simp only [Prod.mk.injEq] at he
  obtain ⟨rfl, rfl⟩ := he
  exact h3 i f (by simpa using hf')
theorem rec_shut {l : List (TypeId × Nat)} (hu : (P.underlying t).map fieldsOf = some l) (hl : l ≠ []) (cs : List Value) (xs : List (DataW H × List MemPlace)) (n : Nat) (hc : cs.length = P.cellsOf t)
    (hm : l.mapM (fun q => DataW.trod enc P W base sp held n q.1 ((cs.drop q.2).take (P.cellsOf q.1))) = some xs) : DataW.Trod enc P W base sp held t (.agg cs.toArray) (.agg (xs.map (·.1))) (xs.flatMap (·.2)) := by
  obtain ⟨fs, hs, rfl⟩ := fieldsOf_struct hu hl
  refine ⟨n + 1, ?_⟩
  have := trod_struct_mk (enc := enc) (w := W) (base := base) (spare := sp) (held := held) (n := n) (cs := cs) (xs := xs) hs hc (by rw [List.mapM_map] at hm; exact hm)
  exact this
end
theorem one_cellR {cs : List Value} {i : Nat} {v : Value} (h : (cs.drop i).take 1 = [v]) : cs[i]? = some v := by
  have h1 : ((cs.drop i).take 1)[0]? = some v := by rw [h]; rfl
  rw [List.getElem?_take, if_pos (by decide), List.getElem?_drop] at h1
  exact h1
end Go.Proofs.YtklfpnnnoaaiaaaDoor

/- A slice of entries that is handed in. -/
namespace Go.Proofs.YtklfpnnnoaaiaaaDoor
open Go.ChangeShapes Go.WideShapes Go.ChangeAt Go.RowKit

/-- A string's bytes, an integer. -/
def strV (v : Value) : ByteArray := match v with
  | .string s => s
  | _ => ⟨#[]⟩
def intV (v : Value) : Int := match v with
  | .int _ n => n
  | _ => 0
theorem ents_open {H : Type} {enc : TypeId × Value → H} {P : Program} {t e u i : TypeId} {W : World} {base : Nat} {held : Bool} (ht : P.underlying t = some (.slice e)) (hu : (P.underlying e).map fieldsOf = some [(u, 0), (i, 1)]) (hs : P.underlying u = some .string) (hi : P.underlying i = some (.int .i64)) (hc : P.cellsOf u = 1) (hci : P.cellsOf i = 1) (ce : P.cellsOf e = 2)
    {r : Reach} {b0 : Nat} {v : Value} {d : DataW H} {ps : List MemPlace} (hval : Value.okWide P W r b0 t v) (hd : DataW.Trod enc P W base (fun _ => true) held t v d ps) :
    ∃ a c fs, v = .slice a fs.length c ∧ IsEnts W a c fs ∧ fs.length ≤ maxLen := by
  obtain ⟨a, l, c, rfl⟩ := okWide_slice ht hval
  obtain ⟨fuel, hf⟩ := hd
  obtain ⟨fa, hfa, hm⟩ := fieldsOf_struct hu (List.cons_ne_nil _ _)
  obtain ⟨fl, hfl⟩ : ∃ fl, fl = fa.toList := ⟨_, rfl⟩
  rw [← hfl] at hm
  have hl2 : fl.length = 2 := by have := congrArg List.length hm; simpa using this
  match fl, hl2 with
  | [f0, f1], _ =>
    simp only [List.map_cons, List.map_nil, List.cons.injEq, Prod.mk.injEq, and_true] at hm
    obtain ⟨⟨t0, o0⟩, t1, o1⟩ := hm
    have hfa2 : fa = #[f0, f1] := by rw [← Array.toArray_toList (xs := fa), ← hfl]
    rw [hfa2] at hfa
    rcases Go.Deep.open_slice_pairs ht hfa ce o0 o1 (by rw [t0]; exact hc) (by rw [t1]; exact hci) hf with ⟨hcs, _⟩ | ⟨a', l', c', m, n, V0, V1, D0, D1, P0, P1, hcs, _, hl, hmx, hme, _, hcell⟩
    · simp [Value.cells] at hcs
      obtain ⟨rfl, rfl, rfl⟩ := hcs
      exact ⟨none, 0, [], rfl, .inl rfl, by simp⟩
    · simp [Value.cells] at hcs
      obtain ⟨rfl, h1, h2⟩ := hcs
      subst h1 h2
      simp only [if_true] at hme
      subst hme
      obtain ⟨fs, hfs⟩ : ∃ fs : List Ent, fs = (List.range l).map fun i => (strV (V0 i), intV (V1 i)) := ⟨_, rfl⟩
      have hlen : fs.length = l := by rw [hfs]; simp
      refine ⟨some a', m, fs, by rw [hlen], ?_, by rw [hlen]; omega⟩
      by_cases h0 : l = 0
      · left; rw [hfs, h0]; rfl
      · right
        have c0 := (hcell 0 (by omega)).1
        have hs0 := World.cell?_spot c0
        have ha0 : a'.add (0 * 2) = a' := by simp [Addr.add]
        rw [ha0] at hs0 c0
        obtain ⟨bk, o, sp⟩ := a'
        simp only at hs0
        subst hs0
        refine ⟨bk, o, rfl, World.block_lt_of_cell? W _ c0, by rw [hlen]; exact hl, fun j f hj => ?_⟩
        have hjl : j < l := by
          rcases Nat.lt_or_ge j l with h | h
          · exact h
          · rw [List.getElem?_eq_none (by omega)] at hj; cases hj
        obtain ⟨g0, g1, g2, g3⟩ := hcell j (by omega)
        rw [t0] at g2
        rw [t1] at g3
        obtain ⟨s0, e0, _, _⟩ := DataW.trod_string hs g2
        obtain ⟨s1, e1, _, _⟩ := DataW.trod_int hi g3
        simp only [List.cons.injEq, and_true] at e0 e1
        rw [hfs] at hj
        simp only [List.getElem?_map, List.getElem?_range hjl, Option.map_some, Option.some.injEq] at hj
        subst hj
        rw [Addr.add_mid] at g0 g1
        rw [e0] at g0
        rw [e1] at g1
        refine ⟨?_, ?_⟩
        · simp only [e0, strV]; exact g0
        · simp only [e1, intV]; rw [Nat.add_assoc]; exact g1
theorem u64_rng {z : Int} (h : (Lit.int .u64 z).wf = true) : 0 ≤ z ∧ z < 18446744073709551616 := by
  simp [Lit.wf, IntKind.min, IntKind.max, IntKind.signed, IntKind.bits] at h
  omega
end Go.Proofs.YtklfpnnnoaaiaaaDoor

