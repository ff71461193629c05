/- strings.SplitSeq: its iterator, and a loop over it. -/
import Derived.Test.YtneagccakoakpaaDoorOctG
import Derived.Test.YtneagccakoakpaaDoorShelfB
import Derived.RangeFuncNested
import Derived.RangeFuncBound
import Derived.RangeFuncCalls
import Derived.RangeFuncBox
import Derived.RangeFuncLeaves
import Derived.OwnWalkIn
import Derived.TacticsInMore
import Derived.LoopNIn
import Derived.LoopIn
import Derived.Maps.AppendAt
namespace Go.Proofs.YtneagccakoakpaaDoor
open Go.RowKit

attribute [local go_sem] Oper.semAt_some

/-- The parts of a text between the bytes c. -/
def parts (c : UInt8) : List UInt8 → List (List UInt8)
  | [] => [[]]
  | b :: r => if b = c then [] :: parts c r else match parts c r with
    | p :: ps => (b :: p) :: ps
    | [] => [[b]]
theorem parts_ne (c : UInt8) : ∀ l, parts c l ≠ []
  | [] => by simp [parts]
  | b :: r => by
    unfold parts
    split
    · simp
    · split <;> simp
theorem parts_one (c : UInt8) : ∀ l : List UInt8, c ∉ l → parts c l = [l]
  | [], _ => rfl
  | b :: r, h => by
    rw [List.mem_cons, not_or] at h
    rw [parts, if_neg (fun e => h.1 e.symm), parts_one c r h.2]
theorem parts_cut (c : UInt8) : ∀ (a b : List UInt8), c ∉ a → parts c (a ++ c :: b) = a :: parts c b
  | [], b, _ => by rw [List.nil_append, parts, if_pos rfl]
  | x :: a, b, h => by
    rw [List.mem_cons, not_or] at h
    rw [List.cons_append, parts, if_neg (fun e => h.1 e.symm), parts_cut c a b h.2]
theorem parts_length (c : UInt8) : ∀ l, (parts c l).length ≤ l.length + 1
  | [] => by simp [parts]
  | b :: r => by
    have ih := parts_length c r
    unfold parts
    split
    · simp; omega
    · split
      · rename_i p ps h; rw [h] at ih; simp at ih ⊢; omega
      · simp
theorem ib_cut (c : UInt8) : ∀ l : List UInt8, (Lib.indexByte l c = -1 ∧ c ∉ l) ∨ (∃ i : Nat, Lib.indexByte l c = (i : Int) ∧ i < l.length ∧ l = l.take i ++ c :: l.drop (i + 1) ∧ c ∉ l.take i)
  | [] => .inl ⟨rfl, by simp⟩
  | b :: r => by
    by_cases hb : b = c
    · subst hb
      exact .inr ⟨0, by simp [Lib.indexByte], by simp, by simp, by simp⟩
    · have hbb : (b == c) = false := beq_eq_false_iff_ne.2 hb
      rcases ib_cut c r with ⟨h1, h2⟩ | ⟨i, h1, h2, h3, h4⟩
      · exact .inl ⟨by simp [Lib.indexByte, hbb, h1], by rw [List.mem_cons, not_or]; exact ⟨fun e => hb e.symm, h2⟩⟩
      · refine .inr ⟨i + 1, ?_, by simp; omega, ?_, ?_⟩
        · have hne : ((i : Int) == -1) = false := beq_eq_false_iff_ne.2 (by omega)
          simp only [Lib.indexByte, hbb, h1, hne]
          simp
        · rw [List.take_succ_cons, List.drop_succ_cons, List.cons_append, ← h3]
        · rw [List.take_succ_cons, List.mem_cons, not_or]
          exact ⟨fun e => hb e.symm, h4⟩
/-- A byte's first place: nowhere, or the text is cut there. -/
theorem index_cut (c : UInt8) (l : List UInt8) : (Lib.index l [c] = -1 ∧ c ∉ l) ∨ (∃ i : Nat, Lib.index l [c] = (i : Int) ∧ i < l.length ∧ l = l.take i ++ c :: l.drop (i + 1) ∧ c ∉ l.take i) := by
  rw [Lib.index_one]
  exact ib_cut c l
/-- The library's greatest length for a search holds a number. -/
def MaxL (w : World) : Prop := 1 < w.heap.size ∧ ∃ m, w.cell? ⟨1, 0, none⟩ = some (.int .i64 m)
theorem MaxL.below {w w' : World} (h : MaxL w) (hb : Below w.heap.size w w') : MaxL w' := by
  obtain ⟨h1, m, h2⟩ := h
  exact ⟨Nat.lt_of_lt_of_le h1 hb.size, m, by rw [(bcell hb).1 _ _ h1]; exact h2⟩
theorem index108 (s : ByteArray) (hs : s.size ≤ 4000000000) (c : UInt8) (i : Int) (hi : Lib.index s.data.toList [c] = i) (w : World) (hw : MaxL w) :
    Calls Tryd.prog 108 #[.string s, .string ⟨#[c]⟩] w fun e w' => e = .returned (.int .i64 i) ∧ w = w' := by
  obtain ⟨_, m, hm⟩ := hw
  refine (Tryd.strings_Index s ⟨#[c]⟩ m w (by omega) hm).mono fun e w' ⟨he, hw⟩ => ⟨?_, hw.symm⟩
  rw [he, ← hi]

/-- The three boxes of an iterator: its text's rest, the byte at which it parts, nothing kept of it. -/
structure SeqBox (W : World) (h : Nat) (c : UInt8) (t : ByteArray) : Prop where
  txt : Boxed W h 9 (.string t)
  sep : Boxed W (h + 1) 9 (.string ⟨#[c]⟩)
  sav : Boxed W (h + 2) 3 (.int .i64 0)

/-- How long the text's rest is. -/
def boxSize (W : World) (h : Nat) : Nat := match W.cell? ⟨h, 0, none⟩ with
  | some (.string t) => t.size
  | _ => 0
set_option maxRecDepth 1000000 in
set_option maxHeartbeats 4000000 in
/-- **The iterator of strings.SplitSeq**, for whatever body keeps its boxes. -/
theorem split107 (n l h : Nat) (c : UInt8) (s0 : ByteArray) (hs0 : s0.size ≤ 4000000000) (J Jx : List (List UInt8) → World → Prop)
    (hJ : ∀ pre W v, J pre W → J pre (W.setCell ⟨h, 0, none⟩ v)) (hM : ∀ pre W, J pre W → MaxL W)
    (hY : ∀ pre x W, J pre W → pre.length < (parts c s0.data.toList).length → x.length ≤ s0.size → YieldAt Fence.wide (n - 1) Tryd.prog l #[.string ⟨(x : List UInt8).toArray⟩] W fun e W' =>
      (e = .returned (.bool true) ∧ J (pre ++ [x]) W' ∧ (∀ b, h ≤ b → b < h + 3 → W'.heap[b]? = W.heap[b]?)) ∨ (e = .returned (.bool false) ∧ Jx (pre ++ [x]) W'))
    (W : World) (hb : SeqBox W h c s0) (h0 : J [] W) :
    CallsIn Fence.wide n Tryd.prog 107 #[.func (.yield l) #[] #[], .pointer (some ⟨h + 1, 0, none⟩), .pointer (some ⟨h, 0, none⟩), .pointer (some ⟨h + 2, 0, none⟩)] W fun e W' => (∃ v, e = .returned v) ∧
      (J (parts c s0.data.toList) W' ∨ ∃ pre, Jx pre W') := by
  refine callsIn_of_wp Tryd.func107 rfl trivial ?_ rfl
  simp only [Tryd.ntmps107, List.size_toArray, List.length_cons, List.length_nil, Nat.reduceAdd, Nat.reduceSub, Array.replicate_succ, Array.replicate_zero, List.push_toArray, List.append_toArray, List.nil_append, List.cons_append]
  have c1 := hb.sep.cell
  have c2 := hb.txt.cell
  have c3 := hb.sav.cell
  gi_wp2
  clear c1 c2 c3
  gi_loopw [7] (fun _ wr => ∃ (pre : List (List UInt8)) (t : ByteArray), Hid (SeqBox wr h c t) ∧ t.size ≤ s0.size ∧ Hid (pre ++ parts c t.data.toList = parts c s0.data.toList) ∧ J pre wr)
    (fun _ wr => boxSize wr h)
  case atStart => exact ⟨[], s0, hb, Nat.le_refl _, rfl, h0⟩
  case round =>
    clear hb h0
    obtain ⟨pre, t, B, ht, hp, hj⟩ := hrel
    have c1 := B.out.sep.cell
    have c2 := B.out.txt.cell
    have c3 := B.out.sav.cell
    have hmx := hM _ _ hj
    have hms : Hid (boxSize wr h = t.size) := by
      show boxSize wr h = t.size
      unfold boxSize
      rw [c2]
    have hpl : pre.length < (parts c s0.data.toList).length := by
      rw [← hp.out, List.length_append]
      have := List.length_pos_iff.2 (parts_ne c t.data.toList)
      omega
    rcases index_cut c t.data.toList with ⟨hi, hn⟩ | ⟨i, hi, hil, hcut, hn⟩
    · have HI := Lib.hid (callsIn_wide (n := n - 1).2 (index108 t (by omega) c _ hi wr hmx))
      have hlast : Hid (pre ++ [t.data.toList] = parts c s0.data.toList) := by
        have := hp.out
        rw [parts_one c _ hn] at this
        exact this
      have hte : t = ⟨t.data.toList.toArray⟩ := str_eq t _ rfl
      have hyy := hY pre t.data.toList wr hj hpl (by rw [← Lib.size_eq]; exact ht)
      rw [← hte] at hyy
      obtain ⟨fn, tmps, assign, body, hy, hR⟩ := hyy
      clear hi hn hmx hte
      gi_wp2_with fail
      refine ⟨trivial, (fun h => by cases h), ?_⟩
      refine HI.out.mono ?_
      rintro e w' ⟨rfl, rfl⟩
      gi_wp2_with fail
      refine ⟨(fun h => by cases h), hR.mono ?_⟩
      rintro e W3 (⟨rfl, hJ3, hk3⟩ | ⟨rfl, hJx3⟩)
      · gi_wp2
        go_end0
        exact ⟨⟨_, rfl⟩, .inl (by rw [← hlast.out]; exact hJ3)⟩
      · gi_wp2
        go_end0
        exact ⟨⟨_, rfl⟩, .inr ⟨_, hJx3⟩⟩
    · have HI := Lib.hid (callsIn_wide (n := n - 1).2 (index108 t (by omega) c _ hi wr hmx))
      have hz := Lib.size_eq t
      have e1 : (t.extract 0 i).data.toList = t.data.toList.take i := by rw [extractL, List.drop_zero, Nat.sub_zero]
      have e2 : (t.extract (i + 1) t.size).data.toList = t.data.toList.drop (i + 1) := by rw [extractL, List.take_of_length_le (by rw [List.length_drop]; omega)]
      have hnext : Hid ((pre ++ [t.data.toList.take i]) ++ parts c (t.extract (i + 1) t.size).data.toList = parts c s0.data.toList) := by
        have h2 := hp.out
        rw [hcut, parts_cut c _ _ hn] at h2
        rw [e2, ← h2, List.append_assoc]; rfl
      have hsz : (t.extract (i + 1) t.size).size = t.size - (i + 1) := size_extract t (i + 1) t.size (by omega)
      have HSZ := Lib.hid hsz
      have hte : t.extract 0 i = ⟨(t.data.toList.take i).toArray⟩ := str_eq _ _ e1
      have hyy := hY pre (t.data.toList.take i) wr hj hpl (by rw [List.length_take]; omega)
      rw [← hte] at hyy
      obtain ⟨fn, tmps, assign, body, hy, hR⟩ := hyy
      have i0 : (0 : Int) ≤ i := by omega
      have i3 : decide ((i : Int) < 0) = false := by simp
      have i1 : (i : Int) ≤ t.size := by omega
      have i2 : (i : Int) + 1 ≤ t.size := by omega
      have htz : (t.size : Int) ≤ 4000000000 := by omega
      clear hi hn hmx hte e1 e2 hsz hcut hz
      gi_wp2_with fail
      refine ⟨trivial, (fun h => by cases h), ?_⟩
      refine HI.out.mono ?_
      rintro e w' ⟨rfl, rfl⟩
      gi_wp2_with fail
      refine ⟨(fun h => by cases h), hR.mono ?_⟩
      rintro e W3 (⟨rfl, hJ3, hk3⟩ | ⟨rfl, hJx3⟩)
      · have b1 : Boxed W3 (h + 1) 9 (.string ⟨#[c]⟩) := (hk3 (h + 1) (by omega) (by omega)).trans B.out.sep
        have b2 : Boxed W3 h 9 (.string t) := (hk3 h (by omega) (by omega)).trans B.out.txt
        have b3 : Boxed W3 (h + 2) 3 (.int .i64 0) := (hk3 (h + 2) (by omega) (by omega)).trans B.out.sav
        have d1 := b1.cell
        have d2 := b2.cell
        have z2 := b2.frozen
        have g1 : SeqBox (W3.setCell ⟨h, 0, none⟩ (.string (t.extract (i + 1) t.size))) h c (t.extract (i + 1) t.size) := by
          have hg := grownBy_setCell' W3 h (.string (t.extract (i + 1) t.size))
          exact ⟨b2.set _, b1.kept hg (fun e => by injection e with e; omega), b3.kept hg (fun e => by injection e with e; omega)⟩
        have G1 := Lib.hid g1
        have hJ4 := hJ _ _ (.string (t.extract (i + 1) t.size)) hJ3
        clear g1 b1 b2 b3 c1 c2 c3 hk3
        gi_wp2_with fail
        go_roundw
        case rel => exact ⟨_, _, G1, by have := HSZ.out; omega, hnext, hJ4⟩
        case measure =>
          have e1 := hms.out
          have e2 : boxSize (W3.setCell ⟨h, 0, none⟩ (.string (t.extract (i + 1) t.size))) h = (t.extract (i + 1) t.size).size := by
            unfold boxSize
            rw [G1.out.txt.cell]
          rw [e1, e2, HSZ.out]
          omega
      · gi_wp2
        refine bodyPost_ret (results_none rfl _ _ _) rfl ?_
        exact ⟨⟨_, rfl⟩, .inr ⟨_, hJx3⟩⟩
end Go.Proofs.YtneagccakoakpaaDoor
