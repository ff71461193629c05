/- token: SplitSeq, Trim, pairs, Find. -/
import Derived.Test.YtllmlngfmcbaaaaGreatDoorTA
import Derived.Test.YtllmlngfmcbaaaaGreatDoorShelf
import Derived.RangeFuncNested
import Derived.RangeFuncBound
import Derived.RangeFuncCalls
import Derived.RangeFuncBox
import Derived.RangeFuncLeaves
import Derived.OwnWalkIn
import Derived.TacticsInMore
import Derived.LoopNIn
import Derived.LoopIn
import Derived.Maps.AppendAt
import Derived.Lib.SlTrimSet
import Derived.Test.YtllmlngfmcbaaaaGreatDoorJoin
import Derived.Shelf.Strings.SlTrimAscii
import Derived.Stop.RegionWithIn
import Derived.Test.YtllmlngfmcbaaaaGreatDoorShelfC
namespace Go.Proofs.YtllmlngfmcbaaaaGreatDoor
open Go.RowKit

attribute [local go_sem] Oper.semAt_some

/-- The parts of a text between the bytes c. -/
def parts (c : UInt8) : List UInt8 → List (List UInt8)
  | [] => [[]]
  | b :: r => if b = c then [] :: parts c r else match parts c r with
    | p :: ps => (b :: p) :: ps
    | [] => [[b]]
theorem parts_ne (c : UInt8) : ∀ l, parts c l ≠ []
  | [] => by simp [parts]
  | b :: r => by
    unfold parts
    split
    · simp
    · split <;> simp
theorem parts_one (c : UInt8) : ∀ l : List UInt8, c ∉ l → parts c l = [l]
  | [], _ => rfl
  | b :: r, h => by
    rw [List.mem_cons, not_or] at h
    rw [parts, if_neg (fun e => h.1 e.symm), parts_one c r h.2]
theorem parts_cut (c : UInt8) : ∀ (a b : List UInt8), c ∉ a → parts c (a ++ c :: b) = a :: parts c b
  | [], b, _ => by rw [List.nil_append, parts, if_pos rfl]
  | x :: a, b, h => by
    rw [List.mem_cons, not_or] at h
    rw [List.cons_append, parts, if_neg (fun e => h.1 e.symm), parts_cut c a b h.2]
theorem parts_length (c : UInt8) : ∀ l, (parts c l).length ≤ l.length + 1
  | [] => by simp [parts]
  | b :: r => by
    have ih := parts_length c r
    unfold parts
    split
    · simp; omega
    · split
      · rename_i p ps h; rw [h] at ih; simp at ih ⊢; omega
      · simp
theorem ib_cut (c : UInt8) : ∀ l : List UInt8, (Lib.indexByte l c = -1 ∧ c ∉ l) ∨ (∃ i : Nat, Lib.indexByte l c = (i : Int) ∧ i < l.length ∧ l = l.take i ++ c :: l.drop (i + 1) ∧ c ∉ l.take i)
  | [] => .inl ⟨rfl, by simp⟩
  | b :: r => by
    by_cases hb : b = c
    · subst hb
      exact .inr ⟨0, by simp [Lib.indexByte], by simp, by simp, by simp⟩
    · have hbb : (b == c) = false := beq_eq_false_iff_ne.2 hb
      rcases ib_cut c r with ⟨h1, h2⟩ | ⟨i, h1, h2, h3, h4⟩
      · exact .inl ⟨by simp [Lib.indexByte, hbb, h1], by rw [List.mem_cons, not_or]; exact ⟨fun e => hb e.symm, h2⟩⟩
      · refine .inr ⟨i + 1, ?_, by simp; omega, ?_, ?_⟩
        · have hne : ((i : Int) == -1) = false := beq_eq_false_iff_ne.2 (by omega)
          simp only [Lib.indexByte, hbb, h1, hne]
          simp
        · rw [List.take_succ_cons, List.drop_succ_cons, List.cons_append, ← h3]
        · rw [List.take_succ_cons, List.mem_cons, not_or]
          exact ⟨fun e => hb e.symm, h4⟩
/-- A byte's first place: nowhere, or the text is cut there. -/
theorem index_cut (c : UInt8) (l : List UInt8) : (Lib.index l [c] = -1 ∧ c ∉ l) ∨ (∃ i : Nat, Lib.index l [c] = (i : Int) ∧ i < l.length ∧ l = l.take i ++ c :: l.drop (i + 1) ∧ c ∉ l.take i) := by
  rw [Lib.index_one]
  exact ib_cut c l
/-- The library's greatest length for a search holds a number. -/
def MaxL (w : World) : Prop := 3 < w.heap.size ∧ ∃ m, w.cell? ⟨3, 0, none⟩ = some (.int .i64 m)
theorem MaxL.below {w w' : World} (h : MaxL w) (hb : Below w.heap.size w w') : MaxL w' := by
  obtain ⟨h1, m, h2⟩ := h
  exact ⟨Nat.lt_of_lt_of_le h1 hb.size, m, by rw [(bcell hb).1 _ _ h1]; exact h2⟩
theorem index108 (s : ByteArray) (hs : s.size ≤ 4000000000) (c : UInt8) (i : Int) (hi : Lib.index s.data.toList [c] = i) (w : World) (hw : MaxL w) :
    Calls Tryz.prog 82 #[.string s, .string ⟨#[c]⟩] w fun e w' => e = .returned (.int .i64 i) ∧ w = w' := by
  obtain ⟨_, m, hm⟩ := hw
  refine (Tryz.strings_Index s ⟨#[c]⟩ m w (by omega) hm).mono fun e w' ⟨he, hw⟩ => ⟨?_, hw.symm⟩
  rw [he, ← hi]

/-- The three boxes of an iterator: its text's rest, the byte at which it parts, nothing kept of it. -/
structure SeqBox (W : World) (h : Nat) (c : UInt8) (t : ByteArray) : Prop where
  txt : Boxed W h 9 (.string t)
  sep : Boxed W (h + 1) 9 (.string ⟨#[c]⟩)
  sav : Boxed W (h + 2) 3 (.int .i64 0)

/-- How long the text's rest is. -/
def boxSize (W : World) (h : Nat) : Nat := match W.cell? ⟨h, 0, none⟩ with
  | some (.string t) => t.size
  | _ => 0
set_option maxRecDepth 1000000 in
set_option maxHeartbeats 4000000 in
/-- **The iterator of strings.SplitSeq**, for whatever body keeps its boxes. -/
theorem split107 (n l h : Nat) (c : UInt8) (s0 : ByteArray) (hs0 : s0.size ≤ 4000000000) (J Jx : List (List UInt8) → World → Prop)
    (hJ : ∀ pre W v, J pre W → J pre (W.setCell ⟨h, 0, none⟩ v)) (hM : ∀ pre W, J pre W → MaxL W)
    (hY : ∀ pre x W, J pre W → pre.length < (parts c s0.data.toList).length → (pre ++ [x]) <+: parts c s0.data.toList → x.length ≤ s0.size → YieldAt Fence.wide (n - 1) Tryz.prog l #[.string ⟨(x : List UInt8).toArray⟩] W fun e W' =>
      (e = .returned (.bool true) ∧ J (pre ++ [x]) W' ∧ (∀ b, h ≤ b → b < h + 3 → W'.heap[b]? = W.heap[b]?)) ∨ (e = .returned (.bool false) ∧ Jx (pre ++ [x]) W'))
    (W : World) (hb : SeqBox W h c s0) (h0 : J [] W) :
    CallsIn Fence.wide n Tryz.prog 80 #[.func (.yield l) #[] #[], .pointer (some ⟨h + 1, 0, none⟩), .pointer (some ⟨h, 0, none⟩), .pointer (some ⟨h + 2, 0, none⟩)] W fun e W' => (∃ v, e = .returned v) ∧
      (J (parts c s0.data.toList) W' ∨ ∃ pre, Jx pre W') := by
  refine callsIn_of_wp Tryz.func80 rfl trivial ?_ rfl
  simp only [Tryz.ntmps80, List.size_toArray, List.length_cons, List.length_nil, Nat.reduceAdd, Nat.reduceSub, Array.replicate_succ, Array.replicate_zero, List.push_toArray, List.append_toArray, List.nil_append, List.cons_append]
  have c1 := hb.sep.cell
  have c2 := hb.txt.cell
  have c3 := hb.sav.cell
  gi_wp2
  clear c1 c2 c3
  gi_loopw [7] (fun _ wr => ∃ (pre : List (List UInt8)) (t : ByteArray), Hid (SeqBox wr h c t) ∧ t.size ≤ s0.size ∧ Hid (pre ++ parts c t.data.toList = parts c s0.data.toList) ∧ J pre wr)
    (fun _ wr => boxSize wr h)
  case atStart => exact ⟨[], s0, hb, Nat.le_refl _, rfl, h0⟩
  case round =>
    clear hb h0
    obtain ⟨pre, t, B, ht, hp, hj⟩ := hrel
    have c1 := B.out.sep.cell
    have c2 := B.out.txt.cell
    have c3 := B.out.sav.cell
    have hmx := hM _ _ hj
    have hms : Hid (boxSize wr h = t.size) := by
      show boxSize wr h = t.size
      unfold boxSize
      rw [c2]
    have hpl : pre.length < (parts c s0.data.toList).length := by
      rw [← hp.out, List.length_append]
      have := List.length_pos_iff.2 (parts_ne c t.data.toList)
      omega
    rcases index_cut c t.data.toList with ⟨hi, hn⟩ | ⟨i, hi, hil, hcut, hn⟩
    · have HI := Lib.hid (callsIn_wide (n := n - 1).2 (index108 t (by omega) c _ hi wr hmx))
      have hlast : Hid (pre ++ [t.data.toList] = parts c s0.data.toList) := by
        have := hp.out
        rw [parts_one c _ hn] at this
        exact this
      have hte : t = ⟨t.data.toList.toArray⟩ := str_eq t _ rfl
      have hyy := hY pre t.data.toList wr hj hpl ⟨[], by rw [List.append_nil]; exact hlast.out⟩ (by rw [← Lib.size_eq]; exact ht)
      rw [← hte] at hyy
      obtain ⟨fn, tmps, assign, body, hy, hR⟩ := hyy
      clear hi hn hmx hte
      gi_wp2_with fail
      refine ⟨trivial, (fun h => by cases h), ?_⟩
      refine HI.out.mono ?_
      rintro e w' ⟨rfl, rfl⟩
      gi_wp2_with fail
      refine ⟨(fun h => by cases h), hR.mono ?_⟩
      rintro e W3 (⟨rfl, hJ3, hk3⟩ | ⟨rfl, hJx3⟩)
      · gi_wp2
        go_end0
        exact ⟨⟨_, rfl⟩, .inl (by rw [← hlast.out]; exact hJ3)⟩
      · gi_wp2
        go_end0
        exact ⟨⟨_, rfl⟩, .inr ⟨_, hJx3⟩⟩
    · have HI := Lib.hid (callsIn_wide (n := n - 1).2 (index108 t (by omega) c _ hi wr hmx))
      have hz := Lib.size_eq t
      have e1 : (t.extract 0 i).data.toList = t.data.toList.take i := by rw [extractL, List.drop_zero, Nat.sub_zero]
      have e2 : (t.extract (i + 1) t.size).data.toList = t.data.toList.drop (i + 1) := by rw [extractL, List.take_of_length_le (by rw [List.length_drop]; omega)]
      have hnext : Hid ((pre ++ [t.data.toList.take i]) ++ parts c (t.extract (i + 1) t.size).data.toList = parts c s0.data.toList) := by
        have h2 := hp.out
        rw [hcut, parts_cut c _ _ hn] at h2
        rw [e2, ← h2, List.append_assoc]; rfl
      have hsz : (t.extract (i + 1) t.size).size = t.size - (i + 1) := size_extract t (i + 1) t.size (by omega)
      have HSZ := Lib.hid hsz
      have hte : t.extract 0 i = ⟨(t.data.toList.take i).toArray⟩ := str_eq _ _ e1
      have hyy := hY pre (t.data.toList.take i) wr hj hpl ⟨_, hnext.out⟩ (by rw [List.length_take]; omega)
      rw [← hte] at hyy
      obtain ⟨fn, tmps, assign, body, hy, hR⟩ := hyy
      have i0 : (0 : Int) ≤ i := by omega
      have i3 : decide ((i : Int) < 0) = false := by simp
      have i1 : (i : Int) ≤ t.size := by omega
      have i2 : (i : Int) + 1 ≤ t.size := by omega
      have htz : (t.size : Int) ≤ 4000000000 := by omega
      clear hi hn hmx hte e1 e2 hsz hcut hz
      gi_wp2_with fail
      refine ⟨trivial, (fun h => by cases h), ?_⟩
      refine HI.out.mono ?_
      rintro e w' ⟨rfl, rfl⟩
      gi_wp2_with fail
      refine ⟨(fun h => by cases h), hR.mono ?_⟩
      rintro e W3 (⟨rfl, hJ3, hk3⟩ | ⟨rfl, hJx3⟩)
      · have b1 : Boxed W3 (h + 1) 9 (.string ⟨#[c]⟩) := (hk3 (h + 1) (by omega) (by omega)).trans B.out.sep
        have b2 : Boxed W3 h 9 (.string t) := (hk3 h (by omega) (by omega)).trans B.out.txt
        have b3 : Boxed W3 (h + 2) 3 (.int .i64 0) := (hk3 (h + 2) (by omega) (by omega)).trans B.out.sav
        have d1 := b1.cell
        have d2 := b2.cell
        have z2 := b2.frozen
        have g1 : SeqBox (W3.setCell ⟨h, 0, none⟩ (.string (t.extract (i + 1) t.size))) h c (t.extract (i + 1) t.size) := by
          have hg := grownBy_setCell' W3 h (.string (t.extract (i + 1) t.size))
          exact ⟨b2.set _, b1.kept hg (fun e => by injection e with e; omega), b3.kept hg (fun e => by injection e with e; omega)⟩
        have G1 := Lib.hid g1
        have hJ4 := hJ _ _ (.string (t.extract (i + 1) t.size)) hJ3
        clear g1 b1 b2 b3 c1 c2 c3 hk3
        gi_wp2_with fail
        go_roundw
        case rel => exact ⟨_, _, G1, by have := HSZ.out; omega, hnext, hJ4⟩
        case measure =>
          have e1 := hms.out
          have e2 : boxSize (W3.setCell ⟨h, 0, none⟩ (.string (t.extract (i + 1) t.size))) h = (t.extract (i + 1) t.size).size := by
            unfold boxSize
            rw [G1.out.txt.cell]
          rw [e1, e2, HSZ.out]
          omega
      · gi_wp2
        refine bodyPost_ret (results_none rfl _ _ _) rfl ?_
        exact ⟨⟨_, rfl⟩, .inr ⟨_, hJx3⟩⟩
end Go.Proofs.YtllmlngfmcbaaaaGreatDoor

namespace Go.Proofs.YtllmlngfmcbaaaaGreatDoor
open Go.RowKit

attribute [local go_sem] Oper.semAt_some

/-- The iterator's value. -/
def seqV (h : Nat) : Value := .func (.func 80) #[] #[.pointer (some ⟨h + 1, 0, none⟩), .pointer (some ⟨h, 0, none⟩), .pointer (some ⟨h + 2, 0, none⟩)]
theorem seqBox_new (w : World) (c : UInt8) (s : ByteArray) :
    SeqBox (((w.alloc (.cells #[.string s] 9)).alloc (.cells #[.string ⟨#[c]⟩] 9)).alloc (.cells #[.int .i64 0] 3)) w.heap.size c s := by
  refine ⟨((Boxed.new w 9 (.string s)).alloc _).alloc _, ?_, ?_⟩
  · have := (Boxed.new (w.alloc (.cells #[.string s] 9)) 9 (.string ⟨#[c]⟩)).alloc (.cells #[.int .i64 0] 3)
    rw [World.size_alloc] at this
    exact this
  · have := Boxed.new ((w.alloc (.cells #[.string s] 9)).alloc (.cells #[.string ⟨#[c]⟩] 9)) 3 (.int .i64 0)
    rw [World.size_alloc, World.size_alloc] at this
    exact this
set_option maxHeartbeats 1000000 in
theorem split91 (s : ByteArray) (c : UInt8) (w : World) :
    Calls Tryz.prog 57 #[.string s, .string ⟨#[c]⟩, .int .i64 0] w fun e w' => e = .returned (seqV w.heap.size) ∧ SeqBox w' w.heap.size c s ∧ Below w.heap.size w w' ∧ w'.heap.size = w.heap.size + 3 := by
  have hbx := Lib.hid (seqBox_new w c s)
  have hbl := (((Below.refl w.heap.size w).alloc (Nat.le_refl _) (.cells #[.string s] 9)).alloc (by simp) (.cells #[.string ⟨#[c]⟩] 9)).alloc (by simp; omega) (.cells #[.int .i64 0] 3)
  have HBL := Lib.hid hbl
  clear hbl
  go_enter Tryz.func57, Tryz.ntmps57
  go_wp2_with fail
  go_ret
  exact ⟨rfl, hbx.out, HBL.out, by simp⟩
set_option maxHeartbeats 1000000 in
theorem split68 (s : ByteArray) (c : UInt8) (w : World) :
    Calls Tryz.prog 45 #[.string s, .string ⟨#[c]⟩] w fun e w' => e = .returned (seqV w.heap.size) ∧ SeqBox w' w.heap.size c s ∧ Below w.heap.size w w' ∧ w'.heap.size = w.heap.size + 3 := by
  have HS := Lib.hid (split91 s c w)
  generalize seqV w.heap.size = v at *
  go_enter Tryz.func45, Tryz.ntmps45
  go_wp2_with fail
  refine HS.out.mono ?_
  rintro e w1 ⟨rfl, h1, h2, h3⟩
  go_wp2_with fail
  go_ret
  exact ⟨rfl, h1, h2, h3⟩

/-- How a round's body may be left. -/
def roundEnd (B h : Nat) (I Ix : List (List UInt8) → World → Prop) (xs : List (List UInt8)) (W : World) : Exit → Act → World → Prop
  | .normal, _, W' => KeepsFrom B W W' ∧ (∀ b, h ≤ b → b < h + 3 → W'.heap[b]? = W.heap[b]?) ∧ I xs W'
  | .ret, _, W' => KeepsFrom B W W' ∧ Ix xs W'
  | .exit _, _, _ => False
  | .goto _, _, _ => False
  | .panic _, _, _ => False
  | .outgrown, _, _ => False
/-- What the loop itself and the iterator turn: the iterator's text, blocks that the loop has laid. -/
def Minds (B h : Nat) (I : List (List UInt8) → World → Prop) : Prop :=
  ∀ pre A C row, I pre A → A.grownBy C row → (∀ r, row = some r → r = h ∨ (B ≤ r ∧ ∃ o : Obj, A.heap[r]? = some o ∧ o.isCells = false)) → I pre C
theorem Minds.put {B h : Nat} {I : List (List UInt8) → World → Prop} (hI : Minds B h I) {pre : List (List UInt8)} {W : World} {l : Nat} {o : Obj} (o' : Obj) (hi : I pre W) (hB : B ≤ l) (hl : W.heap[l]? = some o) (ho : o.isCells = false) : I pre (W.putObj l o') :=
  hI pre W _ (some l) hi (grownBy_putObj' W l o') (fun r e => by injection e with e; subst e; exact .inr ⟨hB, o, hl, ho⟩)
theorem Minds.new {B h : Nat} {I : List (List UInt8) → World → Prop} (hI : Minds B h I) {pre : List (List UInt8)} {W : World} (o : Obj) (hi : I pre W) : I pre (W.alloc o) :=
  hI pre W _ none hi (World.grownBy_alloc W o none) (fun r e => by cases e)
theorem Minds.text {B h : Nat} {I : List (List UInt8) → World → Prop} (hI : Minds B h I) {pre : List (List UInt8)} {W : World} (v : Value) (hi : I pre W) : I pre (W.setCell ⟨h, 0, none⟩ v) :=
  hI pre W _ (some h) hi (grownBy_setCell' W h v) (fun r e => by injection e with e; exact .inl e.symm)
theorem SeqBox.alloc {W : World} {h : Nat} {c : UInt8} {t : ByteArray} (hb : SeqBox W h c t) (o : Obj) : SeqBox (W.alloc o) h c t := ⟨hb.txt.alloc o, hb.sep.alloc o, hb.sav.alloc o⟩
theorem heap_set_other (W : World) (h k : Nat) (v : Value) (hk : k ≠ h) : (W.setCell ⟨h, 0, none⟩ v).heap[k]? = W.heap[k]? := Below.heap_setCell W ⟨h, 0, none⟩ v k hk

set_option maxHeartbeats 2000000 in
/-- **A loop over strings.SplitSeq.** -/
theorem range_split {g : Operand} {p : Tmp} {assign body : Code} {Q : Exit → Act → World → Prop} {a : Act} {w : World} (n h : Nat) (c : UInt8) (s0 : ByteArray) (hs0 : s0.size ≤ 4000000000)
    (hg : a.eval g = seqV h) (hb : SeqBox w h c s0) (hh : h + 3 ≤ w.heap.size)
    (I Ix : List (List UInt8) → World → Prop) (hI : Minds w.heap.size h I) (hIx : Minds w.heap.size h Ix) (hM : ∀ pre W, I pre W → MaxL W) (h0 : I [] w) (a₁ : List UInt8 → Act)
    (hassign : ∀ (l : Nat) (x : List UInt8) (W : World) (K : Act → World → Prop), K (a₁ x) W →
      assign.wpIn (Fence.wide.inRound l) (n - 1 - 1) Tryz.prog (Exit.then K (fun _ _ _ => False)) { tmps := a.tmps.setIfInBounds p (.string ⟨x.toArray⟩), defers := [] } W)
    (hbody : ∀ (l : Nat) (pre : List (List UInt8)) (x : List UInt8) (W : World), I pre W → w.heap.size + 2 ≤ W.heap.size → pre.length < (parts c s0.data.toList).length → (pre ++ [x]) <+: parts c s0.data.toList → x.length ≤ s0.size →
      body.wpIn (Fence.wide.inRound l) (n - 1 - 1) Tryz.prog (roundEnd w.heap.size h I Ix (pre ++ [x]) W) (a₁ x) W)
    (hdone : ∀ (W : World), I (parts c s0.data.toList) W → W.heap[w.heap.size]? = some (.deferred (some [])) → w.heap.size + 2 ≤ W.heap.size → Q .normal { a with defers := { target := .collected w.heap.size, args := #[] } :: a.defers } W)
    (hstop : ∀ (pre : List (List UInt8)) (W : World), Ix pre W → W.heap[w.heap.size]? = some (.deferred (some [])) → w.heap.size + 2 ≤ W.heap.size → Code.ret.wpIn Fence.wide n Tryz.prog Q { a with defers := { target := .collected w.heap.size, args := #[] } :: a.defers } W) :
    (Code.rangeFunc g #[p] assign body).wpIn Fence.wide n Tryz.prog Q a w := by
  refine wpIn_rangeFunc fun fn hfn => ?_
  obtain ⟨mk, hmk⟩ : ∃ mk : LoopState → Option Code → Loop, mk = fun st j => { state := st, pending := j, fn, tmps := a.tmps, params := #[p], assign, body, defers := w.heap.size } := ⟨_, rfl⟩
  obtain ⟨L, hL⟩ : ∃ L, L = w.heap.size + 1 := ⟨_, rfl⟩
  obtain ⟨W1, hW1⟩ : ∃ W1, W1 = (w.alloc (.deferred (some []))).alloc (.loop (mk .ready none)) := ⟨_, rfl⟩
  have hsz1 : W1.heap.size = w.heap.size + 2 := by rw [hW1]; simp
  have r1 : W1.heap[L]? = some (.loop (mk .ready none)) := by
    rw [hW1, hL]
    have := World.alloc_heap_new (w.alloc (.deferred (some []))) (.loop (mk .ready none))
    rwa [World.size_alloc] at this
  have k1 : W1.heap[w.heap.size]? = some (.deferred (some [])) := by
    rw [hW1]
    exact (Below.heap_alloc _ _ _ (by simp)).trans (World.alloc_heap_new w _)
  have i1 : I [] W1 := by rw [hW1]; exact hI.new _ (hI.new _ h0)
  have b1 : SeqBox W1 h c s0 := by rw [hW1]; exact (hb.alloc _).alloc _
  refine ⟨L, [{ target := .collected w.heap.size, args := #[] }], W1, { target := .fn (.func 80) #[.pointer (some ⟨h + 1, 0, none⟩), .pointer (some ⟨h, 0, none⟩), .pointer (some ⟨h + 2, 0, none⟩)], args := #[.func (.yield L) #[] #[]] }, W1, 80,
    #[.func (.yield L) #[] #[], .pointer (some ⟨h + 1, 0, none⟩), .pointer (some ⟨h, 0, none⟩), .pointer (some ⟨h + 2, 0, none⟩)], W1, ?_, ?_, fun _ _ => trivial, ?_, (fun e => by cases e), ?_⟩
  · rw [hW1, hL, hmk]; exact run_enterLoop_outer _ _ _ _ _
  · unfold seqV at hg
    simp only [resolve, hg]
    simp [go_sem]
  · have eg : ∀ args w, (callFunc 80 args).run Tryz.prog w = .ok (.enter 80 args) w := enters_of Tryz.func80 (by kernel_rfl) rfl
    simp [invoke, go_sem, eg]
  · have fin : ∀ (jump : Option Code) (W W3 : World), W.heap[L]? = some (.loop (mk .ready none)) → W.heap[w.heap.size]? = some (.deferred (some [])) → KeepsFrom w.heap.size (W.putObj L (.loop (mk .busy none))) W3 →
        (Instr.endRound L jump).run Tryz.prog W3 = .ok (.bool jump.isNone) (W3.putObj L (.loop (mk (if jump.isNone then .ready else .done) jump))) ∧ W3.heap[L]? = some (.loop (mk .busy none)) ∧
        (W3.putObj L (.loop (mk (if jump.isNone then .ready else .done) jump))).heap[L]? = some (.loop (mk (if jump.isNone then .ready else .done) jump)) ∧
        (W3.putObj L (.loop (mk (if jump.isNone then .ready else .done) jump))).heap[w.heap.size]? = some (.deferred (some [])) := by
      intro jump W W3 hl hk hkp
      have hlt := (Array.getElem?_eq_some_iff.1 hl).1
      have hl3 := hkp.same L _ (by omega) (World.putObj_heap_same hlt) rfl
      have hk3 := hkp.same w.heap.size _ (Nat.le_refl _) ((World.putObj_heap_other (by omega)).trans hk) rfl
      have hrun := run_endRound (P := Tryz.prog) jump hl3
      refine ⟨?_, hl3, World.putObj_heap_same (Array.getElem?_eq_some_iff.1 hl3).1, (World.putObj_heap_other (by omega)).trans hk3⟩
      rw [hrun, hmk]
    refine (split107 (n - 1) L h c s0 hs0
      (fun pre W => I pre W ∧ W.heap[L]? = some (.loop (mk .ready none)) ∧ W.heap[w.heap.size]? = some (.deferred (some [])))
      (fun pre W => Ix pre W ∧ W.heap[L]? = some (.loop (mk .done (some .ret))) ∧ W.heap[w.heap.size]? = some (.deferred (some [])))
      (fun pre W v ⟨hi, hl, hk⟩ => ⟨hI.text v hi, (heap_set_other W h L v (by omega)).trans hl, (heap_set_other W h _ v (by omega)).trans hk⟩)
      (fun pre W hj => hM pre W hj.1) ?_ W1 b1 ⟨i1, r1, k1⟩).mono ?_
    · rintro pre x W ⟨hi, hl, hk⟩ hpl hpf hxl
      have hlt := (Array.getElem?_eq_some_iff.1 hl).1
      have hy := run_yield (P := Tryz.prog) (args := #[.string ⟨x.toArray⟩]) hl (by rw [hmk]; rfl)
      have hfn2 : (mk .ready none).fn = fn := by rw [hmk]
      have has : (mk .ready none).assign = assign := by rw [hmk]
      have hbo : (mk .ready none).body = body := by rw [hmk]
      have htm : ((mk .ready none).params.zip #[.string ⟨x.toArray⟩]).foldl (fun tmps (t, v) => tmps.setIfInBounds t v) (mk .ready none).tmps = a.tmps.setIfInBounds p (.string ⟨x.toArray⟩) := by rw [hmk]; simp
      rw [hfn2, has, hbo, htm] at hy
      have hbusy : ({ mk .ready none with state := .busy } : Loop) = mk .busy none := by rw [hmk]
      refine ⟨fn, _, assign, body, hy, roundIn_of_wpIn hfn (hassign L x W _ ⟨_, run_beginRound hl (by rw [hmk]), ?_⟩)⟩
      rw [hbusy]
      refine wpIn_mono (hbody L pre x _ (hI.put _ hi (by omega) hl rfl) (by rw [World.putObj_size]; omega) hpl hpf hxl) ?_
      rintro e a3 W3 hp
      cases e with
      | normal =>
        obtain ⟨hk3, hbx, hi3⟩ := hp
        obtain ⟨hr, hl3, hl4, hk4⟩ := fin none W W3 hl hk hk3
        refine ⟨_, _, hr, .inl ⟨rfl, ⟨hI.put _ hi3 (by omega) hl3 rfl, hl4, hk4⟩, fun b h1 h2 => ?_⟩⟩
        rw [World.putObj_heap_other (by omega), hbx b h1 h2, World.putObj_heap_other (by omega)]
      | ret =>
        obtain ⟨hk3, hi3⟩ := hp
        obtain ⟨hr, hl3, hl4, hk4⟩ := fin (some .ret) W W3 hl hk hk3
        exact ⟨_, _, hr, .inr ⟨rfl, hIx.put _ hi3 (by omega) hl3 rfl, hl4, hk4⟩⟩
      | exit id => exact hp.elim
      | goto t => exact hp.elim
      | panic ch => exact hp.elim
      | outgrown => exact hp.elim
    · rintro e W2 ⟨⟨v, rfl⟩, (⟨hi, hl, hk⟩ | ⟨pre, hi, hl, hk⟩)⟩
      · have hlt := (Array.getElem?_eq_some_iff.1 hl).1
        have hrun := run_endLoop (P := Tryz.prog) hl (by rw [hmk]; simp)
        exact ⟨none, _, by rw [hrun, hmk], hdone _ (hI.put _ hi (by omega) hl rfl) ((World.putObj_heap_other (by omega)).trans hk) (by rw [World.putObj_size]; omega)⟩
      · have hlt := (Array.getElem?_eq_some_iff.1 hl).1
        have hrun := run_endLoop (P := Tryz.prog) hl (by rw [hmk]; simp)
        exact ⟨some .ret, _, by rw [hrun, hmk], hstop pre _ (hIx.put _ hi (by omega) hl rfl) ((World.putObj_heap_other (by omega)).trans hk) (by rw [World.putObj_size]; omega)⟩
end Go.Proofs.YtllmlngfmcbaaaaGreatDoor

namespace Go.Proofs.YtllmlngfmcbaaaaGreatDoor
open Go.RowKit

theorem all256t {P : UInt8 → Prop} (h : ∀ n : Fin 256, P (UInt8.ofNat n)) (c : UInt8) : P c := by
  have := h ⟨c.toNat, c.toNat_lt⟩
  simpa using this
def isBlk (c : UInt8) : Bool := c.toNat == 32 || c.toNat == 9
def trimB (l : List UInt8) : List UInt8 := Lib.trimS l [32, 9]
def blk2 (c : UInt8) : Bool := List.contains [32, 9] c
theorem blk2_is (c : UInt8) : blk2 c = isBlk c := by revert c; apply all256t; decide +kernel
def rdrop (l : List UInt8) : List UInt8 := (l.reverse.dropWhile blk2).reverse
theorem trimB_eq (l : List UInt8) : trimB l = (rdrop l).dropWhile blk2 := rfl
theorem rdrop_cons (c : UInt8) (r : List UInt8) (hc : blk2 c = true) : rdrop (c :: r) = [] ∧ rdrop r = [] ∨ rdrop (c :: r) = c :: rdrop r := by
  unfold rdrop
  rw [List.reverse_cons, List.dropWhile_append]
  by_cases h : (r.reverse.dropWhile blk2).isEmpty = true
  · left
    rw [if_pos h]
    have h2 : r.reverse.dropWhile blk2 = [] := by simpa using h
    rw [h2]
    simp [hc]
  · right
    rw [if_neg h]
    simp
theorem trimB_left (c : UInt8) (r : List UInt8) (hc : isBlk c = true) : trimB (c :: r) = trimB r := by
  have hb : blk2 c = true := by rw [blk2_is]; exact hc
  rw [trimB_eq, trimB_eq]
  rcases rdrop_cons c r hb with ⟨h1, h2⟩ | h
  · rw [h1, h2]
  · rw [h, List.dropWhile_cons_of_pos hb]
theorem trimB_right (c : UInt8) (r : List UInt8) (hc : isBlk c = true) : trimB (r ++ [c]) = trimB r := by
  have hb : blk2 c = true := by rw [blk2_is]; exact hc
  rw [trimB_eq, trimB_eq]
  congr 1
  unfold rdrop
  rw [List.reverse_append, List.reverse_singleton, List.singleton_append, List.dropWhile_cons_of_pos hb]
theorem trimB_nil : trimB [] = [] := rfl
theorem trimB_stay (l : List UInt8) (c d : UInt8) (hc : l.head? = some c) (hd : l.getLast? = some d) (h1 : isBlk c = false) (h2 : isBlk d = false) : trimB l = l := by
  have b1 : ¬ blk2 c = true := by rw [blk2_is, h1]; simp
  have b2 : ¬ blk2 d = true := by rw [blk2_is, h2]; simp
  have hr : rdrop l = l := by
    unfold rdrop
    obtain ⟨t, rfl⟩ := List.getLast?_eq_some_iff.1 hd
    rw [List.reverse_append, List.reverse_singleton, List.singleton_append, List.dropWhile_cons_of_neg b2, List.reverse_cons, List.reverse_reverse]
  rw [trimB_eq, hr]
  cases l with
  | nil => rfl
  | cons a r =>
    obtain rfl : a = c := Option.some.inj hc
    exact List.dropWhile_cons_of_neg b1
theorem dropWhile_length (p : UInt8 → Bool) : ∀ l : List UInt8, (l.dropWhile p).length ≤ l.length
  | [] => Nat.le_refl _
  | c :: r => by
    rw [List.dropWhile_cons]
    split
    · have := dropWhile_length p r; simp; omega
    · exact Nat.le_refl _
theorem trimB_length (l : List UInt8) : (trimB l).length ≤ l.length := by
  rw [trimB_eq]
  have h1 := dropWhile_length blk2 (rdrop l)
  have h2 := dropWhile_length blk2 l.reverse
  unfold rdrop at *
  rw [List.length_reverse] at h1 h2
  omega
/-- The two ends of a text that trimming leaves alone. -/

theorem list_cons (t : ByteArray) (h : 0 < t.size) : t.data.toList = t[0] :: (t.extract 1 t.size).data.toList := by
  rw [extractL]
  have := toList_getT t 0 h
  cases hl : t.data.toList with
  | nil => rw [hl] at this; cases this
  | cons a r =>
    rw [hl] at this
    obtain rfl : a = t[0] := Option.some.inj this
    have hz := Lib.size_eq t
    rw [hl] at hz
    simp only [List.length_cons] at hz
    rw [List.drop_succ_cons, List.drop_zero, List.take_of_length_le (by omega)]
theorem list_snoc (t : ByteArray) (h : t.size - 1 < t.size) : t.data.toList = (t.extract 0 (t.size - 1)).data.toList ++ [t[t.size - 1]] := by
  rw [extractL, List.drop_zero, Nat.sub_zero, ← take_snocT t (t.size - 1) h, List.take_of_length_le (by rw [← Lib.size_eq]; omega)]
theorem list_head (t : ByteArray) (h : 0 < t.size) : t.data.toList.head? = some t[0] := by rw [List.head?_eq_getElem?]; exact toList_getT t 0 h
theorem list_last (t : ByteArray) (h : t.size - 1 < t.size) : t.data.toList.getLast? = some t[t.size - 1] := by rw [list_snoc t h]; simp
theorem emp_false (t : ByteArray) (h : 0 < t.size) : t.toList.isEmpty = false := by
  rw [ByteArray.toList_eq]
  cases hl : t.data.toList with
  | nil => have := Lib.size_eq t; rw [hl, List.length_nil] at this; omega
  | cons a r => rfl
theorem emp_true (t : ByteArray) (h : ¬ 0 < t.size) : t.toList = [] := by
  rw [ByteArray.toList_eq]
  exact List.eq_nil_of_length_eq_zero (by rw [← Lib.size_eq]; omega)

theorem blk_cases (c : UInt8) : (isBlk c = false ∧ ((c.toNat : Int) == 32) = false ∧ ((c.toNat : Int) == 9) = false) ∨ (isBlk c = true ∧ ((c.toNat : Int) == 32) = true) ∨ (isBlk c = true ∧ ((c.toNat : Int) == 32) = false ∧ ((c.toNat : Int) == 9) = true) := by
  revert c; apply all256t; decide +kernel
set_option maxRecDepth 100000 in
set_option maxHeartbeats 2000000 in
theorem trim34 (s : ByteArray) (hs : s.size ≤ 4611686018427387904) (w : World) :
    Calls Tryz.prog 34 #[.string s] w fun e w' => e = .returned (.string ⟨(trimB s.data.toList).toArray⟩) ∧ w = w' := by
  obtain ⟨R, hR⟩ : ∃ R : ByteArray, R = ⟨(trimB s.data.toList).toArray⟩ := ⟨_, rfl⟩
  rw [← hR]
  have HR := Lib.hid hR
  clear hR
  go_enter Tryz.func34, Tryz.ntmps34
  go_wp2_with fail
  go_loop [0] (fun v => ∃ t : ByteArray, v = .string t ∧ t.size ≤ 4611686018427387904 ∧ Hid (trimB t.data.toList = trimB s.data.toList)) (fun v => match v with | .string t => t.size | _ => 0)
  case atStart => exact ⟨s, rfl, hs, rfl⟩
  case round =>
    obtain ⟨t, rfl, ht, hr⟩ := hrel
    by_cases h0 : 0 < t.size
    · have h0i : (0 : Int) < t.size := by omega
      rcases blk_cases t[0] with ⟨hq, p1, p2⟩ | ⟨hq, p1⟩ | ⟨hq, p1, p2⟩
      · have HQ := Lib.hid hq
        clear hq
        go_wp2_with fail
        clear p1 p2
        go_loop [0] (fun v => ∃ u : ByteArray, v = .string u ∧ u.size ≤ 4611686018427387904 ∧ Hid (trimB u.data.toList = trimB s.data.toList) ∧ Hid (u.size = 0 ∨ ∃ c, u.data.toList.head? = some c ∧ isBlk c = false)) (fun v => match v with | .string t => t.size | _ => 0)
        case atStart => exact ⟨t, rfl, ht, hr, .inr ⟨t[0], list_head t h0, HQ.out⟩⟩
        case round =>
          clear HQ hr h0i
          obtain ⟨u, rfl, hu, hr, hh⟩ := hrel
          by_cases h0 : 0 < u.size
          · have h0i : (0 : Int) < u.size := by omega
            have hlt : u.size - 1 < u.size := by omega
            have k1 : (0 : Int) ≤ (u.size : Int) - 1 := by omega
            have k2 : ((u.size : Int) - 1).toNat = u.size - 1 := by omega
            have k3 : (1 : Int) ≤ u.size := by omega
            rcases blk_cases u[u.size - 1] with ⟨hq, p1, p2⟩ | ⟨hq, p1⟩ | ⟨hq, p1, p2⟩
            · have HQ := Lib.hid hq
              clear hq
              have hst : Hid (R = u) := by
                obtain ⟨c, hc, hcb⟩ : ∃ c, u.data.toList.head? = some c ∧ isBlk c = false := by
                  rcases hh.out with h | h
                  · omega
                  · exact h
                have h1 := trimB_stay _ c _ hc (list_last u hlt) hcb HQ.out
                have h2 := HR.out
                rw [← hr.out, h1] at h2
                exact h2.trans (str_eq u _ rfl).symm
              clear k1
              go_wp2_with fail
              go_ret
              exact ⟨by rw [hst.out]; rfl, rfl⟩
            · have HQ := Lib.hid hq
              clear hq
              have hrl : Hid (trimB (u.extract 0 (u.size - 1)).data.toList = trimB s.data.toList) := by
                have h1 := hr.out
                rw [list_snoc u hlt, trimB_right _ _ HQ.out] at h1
                exact h1
              have hhl : Hid ((u.extract 0 (u.size - 1)).size = 0 ∨ ∃ c, (u.extract 0 (u.size - 1)).data.toList.head? = some c ∧ isBlk c = false) := by
                rcases hh.out with h | ⟨c, hc, hcb⟩
                · omega
                · have h1 := list_snoc u hlt
                  rw [h1] at hc
                  cases hz : (u.extract 0 (u.size - 1)).data.toList with
                  | nil => left; rw [Lib.size_eq, hz]; rfl
                  | cons a r =>
                    rw [hz] at hc
                    exact .inr ⟨c, hc, hcb⟩
              have hsz := size_extract u 0 (u.size - 1) (by omega)
              have HSZ := Lib.hid hsz
              clear hsz
              go_wp2_with fail
              go_round
              case rel => exact ⟨_, rfl, by have := HSZ.out; omega, hrl, hhl⟩
              case measure => have := HSZ.out; simp; omega
            · have HQ := Lib.hid hq
              clear hq
              have hrl : Hid (trimB (u.extract 0 (u.size - 1)).data.toList = trimB s.data.toList) := by
                have h1 := hr.out
                rw [list_snoc u hlt, trimB_right _ _ HQ.out] at h1
                exact h1
              have hhl : Hid ((u.extract 0 (u.size - 1)).size = 0 ∨ ∃ c, (u.extract 0 (u.size - 1)).data.toList.head? = some c ∧ isBlk c = false) := by
                rcases hh.out with h | ⟨c, hc, hcb⟩
                · omega
                · have h1 := list_snoc u hlt
                  rw [h1] at hc
                  cases hz : (u.extract 0 (u.size - 1)).data.toList with
                  | nil => left; rw [Lib.size_eq, hz]; rfl
                  | cons a r =>
                    rw [hz] at hc
                    exact .inr ⟨c, hc, hcb⟩
              have hsz := size_extract u 0 (u.size - 1) (by omega)
              have HSZ := Lib.hid hsz
              clear hsz
              go_wp2_with fail
              go_round
              case rel => exact ⟨_, rfl, by have := HSZ.out; omega, hrl, hhl⟩
              case measure => have := HSZ.out; simp; omega
          · have hst : Hid (R = u) := by
              have h1 : u.data.toList = [] := List.eq_nil_of_length_eq_zero (by rw [← Lib.size_eq]; omega)
              have h2 := HR.out
              rw [← hr.out, h1, trimB_nil] at h2
              exact h2.trans (str_eq u _ h1).symm
            have z1 : decide ((0 : Int) < (u.size : Int)) = false := decide_eq_false (by omega)
            go_wp2_with fail
            go_ret
            exact ⟨by rw [hst.out]; rfl, rfl⟩
      · have HQ := Lib.hid hq
        clear hq
        have hrl : Hid (trimB (t.extract 1 t.size).data.toList = trimB s.data.toList) := by
          have h1 := hr.out
          rw [list_cons t h0, trimB_left _ _ HQ.out] at h1
          exact h1
        have hsz := size_extract t 1 t.size (by omega)
        have HSZ := Lib.hid hsz
        have k3 : (1 : Int) ≤ t.size := by omega
        clear hsz
        go_wp2_with fail
        go_round
        case rel => exact ⟨_, rfl, by have := HSZ.out; omega, hrl⟩
        case measure => have := HSZ.out; simp; omega
      · have HQ := Lib.hid hq
        clear hq
        have hrl : Hid (trimB (t.extract 1 t.size).data.toList = trimB s.data.toList) := by
          have h1 := hr.out
          rw [list_cons t h0, trimB_left _ _ HQ.out] at h1
          exact h1
        have hsz := size_extract t 1 t.size (by omega)
        have HSZ := Lib.hid hsz
        have k3 : (1 : Int) ≤ t.size := by omega
        clear hsz
        go_wp2_with fail
        go_round
        case rel => exact ⟨_, rfl, by have := HSZ.out; omega, hrl⟩
        case measure => have := HSZ.out; simp; omega
    · have z1 : decide ((0 : Int) < (t.size : Int)) = false := decide_eq_false (by omega)
      go_wp2_with fail
      go_loop [0] (fun v => v = .string t) (fun _ => 0)
      case atStart => rfl
      case round =>
        subst hrel
        have hst : Hid (R = t) := by
          have h1 : t.data.toList = [] := List.eq_nil_of_length_eq_zero (by rw [← Lib.size_eq]; omega)
          have h2 := HR.out
          rw [← hr.out, h1, trimB_nil] at h2
          exact h2.trans (str_eq t _ h1).symm
        go_wp2_with fail
        go_ret
        exact ⟨by rw [hst.out]; rfl, rfl⟩
end Go.Proofs.YtllmlngfmcbaaaaGreatDoor

namespace Go.Proofs.YtllmlngfmcbaaaaGreatDoor
open Go.RowKit

attribute [local go_sem] Oper.semAt_some

theorem trim46 (y : List UInt8) (hs : y.length ≤ 4611686018427387904) (w : World) :
    Calls Tryz.prog 46 #[.string ⟨y.toArray⟩, .string ⟨#[32, 9]⟩] w fun e w' => e = .returned (.string ⟨(trimB y).toArray⟩) ∧ Below w.heap.size w w' := by
  have hz : (⟨y.toArray⟩ : ByteArray).size = y.length := by rw [Lib.size_eq]
  have hcon := Any.strings_Trim_laid Tryz.lays160 (by kernel_rfl) ⟨y.toArray⟩ ⟨#[32, 9]⟩ w (by omega) (by decide) (ascii_of_all (by decide))
  exact hcon
/-- The pairs of the first values. -/
def pairsTo (xs : List ByteArray) (j : Nat) : List (List UInt8) := ((xs.take j).map fun x => (parts 59 x.data.toList).map trimB).flatten
def pairsP (xs : List ByteArray) : List (List UInt8) := pairsTo xs xs.length
theorem pairsTo_succ (xs : List ByteArray) (j : Nat) (h : j < xs.length) : pairsTo xs (j + 1) = pairsTo xs j ++ (parts 59 xs[j].data.toList).map trimB := by
  unfold pairsTo
  rw [List.take_add_one, List.getElem?_eq_getElem h, Option.toList_some, List.map_append, List.flatten_append, List.map_singleton, List.flatten_singleton]
theorem pairsTo_prefix (xs : List ByteArray) (j : Nat) : pairsTo xs j <+: pairsP xs := by
  unfold pairsP pairsTo
  rw [List.take_of_length_le (Nat.le_refl _)]
  conv => rhs; rw [← List.take_append_drop j xs]
  rw [List.map_append, List.flatten_append]
  exact List.prefix_append _ _
/-- The blocks for deferred calls that loops have laid. -/
def markD (D : Nat) : Deferred := { target := .collected D, args := #[] }
theorem grown_of_below {W W1 : World} (hb : Below W.heap.size W W1) : W.grownBy W1 none := ⟨hb.os, hb.tape, hb.output, hb.size, fun k hk _ => hb.block k hk⟩
theorem leaves_marksJ {fn : Func} {n : Nat} {tmps : Array Value} {R : Ending → World → Prop} {v : Value} {P : Program} (G : World → Prop) (hres : ∀ W, G W → (results fn tmps).run P W = .ok v W) (B : Nat)
    (hG : ∀ (W : World) (D : Nat) (o : Obj), G W → B ≤ D → G (W.putObj D o)) :
    ∀ (Ds : List Nat) (W : World), Ds.Nodup → (∀ D ∈ Ds, W.heap[D]? = some (.deferred (some []))) → (∀ D ∈ Ds, B ≤ D) → G W →
      (∀ W', G W' → R (.returned v) W') → LeavesInM Fence.wide n P fn tmps R (Ds.map markD) .returning W
  | [], W, _, _, _, hr, hR => ⟨v, hres W hr, hR W hr⟩
  | D :: r, W, hnd, hd, hB, hr, hR => by
    have hD := hd D (List.mem_cons_self)
    have hn := List.nodup_cons.1 hnd
    refine ⟨by simp, .inl ⟨D, _, rfl, run_takeDeferred hD, ?_⟩⟩
    refine leaves_marksJ G hres B hG r _ hn.2 (fun E hE => ?_) (fun E hE => hB E (List.mem_cons_of_mem _ hE)) (hG W D _ hr (hB D List.mem_cons_self)) hR
    rw [World.putObj_heap_other (fun e => hn.1 (by rw [← e]; exact hE))]
    exact hd E (List.mem_cons_of_mem _ hE)
/-- What a yield leaves as it was. -/
def KeepB (B : Nat) (W W' : World) : Prop := W.heap.size ≤ W'.heap.size ∧ ∀ b, B ≤ b → b < W.heap.size → W'.heap[b]? = W.heap[b]?
/-- What the loop holds between the rounds. -/
structure PairI (B : Nat) (yv : Value) (Ds : List Nat) (W : World) : Prop where
  box : Boxed W B 25 yv
  ds : ∀ D ∈ Ds, W.heap[D]? = some (.deferred (some []))
  dlo : ∀ D ∈ Ds, B < D
theorem PairI.grown {B : Nat} {yv : Value} {Ds : List Nat} {W W' : World} (h : PairI B yv Ds W) {row : Option Nat} (hg : W.grownBy W' row) (hr : ∀ r, row = some r → B < r ∧ r ∉ Ds) : PairI B yv Ds W' := by
  refine ⟨h.box.kept hg (fun e => ?_), fun D hD => ?_, h.dlo⟩
  · have := (hr _ e.symm).1; omega
  · have hd := h.ds D hD
    exact (hg.block D (Array.getElem?_eq_some_iff.1 hd).1 (fun e => (hr D e.symm).2 hD)).trans hd
theorem PairI.keep {B : Nat} {yv : Value} {Ds : List Nat} {W W' : World} (h : PairI B yv Ds W) (hk : KeepB B W W') : PairI B yv Ds W' := by
  refine ⟨(hk.2 B (Nat.le_refl _) h.box.lt).trans h.box, fun D hD => ?_, h.dlo⟩
  have hd := h.ds D hD
  exact (hk.2 D (Nat.le_of_lt (h.dlo D hD)) (Array.getElem?_eq_some_iff.1 hd).1).trans hd
set_option maxRecDepth 1000000 in
set_option maxHeartbeats 4000000 in
theorem pairs44 (n l bl : Nat) (a : Option Addr) (c : Nat) (xs : List ByteArray) (hsz : ∀ x ∈ xs, x.size ≤ 4000000000) (hlen : xs.length ≤ 1000000000) (J Jx : List (List UInt8) → World → Prop) (W0 : World)
    (hJ : ∀ pre A C row, J pre A → A.grownBy C row → (∀ r, row = some r → W0.heap.size ≤ r) → J pre C)
    (hJx : ∀ pre A C row, Jx pre A → A.grownBy C row → (∀ r, row = some r → W0.heap.size ≤ r) → Jx pre C)
    (hR : ∀ pre W, J pre W → MaxL W ∧ IsStrs W a c xs)
    (hY : ∀ m pre x W, J pre W → (pre ++ [x]) <+: pairsP xs → (x : List UInt8).length ≤ 4000000000 → YieldAt Fence.wide m Tryz.prog l #[.string ⟨x.toArray⟩] W fun e W' =>
      ∃ q, e = .returned (.bool q) ∧ (q = true → J (pre ++ [x]) W') ∧ (q = false → Jx (pre ++ [x]) W') ∧ KeepB W0.heap.size W W')
    (hc : W0.cell? ⟨bl, 0, none⟩ = some (.slice a xs.length c)) (h0 : J [] W0) :
    CallsIn Fence.wide n Tryz.prog 44 #[.func (.yield l) #[] #[], .pointer (some ⟨bl, 0, none⟩)] W0 fun e W' => (∃ v, e = .returned v) ∧ (J (pairsP xs) W' ∨ ∃ pre, Jx pre W') := by
  refine callsIn_of_wp_marks Tryz.func44 rfl trivial ?_ rfl
  simp only [Tryz.ntmps44, List.size_toArray, List.length_cons, List.length_nil, Nat.reduceAdd, Nat.reduceSub, Array.replicate_succ, Array.replicate_zero, List.push_toArray, List.append_toArray, List.nil_append, List.cons_append]
  have hblt := World.block_lt_of_cell? W0 _ hc
  have hc2 : (W0.alloc (.cells #[.func (.yield l) #[] #[]] 25)).cell? ⟨bl, 0, none⟩ = some (.slice a xs.length c) := by
    rw [(bcell (below_alloc W0 _)).1 _ _ hblt]; exact hc
  gi_wp2
  have A0 : Hid (PairI W0.heap.size (.func (.yield l) #[] #[]) [] (W0.alloc (.cells #[.func (.yield l) #[] #[]] 25))) :=
    ⟨Boxed.new W0 _ _, (fun D hD => by cases hD), (fun D hD => by cases hD)⟩
  have J0 : Hid (J (pairsTo xs 0) (W0.alloc (.cells #[.func (.yield l) #[] #[]] 25))) := hJ [] _ _ none h0 (grown_of_below (below_alloc W0 _)) (fun r e => by cases e)
  have HR := Lib.hid hR
  have HY := Lib.hid hY
  have HZ := Lib.hid hsz
  have HJ := Lib.hid hJ
  have HJX := Lib.hid hJx
  have hB0 : W0.heap.size < (W0.alloc (.cells #[.func (.yield l) #[] #[]] 25)).heap.size := by simp
  generalize W0.alloc (.cells #[.func (.yield l) #[] #[]] 25) = W1 at *
  clear hR hY hsz hc hc2 h0 hblt hJ hJx
  have n2 : ((0 : Nat) : Int) = 0 := rfl
  refine wpIn_loop (fun (act : Act) (W : World) => ∃ (j : Nat) (Ds : List Nat) (u4 u5 u9 u10 u11 u12 u13 u14 u15 u16 u17 u18 u19 u20 : Value),
      act = { tmps := #[.func (.yield l) #[] #[], .pointer (some ⟨bl, 0, none⟩), .pointer (some ⟨W0.heap.size, 0, none⟩), undef, u4, u5, .slice a xs.length c, .int .i64 (xs.length : Int), .int .i64 (j : Int), u9, u10, u11, u12, u13, u14, u15, u16, u17, u18, u19, u20], defers := Ds.map markD } ∧
      j ≤ xs.length ∧ Hid (PairI W0.heap.size (.func (.yield l) #[] #[]) Ds W) ∧ Hid (J (pairsTo xs j) W) ∧ Ds.Nodup) (fun act _ => xs.length - (intOf (act.tmps.getD 8 undef)).toNat) ?start ?round
  case start => exact ⟨0, [], undef, undef, undef, undef, undef, undef, undef, undef, undef, undef, undef, undef, undef, undef, rfl, Nat.zero_le _, A0, J0, List.nodup_nil⟩
  case round =>
    clear A0 J0
    rintro act W ⟨j, Ds, u4, u5, u9, u10, u11, u12, u13, u14, u15, u16, u17, u18, u19, u20, rfl, hj, hA, hJj, hnd⟩
    by_cases hlt : j < xs.length
    · obtain ⟨hmx, hxs⟩ := HR.out _ _ hJj.out
      obtain h0 | ⟨bk, o, rfl, hbk, hc, hcell⟩ := hxs
      · subst h0; simp at hlt
      · have cj := hcell j xs[j] (by simp [hlt])
        clear hcell
        have hb1 : W0.heap.size < W.heap.size := hA.out.box.lt
        have hsx := HZ.out xs[j] (List.getElem_mem hlt)
        have HSU := Lib.hid (pairsTo_succ xs j hlt)
        have HPF : Hid (∀ pre : List (List UInt8), pre <+: parts 59 xs[j].data.toList → (pairsTo xs j ++ pre.map trimB) <+: pairsP xs) := fun pre ⟨q, hq⟩ => by
          refine List.IsPrefix.trans ?_ (pairsTo_prefix xs (j + 1))
          rw [pairsTo_succ xs j hlt, ← hq, List.map_append, ← List.append_assoc]
          exact List.prefix_append _ _
        obtain ⟨x, hxe⟩ : ∃ x, x = xs[j] := ⟨_, rfl⟩
        rw [← hxe] at cj hsx HSU HPF
        clear hxe
        gi_wp2_with fail
        refine ⟨trivial, (fun h => by cases h), ?_⟩
        refine (callsIn_wide.2 (split68 x 59 W)).mono ?_
        rintro e W2 ⟨rfl, hbx, hb2, hsz2⟩
        have A2 : Hid (PairI W0.heap.size (.func (.yield l) #[] #[]) Ds W2) := hA.out.grown (grown_of_below hb2) (fun r e => by cases e)
        have J2 : Hid (J (pairsTo xs j) W2) := HJ.out _ _ _ none hJj.out (grown_of_below hb2) (fun r e => by cases e)
        have hdl : Hid (∀ D ∈ Ds, D < W.heap.size) := fun D hm => (Array.getElem?_eq_some_iff.1 (hA.out.ds _ hm)).1
        gi_wp2_with fail
        clear cj hA hJj
        refine range_split n W.heap.size 59 x (by omega) rfl hbx (by omega)
          (fun pre V => J (pairsTo xs j ++ pre.map trimB) V ∧ PairI W0.heap.size (.func (.yield l) #[] #[]) Ds V) (fun pre V => Jx (pairsTo xs j ++ pre.map trimB) V ∧ PairI W0.heap.size (.func (.yield l) #[] #[]) Ds V) ?minds ?mindx (fun pre V h => (HR.out _ _ h.1).1)
          ⟨by rw [List.map_nil, List.append_nil]; exact J2.out, A2.out⟩
          (fun y => { tmps := #[.func (.yield l) #[] #[], .pointer (some ⟨bl, 0, none⟩), .pointer (some ⟨W0.heap.size, 0, none⟩), undef, .string x, .string ⟨y.toArray⟩, .slice (some ⟨bk, o, none⟩) xs.length c, .int .i64 (xs.length : Int), .int .i64 (j : Int), .bool true, .pointer (some ⟨bk, o + j, none⟩), .string x, .string x, seqV W.heap.size, .string ⟨y.toArray⟩, u15, u16, u17, u18, u19, u20], defers := [] }) ?assign ?body ?done ?stop
        case minds =>
          rintro pre A C row ⟨hJ, hA⟩ hg hr
          refine ⟨HJ.out _ _ _ row hJ hg (fun r e => ?_), hA.grown hg (fun r e => ?_)⟩
          · rcases hr r e with rfl | ⟨h1, _⟩ <;> omega
          · rcases hr r e with rfl | ⟨h1, _⟩
            · exact ⟨hb1, fun hm => by have := hdl.out _ hm; omega⟩
            · exact ⟨by omega, fun hm => by have := hdl.out _ hm; omega⟩
        case mindx =>
          rintro pre A C row ⟨hJ, hA⟩ hg hr
          refine ⟨HJX.out _ _ _ row hJ hg (fun r e => ?_), hA.grown hg (fun r e => ?_)⟩
          · rcases hr r e with rfl | ⟨h1, _⟩ <;> omega
          · rcases hr r e with rfl | ⟨h1, _⟩
            · exact ⟨hb1, fun hm => by have := hdl.out _ hm; omega⟩
            · exact ⟨by omega, fun hm => by have := hdl.out _ hm; omega⟩
        case assign =>
          intro l y V K hK
          gi_wp2
          exact hK
        case body =>
          rintro l2 pre y V ⟨hJ, hA⟩ hVs hpl hpf hyl
          have HT := Lib.hid (trim46 y (by omega))
          have c2 := hA.box.cell
          have hbd : Below V.heap.size V V.drew := ⟨rfl, rfl, rfl, Nat.le_refl _, fun _ _ => rfl⟩
          have HC3 : Hid (∀ V2, Below V.drew.heap.size V.drew V2 → V2.cell? ⟨W0.heap.size, 0, none⟩ = some (.func (.yield l) #[] #[])) := fun V2 h => by
            rw [(bcell (hbd.trans h)).1 _ _ hA.box.lt]; exact c2
          have hml : (trimB y).length ≤ 4000000000 := Nat.le_trans (trimB_length y) (by omega)
          have hpf2 : ((pairsTo xs j ++ pre.map trimB) ++ [trimB y]) <+: pairsP xs := by
            have := HPF.out _ hpf
            rw [List.map_append, List.map_singleton, ← List.append_assoc] at this
            exact this
          have HFIN : Hid (∀ V2 W3, Below V.drew.heap.size V.drew V2 → KeepB W0.heap.size V2 W3 → KeepsFrom W2.heap.size V W3 ∧ (∀ b, W.heap.size ≤ b → b < W.heap.size + 3 → W3.heap[b]? = V.heap[b]?) ∧ PairI W0.heap.size (.func (.yield l) #[] #[]) Ds W3) := fun V2 W3 h hk => by
            have h2 := hbd.trans h
            have hz2 := h2.size
            refine ⟨⟨Nat.le_trans hz2 hk.1, fun k o hkk ho _ => ?_⟩, fun b h3 h4 => ?_, (hA.grown (grown_of_below h2) (fun r e => by cases e)).keep hk⟩
            · have hlt2 := (Array.getElem?_eq_some_iff.1 ho).1
              rw [hk.2 k (by omega) (by omega), h2.block k hlt2]; exact ho
            · rw [hk.2 b (by omega) (by omega), h2.block b (by omega)]
          have HYY : Hid (∀ V2, Below V.drew.heap.size V.drew V2 → YieldAt Fence.wide (n - 1 - 1 - 1) Tryz.prog l #[.string ⟨(trimB y).toArray⟩] V2 fun e W' => ∃ q, e = .returned (.bool q) ∧ (q = true → J ((pairsTo xs j ++ pre.map trimB) ++ [trimB y]) W') ∧ (q = false → Jx ((pairsTo xs j ++ pre.map trimB) ++ [trimB y]) W') ∧ KeepB W0.heap.size V2 W') := fun V2 h =>
            HY.out _ _ _ V2 (HJ.out _ _ _ none hJ (grown_of_below (hbd.trans h)) (fun r e => by cases e)) hpf2 hml
          have c2d : V.drew.cell? ⟨W0.heap.size, 0, none⟩ = some (.func (.yield l) #[] #[]) := HC3.out _ (Below.refl _ _)
          clear hpf2 hml
          have hmx : Tryz.prog.follows .mixedOrders = true := by kernel_rfl
          gi_wp2_with fail
          gi_region_with (first | (refine ⟨trivial, (fun h => by cases h), ((callsIn_wide.2 (HT.out _)).inRound l2).mono ?_⟩; rintro e V2 ⟨rfl, hbT⟩; have c3 := HC3.out _ hbT; obtain ⟨fn, tmps, assign, body, hy, hRd⟩ := HYY.out V2 hbT) | (refine ⟨(fun h => by cases h), hRd.mono ?_⟩; rintro e W3 ⟨q, rfl, hE⟩))
          all_goals
            obtain ⟨hq1, hq2, hkp⟩ := hE
            obtain ⟨f1, f2, f3⟩ := HFIN.out _ _ hbT hkp
            cases q
            · have f4 := hq2 rfl
              clear hq1 hq2
              gi_wp2
              exact ⟨f1, by rw [List.map_append, List.map_singleton, ← List.append_assoc]; exact f4, f3⟩
            · have f4 := hq1 rfl
              clear hq1 hq2
              gi_wp2
              exact ⟨f1, f2, by rw [List.map_append, List.map_singleton, ← List.append_assoc]; exact f4, f3⟩
        case done =>
          rintro V ⟨hJ, hA⟩ hD hVs
          rw [← HSU.out] at hJ
          have j1 : (j : Int) < 9223372036854775807 := by omega
          gi_wp2_with fail
          refine ⟨⟨j + 1, W2.heap.size :: Ds, _, _, _, _, _, _, _, _, _, _, _, _, _, _, by first | rfl | (rw [show (((j + 1 : Nat)) : Int) = (j : Int) + 1 by omega]; rfl), hlt, ⟨hA.box, ?_, ?_⟩, hJ, ?_⟩, ?_⟩
          · intro D hDm
            rcases List.mem_cons.1 hDm with rfl | hm
            · exact hD
            · exact hA.ds D hm
          · intro D hDm
            rcases List.mem_cons.1 hDm with rfl | hm
            · omega
            · exact hA.dlo D hm
          · exact List.nodup_cons.2 ⟨fun hm => by have := hdl.out _ hm; omega, hnd⟩
          · simp [intOf]; omega
        case stop =>
          rintro pre V ⟨hJ, hA⟩ hD hVs
          gi_wp2_with fail
          exact leaves_marksJ (fn := Tryz.f44) (v := .tuple #[]) (fun W' => ∃ pre, Jx pre W') (fun V _ => results_none rfl _ _ V) W0.heap.size (fun W D o ⟨p, hp⟩ hB => ⟨p, HJX.out _ _ _ (some D) hp (grownBy_putObj' W D o) (fun r e => by injection e with e; omega)⟩)
            (W2.heap.size :: Ds) V (List.nodup_cons.2 ⟨fun hm => by have := hdl.out _ hm; omega, hnd⟩) (fun D hDm => by
              rcases List.mem_cons.1 hDm with rfl | hm
              · exact hD
              · exact hA.ds D hm) (fun D hDm => by
              rcases List.mem_cons.1 hDm with rfl | hm
              · omega
              · exact Nat.le_of_lt (hA.dlo D hm)) ⟨_, hJ⟩ (fun W' h => ⟨⟨_, rfl⟩, .inr h⟩)
    · obtain rfl : j = xs.length := by omega
      gi_wp2_with fail
      exact leaves_marksJ (fn := Tryz.f44) (v := .tuple #[]) (fun W' => J (pairsP xs) W') (fun V _ => results_none rfl _ _ V) W0.heap.size (fun W D o hp hB => HJ.out _ _ _ (some D) hp (grownBy_putObj' W D o) (fun r e => by injection e with e; omega))
        Ds W hnd hA.out.ds (fun D hD => Nat.le_of_lt (hA.out.dlo D hD)) hJj.out (fun W' h => ⟨⟨_, rfl⟩, .inl h⟩)
end Go.Proofs.YtllmlngfmcbaaaaGreatDoor

namespace Go.Proofs.YtllmlngfmcbaaaaGreatDoor
open Go.RowKit

attribute [local go_sem] Oper.semAt_some

/-- The iterator's value. -/
def pairsV (bl : Nat) : Value := .func (.func 44) #[] #[.pointer (some ⟨bl, 0, none⟩)]
set_option maxHeartbeats 1000000 in
theorem pairs32 (a : Option Addr) (n c : Nat) (w : World) :
    Calls Tryz.prog 32 #[.slice a n c] w fun e w' => e = .returned (pairsV w.heap.size) ∧ w'.cell? ⟨w.heap.size, 0, none⟩ = some (.slice a n c) ∧ Below w.heap.size w w' ∧ w'.heap.size = w.heap.size + 1 := by
  have hbl := below_alloc w (.cells #[.slice a n c] 35)
  have HBL := Lib.hid hbl
  clear hbl
  go_enter Tryz.func32, Tryz.ntmps32
  go_wp2_with fail
  go_ret
  exact ⟨rfl, by simp, HBL.out, by simp⟩

/-- How a round's body may be left. -/
def roundEndP (B : Nat) (I Ix : List (List UInt8) → World → Prop) (xs : List (List UInt8)) (W : World) : Exit → Act → World → Prop
  | .normal, _, W' => KeepsFrom B W W' ∧ KeepB (B + 2) W W' ∧ I xs W'
  | .ret, _, W' => KeepsFrom B W W' ∧ KeepB (B + 2) W W' ∧ Ix xs W'
  | .exit _, _, _ => False
  | .goto _, _, _ => False
  | .panic _, _, _ => False
  | .outgrown, _, _ => False
/-- What is not turned by the blocks from B on. -/
def MindsP (B : Nat) (I : List (List UInt8) → World → Prop) : Prop := ∀ pre A C row, I pre A → A.grownBy C row → (∀ r, row = some r → B ≤ r) → I pre C
theorem MindsP.put {B : Nat} {I : List (List UInt8) → World → Prop} (hI : MindsP B I) {pre : List (List UInt8)} {W : World} {l : Nat} (o' : Obj) (hi : I pre W) (hB : B ≤ l) : I pre (W.putObj l o') :=
  hI pre W _ (some l) hi (grownBy_putObj' W l o') (fun r e => by injection e with e; subst e; exact hB)
theorem MindsP.new {B : Nat} {I : List (List UInt8) → World → Prop} (hI : MindsP B I) {pre : List (List UInt8)} {W : World} (o : Obj) (hi : I pre W) : I pre (W.alloc o) :=
  hI pre W _ none hi (World.grownBy_alloc W o none) (fun r e => by cases e)

set_option maxHeartbeats 2000000 in
/-- **A loop over token.pairs.** -/
theorem range_pairs {g : Operand} {p : Tmp} {assign body : Code} {Q : Exit → Act → World → Prop} {a : Act} {w : World} (n bl : Nat) (aa : Option Addr) (c : Nat) (xs : List ByteArray) (hsz : ∀ x ∈ xs, x.size ≤ 4000000000) (hlen : xs.length ≤ 1000000000)
    (hg : a.eval g = pairsV bl) (hc : w.cell? ⟨bl, 0, none⟩ = some (.slice aa xs.length c))
    (I Ix : List (List UInt8) → World → Prop) (hI : MindsP w.heap.size I) (hIx : MindsP w.heap.size Ix) (hR : ∀ pre W, I pre W → MaxL W ∧ IsStrs W aa c xs) (h0 : I [] w) (a₁ : List UInt8 → Act)
    (hassign : ∀ (m l : Nat) (x : List UInt8) (W : World) (K : Act → World → Prop), K (a₁ x) W →
      assign.wpIn (Fence.wide.inRound l) m Tryz.prog (Exit.then K (fun _ _ _ => False)) { tmps := a.tmps.setIfInBounds p (.string ⟨x.toArray⟩), defers := [] } W)
    (hbody : ∀ (m l : Nat) (pre : List (List UInt8)) (x : List UInt8) (W : World), I pre W → w.heap.size + 2 ≤ W.heap.size → (pre ++ [x]) <+: pairsP xs → x.length ≤ 4000000000 →
      body.wpIn (Fence.wide.inRound l) m Tryz.prog (roundEndP w.heap.size I Ix (pre ++ [x]) W) (a₁ x) W)
    (hdone : ∀ (W : World), I (pairsP xs) W → W.heap[w.heap.size]? = some (.deferred (some [])) → w.heap.size + 2 ≤ W.heap.size → Q .normal { a with defers := { target := .collected w.heap.size, args := #[] } :: a.defers } W)
    (hstop : ∀ (pre : List (List UInt8)) (W : World), Ix pre W → W.heap[w.heap.size]? = some (.deferred (some [])) → w.heap.size + 2 ≤ W.heap.size → Code.ret.wpIn Fence.wide n Tryz.prog Q { a with defers := { target := .collected w.heap.size, args := #[] } :: a.defers } W) :
    (Code.rangeFunc g #[p] assign body).wpIn Fence.wide n Tryz.prog Q a w := by
  refine wpIn_rangeFunc fun fn hfn => ?_
  obtain ⟨mk, hmk⟩ : ∃ mk : LoopState → Option Code → Loop, mk = fun st j => { state := st, pending := j, fn, tmps := a.tmps, params := #[p], assign, body, defers := w.heap.size } := ⟨_, rfl⟩
  obtain ⟨L, hL⟩ : ∃ L, L = w.heap.size + 1 := ⟨_, rfl⟩
  obtain ⟨W1, hW1⟩ : ∃ W1, W1 = (w.alloc (.deferred (some []))).alloc (.loop (mk .ready none)) := ⟨_, rfl⟩
  have hsz1 : W1.heap.size = w.heap.size + 2 := by rw [hW1]; simp
  have r1 : W1.heap[L]? = some (.loop (mk .ready none)) := by
    rw [hW1, hL]
    have := World.alloc_heap_new (w.alloc (.deferred (some []))) (.loop (mk .ready none))
    rwa [World.size_alloc] at this
  have k1 : W1.heap[w.heap.size]? = some (.deferred (some [])) := by
    rw [hW1]
    exact (Below.heap_alloc _ _ _ (by simp)).trans (World.alloc_heap_new w _)
  have i1 : I [] W1 := by rw [hW1]; exact hI.new _ (hI.new _ h0)
  have c1 : W1.cell? ⟨bl, 0, none⟩ = some (.slice aa xs.length c) := by
    have hblt := World.block_lt_of_cell? w _ hc
    have hbw : Below w.heap.size w W1 := by rw [hW1]; exact (below_alloc w _).trans ((below_alloc _ _).mono (by simp))
    rw [(bcell hbw).1 _ _ hblt]; exact hc
  refine ⟨L, [{ target := .collected w.heap.size, args := #[] }], W1, { target := .fn (.func 44) #[.pointer (some ⟨bl, 0, none⟩)], args := #[.func (.yield L) #[] #[]] }, W1, 44,
    #[.func (.yield L) #[] #[], .pointer (some ⟨bl, 0, none⟩)], W1, ?_, ?_, fun _ _ => trivial, ?_, (fun e => by cases e), ?_⟩
  · rw [hW1, hL, hmk]; exact run_enterLoop_outer _ _ _ _ _
  · unfold pairsV at hg
    simp only [resolve, hg]
    simp [go_sem]
  · have eg : ∀ args w, (callFunc 44 args).run Tryz.prog w = .ok (.enter 44 args) w := enters_of Tryz.func44 (by kernel_rfl) rfl
    simp [invoke, go_sem, eg]
  · have fin : ∀ (jump : Option Code) (W W3 : World), W.heap[L]? = some (.loop (mk .ready none)) → W.heap[w.heap.size]? = some (.deferred (some [])) → KeepsFrom w.heap.size (W.putObj L (.loop (mk .busy none))) W3 →
        (Instr.endRound L jump).run Tryz.prog W3 = .ok (.bool jump.isNone) (W3.putObj L (.loop (mk (if jump.isNone then .ready else .done) jump))) ∧ W3.heap[L]? = some (.loop (mk .busy none)) ∧
        (W3.putObj L (.loop (mk (if jump.isNone then .ready else .done) jump))).heap[L]? = some (.loop (mk (if jump.isNone then .ready else .done) jump)) ∧
        (W3.putObj L (.loop (mk (if jump.isNone then .ready else .done) jump))).heap[w.heap.size]? = some (.deferred (some [])) := by
      intro jump W W3 hl hk hkp
      have hlt := (Array.getElem?_eq_some_iff.1 hl).1
      have hl3 := hkp.same L _ (by omega) (World.putObj_heap_same hlt) rfl
      have hk3 := hkp.same w.heap.size _ (Nat.le_refl _) ((World.putObj_heap_other (by omega)).trans hk) rfl
      have hrun := run_endRound (P := Tryz.prog) jump hl3
      refine ⟨?_, hl3, World.putObj_heap_same (Array.getElem?_eq_some_iff.1 hl3).1, (World.putObj_heap_other (by omega)).trans hk3⟩
      rw [hrun, hmk]
    have kp : ∀ (W W3 : World) (o o' : Obj), KeepB (w.heap.size + 2) (W.putObj L o) W3 → KeepB W1.heap.size W (W3.putObj L o') := by
      intro W W3 o o' ⟨h1, h2⟩
      rw [World.putObj_size] at h1
      refine ⟨by rw [World.putObj_size]; exact h1, fun b hb1 hb2 => ?_⟩
      rw [World.putObj_heap_other (by omega), h2 b (by omega) (by rw [World.putObj_size]; exact hb2), World.putObj_heap_other (by omega)]
    refine (pairs44 (n - 1) L bl aa c xs hsz hlen
      (fun pre W => I pre W ∧ W.heap[L]? = some (.loop (mk .ready none)) ∧ W.heap[w.heap.size]? = some (.deferred (some [])))
      (fun pre W => Ix pre W ∧ W.heap[L]? = some (.loop (mk .done (some .ret))) ∧ W.heap[w.heap.size]? = some (.deferred (some []))) W1
      (fun pre A C row ⟨hi, hl, hk⟩ hgr hr => ⟨hI pre A C row hi hgr (fun r e => by have := hr r e; omega), (hgr.block L (Array.getElem?_eq_some_iff.1 hl).1 (fun e => by have := hr _ e.symm; omega)).trans hl, (hgr.block w.heap.size (Array.getElem?_eq_some_iff.1 hk).1 (fun e => by have := hr _ e.symm; omega)).trans hk⟩)
      (fun pre A C row ⟨hi, hl, hk⟩ hgr hr => ⟨hIx pre A C row hi hgr (fun r e => by have := hr r e; omega), (hgr.block L (Array.getElem?_eq_some_iff.1 hl).1 (fun e => by have := hr _ e.symm; omega)).trans hl, (hgr.block w.heap.size (Array.getElem?_eq_some_iff.1 hk).1 (fun e => by have := hr _ e.symm; omega)).trans hk⟩)
      (fun pre W hj => hR pre W hj.1) ?_ c1 ⟨i1, r1, k1⟩).mono ?_
    · rintro m pre x W ⟨hi, hl, hk⟩ hpf hxl
      have hlt := (Array.getElem?_eq_some_iff.1 hl).1
      have hy := run_yield (P := Tryz.prog) (args := #[.string ⟨x.toArray⟩]) hl (by rw [hmk]; rfl)
      have hfn2 : (mk .ready none).fn = fn := by rw [hmk]
      have has : (mk .ready none).assign = assign := by rw [hmk]
      have hbo : (mk .ready none).body = body := by rw [hmk]
      have htm : ((mk .ready none).params.zip #[.string ⟨x.toArray⟩]).foldl (fun tmps (t, v) => tmps.setIfInBounds t v) (mk .ready none).tmps = a.tmps.setIfInBounds p (.string ⟨x.toArray⟩) := by rw [hmk]; simp
      rw [hfn2, has, hbo, htm] at hy
      have hbusy : ({ mk .ready none with state := .busy } : Loop) = mk .busy none := by rw [hmk]
      refine ⟨fn, _, assign, body, hy, roundIn_of_wpIn hfn (hassign m L x W _ ⟨_, run_beginRound hl (by rw [hmk]), ?_⟩)⟩
      rw [hbusy]
      refine wpIn_mono (hbody m L pre x _ (hI.put _ hi (by omega)) (by rw [World.putObj_size]; omega) hpf hxl) ?_
      rintro e a3 W3 hp
      cases e with
      | normal =>
        obtain ⟨hk3, hkb, hi3⟩ := hp
        obtain ⟨hr, hl3, hl4, hk4⟩ := fin none W W3 hl hk hk3
        exact ⟨_, _, hr, true, rfl, fun _ => ⟨hI.put _ hi3 (by omega), hl4, hk4⟩, (fun e => by cases e), kp _ _ _ _ hkb⟩
      | ret =>
        obtain ⟨hk3, hkb, hi3⟩ := hp
        obtain ⟨hr, hl3, hl4, hk4⟩ := fin (some .ret) W W3 hl hk hk3
        exact ⟨_, _, hr, false, rfl, (fun e => by cases e), fun _ => ⟨hIx.put _ hi3 (by omega), hl4, hk4⟩, kp _ _ _ _ hkb⟩
      | exit id => exact hp.elim
      | goto t => exact hp.elim
      | panic ch => exact hp.elim
      | outgrown => exact hp.elim
    · rintro e W2 ⟨⟨v, rfl⟩, (⟨hi, hl, hk⟩ | ⟨pre, hi, hl, hk⟩)⟩
      · have hlt := (Array.getElem?_eq_some_iff.1 hl).1
        have hrun := run_endLoop (P := Tryz.prog) hl (by rw [hmk]; simp)
        exact ⟨none, _, by rw [hrun, hmk], hdone _ (hI.put _ hi (by omega)) ((World.putObj_heap_other (by omega)).trans hk) (by rw [World.putObj_size]; omega)⟩
      · have hlt := (Array.getElem?_eq_some_iff.1 hl).1
        have hrun := run_endLoop (P := Tryz.prog) hl (by rw [hmk]; simp)
        exact ⟨some .ret, _, by rw [hrun, hmk], hstop pre _ (hIx.put _ hi (by omega)) ((World.putObj_heap_other (by omega)).trans hk) (by rw [World.putObj_size]; omega)⟩
end Go.Proofs.YtllmlngfmcbaaaaGreatDoor

namespace Go.Proofs.YtllmlngfmcbaaaaGreatDoor
open Go.RowKit

attribute [local go_sem] Oper.semAt_some

/-- The rest behind the first start. -/
def findL (st : List UInt8) : List (List UInt8) → Option (List UInt8)
  | [] => none
  | p :: r => if Lib.hasPrefix p st = true then some (Lib.trimPrefix p st) else findL st r
theorem findL_none (st : List UInt8) : ∀ l : List (List UInt8), (∀ p ∈ l, Lib.hasPrefix p st = false) → findL st l = none
  | [], _ => rfl
  | p :: r, h => by
    rw [findL, if_neg (by rw [h p List.mem_cons_self]; simp)]
    exact findL_none st r (fun q hq => h q (List.mem_cons_of_mem _ hq))
theorem findL_at (st x : List UInt8) (hx : Lib.hasPrefix x st = true) (q : List (List UInt8)) : ∀ l : List (List UInt8), (∀ p ∈ l, Lib.hasPrefix p st = false) → findL st (l ++ x :: q) = some (Lib.trimPrefix x st)
  | [], _ => by rw [List.nil_append, findL, if_pos hx]
  | p :: r, h => by
    rw [List.cons_append, findL, if_neg (by rw [h p List.mem_cons_self]; simp)]
    exact findL_at st x hx q r (fun q hq => h q (List.mem_cons_of_mem _ hq))
def findV (o : Option (List UInt8)) : Value := match o with
  | some v => .tuple #[.string ⟨v.toArray⟩, .bool true]
  | none => .tuple #[.string ⟨#[]⟩, .bool false]
theorem results_cells2 {fn : Func} {p q : Tmp} {t u : TypeId} (h : fn.results = #[.cell p t, .cell q u]) (tmps : Array Value) (P : Program) (w : World) :
    (results fn tmps).run P w =
      ((asAddr (tmps.getD p undef)).run P w).andThen fun a w₁ => ((loadVar t a).run P w₁).andThen fun v w₂ => ((asAddr (tmps.getD q undef)).run P w₂).andThen fun b w₃ => ((loadVar u b).run P w₃).andThen fun x w₄ => .ok (.tuple #[v, x]) w₄ := by
  simp only [results, h]
  simp [Sem.run_bind, Result.andThen]
theorem cut33 (x st : List UInt8) (w : World) :
    Calls Tryz.prog 33 #[.string ⟨x.toArray⟩, .string ⟨st.toArray⟩] w fun e w' => e = .returned (.tuple #[.string ⟨(Lib.trimPrefix x st).toArray⟩, .bool (Lib.hasPrefix x st)]) ∧ w = w' :=
  (Tryz.strings_CutPrefix ⟨x.toArray⟩ ⟨st.toArray⟩ w).mono fun _ _ ⟨h1, h2⟩ => ⟨h1, h2.symm⟩
theorem results_find (tmps : Array Value) (B : Nat) (h4 : tmps.getD 4 undef = .pointer (some ⟨B, 0, none⟩)) (h5 : tmps.getD 5 undef = .pointer (some ⟨B + 1, 0, none⟩)) (v : ByteArray) (q : Bool) (W : World)
    (b1 : Boxed W B 9 (.string v)) (b2 : Boxed W (B + 1) 4 (.bool q)) : (results Tryz.f18 tmps).run Tryz.prog W = .ok (.tuple #[.string v, .bool q]) W := by
  rw [results_cells2 (p := 4) (q := 5) (t := 9) (u := 4) rfl, h4, h5]
  have c1 := b1.cell
  have c2 := b2.cell
  simp [go_sem, asAddr, c1, c2]

/-- What Find holds. -/
structure FindI (w W : World) (st v : ByteArray) (q : Bool) : Prop where
  b1 : Boxed W w.heap.size 9 (.string v)
  b2 : Boxed W (w.heap.size + 1) 4 (.bool q)
  b3 : Boxed W (w.heap.size + 1 + 1) 9 (.string st)
  bel : Below w.heap.size w W
theorem FindI.grown {w W W' : World} {st v : ByteArray} {q : Bool} (h : FindI w W st v q) {row : Option Nat} (hg : W.grownBy W' row) (hr : ∀ r, row = some r → w.heap.size + 3 ≤ r) : FindI w W' st v q :=
  ⟨h.b1.kept hg (fun e => by have := hr _ e.symm; omega), h.b2.kept hg (fun e => by have := hr _ e.symm; omega), h.b3.kept hg (fun e => by have := hr _ e.symm; omega), h.bel.grown hg h.bel.size (fun k e => by have := hr k e; omega)⟩
set_option maxRecDepth 1000000 in
set_option maxHeartbeats 4000000 in
theorem find18 (a : Option Addr) (c : Nat) (xs : List ByteArray) (name : ByteArray) (hsz : ∀ x ∈ xs, x.size ≤ 4000000000) (hlen : xs.length ≤ 1000000000) (hn : name.size ≤ 1000000) (w : World) (hx : IsStrs w a c xs) (hM : MaxL w) :
    CallsIn Fence.wide 3 Tryz.prog 18 #[.slice a xs.length c, .string name] w fun e w' => e = .returned (findV (findL (name.data.toList ++ [61]) (pairsP xs))) ∧ Below w.heap.size w w' := by
  obtain ⟨R, hR⟩ : ∃ R, R = findL (name.data.toList ++ [61]) (pairsP xs) := ⟨_, rfl⟩
  rw [← hR]
  have HR := Lib.hid hR
  clear hR
  obtain ⟨st, hst⟩ : ∃ st : List UInt8, st = name.data.toList ++ [61] := ⟨_, rfl⟩
  have hse : name ++ ⟨#[61]⟩ = ⟨st.toArray⟩ := by
    have : (name ++ ⟨#[61]⟩).data.toList = st := by rw [hst]; simp
    exact str_eq _ _ this
  rw [← hst] at HR
  clear hst
  have HS := Lib.hid hse
  clear hse
  have j1 : (name.size : Int) ≤ 1000000 := by omega
  refine callsIn_of_wp_marks Tryz.func18 rfl trivial ?_ rfl
  simp only [Tryz.ntmps18, List.size_toArray, List.length_cons, List.length_nil, Nat.reduceAdd, Nat.reduceSub, Array.replicate_succ, Array.replicate_zero, List.push_toArray, List.append_toArray, List.nil_append, List.cons_append]
  gi_wp2
  have F0 : FindI w (((w.alloc (.cells #[.string ⟨#[]⟩] 9)).alloc (.cells #[.bool false] 4)).alloc (.cells #[.string (name ++ ⟨#[61]⟩)] 9)) (name ++ ⟨#[61]⟩) ⟨#[]⟩ false := by
    refine ⟨((Boxed.new w _ _).alloc _).alloc _, ?_, ?_, (below_alloc w _).trans (((below_alloc _ _).mono (by simp)).trans ((below_alloc _ _).mono (by simp; omega)))⟩
    · have := (Boxed.new (w.alloc (.cells #[.string ⟨#[]⟩] 9)) 4 (.bool false)).alloc (.cells #[.string (name ++ ⟨#[61]⟩)] 9)
      rw [World.size_alloc] at this
      exact this
    · have := Boxed.new ((w.alloc (.cells #[.string ⟨#[]⟩] 9)).alloc (.cells #[.bool false] 4)) 9 (.string (name ++ ⟨#[61]⟩))
      rw [World.size_alloc, World.size_alloc] at this
      exact this
  rw [HS.out] at F0 ⊢
  generalize ((w.alloc (.cells #[.string ⟨#[]⟩] 9)).alloc (.cells #[.bool false] 4)).alloc (.cells #[.string ⟨st.toArray⟩] 9) = w0 at *
  have hz0 : w.heap.size + 1 + 1 < w0.heap.size := F0.b3.lt
  refine ⟨trivial, (callsIn_wide.2 (pairs32 a xs.length c w0)).mono ?_⟩
  rintro e w1 ⟨rfl, hc1, hb1, hz1⟩
  have F1 := F0.grown (grown_of_below hb1) (fun r e => by cases e)
  have HX := Lib.hid hx
  have HM := Lib.hid hM
  clear hx hM F0
  gi_wp2_with fail
  refine range_pairs 3 w0.heap.size a c xs hsz hlen rfl hc1
    (fun pre V => FindI w V ⟨st.toArray⟩ ⟨#[]⟩ false ∧ ∀ p ∈ pre, Lib.hasPrefix p st = false)
    (fun pre V => ∃ v : List UInt8, R = some v ∧ FindI w V ⟨st.toArray⟩ ⟨v.toArray⟩ true)
    (fun pre A C row ⟨h1, h2⟩ hg hr => ⟨h1.grown hg (fun r e => by have := hr r e; omega), h2⟩) (fun pre A C row ⟨v, h1, h2⟩ hg hr => ⟨v, h1, h2.grown hg (fun r e => by have := hr r e; omega)⟩)
    (fun pre V h => ⟨HM.out.below h.1.bel, HX.out.below h.1.bel⟩) ⟨F1, fun p hp => by cases hp⟩
    (fun y => { tmps := #[.slice a xs.length c, .string name, undef, undef, .pointer (some ⟨w.heap.size, 0, none⟩), .pointer (some ⟨w.heap.size + 1, 0, none⟩), .pointer (some ⟨w.heap.size + 1 + 1, 0, none⟩), .string ⟨y.toArray⟩, undef, undef, .string name, .string ⟨st.toArray⟩, .slice a xs.length c, pairsV w0.heap.size, .string ⟨y.toArray⟩, undef, undef, undef, undef, undef, undef, undef, undef], defers := [] }) ?assign ?body ?done ?stop
  case assign =>
    intro m l y V K hK
    gi_wp2
    exact hK
  case body =>
    rintro m l pre y V ⟨hF, hno⟩ hVs hpf hyl
    have HC := Lib.hid (cut33 y st)
    have c3 := hF.b3.cell
    obtain ⟨q, hq⟩ : ∃ q, q = Lib.hasPrefix y st := ⟨_, rfl⟩
    rw [← hq] at HC
    have HQ := Lib.hid hq
    have HPF := Lib.hid hpf
    clear hq hpf
    obtain ⟨v, hv⟩ : ∃ v, v = Lib.trimPrefix y st := ⟨_, rfl⟩
    rw [← hv] at HC
    have HV := Lib.hid hv
    clear hv
    cases q
    · gi_wp2_with fail
      refine ⟨trivial, (fun h => by cases h), ((callsIn_wide.2 (HC.out V)).inRound l).mono ?_⟩
      rintro e V2 ⟨rfl, rfl⟩
      gi_wp2_with fail
      refine ⟨KeepsFrom.refl _ _, ⟨Nat.le_refl _, fun _ _ _ => rfl⟩, hF, fun p hp => ?_⟩
      rcases List.mem_append.1 hp with h | h
      · exact hno p h
      · rw [List.mem_singleton] at h; subst h; exact HQ.out.symm
    · have d1 := hF.b1.cell
      have d2 := hF.b1.frozen
      have B1 := hF.b1.set (.string ⟨v.toArray⟩)
      have B2 : Boxed (V.setCell ⟨w.heap.size, 0, none⟩ (.string ⟨v.toArray⟩)) (w.heap.size + 1) 4 (.bool false) := hF.b2.kept (grownBy_setCell' V w.heap.size _) (fun e => by injection e with e; omega)
      have B3 : Boxed (V.setCell ⟨w.heap.size, 0, none⟩ (.string ⟨v.toArray⟩)) (w.heap.size + 1 + 1) 9 (.string ⟨st.toArray⟩) := hF.b3.kept (grownBy_setCell' V w.heap.size _) (fun e => by injection e with e; omega)
      have d3 := B2.cell
      have d4 := B2.frozen
      have F2 : FindI w ((V.setCell ⟨w.heap.size, 0, none⟩ (.string ⟨v.toArray⟩)).setCell ⟨w.heap.size + 1, 0, none⟩ (.bool true)) ⟨st.toArray⟩ ⟨v.toArray⟩ true :=
        ⟨B1.kept (grownBy_setCell' _ (w.heap.size + 1) _) (fun e => by injection e with e; omega), B2.set _, B3.kept (grownBy_setCell' _ (w.heap.size + 1) _) (fun e => by injection e with e; omega),
          (hF.bel.grown (grownBy_setCell' V w.heap.size _) hF.bel.size (fun k e => by injection e with e; omega)).grown (grownBy_setCell' _ (w.heap.size + 1) _) (by rw [World.size_setCell]; exact hF.bel.size) (fun k e => by injection e with e; omega)⟩
      have HF2 := Lib.hid F2
      clear F2 B1 B2 B3
      gi_wp2_with fail
      refine ⟨trivial, (fun h => by cases h), ((callsIn_wide.2 (HC.out V)).inRound l).mono ?_⟩
      rintro e V2 ⟨rfl, rfl⟩
      gi_wp2_with fail
      refine ⟨((KeepsOthers.setCell _ _ _).trans (KeepsOthers.setCell _ _ _)).from _, ⟨by rw [World.size_setCell, World.size_setCell]; exact Nat.le_refl _, fun b h1 h2 => ?_⟩, v, ?_, HF2.out⟩
      · rw [Below.heap_setCell _ ⟨w.heap.size + 1, 0, none⟩ _ b (by show b ≠ w.heap.size + 1; omega), Below.heap_setCell _ ⟨w.heap.size, 0, none⟩ _ b (by show b ≠ w.heap.size; omega)]
      · obtain ⟨t, ht⟩ := HPF.out
        rw [HR.out, ← ht, List.append_assoc, List.singleton_append, findL_at st y HQ.out.symm t pre hno, HV.out]
  case done =>
    rintro V ⟨hF, hno⟩ hD hVs
    have hRn : Hid (R = none) := HR.out.trans (findL_none st _ hno)
    have d1 := hF.b1.cell
    have d2 := hF.b1.frozen
    have B1 := hF.b1.set (.string ⟨#[]⟩)
    have B2 : Boxed (V.setCell ⟨w.heap.size, 0, none⟩ (.string ⟨#[]⟩)) (w.heap.size + 1) 4 (.bool false) := hF.b2.kept (grownBy_setCell' V w.heap.size _) (fun e => by injection e with e; omega)
    have B3 : Boxed (V.setCell ⟨w.heap.size, 0, none⟩ (.string ⟨#[]⟩)) (w.heap.size + 1 + 1) 9 (.string ⟨st.toArray⟩) := hF.b3.kept (grownBy_setCell' V w.heap.size _) (fun e => by injection e with e; omega)
    have d3 := B2.cell
    have d4 := B2.frozen
    have F2 : FindI w ((V.setCell ⟨w.heap.size, 0, none⟩ (.string ⟨#[]⟩)).setCell ⟨w.heap.size + 1, 0, none⟩ (.bool false)) ⟨st.toArray⟩ ⟨#[]⟩ false :=
      ⟨B1.kept (grownBy_setCell' _ (w.heap.size + 1) _) (fun e => by injection e with e; omega), B2.set _, B3.kept (grownBy_setCell' _ (w.heap.size + 1) _) (fun e => by injection e with e; omega),
        (hF.bel.grown (grownBy_setCell' V w.heap.size _) hF.bel.size (fun k e => by injection e with e; omega)).grown (grownBy_setCell' _ (w.heap.size + 1) _) (by rw [World.size_setCell]; exact hF.bel.size) (fun k e => by injection e with e; omega)⟩
    have HF2 := Lib.hid F2
    have HD2 : Hid (((V.setCell ⟨w.heap.size, 0, none⟩ (.string ⟨#[]⟩)).setCell ⟨w.heap.size + 1, 0, none⟩ (.bool false)).heap[w1.heap.size]? = some (.deferred (some []))) := by
      show _ = _
      rw [Below.heap_setCell _ ⟨w.heap.size + 1, 0, none⟩ _ _ (by show _ ≠ w.heap.size + 1; omega), Below.heap_setCell _ ⟨w.heap.size, 0, none⟩ _ _ (by show _ ≠ w.heap.size; omega)]
      exact hD
    clear F2 B1 B2 B3
    gi_wp2_with fail
    exact leaves_marksJ (fn := Tryz.f18) (v := .tuple #[.string ⟨#[]⟩, .bool false]) (fun W' => FindI w W' ⟨st.toArray⟩ ⟨#[]⟩ false) (fun W' h => results_find _ w.heap.size rfl rfl _ _ W' h.b1 h.b2) w1.heap.size (fun W' D o h hB => h.grown (grownBy_putObj' W' D o) (fun r e => by injection e with e; omega))
      [w1.heap.size] _ (List.nodup_cons.2 ⟨List.not_mem_nil, List.nodup_nil⟩) (fun D hm => by rw [List.mem_singleton] at hm; subst hm; exact HD2.out) (fun D hm => by rw [List.mem_singleton] at hm; subst hm; exact Nat.le_refl _) HF2.out (fun W' h => ⟨by rw [hRn.out]; rfl, h.bel⟩)
  case stop =>
    rintro pre V ⟨v, hv, hF⟩ hD hVs
    gi_wp2_with fail
    exact leaves_marksJ (fn := Tryz.f18) (v := .tuple #[.string ⟨v.toArray⟩, .bool true]) (fun W' => FindI w W' ⟨st.toArray⟩ ⟨v.toArray⟩ true) (fun W' h => results_find _ w.heap.size rfl rfl _ _ W' h.b1 h.b2) w1.heap.size (fun W' D o h hB => h.grown (grownBy_putObj' W' D o) (fun r e => by injection e with e; omega))
      [w1.heap.size] _ (List.nodup_cons.2 ⟨List.not_mem_nil, List.nodup_nil⟩) (fun D hm => by rw [List.mem_singleton] at hm; subst hm; exact hD) (fun D hm => by rw [List.mem_singleton] at hm; subst hm; exact Nat.le_refl _) hF (fun W' h => ⟨by rw [hv]; rfl, h.bel⟩)
theorem find_any (a : Option Addr) (c : Nat) (xs : List ByteArray) (name : ByteArray) (hsz : ∀ x ∈ xs, x.size ≤ 4000000000) (hlen : xs.length ≤ 1000000000) (hn : name.size ≤ 1000000) (w : World) (hx : IsStrs w a c xs) (hM : MaxL w) :
    Calls Tryz.prog 18 #[.slice a xs.length c, .string name] w fun e w' => e = .returned (findV (findL (name.data.toList ++ [61]) (pairsP xs))) ∧ Below w.heap.size w w' := callsIn_wide.1 (find18 a c xs name hsz hlen hn w hx hM)
end Go.Proofs.YtllmlngfmcbaaaaGreatDoor
