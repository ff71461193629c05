/- Packed: SeqA, SeqB, IsS, SeqC, SameA, AwakeO, TabsO, Cut. -/
import Derived.RangeFuncNested
import Derived.RangeFuncBound
import Derived.RangeFuncCalls
import Derived.RangeFuncBox
import Derived.RangeFuncLeaves
import Derived.OwnWalkIn
import Derived.TacticsInMore
import Derived.LoopNIn
import Derived.LoopIn
import Derived.Maps.AppendAt
import Derived.Laws.AppendOwn
import Derived.Test.YtbbphklhnngjmaaGreatDoorRows
import Derived.Lib.LaidTab
import Derived.LaidLaws
import Derived.Stop.LaidErr
import Derived.Shelf.Vars
import Derived.KernelRfl
import Derived.Lib.IndexBytes
import Derived.Test.YtbbphklhnngjmaaGreatDoorS00
import Derived.Test.YtbbphklhnngjmaaGreatDoorS02
import Derived.Test.YtbbphklhnngjmaaGreatDoorS03
import Derived.Test.YtbbphklhnngjmaaGreatDoorShelfB
/- strings.SplitSeq: its iterator, and a loop over it. -/
namespace Go.Proofs.YtbbphklhnngjmaaGreatDoor
open Go.RowKit

attribute [local go_sem] Oper.semAt_some

/-- The parts of a text between the bytes c. -/
def parts (c : UInt8) : List UInt8 → List (List UInt8)
  | [] => [[]]
  | b :: r => if b = c then [] :: parts c r else match parts c r with
    | p :: ps => (b :: p) :: ps
    | [] => [[b]]
theorem parts_ne (c : UInt8) : ∀ l, parts c l ≠ []
  | [] => by simp [parts]
  | b :: r => by
    unfold parts
    split
    · simp
    · split <;> simp
theorem parts_one (c : UInt8) : ∀ l : List UInt8, c ∉ l → parts c l = [l]
  | [], _ => rfl
  | b :: r, h => by
    rw [List.mem_cons, not_or] at h
    rw [parts, if_neg (fun e => h.1 e.symm), parts_one c r h.2]
theorem parts_cut (c : UInt8) : ∀ (a b : List UInt8), c ∉ a → parts c (a ++ c :: b) = a :: parts c b
  | [], b, _ => by rw [List.nil_append, parts, if_pos rfl]
  | x :: a, b, h => by
    rw [List.mem_cons, not_or] at h
    rw [List.cons_append, parts, if_neg (fun e => h.1 e.symm), parts_cut c a b h.2]
theorem parts_length (c : UInt8) : ∀ l, (parts c l).length ≤ l.length + 1
  | [] => by simp [parts]
  | b :: r => by
    have ih := parts_length c r
    unfold parts
    split
    · simp; omega
    · split
      · rename_i p ps h; rw [h] at ih; simp at ih ⊢; omega
      · simp
theorem ib_cut (c : UInt8) : ∀ l : List UInt8, (Lib.indexByte l c = -1 ∧ c ∉ l) ∨ (∃ i : Nat, Lib.indexByte l c = (i : Int) ∧ i < l.length ∧ l = l.take i ++ c :: l.drop (i + 1) ∧ c ∉ l.take i)
  | [] => .inl ⟨rfl, by simp⟩
  | b :: r => by
    by_cases hb : b = c
    · subst hb
      exact .inr ⟨0, by simp [Lib.indexByte], by simp, by simp, by simp⟩
    · have hbb : (b == c) = false := beq_eq_false_iff_ne.2 hb
      rcases ib_cut c r with ⟨h1, h2⟩ | ⟨i, h1, h2, h3, h4⟩
      · exact .inl ⟨by simp [Lib.indexByte, hbb, h1], by rw [List.mem_cons, not_or]; exact ⟨fun e => hb e.symm, h2⟩⟩
      · refine .inr ⟨i + 1, ?_, by simp; omega, ?_, ?_⟩
        · have hne : ((i : Int) == -1) = false := beq_eq_false_iff_ne.2 (by omega)
          simp only [Lib.indexByte, hbb, h1, hne]
          simp
        · rw [List.take_succ_cons, List.drop_succ_cons, List.cons_append, ← h3]
        · rw [List.take_succ_cons, List.mem_cons, not_or]
          exact ⟨fun e => hb e.symm, h4⟩
/-- A byte's first place: nowhere, or the text is cut there. -/
theorem index_cut (c : UInt8) (l : List UInt8) : (Lib.index l [c] = -1 ∧ c ∉ l) ∨ (∃ i : Nat, Lib.index l [c] = (i : Int) ∧ i < l.length ∧ l = l.take i ++ c :: l.drop (i + 1) ∧ c ∉ l.take i) := by
  rw [Lib.index_one]
  exact ib_cut c l
/-- The library's greatest length for a search holds a number. -/
def MaxL (w : World) : Prop := 1 < w.heap.size ∧ ∃ m, w.cell? ⟨1, 0, none⟩ = some (.int .i64 m)
theorem MaxL.below {w w' : World} (h : MaxL w) (hb : Below w.heap.size w w') : MaxL w' := by
  obtain ⟨h1, m, h2⟩ := h
  exact ⟨Nat.lt_of_lt_of_le h1 hb.size, m, by rw [(bcell hb).1 _ _ h1]; exact h2⟩
theorem index108 (s : ByteArray) (hs : s.size ≤ 4000000000) (c : UInt8) (i : Int) (hi : Lib.index s.data.toList [c] = i) (w : World) (hw : MaxL w) :
    Calls Tryz.prog 181 #[.string s, .string ⟨#[c]⟩] w fun e w' => e = .returned (.int .i64 i) ∧ w = w' := by
  obtain ⟨_, m, hm⟩ := hw
  refine (Tryz.strings_Index s ⟨#[c]⟩ m w (by omega) hm).mono fun e w' ⟨he, hw⟩ => ⟨?_, hw.symm⟩
  rw [he, ← hi]

/-- The three boxes of an iterator: its text's rest, the byte at which it parts, nothing kept of it. -/
structure SeqBox (W : World) (h : Nat) (c : UInt8) (t : ByteArray) : Prop where
  txt : Boxed W h 9 (.string t)
  sep : Boxed W (h + 1) 9 (.string ⟨#[c]⟩)
  sav : Boxed W (h + 2) 3 (.int .i64 0)

/-- How long the text's rest is. -/
def boxSize (W : World) (h : Nat) : Nat := match W.cell? ⟨h, 0, none⟩ with
  | some (.string t) => t.size
  | _ => 0
set_option maxRecDepth 1000000 in
set_option maxHeartbeats 4000000 in
/-- **The iterator of strings.SplitSeq**, for whatever body keeps its boxes. -/
theorem split107 (n l h : Nat) (c : UInt8) (s0 : ByteArray) (hs0 : s0.size ≤ 4000000000) (J Jx : List (List UInt8) → World → Prop)
    (hJ : ∀ pre W v, J pre W → J pre (W.setCell ⟨h, 0, none⟩ v)) (hM : ∀ pre W, J pre W → MaxL W)
    (hY : ∀ pre x W, J pre W → pre.length < (parts c s0.data.toList).length → x.length ≤ s0.size → YieldAt Fence.wide (n - 1) Tryz.prog l #[.string ⟨(x : List UInt8).toArray⟩] W fun e W' =>
      (e = .returned (.bool true) ∧ J (pre ++ [x]) W' ∧ (∀ b, h ≤ b → b < h + 3 → W'.heap[b]? = W.heap[b]?)) ∨ (e = .returned (.bool false) ∧ Jx (pre ++ [x]) W'))
    (W : World) (hb : SeqBox W h c s0) (h0 : J [] W) :
    CallsIn Fence.wide n Tryz.prog 179 #[.func (.yield l) #[] #[], .pointer (some ⟨h + 1, 0, none⟩), .pointer (some ⟨h, 0, none⟩), .pointer (some ⟨h + 2, 0, none⟩)] W fun e W' => (∃ v, e = .returned v) ∧
      (J (parts c s0.data.toList) W' ∨ ∃ pre, Jx pre W') := by
  refine callsIn_of_wp Tryz.func179 rfl trivial ?_ rfl
  simp only [Tryz.ntmps179, List.size_toArray, List.length_cons, List.length_nil, Nat.reduceAdd, Nat.reduceSub, Array.replicate_succ, Array.replicate_zero, List.push_toArray, List.append_toArray, List.nil_append, List.cons_append]
  have c1 := hb.sep.cell
  have c2 := hb.txt.cell
  have c3 := hb.sav.cell
  gi_wp2
  clear c1 c2 c3
  gi_loopw [7] (fun _ wr => ∃ (pre : List (List UInt8)) (t : ByteArray), Hid (SeqBox wr h c t) ∧ t.size ≤ s0.size ∧ Hid (pre ++ parts c t.data.toList = parts c s0.data.toList) ∧ J pre wr)
    (fun _ wr => boxSize wr h)
  case atStart => exact ⟨[], s0, hb, Nat.le_refl _, rfl, h0⟩
  case round =>
    clear hb h0
    obtain ⟨pre, t, B, ht, hp, hj⟩ := hrel
    have c1 := B.out.sep.cell
    have c2 := B.out.txt.cell
    have c3 := B.out.sav.cell
    have hmx := hM _ _ hj
    have hms : Hid (boxSize wr h = t.size) := by
      show boxSize wr h = t.size
      unfold boxSize
      rw [c2]
    have hpl : pre.length < (parts c s0.data.toList).length := by
      rw [← hp.out, List.length_append]
      have := List.length_pos_iff.2 (parts_ne c t.data.toList)
      omega
    rcases index_cut c t.data.toList with ⟨hi, hn⟩ | ⟨i, hi, hil, hcut, hn⟩
    · have HI := Lib.hid (callsIn_wide (n := n - 1).2 (index108 t (by omega) c _ hi wr hmx))
      have hlast : Hid (pre ++ [t.data.toList] = parts c s0.data.toList) := by
        have := hp.out
        rw [parts_one c _ hn] at this
        exact this
      have hte : t = ⟨t.data.toList.toArray⟩ := str_eq t _ rfl
      have hyy := hY pre t.data.toList wr hj hpl (by rw [← Lib.size_eq]; exact ht)
      rw [← hte] at hyy
      obtain ⟨fn, tmps, assign, body, hy, hR⟩ := hyy
      clear hi hn hmx hte
      gi_wp2_with fail
      refine ⟨trivial, (fun h => by cases h), ?_⟩
      refine HI.out.mono ?_
      rintro e w' ⟨rfl, rfl⟩
      gi_wp2_with fail
      refine ⟨(fun h => by cases h), hR.mono ?_⟩
      rintro e W3 (⟨rfl, hJ3, hk3⟩ | ⟨rfl, hJx3⟩)
      · gi_wp2
        go_end0
        exact ⟨⟨_, rfl⟩, .inl (by rw [← hlast.out]; exact hJ3)⟩
      · gi_wp2
        go_end0
        exact ⟨⟨_, rfl⟩, .inr ⟨_, hJx3⟩⟩
    · have HI := Lib.hid (callsIn_wide (n := n - 1).2 (index108 t (by omega) c _ hi wr hmx))
      have hz := Lib.size_eq t
      have e1 : (t.extract 0 i).data.toList = t.data.toList.take i := by rw [extractL, List.drop_zero, Nat.sub_zero]
      have e2 : (t.extract (i + 1) t.size).data.toList = t.data.toList.drop (i + 1) := by rw [extractL, List.take_of_length_le (by rw [List.length_drop]; omega)]
      have hnext : Hid ((pre ++ [t.data.toList.take i]) ++ parts c (t.extract (i + 1) t.size).data.toList = parts c s0.data.toList) := by
        have h2 := hp.out
        rw [hcut, parts_cut c _ _ hn] at h2
        rw [e2, ← h2, List.append_assoc]; rfl
      have hsz : (t.extract (i + 1) t.size).size = t.size - (i + 1) := size_extract t (i + 1) t.size (by omega)
      have HSZ := Lib.hid hsz
      have hte : t.extract 0 i = ⟨(t.data.toList.take i).toArray⟩ := str_eq _ _ e1
      have hyy := hY pre (t.data.toList.take i) wr hj hpl (by rw [List.length_take]; omega)
      rw [← hte] at hyy
      obtain ⟨fn, tmps, assign, body, hy, hR⟩ := hyy
      have i0 : (0 : Int) ≤ i := by omega
      have i3 : decide ((i : Int) < 0) = false := by simp
      have i1 : (i : Int) ≤ t.size := by omega
      have i2 : (i : Int) + 1 ≤ t.size := by omega
      have htz : (t.size : Int) ≤ 4000000000 := by omega
      clear hi hn hmx hte e1 e2 hsz hcut hz
      gi_wp2_with fail
      refine ⟨trivial, (fun h => by cases h), ?_⟩
      refine HI.out.mono ?_
      rintro e w' ⟨rfl, rfl⟩
      gi_wp2_with fail
      refine ⟨(fun h => by cases h), hR.mono ?_⟩
      rintro e W3 (⟨rfl, hJ3, hk3⟩ | ⟨rfl, hJx3⟩)
      · have b1 : Boxed W3 (h + 1) 9 (.string ⟨#[c]⟩) := (hk3 (h + 1) (by omega) (by omega)).trans B.out.sep
        have b2 : Boxed W3 h 9 (.string t) := (hk3 h (by omega) (by omega)).trans B.out.txt
        have b3 : Boxed W3 (h + 2) 3 (.int .i64 0) := (hk3 (h + 2) (by omega) (by omega)).trans B.out.sav
        have d1 := b1.cell
        have d2 := b2.cell
        have z2 := b2.frozen
        have g1 : SeqBox (W3.setCell ⟨h, 0, none⟩ (.string (t.extract (i + 1) t.size))) h c (t.extract (i + 1) t.size) := by
          have hg := grownBy_setCell' W3 h (.string (t.extract (i + 1) t.size))
          exact ⟨b2.set _, b1.kept hg (fun e => by injection e with e; omega), b3.kept hg (fun e => by injection e with e; omega)⟩
        have G1 := Lib.hid g1
        have hJ4 := hJ _ _ (.string (t.extract (i + 1) t.size)) hJ3
        clear g1 b1 b2 b3 c1 c2 c3 hk3
        gi_wp2_with fail
        go_roundw
        case rel => exact ⟨_, _, G1, by have := HSZ.out; omega, hnext, hJ4⟩
        case measure =>
          have e1 := hms.out
          have e2 : boxSize (W3.setCell ⟨h, 0, none⟩ (.string (t.extract (i + 1) t.size))) h = (t.extract (i + 1) t.size).size := by
            unfold boxSize
            rw [G1.out.txt.cell]
          rw [e1, e2, HSZ.out]
          omega
      · gi_wp2
        refine bodyPost_ret (results_none rfl _ _ _) rfl ?_
        exact ⟨⟨_, rfl⟩, .inr ⟨_, hJx3⟩⟩
end Go.Proofs.YtbbphklhnngjmaaGreatDoor

/- strings.SplitSeq's calls; a loop over its iterator, as a law. -/
namespace Go.Proofs.YtbbphklhnngjmaaGreatDoor
open Go.RowKit

attribute [local go_sem] Oper.semAt_some

/-- The iterator's value. -/
def seqV (h : Nat) : Value := .func (.func 179) #[] #[.pointer (some ⟨h + 1, 0, none⟩), .pointer (some ⟨h, 0, none⟩), .pointer (some ⟨h + 2, 0, none⟩)]
theorem seqBox_new (w : World) (c : UInt8) (s : ByteArray) :
    SeqBox (((w.alloc (.cells #[.string s] 9)).alloc (.cells #[.string ⟨#[c]⟩] 9)).alloc (.cells #[.int .i64 0] 3)) w.heap.size c s := by
  refine ⟨((Boxed.new w 9 (.string s)).alloc _).alloc _, ?_, ?_⟩
  · have := (Boxed.new (w.alloc (.cells #[.string s] 9)) 9 (.string ⟨#[c]⟩)).alloc (.cells #[.int .i64 0] 3)
    rw [World.size_alloc] at this
    exact this
  · have := Boxed.new ((w.alloc (.cells #[.string s] 9)).alloc (.cells #[.string ⟨#[c]⟩] 9)) 3 (.int .i64 0)
    rw [World.size_alloc, World.size_alloc] at this
    exact this
set_option maxHeartbeats 1000000 in
theorem split91 (s : ByteArray) (c : UInt8) (w : World) :
    Calls Tryz.prog 159 #[.string s, .string ⟨#[c]⟩, .int .i64 0] w fun e w' => e = .returned (seqV w.heap.size) ∧ SeqBox w' w.heap.size c s ∧ Below w.heap.size w w' ∧ w'.heap.size = w.heap.size + 3 := by
  have hbx := Lib.hid (seqBox_new w c s)
  have hbl := (((Below.refl w.heap.size w).alloc (Nat.le_refl _) (.cells #[.string s] 9)).alloc (by simp) (.cells #[.string ⟨#[c]⟩] 9)).alloc (by simp; omega) (.cells #[.int .i64 0] 3)
  have HBL := Lib.hid hbl
  clear hbl
  go_enter Tryz.func159, Tryz.ntmps159
  go_wp2_with fail
  go_ret
  exact ⟨rfl, hbx.out, HBL.out, by simp⟩
set_option maxHeartbeats 1000000 in
theorem split68 (s : ByteArray) (c : UInt8) (w : World) :
    Calls Tryz.prog 139 #[.string s, .string ⟨#[c]⟩] w fun e w' => e = .returned (seqV w.heap.size) ∧ SeqBox w' w.heap.size c s ∧ Below w.heap.size w w' ∧ w'.heap.size = w.heap.size + 3 := by
  have HS := Lib.hid (split91 s c w)
  generalize seqV w.heap.size = v at *
  go_enter Tryz.func139, Tryz.ntmps139
  go_wp2_with fail
  refine HS.out.mono ?_
  rintro e w1 ⟨rfl, h1, h2, h3⟩
  go_wp2_with fail
  go_ret
  exact ⟨rfl, h1, h2, h3⟩

/-- How a round's body may be left. -/
def roundEnd (B h : Nat) (I Ix : List (List UInt8) → World → Prop) (xs : List (List UInt8)) (W : World) : Exit → Act → World → Prop
  | .normal, _, W' => KeepsFrom B W W' ∧ (∀ b, h ≤ b → b < h + 3 → W'.heap[b]? = W.heap[b]?) ∧ I xs W'
  | .ret, _, W' => KeepsFrom B W W' ∧ Ix xs W'
  | .exit _, _, _ => False
  | .goto _, _, _ => False
  | .panic _, _, _ => False
  | .outgrown, _, _ => False
/-- What the loop itself and the iterator turn: the iterator's text, blocks that the loop has laid. -/
def Minds (B h : Nat) (I : List (List UInt8) → World → Prop) : Prop :=
  ∀ pre A C row, I pre A → A.grownBy C row → (∀ r, row = some r → r = h ∨ (B ≤ r ∧ ∃ o : Obj, A.heap[r]? = some o ∧ o.isCells = false)) → I pre C
theorem Minds.put {B h : Nat} {I : List (List UInt8) → World → Prop} (hI : Minds B h I) {pre : List (List UInt8)} {W : World} {l : Nat} {o : Obj} (o' : Obj) (hi : I pre W) (hB : B ≤ l) (hl : W.heap[l]? = some o) (ho : o.isCells = false) : I pre (W.putObj l o') :=
  hI pre W _ (some l) hi (grownBy_putObj' W l o') (fun r e => by injection e with e; subst e; exact .inr ⟨hB, o, hl, ho⟩)
theorem Minds.new {B h : Nat} {I : List (List UInt8) → World → Prop} (hI : Minds B h I) {pre : List (List UInt8)} {W : World} (o : Obj) (hi : I pre W) : I pre (W.alloc o) :=
  hI pre W _ none hi (World.grownBy_alloc W o none) (fun r e => by cases e)
theorem Minds.text {B h : Nat} {I : List (List UInt8) → World → Prop} (hI : Minds B h I) {pre : List (List UInt8)} {W : World} (v : Value) (hi : I pre W) : I pre (W.setCell ⟨h, 0, none⟩ v) :=
  hI pre W _ (some h) hi (grownBy_setCell' W h v) (fun r e => by injection e with e; exact .inl e.symm)
theorem SeqBox.alloc {W : World} {h : Nat} {c : UInt8} {t : ByteArray} (hb : SeqBox W h c t) (o : Obj) : SeqBox (W.alloc o) h c t := ⟨hb.txt.alloc o, hb.sep.alloc o, hb.sav.alloc o⟩
theorem heap_set_other (W : World) (h k : Nat) (v : Value) (hk : k ≠ h) : (W.setCell ⟨h, 0, none⟩ v).heap[k]? = W.heap[k]? := Below.heap_setCell W ⟨h, 0, none⟩ v k hk

set_option maxHeartbeats 2000000 in
/-- **A loop over strings.SplitSeq.** -/
theorem range_split {g : Operand} {p : Tmp} {assign body : Code} {Q : Exit → Act → World → Prop} {a : Act} {w : World} (n h : Nat) (c : UInt8) (s0 : ByteArray) (hs0 : s0.size ≤ 4000000000)
    (hg : a.eval g = seqV h) (hb : SeqBox w h c s0) (hh : h + 3 ≤ w.heap.size)
    (I Ix : List (List UInt8) → World → Prop) (hI : Minds w.heap.size h I) (hIx : Minds w.heap.size h Ix) (hM : ∀ pre W, I pre W → MaxL W) (h0 : I [] w) (a₁ : List UInt8 → Act)
    (hassign : ∀ (l : Nat) (x : List UInt8) (W : World) (K : Act → World → Prop), K (a₁ x) W →
      assign.wpIn (Fence.wide.inRound l) (n - 1 - 1) Tryz.prog (Exit.then K (fun _ _ _ => False)) { tmps := a.tmps.setIfInBounds p (.string ⟨x.toArray⟩), defers := [] } W)
    (hbody : ∀ (l : Nat) (pre : List (List UInt8)) (x : List UInt8) (W : World), I pre W → w.heap.size + 2 ≤ W.heap.size → pre.length < (parts c s0.data.toList).length → x.length ≤ s0.size →
      body.wpIn (Fence.wide.inRound l) (n - 1 - 1) Tryz.prog (roundEnd w.heap.size h I Ix (pre ++ [x]) W) (a₁ x) W)
    (hdone : ∀ (W : World), I (parts c s0.data.toList) W → W.heap[w.heap.size]? = some (.deferred (some [])) → w.heap.size + 2 ≤ W.heap.size → Q .normal { a with defers := { target := .collected w.heap.size, args := #[] } :: a.defers } W)
    (hstop : ∀ (pre : List (List UInt8)) (W : World), Ix pre W → W.heap[w.heap.size]? = some (.deferred (some [])) → w.heap.size + 2 ≤ W.heap.size → Code.ret.wpIn Fence.wide n Tryz.prog Q { a with defers := { target := .collected w.heap.size, args := #[] } :: a.defers } W) :
    (Code.rangeFunc g #[p] assign body).wpIn Fence.wide n Tryz.prog Q a w := by
  refine wpIn_rangeFunc fun fn hfn => ?_
  obtain ⟨mk, hmk⟩ : ∃ mk : LoopState → Option Code → Loop, mk = fun st j => { state := st, pending := j, fn, tmps := a.tmps, params := #[p], assign, body, defers := w.heap.size } := ⟨_, rfl⟩
  obtain ⟨L, hL⟩ : ∃ L, L = w.heap.size + 1 := ⟨_, rfl⟩
  obtain ⟨W1, hW1⟩ : ∃ W1, W1 = (w.alloc (.deferred (some []))).alloc (.loop (mk .ready none)) := ⟨_, rfl⟩
  have hsz1 : W1.heap.size = w.heap.size + 2 := by rw [hW1]; simp
  have r1 : W1.heap[L]? = some (.loop (mk .ready none)) := by
    rw [hW1, hL]
    have := World.alloc_heap_new (w.alloc (.deferred (some []))) (.loop (mk .ready none))
    rwa [World.size_alloc] at this
  have k1 : W1.heap[w.heap.size]? = some (.deferred (some [])) := by
    rw [hW1]
    exact (Below.heap_alloc _ _ _ (by simp)).trans (World.alloc_heap_new w _)
  have i1 : I [] W1 := by rw [hW1]; exact hI.new _ (hI.new _ h0)
  have b1 : SeqBox W1 h c s0 := by rw [hW1]; exact (hb.alloc _).alloc _
  refine ⟨L, [{ target := .collected w.heap.size, args := #[] }], W1, { target := .fn (.func 179) #[.pointer (some ⟨h + 1, 0, none⟩), .pointer (some ⟨h, 0, none⟩), .pointer (some ⟨h + 2, 0, none⟩)], args := #[.func (.yield L) #[] #[]] }, W1, 179,
    #[.func (.yield L) #[] #[], .pointer (some ⟨h + 1, 0, none⟩), .pointer (some ⟨h, 0, none⟩), .pointer (some ⟨h + 2, 0, none⟩)], W1, ?_, ?_, fun _ _ => trivial, ?_, (fun e => by cases e), ?_⟩
  · rw [hW1, hL, hmk]; exact run_enterLoop_outer _ _ _ _ _
  · unfold seqV at hg
    simp only [resolve, hg]
    simp [go_sem]
  · have eg : ∀ args w, (callFunc 179 args).run Tryz.prog w = .ok (.enter 179 args) w := enters_of Tryz.func179 (by kernel_rfl) rfl
    simp [invoke, go_sem, eg]
  · have fin : ∀ (jump : Option Code) (W W3 : World), W.heap[L]? = some (.loop (mk .ready none)) → W.heap[w.heap.size]? = some (.deferred (some [])) → KeepsFrom w.heap.size (W.putObj L (.loop (mk .busy none))) W3 →
        (Instr.endRound L jump).run Tryz.prog W3 = .ok (.bool jump.isNone) (W3.putObj L (.loop (mk (if jump.isNone then .ready else .done) jump))) ∧ W3.heap[L]? = some (.loop (mk .busy none)) ∧
        (W3.putObj L (.loop (mk (if jump.isNone then .ready else .done) jump))).heap[L]? = some (.loop (mk (if jump.isNone then .ready else .done) jump)) ∧
        (W3.putObj L (.loop (mk (if jump.isNone then .ready else .done) jump))).heap[w.heap.size]? = some (.deferred (some [])) := by
      intro jump W W3 hl hk hkp
      have hlt := (Array.getElem?_eq_some_iff.1 hl).1
      have hl3 := hkp.same L _ (by omega) (World.putObj_heap_same hlt) rfl
      have hk3 := hkp.same w.heap.size _ (Nat.le_refl _) ((World.putObj_heap_other (by omega)).trans hk) rfl
      have hrun := run_endRound (P := Tryz.prog) jump hl3
      refine ⟨?_, hl3, World.putObj_heap_same (Array.getElem?_eq_some_iff.1 hl3).1, (World.putObj_heap_other (by omega)).trans hk3⟩
      rw [hrun, hmk]
    refine (split107 (n - 1) L h c s0 hs0
      (fun pre W => I pre W ∧ W.heap[L]? = some (.loop (mk .ready none)) ∧ W.heap[w.heap.size]? = some (.deferred (some [])))
      (fun pre W => Ix pre W ∧ W.heap[L]? = some (.loop (mk .done (some .ret))) ∧ W.heap[w.heap.size]? = some (.deferred (some [])))
      (fun pre W v ⟨hi, hl, hk⟩ => ⟨hI.text v hi, (heap_set_other W h L v (by omega)).trans hl, (heap_set_other W h _ v (by omega)).trans hk⟩)
      (fun pre W hj => hM pre W hj.1) ?_ W1 b1 ⟨i1, r1, k1⟩).mono ?_
    · rintro pre x W ⟨hi, hl, hk⟩ hpl hxl
      have hlt := (Array.getElem?_eq_some_iff.1 hl).1
      have hy := run_yield (P := Tryz.prog) (args := #[.string ⟨x.toArray⟩]) hl (by rw [hmk]; rfl)
      have hfn2 : (mk .ready none).fn = fn := by rw [hmk]
      have has : (mk .ready none).assign = assign := by rw [hmk]
      have hbo : (mk .ready none).body = body := by rw [hmk]
      have htm : ((mk .ready none).params.zip #[.string ⟨x.toArray⟩]).foldl (fun tmps (t, v) => tmps.setIfInBounds t v) (mk .ready none).tmps = a.tmps.setIfInBounds p (.string ⟨x.toArray⟩) := by rw [hmk]; simp
      rw [hfn2, has, hbo, htm] at hy
      have hbusy : ({ mk .ready none with state := .busy } : Loop) = mk .busy none := by rw [hmk]
      refine ⟨fn, _, assign, body, hy, roundIn_of_wpIn hfn (hassign L x W _ ⟨_, run_beginRound hl (by rw [hmk]), ?_⟩)⟩
      rw [hbusy]
      refine wpIn_mono (hbody L pre x _ (hI.put _ hi (by omega) hl rfl) (by rw [World.putObj_size]; omega) hpl hxl) ?_
      rintro e a3 W3 hp
      cases e with
      | normal =>
        obtain ⟨hk3, hbx, hi3⟩ := hp
        obtain ⟨hr, hl3, hl4, hk4⟩ := fin none W W3 hl hk hk3
        refine ⟨_, _, hr, .inl ⟨rfl, ⟨hI.put _ hi3 (by omega) hl3 rfl, hl4, hk4⟩, fun b h1 h2 => ?_⟩⟩
        rw [World.putObj_heap_other (by omega), hbx b h1 h2, World.putObj_heap_other (by omega)]
      | ret =>
        obtain ⟨hk3, hi3⟩ := hp
        obtain ⟨hr, hl3, hl4, hk4⟩ := fin (some .ret) W W3 hl hk hk3
        exact ⟨_, _, hr, .inr ⟨rfl, hIx.put _ hi3 (by omega) hl3 rfl, hl4, hk4⟩⟩
      | exit id => exact hp.elim
      | goto t => exact hp.elim
      | panic ch => exact hp.elim
      | outgrown => exact hp.elim
    · rintro e W2 ⟨⟨v, rfl⟩, (⟨hi, hl, hk⟩ | ⟨pre, hi, hl, hk⟩)⟩
      · have hlt := (Array.getElem?_eq_some_iff.1 hl).1
        have hrun := run_endLoop (P := Tryz.prog) hl (by rw [hmk]; simp)
        exact ⟨none, _, by rw [hrun, hmk], hdone _ (hI.put _ hi (by omega) hl rfl) ((World.putObj_heap_other (by omega)).trans hk) (by rw [World.putObj_size]; omega)⟩
      · have hlt := (Array.getElem?_eq_some_iff.1 hl).1
        have hrun := run_endLoop (P := Tryz.prog) hl (by rw [hmk]; simp)
        exact ⟨some .ret, _, by rw [hrun, hmk], hstop pre _ (hIx.put _ hi (by omega) hl rfl) ((World.putObj_heap_other (by omega)).trans hk) (by rw [World.putObj_size]; omega)⟩
end Go.Proofs.YtbbphklhnngjmaaGreatDoor

/- Slices of strings. -/
namespace Go.Proofs.YtbbphklhnngjmaaGreatDoor
open Go.RowKit

/-- A slice that reads as these strings. -/
def IsStrs (w : World) (a : Option Addr) (c : Nat) (xs : List ByteArray) : Prop :=
  xs = [] ∨ ∃ bk o, a = some ⟨bk, o, none⟩ ∧ bk < w.heap.size ∧ xs.length ≤ c ∧ ∀ (j : Nat) x, xs[j]? = some x → w.cell? ⟨bk, o + j, none⟩ = some (.string x)
theorem IsStrs.below {w w' : World} {a : Option Addr} {c : Nat} {xs : List ByteArray} (h : IsStrs w a c xs) (hb : Below w.heap.size w w') : IsStrs w' a c xs := by
  obtain h | ⟨bk, o, ha, hlt, hc, hcell⟩ := h
  · exact .inl h
  · obtain ⟨hc', _⟩ := bcell hb
    exact .inr ⟨bk, o, ha, Nat.lt_of_lt_of_le hlt hb.size, hc, fun j x hx => by rw [hc' _ _ hlt]; exact hcell j x hx⟩
end Go.Proofs.YtbbphklhnngjmaaGreatDoor

/- octet's List. -/
namespace Go.Proofs.YtbbphklhnngjmaaGreatDoor
open Go.RowKit

attribute [local go_sem] Oper.semAt_some

theorem infoStr : (Tryz.prog.info? 9).map (fun i => (i.zero, i.size, i.bytes)) = some (some (.string ⟨#[]⟩), 1, 16) := by kernel_rfl
/-- append of one value, in a fence; where the new row lies. -/
theorem in_append {F : Fence} {n : Nat} {P : Program} (w : World) {ops : Array Oper} {rest : List Oper} {o : Oper} {a : Act} {Q : Exit → Act → World → Prop}
    (hg : o.guard = none) (s x : Operand) (t : TypeId) (hop : o.op = Op.call { callee := Callee.builtin Builtin.append, args := #[s, x], argTypes := #[t, t] })
    (base : Nat) (e : TypeId) (i : TypeInfo) (z : Value) (bytes : Nat) (h1 : P.underlying t = some (.slice e)) (h2 : P.info? e = some i) (h3 : i.zero = some z) (h4 : i.size = 1) (h5 : i.bytes = bytes) (h6 : z.cells.size = 1)
    (v : Value) (k : Nat) (xs : List Value) (hs : a.eval s = v) (hown : w.ownsRow base e 1 v k xs) (ad : Addr) (u : Value) (hx : a.eval x = .slice (some ad) 1 1)
    (hc : ∀ j y, [u][j]? = some y → w.cell? (ad.add j) = some y) (h1c : u.oneCell' = true) (b1 : k + 1 ≤ maxLen) (b2 : (k + 1) * bytes ≤ 140737488355328) (b3 : base ≤ w.heap.size)
    (hK : ∀ v' w', w'.ownsRow base e 1 v' (k + 1) (xs ++ [u]) → w.grownBy w' v.ownBlock → (v'.ownBlock = v.ownBlock ∨ v'.ownBlock = some w.heap.size) → wpListIn F n P ops Q rest (a.put o.dst v') w') :
    wpListIn F n P ops Q (o :: rest) a w := by
  refine wpListIn_plain hg fun K hK' => ?_
  obtain ⟨v', w', hrun, r1, r2, _, r4⟩ := run_append_own_at (P := P) w base t o.type e i z 1 bytes h1 h2 h3 h4 h5 h6 (by decide) v k xs hown ad 1 1 [u] rfl hc (by intro y hy; simp at hy; subst hy; exact h1c) b1 b2 b3
  unfold Oper.wpIn
  refine ⟨?_, ?_⟩
  · simp [Oper.about, hop, resolve, Target.leads, Sem.run_pure]
  · rw [Oper.semAt_plain F _ _ (by rw [hop]; intro c hc'; cases hc')]
    simp [execOp, hop, resolve, invoke, builtin, hs, hx, hrun, Result.andThen]
    exact hK' _ _ (hK v' w' r1 r2 r4)

theorem trim_list (y : List UInt8) (hy : y.length ≤ 4611686018427387904) (w : World) :
    Calls Tryz.prog 140 #[.string ⟨y.toArray⟩] w fun e w' => e = .returned (.string ⟨(trimB y).toArray⟩) ∧ Below w.heap.size w w' := by
  have h := trim23 ⟨y.toArray⟩ (by rw [Lib.size_eq]; exact hy) w
  exact h
/-- What is kept of parts. -/
def keepP (ps : List (List UInt8)) : List (List UInt8) := (ps.map trimB).filter fun l => !l.isEmpty
def valsOf (ys : List (List UInt8)) : List Value := ys.map fun l => Value.string ⟨l.toArray⟩
/-- The parts of the first values. -/
def accL (xs : List ByteArray) (j : Nat) : List (List UInt8) := ((xs.take j).map fun x => keepP (parts 44 x.data.toList)).flatten
def listP (xs : List ByteArray) : List (List UInt8) := accL xs xs.length
theorem keepP_length (ps : List (List UInt8)) : (keepP ps).length ≤ ps.length := by
  unfold keepP
  exact Nat.le_trans (List.length_filter_le _ _) (by rw [List.length_map]; exact Nat.le_refl _)
theorem keepP_snoc (ps : List (List UInt8)) (x : List UInt8) : keepP (ps ++ [x]) = keepP ps ++ if (trimB x).isEmpty then [] else [trimB x] := by
  unfold keepP
  rw [List.map_append, List.filter_append]
  congr 1
  by_cases h : (trimB x).isEmpty = true
  · simp [h]
  · simp [h]
theorem accL_succ (xs : List ByteArray) (j : Nat) (h : j < xs.length) : accL xs (j + 1) = accL xs j ++ keepP (parts 44 xs[j].data.toList) := by
  unfold accL
  rw [List.take_add_one, List.getElem?_eq_getElem h, Option.toList_some, List.map_append, List.flatten_append]
  simp
def sumS (xs : List ByteArray) : Nat := (xs.map fun x => x.size + 1).sum
theorem accL_bound (xs : List ByteArray) : ∀ j, (accL xs j).length ≤ sumS (xs.take j)
  | 0 => by simp [accL, sumS]
  | j + 1 => by
    have ih := accL_bound xs j
    by_cases h : j < xs.length
    · rw [accL_succ xs j h, List.length_append]
      have h1 := keepP_length (parts 44 xs[j].data.toList)
      have h2 := parts_length 44 xs[j].data.toList
      rw [← Lib.size_eq] at h2
      have h3 : sumS (xs.take (j + 1)) = sumS (xs.take j) + (xs[j].size + 1) := by
        unfold sumS
        rw [List.take_add_one, List.getElem?_eq_getElem h, Option.toList_some, List.map_append, List.sum_append]
        simp
      omega
    · unfold accL sumS at *
      rw [List.take_of_length_le (by omega)] at ih ⊢
      exact ih
theorem sumS_part (xs : List ByteArray) (j : Nat) (h : j < xs.length) : sumS (xs.take j) + (xs[j].size + 1) ≤ sumS xs := by
  have e : xs = xs.take j ++ (xs[j] :: xs.drop (j + 1)) := by rw [← List.drop_eq_getElem_cons h, List.take_append_drop]
  have h2 : sumS xs = sumS (xs.take j) + ((xs[j].size + 1) + sumS (xs.drop (j + 1))) := by
    have := congrArg sumS e
    rw [this]
    unfold sumS
    rw [List.map_append, List.sum_append, List.map_cons, List.sum_cons]
  omega
theorem sum_len (xs : List ByteArray) : xs.length ≤ sumS xs := by
  unfold sumS
  induction xs with
  | nil => simp
  | cons a r ih => simp only [List.length_cons, List.map_cons, List.sum_cons]; omega
/-- The blocks for deferred calls that loops have laid. -/
def markD (D : Nat) : Deferred := { target := .collected D, args := #[] }
theorem grown_of_below {W W1 : World} (hb : Below W.heap.size W W1) : W.grownBy W1 none := ⟨hb.os, hb.tape, hb.output, hb.size, fun k hk _ => hb.block k hk⟩
/-- What List has collected. -/
structure Acc (w W : World) (Ds : List Nat) (ys : List (List UInt8)) (v : Value) : Prop where
  box : Boxed W w.heap.size 88 v
  row : W.ownsRow w.heap.size 9 1 v ys.length (valsOf ys)
  ds : ∀ D ∈ Ds, W.heap[D]? = some (.deferred (some []))
  bel : Below w.heap.size w W
  dlo : ∀ D ∈ Ds, w.heap.size < D
/-- A row that a slice owns is cells. -/
theorem own_cells {W : World} {base k : Nat} {e : TypeId} {v : Value} {xs : List Value} (h : W.ownsRow base e 1 v k xs) (g : Nat) (hg : v.ownBlock = some g) : ∃ o, W.heap[g]? = some o ∧ o.isCells = true := by
  obtain ⟨_, ⟨rfl, _⟩ | ⟨g', cap, cur, rfl, _, hh, _⟩⟩ := h
  · simp [Value.ownBlock] at hg
  · obtain rfl : g' = g := by simpa [Value.ownBlock] using hg
    exact ⟨_, hh, rfl⟩
theorem Acc.grown {w W W' : World} {Ds : List Nat} {ys : List (List UInt8)} {v : Value} (h : Acc w W Ds ys v) {row : Option Nat} (hg : W.grownBy W' row)
    (hr : ∀ r, row = some r → w.heap.size < r ∧ v.ownBlock ≠ some r ∧ r ∉ Ds) : Acc w W' Ds ys v := by
  refine ⟨h.box.kept hg (fun e => ?_), h.row.kept hg ?_, fun D hD => ?_, h.bel.grown hg h.bel.size (fun k e => Nat.le_of_lt (hr k e).1), h.dlo⟩
  · have := (hr _ e.symm).1; omega
  · cases hv : v.ownBlock with
    | none => exact .inl rfl
    | some g => exact .inr (fun e => (hr g e.symm).2.1 hv)
  · have hd := h.ds D hD
    exact (hg.block D (Array.getElem?_eq_some_iff.1 hd).1 (fun e => (hr D e.symm).2.2 hD)).trans hd

theorem leaves_marks {fn : Func} {n : Nat} {tmps : Array Value} {R : Ending → World → Prop} {v : Value} {P : Program} (hres : ∀ W, (results fn tmps).run P W = .ok v W) {B k : Nat} {e : TypeId} {u : Value} {ys : List Value} {w : World} :
    ∀ (Ds : List Nat) (W : World), Ds.Nodup → (∀ D ∈ Ds, W.heap[D]? = some (.deferred (some []))) → (∀ D ∈ Ds, B ≤ D) → W.ownsRow B e 1 u k ys → Below B w W →
      (∀ W', W'.ownsRow B e 1 u k ys → Below B w W' → R (.returned v) W') → LeavesInM Fence.wide n P fn tmps R (Ds.map markD) .returning W
  | [], W, _, _, _, hr, hb, hR => ⟨v, hres W, hR W hr hb⟩
  | D :: r, W, hnd, hd, hB, hr, hb, hR => by
    have hD := hd D (List.mem_cons_self)
    have hlt := (Array.getElem?_eq_some_iff.1 hD).1
    have hn := List.nodup_cons.1 hnd
    refine ⟨by simp, .inl ⟨D, _, rfl, run_takeDeferred hD, ?_⟩⟩
    refine leaves_marks hres r _ hn.2 (fun E hE => ?_) (fun E hE => hB E (List.mem_cons_of_mem _ hE)) (ownsRow_putObj hr _ hD rfl)
      (hb.grown (grownBy_putObj' W D (.deferred none)) (by have := hB D List.mem_cons_self; omega) (fun q eq => by injection eq with eq; subst eq; exact hB _ List.mem_cons_self)) hR
    rw [World.putObj_heap_other (fun e => hn.1 (by rw [← e]; exact hE))]
    exact hd E (List.mem_cons_of_mem _ hE)
set_option maxRecDepth 1000000 in
set_option maxHeartbeats 4000000 in
theorem list33 (a : Option Addr) (c : Nat) (xs : List ByteArray) (hsum : sumS xs ≤ 1000000000) (w : World) (hx : IsStrs w a c xs) (hM : MaxL w) :
    CallsIn Fence.wide 3 Tryz.prog 120 #[.slice a xs.length c] w fun e w' => ∃ v, e = .returned v ∧ w'.ownsRow w.heap.size 9 1 v (listP xs).length (valsOf (listP xs)) ∧ Below w.heap.size w w' := by
  obtain ⟨i0, hi, hz0, hz1, hz2⟩ := info_parts infoStr
  refine callsIn_of_wp_marks Tryz.func120 rfl trivial ?_ rfl
  simp only [Tryz.ntmps120, List.size_toArray, List.length_cons, List.length_nil, Nat.reduceAdd, Nat.reduceSub, Array.replicate_succ, Array.replicate_zero, List.push_toArray, List.append_toArray, List.nil_append, List.cons_append]
  gi_wp2
  have L0 := below_alloc w (.cells #[.slice none 0 0] 88)
  have A0 : Hid (Acc w (w.alloc (.cells #[.slice none 0 0] 88)) [] (accL xs 0) (.slice none 0 0)) :=
    ⟨Boxed.new w 88 (.slice none 0 0), World.ownsRow_nil _ _ _ _, (fun D hD => by cases hD), L0, (fun D hD => by cases hD)⟩
  have HX := Lib.hid hx
  have HM := Lib.hid hM
  clear hx hM L0
  have n2 : ((0 : Nat) : Int) = 0 := rfl
  refine wpIn_loop (fun (act : Act) (W : World) => ∃ (j : Nat) (Ds : List Nat) (v : Value) (u5 u6 u10 u11 u12 u13 u14 u15 u16 u17 u18 u19 u20 u21 u22 u23 u24 : Value),
      act = { tmps := #[.slice a xs.length c, undef, .slice none 0 0, .pointer (some ⟨w.heap.size, 0, none⟩), undef, u5, u6, .slice a xs.length c, .int .i64 (xs.length : Int), .int .i64 (j : Int), u10, u11, u12, u13, u14, u15, u16, u17, u18, u19, u20, u21, u22, u23, u24, undef], defers := Ds.map markD } ∧
      j ≤ xs.length ∧ Hid (Acc w W Ds (accL xs j) v) ∧ Ds.Nodup) (fun act _ => xs.length - (intOf (act.tmps.getD 9 undef)).toNat) ?start ?round
  case start => exact ⟨0, [], _, undef, undef, undef, undef, undef, undef, undef, undef, undef, undef, undef, undef, undef, undef, undef, undef, undef, rfl, Nat.zero_le _, A0, List.nodup_nil⟩
  case round =>
    clear A0
    rintro act W ⟨j, Ds, v, u5, u6, u10, u11, u12, u13, u14, u15, u16, u17, u18, u19, u20, u21, u22, u23, u24, rfl, hj, hA, hnd⟩
    by_cases hlt : j < xs.length
    · obtain h0 | ⟨bk, o, rfl, hbk, hc, hcell⟩ := HX.out.below hA.out.bel
      · subst h0; simp at hlt
      · have cj := hcell j xs[j] (by simp [hlt])
        clear hcell
        have hb1 : w.heap.size < W.heap.size := hA.out.box.lt
        obtain ⟨x, hxe⟩ : ∃ x, x = xs[j] := ⟨_, rfl⟩
        rw [← hxe] at cj
        have hsx : x.size ≤ 1000000000 := by have := sumS_part xs j hlt; rw [← hxe] at this; omega
        have hpart := sumS_part xs j hlt
        rw [← hxe] at hpart
        have hacc := accL_bound xs j
        have hsucc := accL_succ xs j hlt
        rw [← hxe] at hsucc
        have HPB : Hid ((accL xs j).length + (x.size + 1) ≤ 1000000000) := by show _ ≤ _; omega
        have HSU := Lib.hid hsucc
        clear hpart hacc hsucc hxe
        gi_wp2_with fail
        refine ⟨trivial, ?_⟩
        refine (callsIn_wide.2 (split68 x 44 W)).mono ?_
        rintro e W2 ⟨rfl, hbx, hb2, hsz2⟩
        have A2 : Hid (Acc w W2 Ds (accL xs j) v) := hA.out.grown (grown_of_below hb2) (fun r e => by cases e)
        have hoff : Hid (∀ b, W.heap.size ≤ b → v.ownBlock ≠ some b) := fun b hb e => by
          obtain ⟨o, ho, _⟩ := own_cells hA.out.row _ e
          have := (Array.getElem?_eq_some_iff.1 ho).1
          omega
        have hdl : Hid (∀ D ∈ Ds, D < W.heap.size) := fun D hm => (Array.getElem?_eq_some_iff.1 (hA.out.ds _ hm)).1
        gi_wp2_with fail
        clear cj hA
        refine range_split 3 W.heap.size 44 x (by omega) rfl hbx (by omega)
          (fun pre V => ∃ v', Acc w V Ds (accL xs j ++ keepP pre) v' ∧ (∀ b, W.heap.size ≤ b → b < W.heap.size + 3 → v'.ownBlock ≠ some b)) (fun _ _ => False) ?minds (fun _ _ _ _ h _ _ => h) (fun pre V h => HM.out.below h.choose_spec.1.bel)
          ⟨v, by rw [show keepP [] = [] from rfl, List.append_nil]; exact A2.out, fun b h1 _ => hoff.out b h1⟩
          (fun y => { tmps := #[.slice (some ⟨bk, o, none⟩) xs.length c, undef, .slice none 0 0, .pointer (some ⟨w.heap.size, 0, none⟩), undef, .string x, .string ⟨y.toArray⟩, .slice (some ⟨bk, o, none⟩) xs.length c, .int .i64 (xs.length : Int), .int .i64 (j : Int), .bool true, .pointer (some ⟨bk, o + j, none⟩), .string x, .string x, seqV W.heap.size, .string ⟨y.toArray⟩, u16, u17, u18, u19, u20, u21, u22, u23, u24, undef], defers := [] }) ?assign ?body ?done (fun _ _ h => h.elim)
        case minds =>
          rintro pre A C row ⟨v', hA, ho⟩ hg hr
          refine ⟨v', hA.grown hg (fun r e => ?_), ho⟩
          rcases hr r e with rfl | ⟨h1, o', h2, h3⟩
          · exact ⟨hb1, ho _ (Nat.le_refl _) (by omega), fun hm => by have := hdl.out _ hm; omega⟩
          · refine ⟨by omega, fun e2 => ?_, fun hm => by have := hdl.out _ hm; omega⟩
            obtain ⟨o2, ho2, hc2⟩ := own_cells hA.row _ e2
            rw [h2] at ho2
            cases ho2
            rw [h3] at hc2
            cases hc2
        case assign =>
          intro l y V K hK
          gi_wp2
          exact hK
        case body =>
          rintro l pre y V ⟨v', hA, ho⟩ hVs hpl hyl
          have HT := Lib.hid (trim_list y (by omega) V)
          have hkl : (accL xs j ++ keepP pre).length ≤ 1000000000 := by
            have h1 := HPB.out
            have h2 := keepP_length pre
            have h3 := parts_length 44 x.data.toList
            rw [← Lib.size_eq] at h3
            rw [List.length_append]
            omega
          gi_wp2_with fail
          refine ⟨trivial, ?_⟩
          refine ((callsIn_wide.2 HT.out).inRound l).mono ?_
          rintro e V2 ⟨rfl, hbT⟩
          have hA2 := hA.grown (grown_of_below hbT) (fun r e => by cases e)
          have hzT := hbT.size
          by_cases hemp : trimB y = []
          · have hks : keepP (pre ++ [y]) = keepP pre := by rw [keepP_snoc, hemp]; simp
            have he1 : (⟨(trimB y).toArray⟩ : ByteArray).toList = [] := by rw [hemp, ByteArray.toList_eq]
            have HKS := Lib.hid hks
            obtain ⟨T, hT⟩ : ∃ T : ByteArray, T = ⟨(trimB y).toArray⟩ := ⟨_, rfl⟩
            rw [← hT] at he1 ⊢
            clear hT hks hemp
            gi_wp2_with fail
            refine ⟨⟨hbT.size, fun k o _ hk _ => (hbT.block k (Array.getElem?_eq_some_iff.1 hk).1).trans hk⟩, fun b h1 h2 => hbT.block b (by omega), v', ?_, ho⟩
            rw [HKS.out]
            exact hA2
          · have hks : keepP (pre ++ [y]) = keepP pre ++ [trimB y] := by
              rw [keepP_snoc, if_neg (by simpa using hemp)]
            have he1 : (⟨(trimB y).toArray⟩ : ByteArray).toList.isEmpty = false := by
              rw [ByteArray.toList_eq]
              cases h : trimB y with
              | nil => exact absurd h hemp
              | cons a r => rfl
            have hvv : valsOf (accL xs j ++ keepP pre) ++ [Value.string ⟨(trimB y).toArray⟩] = valsOf (accL xs j ++ keepP (pre ++ [y])) := by
              rw [hks]; unfold valsOf; simp
            have hll : (accL xs j ++ keepP pre).length + 1 = (accL xs j ++ keepP (pre ++ [y])).length := by rw [hks]; simp; omega
            have HVV := Lib.hid hvv
            have HLL := Lib.hid hll
            obtain ⟨T, hT⟩ : ∃ T : ByteArray, T = ⟨(trimB y).toArray⟩ := ⟨_, rfl⟩
            rw [← hT] at he1 HVV ⊢
            have hc2 := hA2.box.cell
            have hrow := hA2.row
            obtain ⟨k, hk⟩ : ∃ k, k = (accL xs j ++ keepP pre).length := ⟨_, rfl⟩
            rw [← hk] at hrow hkl HLL
            have hks' := Lib.hid hks
            clear hT hks hemp hvv hll hk
            gi_wp2_with (gi_at_builtin; refine in_append _ rfl _ _ 88 rfl w.heap.size 9 i0 (.string ⟨#[]⟩) 16 Tryz.underlying88 hi hz0 hz1 hz2 rfl _ _ _ rfl (hrow.alloc _) ⟨V2.heap.size, 0, none⟩ (.string T) rfl (cell_one_new _ _ _) rfl (by unfold maxLen; omega) (by omega) (by have := hA2.box.lt; simp; omega) ?_; intro v2 w1 hown' hgrow hat; obtain ⟨g', cap', rfl⟩ := ownsRow_succ hown'; obtain ⟨hv1, hv2, hr2, hk2, hb2'⟩ := hA2.box.appended (by decide) hrow (Nat.le_of_lt hA2.box.lt) (Nat.le_refl _) hown' hgrow; have hc1 := hv1.cell; have hf1 := hv1.frozen)
            have e2 : (Value.slice (some ⟨g', 0, none⟩) (k + 1) cap').ownBlock = some g' := rfl
            refine ⟨KeepsFrom.trans ⟨hbT.size, fun q o _ hq _ => (hbT.block q (Array.getElem?_eq_some_iff.1 hq).1).trans hq⟩ (hk2.from _), fun b h1 h2 => ?_, _, ⟨hv2, ?_, ?_, hA2.bel.trans hb2', hA2.dlo⟩, fun b h1 h2 e => ?_⟩
            · rw [Below.heap_setCell w1 ⟨w.heap.size, 0, none⟩ _ b (by simp; omega), hgrow.block b (by simp; omega) (fun e => ho b h1 h2 e.symm), Below.heap_alloc V2 _ b (by omega), hbT.block b (by omega)]
            · rw [← HVV.out, ← HLL.out]
              exact hr2
            · intro D hD
              exact hk2.same D _ (hA2.ds D hD) rfl
            · rcases hat with h | h
              · rw [h] at e; exact ho b h1 h2 e
              · rw [h] at e
                injection e with e
                simp at e
                omega
        case done =>
          rintro V ⟨v', hA, ho⟩ hD hVs
          rw [← HSU.out] at hA
          have j1 : (j : Int) < 9223372036854775807 := by
            have := HPB.out
            have := sum_len xs
            omega
          gi_wp2_with fail
          refine ⟨⟨j + 1, W2.heap.size :: Ds, v', _, _, _, _, _, _, _, _, _, _, _, _, _, _, _, _, _, by first | rfl | (rw [show (((j + 1 : Nat)) : Int) = (j : Int) + 1 by omega]; rfl), hlt, ⟨hA.box, hA.row, ?_, hA.bel, ?_⟩, ?_⟩, ?_⟩
          · intro D hDm
            rcases List.mem_cons.1 hDm with rfl | hm
            · exact hD
            · exact hA.ds D hm
          · intro D hDm
            rcases List.mem_cons.1 hDm with rfl | hm
            · omega
            · exact hA.dlo D hm
          · exact List.nodup_cons.2 ⟨fun hm => by have := hdl.out _ hm; omega, hnd⟩
          · simp [intOf]; omega
    · obtain rfl : j = xs.length := by omega
      have hc2 := hA.out.box.cell
      gi_wp2_with fail
      exact leaves_marks (fn := Tryz.f120) (v := v) (fun V => Eq.trans (results_tmp (fn := Tryz.f120) rfl _ _ V) rfl) Ds W (B := w.heap.size) hnd hA.out.ds (fun D hD => Nat.le_of_lt (hA.out.dlo D hD)) hA.out.row hA.out.bel
        (fun W' h1 h2 => ⟨v, rfl, h1, h2⟩)
end Go.Proofs.YtbbphklhnngjmaaGreatDoor

/- stewardlaw05.Same. -/
namespace Go.Proofs.YtbbphklhnngjmaaGreatDoor
open Go.RowKit

theorem str_beq (a b : ByteArray) : (a.toList == b.toList) = decide (a = b) := by
  rw [ByteArray.toList_eq, ByteArray.toList_eq]
  by_cases h : a = b
  · subst h; simp
  · have h2 : ¬ a.data = b.data := fun e => h (ByteArray.ext e)
    simp [h, h2]
theorem take_eq_step (xs ys : List ByteArray) (j : Nat) (hx : j < xs.length) (hy : j < ys.length) (h : xs.take j = ys.take j) (he : xs[j] = ys[j]) : xs.take (j + 1) = ys.take (j + 1) := by
  rw [List.take_add_one, List.take_add_one, h, List.getElem?_eq_getElem hx, List.getElem?_eq_getElem hy, he]

/-- The texts of lists of bytes. -/
def bsOf (ys : List (List UInt8)) : List ByteArray := ys.map fun l => ⟨l.toArray⟩
theorem bsOf_length (ys : List (List UInt8)) : (bsOf ys).length = ys.length := by simp [bsOf]
theorem bsOf_inj (a b : List (List UInt8)) : bsOf a = bsOf b ↔ a = b := by
  constructor
  · intro h
    have : (bsOf a).map (·.data.toList) = (bsOf b).map (·.data.toList) := by rw [h]
    simpa [bsOf, Function.comp_def] using this
  · intro h; rw [h]
/-- A slice that owns texts reads as them. -/
theorem own_isStrs {w : World} {base : Nat} {v : Value} {ys : List (List UInt8)} (h : w.ownsRow base 9 1 v ys.length (ys.map fun l => Value.string ⟨l.toArray⟩)) : ∃ a c, v = .slice a (bsOf ys).length c ∧ IsStrs w a c (bsOf ys) := by
  rw [bsOf_length]
  obtain ⟨_, ⟨rfl, h0⟩ | ⟨g, cap, cur, rfl, _, hg, hcap, _, hcs, htk⟩⟩ := h
  · obtain rfl : ys = [] := List.eq_nil_of_length_eq_zero h0
    exact ⟨none, 0, rfl, .inl rfl⟩
  · refine ⟨some ⟨g, 0, none⟩, cap, rfl, .inr ⟨g, 0, rfl, (Array.getElem?_eq_some_iff.1 hg).1, by rw [bsOf_length]; exact hcap, fun j x hx => ?_⟩⟩
    rw [Nat.zero_add]
    have hj : j < ys.length := by have := (List.getElem?_eq_some_iff.1 hx).1; rwa [bsOf_length] at this
    have hx2 : x = ⟨ys[j].toArray⟩ := by
      simp [bsOf, hj] at hx
      exact hx.symm
    have hc : cur[j]? = some (.string x) := by
      have h1 : (ys.map fun l => Value.string ⟨l.toArray⟩)[j]? = some (.string x) := by simp [hj, hx2]
      rw [← htk, List.getElem?_take, if_pos (by omega)] at h1
      simpa using h1
    simp [World.cell?, hg, hc]
end Go.Proofs.YtbbphklhnngjmaaGreatDoor

/- stewardlaw05.awake. -/
namespace Go.Proofs.YtbbphklhnngjmaaGreatDoor
open Go.RowKit

/-- What the library's variables hold. -/
def Laid5 (w : World) : Prop := Syn w ∧ Deb w ∧ MaxL w
theorem Laid5.below {w w' : World} (h : Laid5 w) (hb : Below w.heap.size w w') : Laid5 w' := ⟨h.1.below hb, h.2.1.below hb, h.2.2.below hb⟩
theorem hex_at (s : ByteArray) (hs : s.size ≤ 4611686018427387904) (most a b : Int) (h : numR 16 8 isHex s.data.toList most = (a, b)) (w : World) (hw : Laid5 w) :
    Calls Tryz.prog 195 #[.string s, .int .i64 most] w fun e w' => e = .returned (.tuple #[.int .i64 a, .int .i64 b]) ∧ Below w.heap.size w w' := by
  have := hex_any s hs most w hw.1
  rw [h] at this
  exact this
theorem list_any (a : Option Addr) (c : Nat) (xs : List ByteArray) (hsum : sumS xs ≤ 1000000000) (w : World) (hx : IsStrs w a c xs) (hM : Laid5 w) :
    Calls Tryz.prog 120 #[.slice a xs.length c] w fun e w' => ∃ b d, e = .returned (.slice b (bsOf (listP xs)).length d) ∧ IsStrs w' b d (bsOf (listP xs)) ∧ Below w.heap.size w w' := by
  refine (callsIn_wide.1 (list33 a c xs hsum w hx hM.2.2)).mono ?_
  rintro e w' ⟨v, rfl, hrow, hb⟩
  obtain ⟨b, d, rfl, hs⟩ := own_isStrs hrow
  exact ⟨b, d, rfl, hs, hb⟩
theorem isStrs_new2 (w : World) (x y : ByteArray) (T : TypeId) : IsStrs (w.alloc (.cells #[.string x, .string y] T)) (some ⟨w.heap.size, 0, none⟩) 2 [x, y] := by
  refine .inr ⟨w.heap.size, 0, rfl, by simp, by simp, fun j z hz => ?_⟩
  rw [Nat.zero_add]
  match j, hz with
  | 0, hz => obtain rfl : x = z := Option.some.inj hz; simp
  | 1, hz => obtain rfl : y = z := Option.some.inj hz; simp
  | k + 2, hz => simp at hz
theorem isStrs_new3 (w : World) (x y z : ByteArray) (T : TypeId) : IsStrs (w.alloc (.cells #[.string x, .string y, .string z] T)) (some ⟨w.heap.size, 0, none⟩) 3 [x, y, z] := by
  refine .inr ⟨w.heap.size, 0, rfl, by simp, by simp, fun j u hu => ?_⟩
  rw [Nat.zero_add]
  match j, hu with
  | 0, hz => obtain rfl : x = u := Option.some.inj hz; simp
  | 1, hz => obtain rfl : y = u := Option.some.inj hz; simp
  | 2, hz => obtain rfl : z = u := Option.some.inj hz; simp
  | k + 3, hz => simp at hz
theorem prt255 : prt 16 255 = [102, 102] := by decide +kernel
theorem listP_ab : bsOf (listP [⟨#[97, 44, 32, 98]⟩, ⟨#[44, 99]⟩]) = [⟨#[97]⟩, ⟨#[98]⟩, ⟨#[99]⟩] := by decide +kernel
end Go.Proofs.YtbbphklhnngjmaaGreatDoor

/- The library's variables that octet's rows list: what a row says of them; a world that lays them. -/
namespace Go.Proofs.YtbbphklhnngjmaaGreatDoor
open Go.RowKit

theorem gDeb32 : Tryz.prog.globalNamed "math/bits.deBruijn32tab" = some 3 := by kernel_rfl
theorem gDeb64 : Tryz.prog.globalNamed "math/bits.deBruijn64tab" = some 4 := by kernel_rfl
theorem gDeb64T : (Tryz.prog.globals[4]?).map (·.type) = some 220 := by kernel_rfl
theorem gSyn : Tryz.prog.globalNamed "strconv.ErrSyntax" = some 7 := by kernel_rfl
theorem gSynT : (Tryz.prog.globals[7]?).map (·.type) = some 123 := by kernel_rfl
theorem cellsD64 : Tryz.prog.cellsOf 220 = 64 := by kernel_rfl
theorem cellsU8 : Tryz.prog.cellsOf 5 = 1 := by kernel_rfl
theorem cellsErr : Tryz.prog.cellsOf 240 = 1 := by kernel_rfl
theorem cellsStr : Tryz.prog.cellsOf 9 = 1 := by kernel_rfl
theorem starErr : "*" ++ "errors.errorString" = "*errors.errorString" := by decide
theorem rowErr (u : TypeId) (h : Tryz.prog.typeName? 3 u = some "*errors.errorString") : u = 238 :=
  typeName_ptr_named (nm := "errors.errorString") (by rw [starErr]; kernel_rfl) (by kernel_rfl) (by decide) u (by rw [starErr]; exact h)
theorem maxL_shaped {W : World} (h : W.ShapedOpen Tryz.prog) : MaxL W := by
  obtain ⟨m, hm⟩ := cell_of_shapedOpen_int (zero := #[.int .i64 0]) (t := 3) (g := 1) h (of_decide_eq_true (by kernel_rfl)) (by kernel_rfl) rfl (by kernel_rfl) (by kernel_rfl) Tryz.underlying3
  exact ⟨World.block_lt_of_cell? W _ hm, m, hm⟩
theorem laid5 {W : World} {d0 d2 d3 : DataW Unit} {n0 n2 n3 : String} {rest : List (String × DataW Unit)} (hsh : W.ShapedOpen Tryz.prog)
    (h : laidMet Tryz.prog ((n0, d0) :: ("math/bits.deBruijn64tab", Rows.laid_math_bits_deBruijn64tab) :: (n2, d2) :: (n3, d3) :: ("strconv.ErrRange", Rows.laid_strconv_ErrRange) :: ("strconv.ErrSyntax", Rows.laid_strconv_ErrSyntax) :: rest) W) : Laid5 W := by
  have h1 : Lib.TabIs Tryz.prog W "math/bits.deBruijn64tab" .u8 [0, 1, 56, 2, 57, 49, 28, 3, 61, 58, 42, 50, 38, 29, 17, 4, 62, 47, 59, 36, 45, 43, 51, 22, 53, 39, 33, 30, 24, 18, 12, 5, 63, 55, 48, 27, 60, 41, 37, 16, 46, 35, 44, 21, 52, 32, 23, 11, 54, 26, 40, 15, 34, 20, 31, 10, 25, 14, 19, 9, 13, 8, 7, 6] :=
    Lib.tabIs_of_head gDeb64 gDeb64T Tryz.underlying220 Tryz.underlying5 cellsU8 cellsD64 (laidMet.tail h)
  have c15 : W.cell? ⟨4, 15, none⟩ = some (.int .u8 4) := h1.cell gDeb64 15 (by decide)
  obtain ⟨a0, s0, hv0, _, _, _⟩ := laid_sentinel (laidMet.tail (laidMet.tail (laidMet.tail (laidMet.tail (laidMet.tail h))))) gSyn gSynT Tryz.underlying123 rowErr Tryz.underlying238 Tryz.underlying240 rfl rfl Tryz.underlying9 cellsErr cellsStr
  have cs : W.cell? ⟨7, 0, none⟩ = some (.iface 238 (.pointer (some a0))) := by simpa using World.var?_cell gSyn hv0 0
  exact ⟨⟨World.block_lt_of_cell? W _ cs, _, _, cs⟩, ⟨World.block_lt_of_cell? W _ c15, c15⟩, maxL_shaped hsh⟩

/-- The numbers of a datum. -/
def numsOf : DataW Unit → List Value
  | .agg ds => numsAll ds
  | .lit (.int k z) => [.int k z]
  | _ => []
where numsAll : List (DataW Unit) → List Value
  | [] => []
  | d :: r => numsOf d ++ numsAll r
def layAs (cs : Array Value) : Obj → Obj
  | .cells _ t frozen => .cells cs t frozen
  | o => o
noncomputable def low : Nat := (World.holding Tryz.prog default ⟨#[], #[], []⟩).heap.size
noncomputable def octHeap (h : Array Obj) : Array Obj :=
  let h0 := h.modify 3 (layAs (numsOf Rows.laid_math_bits_deBruijn32tab).toArray)
  let h1 := h0.modify 4 (layAs (numsOf Rows.laid_math_bits_deBruijn64tab).toArray)
  let h2 := h1.modify 2 (layAs (numsOf Rows.laid_internal_strconv_uint64pow10).toArray)
  let h3 := h2.modify 6 (layAs (numsOf Rows.laid_unicode_utf8_acceptRanges).toArray)
  let h4 := h3.modify 8 (layAs #[.iface 238 (.pointer (some ⟨low, 0, none⟩))])
  let h5 := h4.modify 7 (layAs #[.iface 238 (.pointer (some ⟨low + 1, 0, none⟩))])
  h5.modify 5 (layAs (numsOf Go.Pinned.utf8First).toArray)
noncomputable def octWorld (os : Os) : World :=
  let w0 := World.holding Tryz.prog os ⟨#[.cells #[.string ⟨#[118, 97, 108, 117, 101, 32, 111, 117, 116, 32, 111, 102, 32, 114, 97, 110, 103, 101]⟩] 240, .cells #[.string ⟨#[105, 110, 118, 97, 108, 105, 100, 32, 115, 121, 110, 116, 97, 120]⟩] 240], #[], []⟩
  { w0 with heap := octHeap w0.heap }
end Go.Proofs.YtbbphklhnngjmaaGreatDoor

/- stewardlaw01.Cut. -/
namespace Go.Proofs.YtbbphklhnngjmaaGreatDoor
open Go.RowKit

theorem extractC (t : ByteArray) (a b : Nat) : t.extract a b = ⟨((t.data.toList.drop a).take (b - a)).toArray⟩ := by
  have h : (t.extract a b).data = t.data.extract a b := ByteArray.data_extract
  have h2 : (t.data.extract a b).toList = (t.data.toList.drop a).take (b - a) := by simp [Array.toList_extract]
  rw [← h2, ← h]
/-- The first bytes. -/
def cutS (s : ByteArray) (n : Nat) : ByteArray := ⟨(s.data.toList.take n).toArray⟩
theorem cutS_all (s : ByteArray) (n : Nat) (h : s.size ≤ n) : cutS s n = s := by
  unfold cutS
  rw [List.take_of_length_le (by rw [← Lib.size_eq]; exact h)]
theorem cutS_size (s : ByteArray) (n : Nat) : (cutS s n).size ≤ n := by
  rw [Lib.size_eq]; simp [cutS]; omega
theorem cutS_data (s : ByteArray) (n : Nat) : (cutS s n).data.toList = s.data.toList.take n := rfl

set_option maxHeartbeats 400000 in
theorem cut11 (s : ByteArray) (n : Nat) (w : World) :
    Calls Tryz.prog 8 #[.string s, .int .i64 n] w fun e w' => e = .returned (.string (cutS s n)) ∧ w = w' := by
  by_cases h : s.size ≤ n
  · rw [cutS_all s n h]
    have h' : (s.size : Int) ≤ n := by omega
    go_enter Tryz.func8, Tryz.ntmps8
    go_wp2_with fail
    go_ret
    exact ⟨rfl, rfl⟩
  · have he : s.extract 0 n = cutS s n := by rw [extractC, List.drop_zero]; rfl
    have h' : (n : Int) < s.size := by omega
    have h2 : (n : Int) ≤ s.size := by omega
    go_enter Tryz.func8, Tryz.ntmps8
    go_wp2_with fail
    go_ret
    exact ⟨rfl, rfl⟩
end Go.Proofs.YtbbphklhnngjmaaGreatDoor

