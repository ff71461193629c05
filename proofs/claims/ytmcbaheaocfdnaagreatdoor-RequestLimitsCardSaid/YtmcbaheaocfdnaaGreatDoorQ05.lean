/- Packed: SeqA, SeqB, IsS, SeqC, SameA, AwakeO, TabsO, Keep, FldA, FldB, FldC, FldD, Mch, Cut. -/
import Derived.RangeFuncNested
import Derived.RangeFuncBound
import Derived.RangeFuncCalls
import Derived.RangeFuncBox
import Derived.RangeFuncLeaves
import Derived.OwnWalkIn
import Derived.TacticsInMore
import Derived.LoopNIn
import Derived.LoopIn
import Derived.Maps.AppendAt
import Derived.Laws.AppendOwn
import Derived.Test.YtmcbaheaocfdnaaGreatDoorRows
import Derived.Lib.LaidTab
import Derived.LaidLaws
import Derived.Stop.LaidErr
import Derived.Shelf.Vars
import Derived.KernelRfl
import Derived.Lib.SliceRun
import Derived.Laws.IdiomCopy
import Derived.Laws.OwnMore
import Derived.Lib.IndexBytes
import Derived.Test.YtmcbaheaocfdnaaGreatDoorQ00
import Derived.Test.YtmcbaheaocfdnaaGreatDoorQ02
import Derived.Test.YtmcbaheaocfdnaaGreatDoorQ03
import Derived.Test.YtmcbaheaocfdnaaGreatDoorShelfB
/- strings.SplitSeq: its iterator, and a loop over it. -/
namespace Go.Proofs.YtmcbaheaocfdnaaGreatDoor
open Go.RowKit

attribute [local go_sem] Oper.semAt_some

/-- The parts of a text between the bytes c. -/
def parts (c : UInt8) : List UInt8 → List (List UInt8)
  | [] => [[]]
  | b :: r => if b = c then [] :: parts c r else match parts c r with
    | p :: ps => (b :: p) :: ps
    | [] => [[b]]
theorem parts_ne (c : UInt8) : ∀ l, parts c l ≠ []
  | [] => by simp [parts]
  | b :: r => by
    unfold parts
    split
    · simp
    · split <;> simp
theorem parts_one (c : UInt8) : ∀ l : List UInt8, c ∉ l → parts c l = [l]
  | [], _ => rfl
  | b :: r, h => by
    rw [List.mem_cons, not_or] at h
    rw [parts, if_neg (fun e => h.1 e.symm), parts_one c r h.2]
theorem parts_cut (c : UInt8) : ∀ (a b : List UInt8), c ∉ a → parts c (a ++ c :: b) = a :: parts c b
  | [], b, _ => by rw [List.nil_append, parts, if_pos rfl]
  | x :: a, b, h => by
    rw [List.mem_cons, not_or] at h
    rw [List.cons_append, parts, if_neg (fun e => h.1 e.symm), parts_cut c a b h.2]
theorem parts_length (c : UInt8) : ∀ l, (parts c l).length ≤ l.length + 1
  | [] => by simp [parts]
  | b :: r => by
    have ih := parts_length c r
    unfold parts
    split
    · simp; omega
    · split
      · rename_i p ps h; rw [h] at ih; simp at ih ⊢; omega
      · simp
theorem ib_cut (c : UInt8) : ∀ l : List UInt8, (Lib.indexByte l c = -1 ∧ c ∉ l) ∨ (∃ i : Nat, Lib.indexByte l c = (i : Int) ∧ i < l.length ∧ l = l.take i ++ c :: l.drop (i + 1) ∧ c ∉ l.take i)
  | [] => .inl ⟨rfl, by simp⟩
  | b :: r => by
    by_cases hb : b = c
    · subst hb
      exact .inr ⟨0, by simp [Lib.indexByte], by simp, by simp, by simp⟩
    · have hbb : (b == c) = false := beq_eq_false_iff_ne.2 hb
      rcases ib_cut c r with ⟨h1, h2⟩ | ⟨i, h1, h2, h3, h4⟩
      · exact .inl ⟨by simp [Lib.indexByte, hbb, h1], by rw [List.mem_cons, not_or]; exact ⟨fun e => hb e.symm, h2⟩⟩
      · refine .inr ⟨i + 1, ?_, by simp; omega, ?_, ?_⟩
        · have hne : ((i : Int) == -1) = false := beq_eq_false_iff_ne.2 (by omega)
          simp only [Lib.indexByte, hbb, h1, hne]
          simp
        · rw [List.take_succ_cons, List.drop_succ_cons, List.cons_append, ← h3]
        · rw [List.take_succ_cons, List.mem_cons, not_or]
          exact ⟨fun e => hb e.symm, h4⟩
/-- A byte's first place: nowhere, or the text is cut there. -/
theorem index_cut (c : UInt8) (l : List UInt8) : (Lib.index l [c] = -1 ∧ c ∉ l) ∨ (∃ i : Nat, Lib.index l [c] = (i : Int) ∧ i < l.length ∧ l = l.take i ++ c :: l.drop (i + 1) ∧ c ∉ l.take i) := by
  rw [Lib.index_one]
  exact ib_cut c l
/-- The library's greatest length for a search holds a number. -/
def MaxL (w : World) : Prop := 0 < w.heap.size ∧ ∃ m, w.cell? ⟨0, 0, none⟩ = some (.int .i64 m)
theorem MaxL.below {w w' : World} (h : MaxL w) (hb : Below w.heap.size w w') : MaxL w' := by
  obtain ⟨h1, m, h2⟩ := h
  exact ⟨Nat.lt_of_lt_of_le h1 hb.size, m, by rw [(bcell hb).1 _ _ h1]; exact h2⟩
/-- The three boxes of an iterator: its text's rest, the byte at which it parts, nothing kept of it. -/
structure SeqBox (W : World) (h : Nat) (c : UInt8) (t : ByteArray) : Prop where
  txt : Boxed W h 9 (.string t)
  sep : Boxed W (h + 1) 9 (.string ⟨#[c]⟩)
  sav : Boxed W (h + 2) 3 (.int .i64 0)

/-- How long the text's rest is. -/
def boxSize (W : World) (h : Nat) : Nat := match W.cell? ⟨h, 0, none⟩ with
  | some (.string t) => t.size
  | _ => 0
end Go.Proofs.YtmcbaheaocfdnaaGreatDoor

/- strings.SplitSeq's calls; a loop over its iterator, as a law. -/
namespace Go.Proofs.YtmcbaheaocfdnaaGreatDoor
open Go.RowKit

attribute [local go_sem] Oper.semAt_some

theorem seqBox_new (w : World) (c : UInt8) (s : ByteArray) :
    SeqBox (((w.alloc (.cells #[.string s] 9)).alloc (.cells #[.string ⟨#[c]⟩] 9)).alloc (.cells #[.int .i64 0] 3)) w.heap.size c s := by
  refine ⟨((Boxed.new w 9 (.string s)).alloc _).alloc _, ?_, ?_⟩
  · have := (Boxed.new (w.alloc (.cells #[.string s] 9)) 9 (.string ⟨#[c]⟩)).alloc (.cells #[.int .i64 0] 3)
    rw [World.size_alloc] at this
    exact this
  · have := Boxed.new ((w.alloc (.cells #[.string s] 9)).alloc (.cells #[.string ⟨#[c]⟩] 9)) 3 (.int .i64 0)
    rw [World.size_alloc, World.size_alloc] at this
    exact this
/-- How a round's body may be left. -/
def roundEnd (B h : Nat) (I Ix : List (List UInt8) → World → Prop) (xs : List (List UInt8)) (W : World) : Exit → Act → World → Prop
  | .normal, _, W' => KeepsFrom B W W' ∧ (∀ b, h ≤ b → b < h + 3 → W'.heap[b]? = W.heap[b]?) ∧ I xs W'
  | .ret, _, W' => KeepsFrom B W W' ∧ Ix xs W'
  | .exit _, _, _ => False
  | .goto _, _, _ => False
  | .panic _, _, _ => False
  | .outgrown, _, _ => False
/-- What the loop itself and the iterator turn: the iterator's text, blocks that the loop has laid. -/
def Minds (B h : Nat) (I : List (List UInt8) → World → Prop) : Prop :=
  ∀ pre A C row, I pre A → A.grownBy C row → (∀ r, row = some r → r = h ∨ (B ≤ r ∧ ∃ o : Obj, A.heap[r]? = some o ∧ o.isCells = false)) → I pre C
theorem Minds.put {B h : Nat} {I : List (List UInt8) → World → Prop} (hI : Minds B h I) {pre : List (List UInt8)} {W : World} {l : Nat} {o : Obj} (o' : Obj) (hi : I pre W) (hB : B ≤ l) (hl : W.heap[l]? = some o) (ho : o.isCells = false) : I pre (W.putObj l o') :=
  hI pre W _ (some l) hi (grownBy_putObj' W l o') (fun r e => by injection e with e; subst e; exact .inr ⟨hB, o, hl, ho⟩)
theorem Minds.new {B h : Nat} {I : List (List UInt8) → World → Prop} (hI : Minds B h I) {pre : List (List UInt8)} {W : World} (o : Obj) (hi : I pre W) : I pre (W.alloc o) :=
  hI pre W _ none hi (World.grownBy_alloc W o none) (fun r e => by cases e)
theorem Minds.text {B h : Nat} {I : List (List UInt8) → World → Prop} (hI : Minds B h I) {pre : List (List UInt8)} {W : World} (v : Value) (hi : I pre W) : I pre (W.setCell ⟨h, 0, none⟩ v) :=
  hI pre W _ (some h) hi (grownBy_setCell' W h v) (fun r e => by injection e with e; exact .inl e.symm)
theorem SeqBox.alloc {W : World} {h : Nat} {c : UInt8} {t : ByteArray} (hb : SeqBox W h c t) (o : Obj) : SeqBox (W.alloc o) h c t := ⟨hb.txt.alloc o, hb.sep.alloc o, hb.sav.alloc o⟩
theorem heap_set_other (W : World) (h k : Nat) (v : Value) (hk : k ≠ h) : (W.setCell ⟨h, 0, none⟩ v).heap[k]? = W.heap[k]? := Below.heap_setCell W ⟨h, 0, none⟩ v k hk

end Go.Proofs.YtmcbaheaocfdnaaGreatDoor

/- Slices of strings. -/
namespace Go.Proofs.YtmcbaheaocfdnaaGreatDoor
open Go.RowKit

/-- A slice that reads as these strings. -/
def IsStrs (w : World) (a : Option Addr) (c : Nat) (xs : List ByteArray) : Prop :=
  xs = [] ∨ ∃ bk o, a = some ⟨bk, o, none⟩ ∧ bk < w.heap.size ∧ xs.length ≤ c ∧ ∀ (j : Nat) x, xs[j]? = some x → w.cell? ⟨bk, o + j, none⟩ = some (.string x)
theorem IsStrs.below {w w' : World} {a : Option Addr} {c : Nat} {xs : List ByteArray} (h : IsStrs w a c xs) (hb : Below w.heap.size w w') : IsStrs w' a c xs := by
  obtain h | ⟨bk, o, ha, hlt, hc, hcell⟩ := h
  · exact .inl h
  · obtain ⟨hc', _⟩ := bcell hb
    exact .inr ⟨bk, o, ha, Nat.lt_of_lt_of_le hlt hb.size, hc, fun j x hx => by rw [hc' _ _ hlt]; exact hcell j x hx⟩
end Go.Proofs.YtmcbaheaocfdnaaGreatDoor

/- octet's List. -/
namespace Go.Proofs.YtmcbaheaocfdnaaGreatDoor
open Go.RowKit

attribute [local go_sem] Oper.semAt_some

theorem infoStr : (Tryz.prog.info? 9).map (fun i => (i.zero, i.size, i.bytes)) = some (some (.string ⟨#[]⟩), 1, 16) := by kernel_rfl
/-- append of one value, in a fence; where the new row lies. -/
theorem in_append {F : Fence} {n : Nat} {P : Program} (w : World) {ops : Array Oper} {rest : List Oper} {o : Oper} {a : Act} {Q : Exit → Act → World → Prop}
    (hg : o.guard = none) (s x : Operand) (t : TypeId) (hop : o.op = Op.call { callee := Callee.builtin Builtin.append, args := #[s, x], argTypes := #[t, t] })
    (base : Nat) (e : TypeId) (i : TypeInfo) (z : Value) (bytes : Nat) (h1 : P.underlying t = some (.slice e)) (h2 : P.info? e = some i) (h3 : i.zero = some z) (h4 : i.size = 1) (h5 : i.bytes = bytes) (h6 : z.cells.size = 1)
    (v : Value) (k : Nat) (xs : List Value) (hs : a.eval s = v) (hown : w.ownsRow base e 1 v k xs) (ad : Addr) (u : Value) (hx : a.eval x = .slice (some ad) 1 1)
    (hc : ∀ j y, [u][j]? = some y → w.cell? (ad.add j) = some y) (h1c : u.oneCell' = true) (b1 : k + 1 ≤ maxLen) (b2 : (k + 1) * bytes ≤ 140737488355328) (b3 : base ≤ w.heap.size)
    (hK : ∀ v' w', w'.ownsRow base e 1 v' (k + 1) (xs ++ [u]) → w.grownBy w' v.ownBlock → (v'.ownBlock = v.ownBlock ∨ v'.ownBlock = some w.heap.size) → wpListIn F n P ops Q rest (a.put o.dst v') w') :
    wpListIn F n P ops Q (o :: rest) a w := by
  refine wpListIn_plain hg fun K hK' => ?_
  obtain ⟨v', w', hrun, r1, r2, _, r4⟩ := run_append_own_at (P := P) w base t o.type e i z 1 bytes h1 h2 h3 h4 h5 h6 (by decide) v k xs hown ad 1 1 [u] rfl hc (by intro y hy; simp at hy; subst hy; exact h1c) b1 b2 b3
  unfold Oper.wpIn
  refine ⟨?_, ?_⟩
  · simp [Oper.about, hop, resolve, Target.leads, Sem.run_pure]
  · rw [Oper.semAt_plain F _ _ (by rw [hop]; intro c hc'; cases hc')]
    simp [execOp, hop, resolve, invoke, builtin, hs, hx, hrun, Result.andThen]
    exact hK' _ _ (hK v' w' r1 r2 r4)

theorem trim_list (y : List UInt8) (hy : y.length ≤ 4611686018427387904) (w : World) :
    Calls Tryz.prog 79 #[.string ⟨y.toArray⟩] w fun e w' => e = .returned (.string ⟨(trimB y).toArray⟩) ∧ Below w.heap.size w w' := by
  have h := trim23 ⟨y.toArray⟩ (by rw [Lib.size_eq]; exact hy) w
  exact h
/-- What is kept of parts. -/
def keepP (ps : List (List UInt8)) : List (List UInt8) := (ps.map trimB).filter fun l => !l.isEmpty
def valsOf (ys : List (List UInt8)) : List Value := ys.map fun l => Value.string ⟨l.toArray⟩
/-- The parts of the first values. -/
def accL (xs : List ByteArray) (j : Nat) : List (List UInt8) := ((xs.take j).map fun x => keepP (parts 44 x.data.toList)).flatten
def listP (xs : List ByteArray) : List (List UInt8) := accL xs xs.length
theorem keepP_length (ps : List (List UInt8)) : (keepP ps).length ≤ ps.length := by
  unfold keepP
  exact Nat.le_trans (List.length_filter_le _ _) (by rw [List.length_map]; exact Nat.le_refl _)
theorem keepP_snoc (ps : List (List UInt8)) (x : List UInt8) : keepP (ps ++ [x]) = keepP ps ++ if (trimB x).isEmpty then [] else [trimB x] := by
  unfold keepP
  rw [List.map_append, List.filter_append]
  congr 1
  by_cases h : (trimB x).isEmpty = true
  · simp [h]
  · simp [h]
theorem accL_succ (xs : List ByteArray) (j : Nat) (h : j < xs.length) : accL xs (j + 1) = accL xs j ++ keepP (parts 44 xs[j].data.toList) := by
  unfold accL
  rw [List.take_add_one, List.getElem?_eq_getElem h, Option.toList_some, List.map_append, List.flatten_append]
  simp
def sumS (xs : List ByteArray) : Nat := (xs.map fun x => x.size + 1).sum
theorem accL_bound (xs : List ByteArray) : ∀ j, (accL xs j).length ≤ sumS (xs.take j)
  | 0 => by simp [accL, sumS]
  | j + 1 => by
    have ih := accL_bound xs j
    by_cases h : j < xs.length
    · rw [accL_succ xs j h, List.length_append]
      have h1 := keepP_length (parts 44 xs[j].data.toList)
      have h2 := parts_length 44 xs[j].data.toList
      rw [← Lib.size_eq] at h2
      have h3 : sumS (xs.take (j + 1)) = sumS (xs.take j) + (xs[j].size + 1) := by
        unfold sumS
        rw [List.take_add_one, List.getElem?_eq_getElem h, Option.toList_some, List.map_append, List.sum_append]
        simp
      omega
    · unfold accL sumS at *
      rw [List.take_of_length_le (by omega)] at ih ⊢
      exact ih
theorem sumS_part (xs : List ByteArray) (j : Nat) (h : j < xs.length) : sumS (xs.take j) + (xs[j].size + 1) ≤ sumS xs := by
  have e : xs = xs.take j ++ (xs[j] :: xs.drop (j + 1)) := by rw [← List.drop_eq_getElem_cons h, List.take_append_drop]
  have h2 : sumS xs = sumS (xs.take j) + ((xs[j].size + 1) + sumS (xs.drop (j + 1))) := by
    have := congrArg sumS e
    rw [this]
    unfold sumS
    rw [List.map_append, List.sum_append, List.map_cons, List.sum_cons]
  omega
theorem sum_len (xs : List ByteArray) : xs.length ≤ sumS xs := by
  unfold sumS
  induction xs with
  | nil => simp
  | cons a r ih => simp only [List.length_cons, List.map_cons, List.sum_cons]; omega
/-- The blocks for deferred calls that loops have laid. -/
def markD (D : Nat) : Deferred := { target := .collected D, args := #[] }
theorem grown_of_below {W W1 : World} (hb : Below W.heap.size W W1) : W.grownBy W1 none := ⟨hb.os, hb.tape, hb.output, hb.size, fun k hk _ => hb.block k hk⟩
/-- What List has collected. -/
structure Acc (w W : World) (Ds : List Nat) (ys : List (List UInt8)) (v : Value) : Prop where
  box : Boxed W w.heap.size 30 v
  row : W.ownsRow w.heap.size 9 1 v ys.length (valsOf ys)
  ds : ∀ D ∈ Ds, W.heap[D]? = some (.deferred (some []))
  bel : Below w.heap.size w W
  dlo : ∀ D ∈ Ds, w.heap.size < D
/-- A row that a slice owns is cells. -/
theorem own_cells {W : World} {base k : Nat} {e : TypeId} {v : Value} {xs : List Value} (h : W.ownsRow base e 1 v k xs) (g : Nat) (hg : v.ownBlock = some g) : ∃ o, W.heap[g]? = some o ∧ o.isCells = true := by
  obtain ⟨_, ⟨rfl, _⟩ | ⟨g', cap, cur, rfl, _, hh, _⟩⟩ := h
  · simp [Value.ownBlock] at hg
  · obtain rfl : g' = g := by simpa [Value.ownBlock] using hg
    exact ⟨_, hh, rfl⟩
theorem Acc.grown {w W W' : World} {Ds : List Nat} {ys : List (List UInt8)} {v : Value} (h : Acc w W Ds ys v) {row : Option Nat} (hg : W.grownBy W' row)
    (hr : ∀ r, row = some r → w.heap.size < r ∧ v.ownBlock ≠ some r ∧ r ∉ Ds) : Acc w W' Ds ys v := by
  refine ⟨h.box.kept hg (fun e => ?_), h.row.kept hg ?_, fun D hD => ?_, h.bel.grown hg h.bel.size (fun k e => Nat.le_of_lt (hr k e).1), h.dlo⟩
  · have := (hr _ e.symm).1; omega
  · cases hv : v.ownBlock with
    | none => exact .inl rfl
    | some g => exact .inr (fun e => (hr g e.symm).2.1 hv)
  · have hd := h.ds D hD
    exact (hg.block D (Array.getElem?_eq_some_iff.1 hd).1 (fun e => (hr D e.symm).2.2 hD)).trans hd

theorem leaves_marks {fn : Func} {n : Nat} {tmps : Array Value} {R : Ending → World → Prop} {v : Value} {P : Program} (hres : ∀ W, (results fn tmps).run P W = .ok v W) {B k : Nat} {e : TypeId} {u : Value} {ys : List Value} {w : World} :
    ∀ (Ds : List Nat) (W : World), Ds.Nodup → (∀ D ∈ Ds, W.heap[D]? = some (.deferred (some []))) → (∀ D ∈ Ds, B ≤ D) → W.ownsRow B e 1 u k ys → Below B w W →
      (∀ W', W'.ownsRow B e 1 u k ys → Below B w W' → R (.returned v) W') → LeavesInM Fence.wide n P fn tmps R (Ds.map markD) .returning W
  | [], W, _, _, _, hr, hb, hR => ⟨v, hres W, hR W hr hb⟩
  | D :: r, W, hnd, hd, hB, hr, hb, hR => by
    have hD := hd D (List.mem_cons_self)
    have hlt := (Array.getElem?_eq_some_iff.1 hD).1
    have hn := List.nodup_cons.1 hnd
    refine ⟨by simp, .inl ⟨D, _, rfl, run_takeDeferred hD, ?_⟩⟩
    refine leaves_marks hres r _ hn.2 (fun E hE => ?_) (fun E hE => hB E (List.mem_cons_of_mem _ hE)) (ownsRow_putObj hr _ hD rfl)
      (hb.grown (grownBy_putObj' W D (.deferred none)) (by have := hB D List.mem_cons_self; omega) (fun q eq => by injection eq with eq; subst eq; exact hB _ List.mem_cons_self)) hR
    rw [World.putObj_heap_other (fun e => hn.1 (by rw [← e]; exact hE))]
    exact hd E (List.mem_cons_of_mem _ hE)
end Go.Proofs.YtmcbaheaocfdnaaGreatDoor

/- stewardlaw05.Same. -/
namespace Go.Proofs.YtmcbaheaocfdnaaGreatDoor
open Go.RowKit

theorem str_beq (a b : ByteArray) : (a.toList == b.toList) = decide (a = b) := by
  rw [ByteArray.toList_eq, ByteArray.toList_eq]
  by_cases h : a = b
  · subst h; simp
  · have h2 : ¬ a.data = b.data := fun e => h (ByteArray.ext e)
    simp [h, h2]
theorem take_eq_step (xs ys : List ByteArray) (j : Nat) (hx : j < xs.length) (hy : j < ys.length) (h : xs.take j = ys.take j) (he : xs[j] = ys[j]) : xs.take (j + 1) = ys.take (j + 1) := by
  rw [List.take_add_one, List.take_add_one, h, List.getElem?_eq_getElem hx, List.getElem?_eq_getElem hy, he]

/-- The texts of lists of bytes. -/
def bsOf (ys : List (List UInt8)) : List ByteArray := ys.map fun l => ⟨l.toArray⟩
theorem bsOf_length (ys : List (List UInt8)) : (bsOf ys).length = ys.length := by simp [bsOf]
theorem bsOf_inj (a b : List (List UInt8)) : bsOf a = bsOf b ↔ a = b := by
  constructor
  · intro h
    have : (bsOf a).map (·.data.toList) = (bsOf b).map (·.data.toList) := by rw [h]
    simpa [bsOf, Function.comp_def] using this
  · intro h; rw [h]
/-- A slice that owns texts reads as them. -/
theorem own_isStrs {w : World} {base : Nat} {v : Value} {ys : List (List UInt8)} (h : w.ownsRow base 9 1 v ys.length (ys.map fun l => Value.string ⟨l.toArray⟩)) : ∃ a c, v = .slice a (bsOf ys).length c ∧ IsStrs w a c (bsOf ys) := by
  rw [bsOf_length]
  obtain ⟨_, ⟨rfl, h0⟩ | ⟨g, cap, cur, rfl, _, hg, hcap, _, hcs, htk⟩⟩ := h
  · obtain rfl : ys = [] := List.eq_nil_of_length_eq_zero h0
    exact ⟨none, 0, rfl, .inl rfl⟩
  · refine ⟨some ⟨g, 0, none⟩, cap, rfl, .inr ⟨g, 0, rfl, (Array.getElem?_eq_some_iff.1 hg).1, by rw [bsOf_length]; exact hcap, fun j x hx => ?_⟩⟩
    rw [Nat.zero_add]
    have hj : j < ys.length := by have := (List.getElem?_eq_some_iff.1 hx).1; rwa [bsOf_length] at this
    have hx2 : x = ⟨ys[j].toArray⟩ := by
      simp [bsOf, hj] at hx
      exact hx.symm
    have hc : cur[j]? = some (.string x) := by
      have h1 : (ys.map fun l => Value.string ⟨l.toArray⟩)[j]? = some (.string x) := by simp [hj, hx2]
      rw [← htk, List.getElem?_take, if_pos (by omega)] at h1
      simpa using h1
    simp [World.cell?, hg, hc]
end Go.Proofs.YtmcbaheaocfdnaaGreatDoor

/- stewardlaw05.awake. -/
namespace Go.Proofs.YtmcbaheaocfdnaaGreatDoor
open Go.RowKit

/-- What the library's variables hold. -/
def Laid5 (w : World) : Prop := Syn w ∧ Deb w ∧ MaxL w
theorem Laid5.below {w w' : World} (h : Laid5 w) (hb : Below w.heap.size w w') : Laid5 w' := ⟨h.1.below hb, h.2.1.below hb, h.2.2.below hb⟩
theorem hex_at (s : ByteArray) (hs : s.size ≤ 4611686018427387904) (most a b : Int) (h : numR 16 8 isHex s.data.toList most = (a, b)) (w : World) (hw : Laid5 w) :
    Calls Tryz.prog 118 #[.string s, .int .i64 most] w fun e w' => e = .returned (.tuple #[.int .i64 a, .int .i64 b]) ∧ Below w.heap.size w w' := by
  have := hex_any s hs most w hw.1
  rw [h] at this
  exact this
theorem isStrs_new2 (w : World) (x y : ByteArray) (T : TypeId) : IsStrs (w.alloc (.cells #[.string x, .string y] T)) (some ⟨w.heap.size, 0, none⟩) 2 [x, y] := by
  refine .inr ⟨w.heap.size, 0, rfl, by simp, by simp, fun j z hz => ?_⟩
  rw [Nat.zero_add]
  match j, hz with
  | 0, hz => obtain rfl : x = z := Option.some.inj hz; simp
  | 1, hz => obtain rfl : y = z := Option.some.inj hz; simp
  | k + 2, hz => simp at hz
theorem isStrs_new3 (w : World) (x y z : ByteArray) (T : TypeId) : IsStrs (w.alloc (.cells #[.string x, .string y, .string z] T)) (some ⟨w.heap.size, 0, none⟩) 3 [x, y, z] := by
  refine .inr ⟨w.heap.size, 0, rfl, by simp, by simp, fun j u hu => ?_⟩
  rw [Nat.zero_add]
  match j, hu with
  | 0, hz => obtain rfl : x = u := Option.some.inj hz; simp
  | 1, hz => obtain rfl : y = u := Option.some.inj hz; simp
  | 2, hz => obtain rfl : z = u := Option.some.inj hz; simp
  | k + 3, hz => simp at hz
theorem prt255 : prt 16 255 = [102, 102] := by decide +kernel
theorem listP_ab : bsOf (listP [⟨#[97, 44, 32, 98]⟩, ⟨#[44, 99]⟩]) = [⟨#[97]⟩, ⟨#[98]⟩, ⟨#[99]⟩] := by decide +kernel
end Go.Proofs.YtmcbaheaocfdnaaGreatDoor

/- The library's variables that octet's rows list: what a row says of them; a world that lays them. -/
namespace Go.Proofs.YtmcbaheaocfdnaaGreatDoor
open Go.RowKit

theorem gDeb32 : Tryz.prog.globalNamed "math/bits.deBruijn32tab" = some 6 := by kernel_rfl
theorem gDeb64 : Tryz.prog.globalNamed "math/bits.deBruijn64tab" = some 7 := by kernel_rfl
theorem gDeb64T : (Tryz.prog.globals[7]?).map (·.type) = some 197 := by kernel_rfl
theorem gSyn : Tryz.prog.globalNamed "strconv.ErrSyntax" = some 3 := by kernel_rfl
theorem gSynT : (Tryz.prog.globals[3]?).map (·.type) = some 104 := by kernel_rfl
theorem cellsD64 : Tryz.prog.cellsOf 197 = 64 := by kernel_rfl
theorem cellsU8 : Tryz.prog.cellsOf 5 = 1 := by kernel_rfl
theorem cellsErr : Tryz.prog.cellsOf 183 = 1 := by kernel_rfl
theorem cellsStr : Tryz.prog.cellsOf 9 = 1 := by kernel_rfl
theorem starErr : "*" ++ "errors.errorString" = "*errors.errorString" := by decide
theorem rowErr (u : TypeId) (h : Tryz.prog.typeName? 3 u = some "*errors.errorString") : u = 181 :=
  typeName_ptr_named (nm := "errors.errorString") (by rw [starErr]; kernel_rfl) (by kernel_rfl) (by decide) u (by rw [starErr]; exact h)
theorem maxL_shaped {W : World} (h : W.ShapedOpen Tryz.prog) : MaxL W := by
  obtain ⟨m, hm⟩ := cell_of_shapedOpen_int (zero := #[.int .i64 0]) (t := 3) (g := 0) h (of_decide_eq_true (by kernel_rfl)) (by kernel_rfl) rfl (by kernel_rfl) (by kernel_rfl) Tryz.underlying3
  exact ⟨World.block_lt_of_cell? W _ hm, m, hm⟩
theorem laid5 {W : World} {d0 d2 d3 : DataW Unit} {n0 n2 n3 : String} {rest : List (String × DataW Unit)} (hsh : W.ShapedOpen Tryz.prog)
    (h : laidMet Tryz.prog ((n0, d0) :: ("math/bits.deBruijn64tab", Rows.laid_math_bits_deBruijn64tab) :: (n2, d2) :: (n3, d3) :: ("strconv.ErrRange", Rows.laid_strconv_ErrRange) :: ("strconv.ErrSyntax", Rows.laid_strconv_ErrSyntax) :: rest) W) : Laid5 W := by
  have h1 : Lib.TabIs Tryz.prog W "math/bits.deBruijn64tab" .u8 [0, 1, 56, 2, 57, 49, 28, 3, 61, 58, 42, 50, 38, 29, 17, 4, 62, 47, 59, 36, 45, 43, 51, 22, 53, 39, 33, 30, 24, 18, 12, 5, 63, 55, 48, 27, 60, 41, 37, 16, 46, 35, 44, 21, 52, 32, 23, 11, 54, 26, 40, 15, 34, 20, 31, 10, 25, 14, 19, 9, 13, 8, 7, 6] :=
    Lib.tabIs_of_head gDeb64 gDeb64T Tryz.underlying197 Tryz.underlying5 cellsU8 cellsD64 (laidMet.tail h)
  have c15 : W.cell? ⟨7, 15, none⟩ = some (.int .u8 4) := h1.cell gDeb64 15 (by decide)
  obtain ⟨a0, s0, hv0, _, _, _⟩ := laid_sentinel (laidMet.tail (laidMet.tail (laidMet.tail (laidMet.tail (laidMet.tail h))))) gSyn gSynT Tryz.underlying104 rowErr Tryz.underlying181 Tryz.underlying183 rfl rfl Tryz.underlying9 cellsErr cellsStr
  have cs : W.cell? ⟨3, 0, none⟩ = some (.iface 181 (.pointer (some a0))) := by simpa using World.var?_cell gSyn hv0 0
  exact ⟨⟨World.block_lt_of_cell? W _ cs, _, _, cs⟩, ⟨World.block_lt_of_cell? W _ c15, c15⟩, maxL_shaped hsh⟩

/-- The numbers of a datum. -/
def numsOf : DataW Unit → List Value
  | .agg ds => numsAll ds
  | .lit (.int k z) => [.int k z]
  | _ => []
where numsAll : List (DataW Unit) → List Value
  | [] => []
  | d :: r => numsOf d ++ numsAll r
def layAs (cs : Array Value) : Obj → Obj
  | .cells _ t frozen => .cells cs t frozen
  | o => o
noncomputable def low : Nat := (World.holding Tryz.prog default ⟨#[], #[], []⟩).heap.size
noncomputable def octHeap (h : Array Obj) : Array Obj :=
  let h0 := h.modify 6 (layAs (numsOf Rows.laid_math_bits_deBruijn32tab).toArray)
  let h1 := h0.modify 7 (layAs (numsOf Rows.laid_math_bits_deBruijn64tab).toArray)
  let h2 := h1.modify 5 (layAs (numsOf Rows.laid_internal_strconv_uint64pow10).toArray)
  let h3 := h2.modify 2 (layAs (numsOf Rows.laid_unicode_utf8_acceptRanges).toArray)
  let h4 := h3.modify 4 (layAs #[.iface 181 (.pointer (some ⟨low, 0, none⟩))])
  let h5 := h4.modify 3 (layAs #[.iface 181 (.pointer (some ⟨low + 1, 0, none⟩))])
  h5.modify 1 (layAs (numsOf Go.Pinned.utf8First).toArray)
noncomputable def octWorld (os : Os) : World :=
  let w0 := World.holding Tryz.prog os ⟨#[.cells #[.string ⟨#[118, 97, 108, 117, 101, 32, 111, 117, 116, 32, 111, 102, 32, 114, 97, 110, 103, 101]⟩] 183, .cells #[.string ⟨#[105, 110, 118, 97, 108, 105, 100, 32, 115, 121, 110, 116, 97, 120]⟩] 183], #[], []⟩
  { w0 with heap := octHeap w0.heap }
end Go.Proofs.YtmcbaheaocfdnaaGreatDoor

/- Memory of an object that lies in some blocks G, its own: what a call that writes there leaves as it was. -/
namespace Go.Proofs.YtmcbaheaocfdnaaGreatDoor
open Go.RowKit

/-- Nothing has changed but blocks of G and new ones. -/
structure Keep (G : Nat → Prop) (w w' : World) : Prop where
  os : w'.os = w.os
  tape : w'.tape = w.tape
  output : w'.output = w.output
  size : w.heap.size ≤ w'.heap.size
  block : ∀ k, k < w.heap.size → ¬ G k → w'.heap[k]? = w.heap[k]?
/-- The blocks to come are G's. -/
def Up (G : Nat → Prop) (w : World) : Prop := ∀ k, w.heap.size ≤ k → G k
/-- The first size is small enough for B. -/
def Floor (G : Nat → Prop) (B : Nat) : Prop := ∀ k, G k → B ≤ k
section
variable {G : Nat → Prop} {a w w' : World} {B : Nat}
theorem Keep.refl (G : Nat → Prop) (w : World) : Keep G w w := ⟨rfl, rfl, rfl, Nat.le_refl _, fun _ _ _ => rfl⟩
theorem Keep.trans {b c : World} (h : Keep G a b) (k : Keep G b c) : Keep G a c :=
  ⟨k.os.trans h.os, k.tape.trans h.tape, k.output.trans h.output, Nat.le_trans h.size k.size, fun i hi hn => (k.block i (Nat.lt_of_lt_of_le hi h.size) hn).trans (h.block i hi hn)⟩
theorem Keep.of_below (h : Below w.heap.size w w') : Keep G w w' := ⟨h.os, h.tape, h.output, h.size, fun k hk _ => h.block k hk⟩
theorem Keep.more {G' : Nat → Prop} (h : Keep G w w') (hg : ∀ k, k < w.heap.size → G k → G' k) : Keep G' w w' := ⟨h.os, h.tape, h.output, h.size, fun k hk hn => h.block k hk (fun hk2 => hn (hg k hk hk2))⟩
theorem Keep.bel (h : Keep G w w') (hf : Floor G B) (hB : B ≤ w.heap.size) : Below B w w' :=
  ⟨h.os, h.tape, h.output, h.size, fun k hk => h.block k (by omega) (fun hg => by have := hf k hg; omega)⟩
theorem Keep.grown {row : Option Nat} (hg : w.grownBy w' row) (hr : ∀ k, row = some k → G k) : Keep G w w' :=
  ⟨hg.os, hg.tape, hg.output, hg.size, fun k hk hn => hg.block k hk (fun e => hn (hr k e.symm))⟩
theorem Keep.setCell (w : World) {p : Addr} (hp : G p.block) (u : Value) : Keep G w (w.setCell p u) :=
  ⟨rfl, rfl, rfl, by simp [World.setCell], fun k _ hn => Below.heap_setCell w p u k (fun e => hn (by rw [e]; exact hp))⟩
theorem Keep.alloc (w : World) (o : Obj) : Keep G w (w.alloc o) := .of_below (below_alloc w o)
theorem Keep.drew (w : World) : Keep G w w.drew := ⟨rfl, rfl, rfl, Nat.le_refl _, fun _ _ _ => rfl⟩
theorem Keep.drewN (w : World) (n : Nat) : Keep G w (w.drewN n) := ⟨rfl, rfl, rfl, Nat.le_refl _, fun _ _ _ => rfl⟩
theorem Up.keep (h : Up G w) (hk : Keep G w w') : Up G w' := fun k hk2 => h k (Nat.le_trans hk.size hk2)
theorem Up.below (h : Up G w) (hk : Below w.heap.size w w') : Up G w' := fun k hk2 => h k (Nat.le_trans hk.size hk2)
end

/-- Block g is just these cells; none is frozen. -/
def Row (w : World) (g : Nat) (t : TypeId) (cs : Array Value) : Prop := w.heap[g]? = some (.cells cs t (0, 0))
section
variable {w w' : World} {g : Nat} {t : TypeId} {cs : Array Value} {G : Nat → Prop}
theorem Row.lt (h : Row w g t cs) : g < w.heap.size := (Array.getElem?_eq_some_iff.1 h).1
theorem Row.cell (h : Row w g t cs) (i : Nat) : w.cell? ⟨g, i, none⟩ = cs[i]? := cell_of_row w g i cs t (0, 0) h
theorem Row.free (h : Row w g t cs) (i : Nat) : w.frozen? ⟨g, i, none⟩ = false := by
  unfold Row at h
  simp [World.frozen?, h]
theorem Row.new (w : World) (t : TypeId) (cs : Array Value) : Row (w.alloc (.cells cs t)) w.heap.size t cs := heap_alloc_new w _
theorem Row.keep (h : Row w g t cs) (hk : Keep G w w') (hg : ¬ G g) : Row w' g t cs := (hk.block g h.lt hg).trans h
theorem Row.below (h : Row w g t cs) (hb : Below w.heap.size w w') : Row w' g t cs := (hb.block g h.lt).trans h
theorem Row.grown {row : Option Nat} (h : Row w g t cs) (hb : w.grownBy w' row) (hg : row ≠ some g) : Row w' g t cs := (hb.block g h.lt (fun e => hg e.symm)).trans h
theorem Row.alloc (h : Row w g t cs) (o : Obj) : Row (w.alloc o) g t cs := h.below (below_alloc w o)
theorem Row.put (h : Row w g t cs) (i : Nat) (u : Value) : Row (w.setCell ⟨g, i, none⟩ u) g t (cs.setIfInBounds i u) := by
  unfold Row at h ⊢
  simp [World.setCell, Array.getElem?_modify, h]
theorem Row.far (h : Row w g t cs) {p : Addr} (hp : g ≠ p.block) (u : Value) : Row (w.setCell p u) g t cs := (Below.heap_setCell w p u g hp).trans h
theorem Row.drew (h : Row w g t cs) : Row w.drew g t cs := h
theorem Row.drewN (h : Row w g t cs) (n : Nat) : Row (w.drewN n) g t cs := h
end

/-- A row of elements that the object owns. -/
def Own (w : World) (e : TypeId) (n : Nat) (v : Value) (m : Nat) (xs : List Value) : Prop := w.ownsRow 0 e n v m xs
theorem own_lt {w : World} {e : TypeId} {n m : Nat} {v : Value} {xs : List Value} (h : w.ownsRow 0 e n v m xs) {k : Nat} (hk : v.ownBlock = some k) : k < w.heap.size := (h.lt k hk).2
theorem own_ne {w : World} {e t : TypeId} {n m g : Nat} {v : Value} {xs : List Value} {cs : Array Value} (h : w.ownsRow 0 e n v m xs) (hg : Row w g t cs) (hne : e ≠ t) : v.ownBlock ≠ some g := by
  obtain ⟨_, ⟨rfl, _⟩ | ⟨k, cap, cur, rfl, _, hk, _⟩⟩ := h
  · simp [Value.ownBlock]
  · intro he
    have : k = g := by simpa [Value.ownBlock] using he
    subst this
    unfold Row at hg
    rw [hk] at hg
    injection hg with h2
    injection h2 with _ h3
    exact hne h3
theorem own_keep {w w' : World} {G : Nat → Prop} {e : TypeId} {n m : Nat} {v : Value} {xs : List Value} (h : w.ownsRow 0 e n v m xs) (hk : Keep G w w') (hg : ∀ k, v.ownBlock = some k → ¬ G k) : w'.ownsRow 0 e n v m xs := by
  obtain ⟨hl, h0 | ⟨g, cap, cur, rfl, hb, hc, r⟩⟩ := h
  · exact ⟨hl, .inl h0⟩
  · exact ⟨hl, .inr ⟨g, cap, cur, rfl, hb, (hk.block g (Array.getElem?_eq_some_iff.1 hc).1 (hg g rfl)).trans hc, r⟩⟩
theorem own_bel {w w' : World} {e : TypeId} {n m : Nat} {v : Value} {xs : List Value} (h : w.ownsRow 0 e n v m xs) (hb : Below w.heap.size w w') : w'.ownsRow 0 e n v m xs :=
  own_keep (G := fun _ => False) h (.of_below hb) (fun _ _ h => h)
theorem own_grown {w w' : World} {row : Option Nat} {e : TypeId} {n m : Nat} {v : Value} {xs : List Value} (h : w.ownsRow 0 e n v m xs) (hg : w.grownBy w' row) (hr : ∀ k, v.ownBlock = some k → row ≠ some k) : w'.ownsRow 0 e n v m xs :=
  own_keep (G := fun k => row = some k) h (.grown hg (fun _ h => h)) hr
theorem own_set {w : World} {e t : TypeId} {n m g i : Nat} {v : Value} {xs : List Value} {cs : Array Value} (h : w.ownsRow 0 e n v m xs) (hg : Row w g t cs) (hne : e ≠ t) (u : Value) : (w.setCell ⟨g, i, none⟩ u).ownsRow 0 e n v m xs :=
  own_keep (G := fun k => k = g) h (Keep.setCell (G := fun k => k = g) w (p := ⟨g, i, none⟩) rfl u) (fun k hk e => own_ne h hg hne (by rw [hk, e]))
theorem own_slice {w : World} {base : Nat} {e : TypeId} {n m : Nat} {v : Value} {xs : List Value} (h : w.ownsRow base e n v m xs) : ∃ a c, v = .slice a m c := by
  obtain ⟨_, ⟨rfl, h0⟩ | ⟨g, cap, cur, rfl, _⟩⟩ := h
  · exact ⟨none, 0, by rw [h0]⟩
  · exact ⟨_, _, rfl⟩
theorem own_len {w : World} {base : Nat} {e : TypeId} {n m m' : Nat} {v : Value} {xs : List Value} (h : w.ownsRow base e n v m xs) (he : m = m') : w.ownsRow base e n v m' xs := he ▸ h
end Go.Proofs.YtmcbaheaocfdnaaGreatDoor

/- fields: Parse, Line; the reference's Parse. -/
namespace Go.Proofs.YtmcbaheaocfdnaaGreatDoor
open Go.RowKit

/-- A field: its name, its value. -/
abbrev Fld := List UInt8 × List UInt8
def bs (l : List UInt8) : ByteArray := ⟨l.toArray⟩
theorem bs_list (l : List UInt8) : (bs l).data.toList = l := rfl
theorem bs_size (l : List UInt8) : (bs l).size = l.length := by rw [Lib.size_eq, bs_list]
theorem bs_of (t : ByteArray) : bs t.data.toList = t := (str_eq t _ rfl).symm
def fldV (f : Fld) : Value := .agg #[.string (bs f.1), .string (bs f.2)]
/-- A line's field. -/
def parseL (l : List UInt8) : Option Fld :=
  let i := Lib.indexByte l 58
  if 0 ≤ i ∧ tokB (l.take i.toNat) = true ∧ valB (trimB (l.drop (i.toNat + 1))) = true then some (l.take i.toNat, trimB (l.drop (i.toNat + 1))) else none
def parseV (l : List UInt8) : Value := match parseL l with
  | some f => .tuple #[fldV f, .int .i64 0]
  | none => .tuple #[fldV ([], []), .int .i64 2]
theorem cut58 (l : List UInt8) : Lib.cut l [58] = if 0 ≤ Lib.indexByte l 58 then (l.take (Lib.indexByte l 58).toNat, l.drop ((Lib.indexByte l 58).toNat + 1), true) else (l, [], false) := by
  unfold Lib.cut
  rw [Lib.index_one]
  rfl
theorem cut69 (s : ByteArray) (hs : s.size ≤ 4000000000) (a b : List UInt8) (q : Bool) (h : Lib.cut s.data.toList [58] = (a, b, q)) (w : World) (hw : MaxL w) :
    Calls Tryz.prog 73 #[.string s, .string ⟨#[58]⟩] w fun e w' => e = .returned (.tuple #[.string (bs a), .string (bs b), .bool q]) ∧ Below w.heap.size w w' := by
  obtain ⟨_, m, hm⟩ := hw
  refine (Tryz.strings_Cut s ⟨#[58]⟩ m w (by omega) hm).mono fun e w' ⟨he, n, hn⟩ => ⟨?_, ?_⟩
  · rw [he]
    have h2 : Lib.cut s.data.toList (⟨#[58]⟩ : ByteArray).data.toList = (a, b, q) := h
    rw [h2]; rfl
  · subst hn; exact ⟨rfl, rfl, rfl, Nat.le_refl _, fun _ _ => rfl⟩
theorem token_l (l : List UInt8) (hl : l.length ≤ 4000000000) (q : Bool) (h : tokB l = q) (w : World) :
    Calls Tryz.prog 80 #[.string (bs l)] w fun e w' => e = .returned (.bool q) ∧ w = w' := by
  subst h; exact token14 (bs l) (by rw [bs_size]; omega) w
theorem value_l (l : List UInt8) (hl : l.length ≤ 4000000000) (q : Bool) (h : valB l = q) (w : World) :
    Calls Tryz.prog 81 #[.string (bs l)] w fun e w' => e = .returned (.bool q) ∧ Below w.heap.size w w' := by
  subst h; exact value18 (bs l) (by rw [bs_size]; omega) w
theorem trim_b (y : List UInt8) (hy : y.length ≤ 4611686018427387904) (w : World) :
    Calls Tryz.prog 79 #[.string (bs y)] w fun e w' => e = .returned (.string (bs (trimB y))) ∧ Below w.heap.size w w' := trim_list y hy w
set_option maxRecDepth 100000 in
set_option maxHeartbeats 2000000 in
theorem parse36 (s : ByteArray) (hs : s.size ≤ 4000000000) (w : World) (hw : MaxL w) :
    Calls Tryz.prog 69 #[.string s] w fun e w' => e = .returned (parseV s.data.toList) ∧ Below w.heap.size w w' := by
  obtain ⟨R, hR⟩ : ∃ R, R = parseV s.data.toList := ⟨_, rfl⟩
  rw [← hR]
  have hz := Lib.size_eq s
  have L0 := below_alloc w (.cells #[.string ⟨#[]⟩, .string ⟨#[]⟩] 75)
  have hmx := hw.below L0
  by_cases hi : 0 ≤ Lib.indexByte s.data.toList 58
  · obtain ⟨a, ha⟩ : ∃ a, a = s.data.toList.take (Lib.indexByte s.data.toList 58).toNat := ⟨_, rfl⟩
    obtain ⟨b, hb⟩ : ∃ b, b = s.data.toList.drop ((Lib.indexByte s.data.toList 58).toNat + 1) := ⟨_, rfl⟩
    have hc : Lib.cut s.data.toList [58] = (a, b, true) := by rw [cut58, if_pos hi, ha, hb]
    have hal : a.length ≤ 4000000000 := by rw [ha, List.length_take]; omega
    have hbl : b.length ≤ 4000000000 := by rw [hb, List.length_drop]; omega
    have htl : (trimB b).length ≤ 4000000000 := Nat.le_trans (trimB_length b) hbl
    obtain ⟨q1, h1⟩ : ∃ q, tokB a = q := ⟨_, rfl⟩
    obtain ⟨q2, h2⟩ : ∃ q, valB (trimB b) = q := ⟨_, rfl⟩
    have hv : R = if q1 = true ∧ q2 = true then .tuple #[fldV (a, trimB b), .int .i64 0] else .tuple #[fldV ([], []), .int .i64 2] := by
      rw [hR]; unfold parseV parseL
      simp only [← ha, ← hb, h1, h2]
      by_cases hq : q1 = true ∧ q2 = true
      · rw [if_pos ⟨hi, hq.1, hq.2⟩, if_pos hq]
      · rw [if_neg (fun h => hq h.2), if_neg hq]
    have HV := Lib.hid hv
    have HC := Lib.hid (cut69 s hs a b true hc _ hmx)
    have HT := Lib.hid (fun W => trim_b b (by omega) W)
    have K1 := Lib.hid (fun W => token_l a hal q1 h1 W)
    have K2 := Lib.hid (fun W => value_l (trimB b) htl q2 h2 W)
    clear hv hc ha hb h1 h2 hR hz hmx hi
    go_enter Tryz.func69, Tryz.ntmps69
    go_wp2_with fail
    refine HC.out.mono ?_
    rintro e w1 ⟨rfl, hb1⟩
    have f1 := (bcell hb1).1 w.heap.size
    have z1 := (bcell hb1).2 w.heap.size
    have hs1 := hb1.size
    simp at hs1
    have c0 : w1.cell? ⟨w.heap.size, 0, none⟩ = some (.string ⟨#[]⟩) := by rw [f1 0 (by simp)]; simp
    have c1 : w1.cell? ⟨w.heap.size, 1, none⟩ = some (.string ⟨#[]⟩) := by rw [f1 1 (by simp)]; simp
    have d0 : w1.frozen? ⟨w.heap.size, 0, none⟩ = false := by rw [z1 0 (by simp)]; simp
    have d1 : w1.frozen? ⟨w.heap.size, 1, none⟩ = false := by rw [z1 1 (by simp)]; simp
    clear f1 z1
    go_wp2_with fail
    refine (HT.out w1).mono ?_
    rintro e w2 ⟨rfl, hb2⟩
    have f2 := (bcell hb2).1 w.heap.size
    have z2 := (bcell hb2).2 w.heap.size
    have hs2 := hb2.size
    have c20 : w2.cell? ⟨w.heap.size, 0, none⟩ = some (.string ⟨#[]⟩) := by rw [f2 0 (by omega), c0]
    have c21 : w2.cell? ⟨w.heap.size, 1, none⟩ = some (.string ⟨#[]⟩) := by rw [f2 1 (by omega), c1]
    have d20 : w2.frozen? ⟨w.heap.size, 0, none⟩ = false := by rw [z2 0 (by omega), d0]
    have d21 : w2.frozen? ⟨w.heap.size, 1, none⟩ = false := by rw [z2 1 (by omega), d1]
    clear f2 z2 c0 c1 d0 d1
    go_wp2_with fail
    refine (K1.out w2).mono ?_
    rintro e w' ⟨rfl, rfl⟩
    cases q1
    · go_wp2_with fail
      refine bodyPost_ret (v := .tuple #[fldV ([], []), .int .i64 2]) (by simp [results, Tryz.results69, go_sem, fldV, bs, c20, c21]) rfl ⟨by first | (rw [HV.out]; done) | (rw [HV.out]; rfl), ?_⟩
      exact ((((L0.trans (hb1.mono (by simp))).trans (hb2.mono (by omega)))).setCell (p := ⟨w.heap.size, 0, none⟩) (Nat.le_refl _) _).setCell (p := ⟨w.heap.size, 1, none⟩) (Nat.le_refl _) _
    · go_wp2_with fail
      refine (K2.out w2).mono ?_
      rintro e w3 ⟨rfl, hb3⟩
      have f3 := (bcell hb3).1 w.heap.size
      have z3 := (bcell hb3).2 w.heap.size
      have hs3 := hb3.size
      have c30 : w3.cell? ⟨w.heap.size, 0, none⟩ = some (.string ⟨#[]⟩) := by rw [f3 0 (by omega), c20]
      have c31 : w3.cell? ⟨w.heap.size, 1, none⟩ = some (.string ⟨#[]⟩) := by rw [f3 1 (by omega), c21]
      have d30 : w3.frozen? ⟨w.heap.size, 0, none⟩ = false := by rw [z3 0 (by omega), d20]
      have d31 : w3.frozen? ⟨w.heap.size, 1, none⟩ = false := by rw [z3 1 (by omega), d21]
      clear f3 z3 c20 c21 d20 d21
      cases q2
      · go_wp2_with fail
        refine bodyPost_ret (v := .tuple #[fldV ([], []), .int .i64 2]) (by simp [results, Tryz.results69, go_sem, fldV, bs, c30, c31]) rfl ⟨by first | (rw [HV.out]; done) | (rw [HV.out]; rfl), ?_⟩
        exact ((((L0.trans (hb1.mono (by simp))).trans (hb2.mono (by omega))).trans (hb3.mono (by omega))).setCell (p := ⟨w.heap.size, 0, none⟩) (Nat.le_refl _) _).setCell (p := ⟨w.heap.size, 1, none⟩) (Nat.le_refl _) _
      · go_wp2_with fail
        refine bodyPost_ret (v := .tuple #[fldV (a, trimB b), .int .i64 0]) (by simp [results, Tryz.results69, go_sem, fldV, bs, c30, c31]) rfl ⟨by first | (rw [HV.out]; done) | (rw [HV.out]; rfl), ?_⟩
        exact ((((L0.trans (hb1.mono (by simp))).trans (hb2.mono (by omega))).trans (hb3.mono (by omega))).setCell (p := ⟨w.heap.size, 0, none⟩) (Nat.le_refl _) _).setCell (p := ⟨w.heap.size, 1, none⟩) (Nat.le_refl _) _
  · have hc : Lib.cut s.data.toList [58] = (s.data.toList, [], false) := by rw [cut58, if_neg hi]
    have hv : R = .tuple #[fldV ([], []), .int .i64 2] := by
      rw [hR]; unfold parseV parseL
      simp only
      rw [if_neg (fun h => hi h.1)]
    have HV := Lib.hid hv
    have HC := Lib.hid (cut69 s hs s.data.toList [] false hc _ hmx)
    have HT := Lib.hid (fun W => trim_b [] (by simp) W)
    clear hv hc hR hz hmx hi
    generalize s.data.toList = a at HC
    go_enter Tryz.func69, Tryz.ntmps69
    go_wp2_with fail
    refine HC.out.mono ?_
    rintro e w1 ⟨rfl, hb1⟩
    have f1 := (bcell hb1).1 w.heap.size
    have z1 := (bcell hb1).2 w.heap.size
    have hs1 := hb1.size
    simp at hs1
    have c0 : w1.cell? ⟨w.heap.size, 0, none⟩ = some (.string ⟨#[]⟩) := by rw [f1 0 (by simp)]; simp
    have c1 : w1.cell? ⟨w.heap.size, 1, none⟩ = some (.string ⟨#[]⟩) := by rw [f1 1 (by simp)]; simp
    have d0 : w1.frozen? ⟨w.heap.size, 0, none⟩ = false := by rw [z1 0 (by simp)]; simp
    have d1 : w1.frozen? ⟨w.heap.size, 1, none⟩ = false := by rw [z1 1 (by simp)]; simp
    clear f1 z1
    go_wp2_with fail
    refine (HT.out w1).mono ?_
    rintro e w2 ⟨rfl, hb2⟩
    have f2 := (bcell hb2).1 w.heap.size
    have z2 := (bcell hb2).2 w.heap.size
    have hs2 := hb2.size
    have c20 : w2.cell? ⟨w.heap.size, 0, none⟩ = some (.string ⟨#[]⟩) := by rw [f2 0 (by omega), c0]
    have c21 : w2.cell? ⟨w.heap.size, 1, none⟩ = some (.string ⟨#[]⟩) := by rw [f2 1 (by omega), c1]
    have d20 : w2.frozen? ⟨w.heap.size, 0, none⟩ = false := by rw [z2 0 (by omega), d0]
    have d21 : w2.frozen? ⟨w.heap.size, 1, none⟩ = false := by rw [z2 1 (by omega), d1]
    clear f2 z2 c0 c1 d0 d1
    go_wp2_with fail
    refine bodyPost_ret (v := .tuple #[fldV ([], []), .int .i64 2]) (by simp [results, Tryz.results69, go_sem, fldV, bs, c20, c21]) rfl ⟨by first | (rw [HV.out]; done) | (rw [HV.out]; rfl), ?_⟩
    exact ((((L0.trans (hb1.mono (by simp))).trans (hb2.mono (by omega)))).setCell (p := ⟨w.heap.size, 0, none⟩) (Nat.le_refl _) _).setCell (p := ⟨w.heap.size, 1, none⟩) (Nat.le_refl _) _
end Go.Proofs.YtmcbaheaocfdnaaGreatDoor

/- fields: Line; the reference's Parse. -/
namespace Go.Proofs.YtmcbaheaocfdnaaGreatDoor
open Go.RowKit

/-- A field's line. -/
def lineL (f : Fld) : List UInt8 := f.1 ++ [58, 32] ++ f.2 ++ [13, 10]
theorem add_str (x y : List UInt8) (h : x.length + y.length ≤ 9223372036854775807) (W : World) : (Op.stringOp .add (bs x) (bs y)).run Tryz.prog W = .ok (.string (bs (x ++ y))) W := by
  rw [run_string_add_sum W _ _ (by rw [bs_size, bs_size]; exact h)]
  have : bs x ++ bs y = bs (x ++ y) := by
    apply ByteArray.ext
    simp [bs]
  rw [this]
set_option maxHeartbeats 1000000 in
theorem line38 (f : Fld) (h1 : f.1.length ≤ 4000000000) (h2 : f.2.length ≤ 4000000000) (w : World) :
    Calls Tryz.prog 54 #[fldV f] w fun e w' => e = .returned (.string (bs (lineL f))) ∧ Below w.heap.size w w' := by
  obtain ⟨a, b⟩ := f
  simp only at h1 h2
  have A1 := fun W => add_str a [58] (by simp; omega) W
  have A2 := fun W => add_str (a ++ [58]) [32] (by simp; omega) W
  have A3 := fun W => add_str (a ++ [58] ++ [32]) b (by simp; omega) W
  have A4 := fun W => add_str (a ++ [58] ++ [32] ++ b) [13, 10] (by simp; omega) W
  have e58 : bs [58] = ⟨#[58]⟩ := rfl
  have e32 : bs [32] = ⟨#[32]⟩ := rfl
  have e13 : bs [13, 10] = ⟨#[13, 10]⟩ := rfl
  rw [e58] at A1
  rw [e32] at A2
  rw [e13] at A4
  have hl : lineL (a, b) = a ++ [58] ++ [32] ++ b ++ [13, 10] := by simp [lineL]
  rw [hl]
  unfold fldV
  simp only
  generalize hx4 : bs (a ++ [58] ++ [32] ++ b ++ [13, 10]) = x4 at *
  generalize hx3 : bs (a ++ [58] ++ [32] ++ b) = x3 at *
  generalize hx2 : bs (a ++ [58] ++ [32]) = x2 at *
  generalize hx1 : bs (a ++ [58]) = x1 at *
  generalize bs a = x0 at *
  generalize bs b = y0 at *
  clear hx4 hx3 hx2 hx1 e58 e32 e13 hl h1 h2
  go_enter Tryz.func54, Tryz.ntmps54
  go_wp2_with fail
  go_ret
  exact ⟨rfl, below_alloc w _⟩

theorem ib_at (c : UInt8) : ∀ (l : List UInt8) (j : Nat), c ∉ l.take j → l[j]? = some c → Lib.indexByte l c = (j : Int)
  | [], j, _, h => by simp at h
  | b :: r, 0, _, h => by
    obtain rfl : b = c := by simpa using h
    simp [Lib.indexByte]
  | b :: r, j + 1, hn, h => by
    rw [List.take_succ_cons, List.mem_cons, not_or] at hn
    have ih := ib_at c r j hn.2 (by simpa using h)
    have hbb : (b == c) = false := beq_eq_false_iff_ne.2 (fun e => hn.1 e.symm)
    have hne : ((j : Int) == -1) = false := beq_eq_false_iff_ne.2 (by omega)
    simp only [Lib.indexByte, hbb, ih, hne]
    simp
theorem ib_none (c : UInt8) (l : List UInt8) (h : c ∉ l) : Lib.indexByte l c = -1 := by
  rcases ib_cut c l with ⟨h1, _⟩ | ⟨i, _, h2, h3, _⟩
  · exact h1
  · exact absurd (by rw [h3]; simp) h
set_option maxRecDepth 100000 in
set_option maxHeartbeats 2000000 in
theorem parse37 (s : ByteArray) (hs : s.size ≤ 4000000000) (w : World) :
    Calls Tryz.prog 28 #[.string s] w fun e w' => e = .returned (parseV s.data.toList) ∧ Below w.heap.size w w' := by
  obtain ⟨R, hR⟩ : ∃ R, R = parseV s.data.toList := ⟨_, rfl⟩
  rw [← hR]
  have HR := Lib.hid hR
  have L0 := below_alloc w (.cells #[.string ⟨#[]⟩, .string ⟨#[]⟩] 46)
  have c0 : (w.alloc (.cells #[.string ⟨#[]⟩, .string ⟨#[]⟩] 46)).cell? ⟨w.heap.size, 0, none⟩ = some (.string ⟨#[]⟩) := by simp
  have c1 : (w.alloc (.cells #[.string ⟨#[]⟩, .string ⟨#[]⟩] 46)).cell? ⟨w.heap.size, 1, none⟩ = some (.string ⟨#[]⟩) := by simp
  have d0 : (w.alloc (.cells #[.string ⟨#[]⟩, .string ⟨#[]⟩] 46)).frozen? ⟨w.heap.size, 0, none⟩ = false := by simp
  have d1 : (w.alloc (.cells #[.string ⟨#[]⟩, .string ⟨#[]⟩] 46)).frozen? ⟨w.heap.size, 1, none⟩ = false := by simp
  clear hR
  go_enter Tryz.func28, Tryz.ntmps28
  go_wp2_with fail
  generalize World.alloc w _ = w0 at *
  go_loop [4] (fun i => ∃ j : Nat, j ≤ s.size ∧ i = .int .i64 (j : Int) ∧ Hid ((58 : UInt8) ∉ s.data.toList.take j)) (fun i => s.size - (intOf i).toNat)
  case atStart => exact ⟨0, Nat.zero_le _, rfl, by simp [Hid]⟩
  case round =>
    obtain ⟨j, hj, rfl, hn⟩ := hrel
    by_cases hlt : j < s.size
    · by_cases hq : s[j] = 58
      · have hi : Lib.indexByte s.data.toList 58 = (j : Int) := ib_at 58 _ j hn.out (by rw [toList_get s j hlt, hq])
        have ht : ((s[j].toNat : Int) == 58) = true := by rw [hq]; rfl
        have hz := Lib.size_eq s
        have e1 : s.extract 0 j = bs (s.data.toList.take j) := by rw [← bs_of (s.extract 0 j), extractL, List.drop_zero, Nat.sub_zero]
        have e2 : s.extract (j + 1) s.size = bs (s.data.toList.drop (j + 1)) := by rw [← bs_of (s.extract (j + 1) s.size), extractL, List.take_of_length_le (by rw [List.length_drop]; omega)]
        obtain ⟨a, ha⟩ : ∃ a, a = s.data.toList.take j := ⟨_, rfl⟩
        obtain ⟨b, hb⟩ : ∃ b, b = s.data.toList.drop (j + 1) := ⟨_, rfl⟩
        have hal : a.length ≤ 4000000000 := by rw [ha, List.length_take]; omega
        have hbl : b.length ≤ 4000000000 := by rw [hb, List.length_drop]; omega
        have htl : (trimB b).length ≤ 4000000000 := Nat.le_trans (trimB_length b) hbl
        obtain ⟨q1, h1⟩ : ∃ q, tokB a = q := ⟨_, rfl⟩
        obtain ⟨q2, h2⟩ : ∃ q, valB (trimB b) = q := ⟨_, rfl⟩
        have hv : R = if q1 = true ∧ q2 = true then .tuple #[fldV (a, trimB b), .int .i64 0] else .tuple #[fldV ([], []), .int .i64 2] := by
          rw [HR.out]; unfold parseV parseL
          simp only [hi, Int.toNat_natCast, ← ha, ← hb, h1, h2]
          by_cases hq : q1 = true ∧ q2 = true
          · rw [if_pos ⟨by omega, hq.1, hq.2⟩, if_pos hq]
          · rw [if_neg (fun h => hq h.2), if_neg hq]
        have HV := Lib.hid hv
        have HT : Hid (∀ W, Calls Tryz.prog 45 #[.string (bs b)] W fun e w' => e = .returned (.string (bs (trimB b))) ∧ W = w') := fun W => trim24 (bs b) (by rw [bs_size]; omega) W
        have K1 : Hid (∀ W, Calls Tryz.prog 32 #[.string (bs a)] W fun e w' => e = .returned (.bool q1) ∧ W = w') := fun W => token15 (bs a) (by rw [bs_size]; omega) q1 h1 W
        have K2 : Hid (∀ W, Calls Tryz.prog 46 #[.string (bs (trimB b))] W fun e w' => e = .returned (.bool q2) ∧ W = w') := fun W => value19 (bs (trimB b)) (by rw [bs_size]; omega) q2 h2 W
        rw [← ha] at e1
        rw [← hb] at e2
        have j1 : (j : Int) + 1 ≤ s.size := by omega
        have j2 : (j : Int) ≤ s.size := by omega
        have hss : (s.size : Int) ≤ 4000000000 := by omega
        clear hv ha hb h1 h2 hi hz hq hn
        go_wp2_with fail
        refine (HT.out w0).mono ?_
        rintro e w' ⟨rfl, rfl⟩
        go_wp2_with fail
        refine (K1.out w0).mono ?_
        rintro e w' ⟨rfl, rfl⟩
        cases q1
        · go_wp2_with fail
          refine bodyPost_ret (v := .tuple #[fldV ([], []), .int .i64 2]) (by simp [results, Tryz.results28, go_sem, fldV, bs, c0, c1]) rfl ⟨by first | (rw [HV.out]; done) | (rw [HV.out]; rfl), ?_⟩
          exact (L0.setCell (p := ⟨w.heap.size, 0, none⟩) (Nat.le_refl _) _).setCell (p := ⟨w.heap.size, 1, none⟩) (Nat.le_refl _) _
        · go_wp2_with fail
          refine (K2.out w0).mono ?_
          rintro e w' ⟨rfl, rfl⟩
          cases q2
          · go_wp2_with fail
            refine bodyPost_ret (v := .tuple #[fldV ([], []), .int .i64 2]) (by simp [results, Tryz.results28, go_sem, fldV, bs, c0, c1]) rfl ⟨by first | (rw [HV.out]; done) | (rw [HV.out]; rfl), ?_⟩
            exact (L0.setCell (p := ⟨w.heap.size, 0, none⟩) (Nat.le_refl _) _).setCell (p := ⟨w.heap.size, 1, none⟩) (Nat.le_refl _) _
          · go_wp2_with fail
            refine bodyPost_ret (v := .tuple #[fldV (a, trimB b), .int .i64 0]) (by simp [results, Tryz.results28, go_sem, fldV, bs, c0, c1]) rfl ⟨by first | (rw [HV.out]; done) | (rw [HV.out]; rfl), ?_⟩
            exact (L0.setCell (p := ⟨w.heap.size, 0, none⟩) (Nat.le_refl _) _).setCell (p := ⟨w.heap.size, 1, none⟩) (Nat.le_refl _) _
      · have hst : Hid ((58 : UInt8) ∉ s.data.toList.take (j + 1)) := by
          show (58 : UInt8) ∉ _
          rw [take_snoc s j hlt, List.mem_append, not_or]
          exact ⟨hn.out, by rw [List.mem_singleton]; exact fun e => hq e.symm⟩
        have ht : ((s[j].toNat : Int) == 58) = false := by
          rw [show (58 : Int) = ((58 : UInt8).toNat : Int) from rfl, byte_eq]
          exact beq_eq_false_iff_ne.2 hq
        clear hq
        go_wp2_with fail
        go_round
        case rel => exact ⟨j + 1, by omega, by go_num, hst⟩
        case measure => simp [intOf]; omega
    · have hn2 := hn.out
      rw [List.take_of_length_le (by rw [← Lib.size_eq]; omega)] at hn2
      have hv : R = .tuple #[fldV ([], []), .int .i64 2] := by
        rw [HR.out]; unfold parseV parseL
        simp only [ib_none 58 _ hn2]
        rw [if_neg (fun h => by omega)]
      have HV := Lib.hid hv
      clear hn2 hv
      go_wp2_with fail
      refine bodyPost_ret (v := .tuple #[fldV ([], []), .int .i64 2]) (by simp [results, Tryz.results28, go_sem, fldV, bs, c0, c1]) rfl ⟨by first | (rw [HV.out]; done) | (rw [HV.out]; rfl), ?_⟩
      exact (L0.setCell (p := ⟨w.heap.size, 0, none⟩) (Nat.le_refl _) _).setCell (p := ⟨w.heap.size, 1, none⟩) (Nat.le_refl _) _
end Go.Proofs.YtmcbaheaocfdnaaGreatDoor

/- Slices of fields; has, IndexFunc. -/
namespace Go.Proofs.YtmcbaheaocfdnaaGreatDoor
open Go.RowKit

/-- A slice that reads as these fields. -/
def IsFlds (w : World) (a : Option Addr) (c : Nat) (fs : List Fld) : Prop :=
  fs = [] ∨ ∃ bk o, a = some ⟨bk, o, none⟩ ∧ bk < w.heap.size ∧ fs.length ≤ c ∧ ∀ (j : Nat) f, fs[j]? = some f → w.cell? ⟨bk, o + j * 2, none⟩ = some (.string (bs f.1)) ∧ w.cell? ⟨bk, o + j * 2 + 1, none⟩ = some (.string (bs f.2))
theorem IsFlds.below {w w' : World} {a : Option Addr} {c : Nat} {fs : List Fld} (h : IsFlds w a c fs) (hb : Below w.heap.size w w') : IsFlds w' a c fs := by
  obtain h | ⟨bk, o, ha, hlt, hc, hcell⟩ := h
  · exact .inl h
  · obtain ⟨hc', _⟩ := bcell hb
    exact .inr ⟨bk, o, ha, Nat.lt_of_lt_of_le hlt hb.size, hc, fun j f hf => by rw [hc' _ _ hlt, hc' _ _ hlt]; exact hcell j f hf⟩
/-- Is a field's name among these? -/
def hasB (xs : List ByteArray) (f : Fld) : Bool := xs.any fun x => decide (x.data.toList.map lowC = f.1.map lowC)
theorem hasB_no {xs : List ByteArray} {f : Fld} {j : Nat} (hj : j < xs.length) (h : hasB (xs.take j) f = false) (hq : decide (xs[j].data.toList.map lowC = f.1.map lowC) = false) : hasB (xs.take (j + 1)) f = false := by
  unfold hasB at h ⊢
  rw [List.take_add_one, List.getElem?_eq_getElem hj, Option.toList_some, List.any_append, h]
  simp only [List.any_cons, List.any_nil, Bool.or_false, Bool.false_or]
  exact hq
theorem hasB_yes {xs : List ByteArray} {f : Fld} {j : Nat} (hj : j < xs.length) (hq : decide (xs[j].data.toList.map lowC = f.1.map lowC) = true) : hasB xs f = true := by
  unfold hasB
  rw [List.any_eq_true]
  exact ⟨xs[j], List.getElem_mem hj, hq⟩
set_option maxRecDepth 100000 in
set_option maxHeartbeats 2000000 in
theorem has72 (a : Option Addr) (c : Nat) (xs : List ByteArray) (f : Fld) (hx1 : xs.length ≤ 1000000000) (h1 : f.1.length ≤ 4000000000) (R : Bool) (hR : R = hasB xs f) (w : World) (hx : IsStrs w a c xs) :
    Calls Tryz.prog 86 #[.slice a xs.length c, fldV f] w fun e w' => e = .returned (.bool R) ∧ Below w.heap.size w w' := by
  have HR := Lib.hid hR
  have HX := Lib.hid hx
  obtain ⟨n, v⟩ := f
  have L0 := below_alloc w (.cells #[.string (bs n), .string (bs v)] 75)
  have c0 : (w.alloc (.cells #[.string (bs n), .string (bs v)] 75)).cell? ⟨w.heap.size, 0, none⟩ = some (.string (bs n)) := by simp
  have hz0 : w.heap.size < (w.alloc (.cells #[.string (bs n), .string (bs v)] 75)).heap.size := by simp
  clear hR hx
  unfold fldV
  simp only
  simp only at h1
  go_enter Tryz.func86, Tryz.ntmps86
  go_wp2_with fail
  generalize World.alloc w _ = w0 at *
  go_loopw [9] (fun i wr => ∃ j : Nat, j ≤ xs.length ∧ i = .int .i64 (j : Int) ∧ Hid (hasB (xs.take j) (n, v) = false) ∧ Below w.heap.size w wr ∧ Below w0.heap.size w0 wr) (fun i _ => xs.length - (intOf i).toNat)
  case atStart => exact ⟨0, Nat.zero_le _, rfl, by simp [Hid, hasB], L0, Below.refl _ _⟩
  case round =>
    obtain ⟨j, hj, rfl, hno, hb, hb0⟩ := hrel
    by_cases hlt : j < xs.length
    · obtain h0 | ⟨bk, o, rfl, hbk, hc, hcell⟩ := HX.out.below hb
      · subst h0; simp at hlt
      have cj := hcell j xs[j] (by simp [hlt])
      have cn : wr.cell? ⟨w.heap.size, 0, none⟩ = some (.string (bs n)) := by rw [(bcell hb0).1 _ _ hz0]; exact c0
      obtain ⟨q, hq⟩ : ∃ q, q = decide (xs[j].data.toList.map lowC = n.map lowC) := ⟨_, rfl⟩
      have HF := Lib.hid (fun W => fold22 xs[j] (bs n) (by rw [bs_size]; omega) q hq W)
      have HN : Hid (q = false → hasB (xs.take (j + 1)) (n, v) = false) := fun e => hasB_no hlt hno.out (hq ▸ e)
      have HY : Hid (q = true → hasB xs (n, v) = true) := fun e => hasB_yes hlt (hq ▸ e)
      clear hcell hq
      generalize xs[j] = x at cj HF
      go_wp2_with fail
      refine (HF.out wr).mono ?_
      rintro e w2 ⟨rfl, hb2⟩
      have b2 := hb.trans (hb2.mono hb.size)
      have b20 := hb0.trans (hb2.mono hb0.size)
      cases q
      · have HN2 := Lib.hid (HN.out rfl)
        clear HN HY
        go_wp2_with fail
        go_roundw
        case rel => exact ⟨j + 1, hlt, by go_num, HN2, b2, b20⟩
        case measure => simp [intOf]; omega
      · have HY2 := Lib.hid (HY.out rfl)
        clear HN HY
        go_wp2_with fail
        go_ret
        exact ⟨by rw [HR.out, HY2.out]; rfl, b2⟩
    · have hn := hno.out
      rw [List.take_of_length_le (by omega)] at hn
      have HN := Lib.hid hn
      clear hn hno
      go_wp2_with fail
      go_ret
      exact ⟨by rw [HR.out, HN.out]; rfl, hb⟩
/-- The first place of a field with such a name; -1: there is none. -/
def findI (xs : List ByteArray) (fs : List Fld) : Int := match fs.findIdx? (hasB xs) with
  | some i => (i : Int)
  | none => -1
theorem findI_no {xs : List ByteArray} {fs : List Fld} (h : ∀ f ∈ fs, hasB xs f = false) : findI xs fs = -1 := by
  unfold findI
  rw [List.findIdx?_eq_none_iff.2 h]
theorem findI_at {xs : List ByteArray} {fs : List Fld} {j : Nat} (hj : j < fs.length) (h : ∀ f ∈ fs.take j, hasB xs f = false) (hq : hasB xs fs[j] = true) : findI xs fs = (j : Int) := by
  have : fs.findIdx? (hasB xs) = some j := by
    rw [List.findIdx?_eq_some_iff_getElem]
    refine ⟨hj, hq, fun i hi => ?_⟩
    have hm : fs[i] ∈ fs.take j := by
      rw [List.mem_take_iff_getElem]
      exact ⟨i, by omega, rfl⟩
    simp [h _ hm]
  unfold findI
  rw [this]
/-- Fields of a bounded length. -/
def FldOk (f : Fld) : Prop := f.1.length ≤ 4000000000 ∧ f.2.length ≤ 4000000000
/-- The function value: has of these names. -/
def hasV (a : Option Addr) (n c : Nat) : Value := .func (.func 86) #[.slice a n c] #[]
end Go.Proofs.YtmcbaheaocfdnaaGreatDoor

/- fields: slices.Clone, slices.DeleteFunc, Drop. -/
namespace Go.Proofs.YtmcbaheaocfdnaaGreatDoor
open Go.RowKit

/-- The cells of fields. -/
def cellsF (fs : List Fld) : List Value := fs.flatMap fun f => [.string (bs f.1), .string (bs f.2)]
theorem cellsF_length (fs : List Fld) : (cellsF fs).length = fs.length * 2 := by
  induction fs with
  | nil => rfl
  | cons f r ih => simp [cellsF] at ih ⊢; omega
theorem cellsF_at : ∀ (fs : List Fld) (j : Nat) (f : Fld), fs[j]? = some f → (cellsF fs)[j * 2]? = some (.string (bs f.1)) ∧ (cellsF fs)[j * 2 + 1]? = some (.string (bs f.2))
  | [], j, f, h => by simp at h
  | g :: r, 0, f, h => by
    obtain rfl : g = f := by simpa using h
    simp [cellsF]
  | g :: r, j + 1, f, h => by
    have ih := cellsF_at r j f (by simpa using h)
    have e : cellsF (g :: r) = .string (bs g.1) :: .string (bs g.2) :: cellsF r := rfl
    rw [e, show (j + 1) * 2 = j * 2 + 1 + 1 by omega, show j * 2 + 1 + 1 + 1 = (j * 2 + 1) + 1 + 1 by omega]
    simpa using ih
theorem cellsF_one (fs : List Fld) : ∀ u ∈ cellsF fs, u.oneCell' = true := by
  intro u hu
  unfold cellsF at hu
  obtain ⟨f, _, hf⟩ := List.mem_flatMap.1 hu
  simp at hf
  rcases hf with rfl | rfl <;> rfl
theorem isFlds_cells {w : World} {bk o : Nat} {fs : List Fld} (hcell : ∀ (j : Nat) f, fs[j]? = some f → w.cell? ⟨bk, o + j * 2, none⟩ = some (.string (bs f.1)) ∧ w.cell? ⟨bk, o + j * 2 + 1, none⟩ = some (.string (bs f.2))) :
    ∀ (k : Nat) u, (cellsF fs)[k]? = some u → w.cell? ((⟨bk, o, none⟩ : Addr).add k) = some u := by
  intro k u hu
  rw [Addr.add_mid]
  have hk := (List.getElem?_eq_some_iff.1 hu).1
  rw [cellsF_length] at hk
  have hj : k / 2 < fs.length := by omega
  have hf := List.getElem?_eq_getElem hj
  obtain ⟨h1, h2⟩ := hcell (k / 2) _ hf
  obtain ⟨g1, g2⟩ := cellsF_at fs (k / 2) _ hf
  rcases Nat.mod_two_eq_zero_or_one k with hm | hm
  · have e : k / 2 * 2 = k := by omega
    rw [e] at h1 g1
    rw [h1, ← hu, g1]
  · have e : k / 2 * 2 + 1 = k := by omega
    rw [show o + k / 2 * 2 + 1 = o + (k / 2 * 2 + 1) by omega, e] at h2
    rw [e] at g2
    rw [h2, ← hu, g2]
theorem infoFld : (Tryz.prog.info? 75).map (fun i => (i.zero, i.size, i.bytes)) = some (some (.agg #[.string ⟨#[]⟩, .string ⟨#[]⟩]), 2, 32) := by kernel_rfl
/-- A row that owns fields reads as them. -/
theorem own_isFlds {w : World} {base : Nat} {v : Value} {fs : List Fld} (h : w.ownsRow base 75 2 v fs.length (cellsF fs)) : ∃ a c, v = .slice a fs.length c ∧ IsFlds w a c fs := by
  obtain ⟨_, ⟨rfl, h0⟩ | ⟨g, cap, cur, rfl, _, hg, hcap, _, hcs, htk⟩⟩ := h
  · obtain rfl : fs = [] := List.eq_nil_of_length_eq_zero h0
    exact ⟨none, 0, rfl, .inl rfl⟩
  · refine ⟨some ⟨g, 0, none⟩, cap, rfl, .inr ⟨g, 0, rfl, (Array.getElem?_eq_some_iff.1 hg).1, hcap, fun j f hf => ?_⟩⟩
    obtain ⟨g1, g2⟩ := cellsF_at fs j f hf
    have hj := (List.getElem?_eq_some_iff.1 hf).1
    rw [← htk, List.getElem?_take, if_pos (by omega)] at g1 g2
    rw [Nat.zero_add]
    simp only [Array.getElem?_toList] at g1 g2
    exact ⟨by simp [World.cell?, hg, g1], by simp [World.cell?, hg, g2]⟩

set_option maxRecDepth 100000 in
set_option maxHeartbeats 2000000 in
theorem clone77 (a : Option Addr) (c : Nat) (fs : List Fld) (hfl : fs.length ≤ 1000000000) (ha : a = none → c = 0 ∧ fs = []) (w : World) (hf : IsFlds w a c fs) :
    Calls Tryz.prog 29 #[.slice a fs.length c] w fun e w' => ∃ v, e = .returned v ∧ w'.ownsRow w.heap.size 75 2 v fs.length (cellsF fs) ∧ Below w.heap.size w w' := by
  obtain ⟨i0, hi, hz0, hz1, hz2⟩ := info_parts infoFld
  have hnil := fun W (x : Option Addr) (n c' : Nat) => Lib.run_eql_slice_nil (P := Tryz.prog) W 42 75 x n c' 0 0 Tryz.underlying42
  cases a with
  | none =>
    obtain ⟨rfl, rfl⟩ := ha rfl
    have h1 := fun W => hnil W none 0 0
    clear hnil hf
    go_enter Tryz.func29, Tryz.ntmps29
    go_wp2_with fail
    go_ret
    exact ⟨_, rfl, World.ownsRow_nil _ _ _ _, Below.refl _ _⟩
  | some ad =>
    have h1 := fun W => hnil W (some ad) fs.length c
    have HF := Lib.hid hf
    have O0 : Hid ((w.alloc (.cells #[] 75)).ownsRow w.heap.size 75 2 (.slice (some ⟨w.heap.size, 0, none⟩) 0 0) 0 []) := World.ownsRow_lit w #[] 0 (Nat.le_refl _) (by decide) (by simp)
    have L0 := below_alloc w (.cells #[] 75)
    have hcells : Hid (∀ (k : Nat) u, (cellsF fs)[k]? = some u → (w.alloc (.cells #[] 75)).cell? (ad.add k) = some u) := by
      intro k u hu
      obtain h0 | ⟨bk, o, h2, hbk, hc, hcell⟩ := HF.out.below L0
      · subst h0; simp [cellsF] at hu
      · obtain rfl : ad = ⟨bk, o, none⟩ := by injection h2
        exact isFlds_cells hcell k u hu
    have hlen := cellsF_length fs
    have HL := Lib.hid hlen
    clear hnil hf ha hlen HF
    go_enter Tryz.func29, Tryz.ntmps29
    go_wp2_with (at_builtin; refine wpList_append_own _ rfl _ _ 42 rfl w.heap.size 75 i0 (.agg #[.string ⟨#[]⟩, .string ⟨#[]⟩]) 2 32 Tryz.underlying42 hi hz0 hz1 hz2 rfl (by decide) _ _ _ rfl O0.out ad fs.length c (cellsF fs) rfl HL.out hcells.out (cellsF_one fs) (by unfold maxLen; omega) (by omega) (by simp) ?_)
    intro v' w1 hown' hgrow _
    have hb1 : Below w.heap.size w w1 := L0.grown hgrow (by simp) (fun k hk => by simp [Value.ownBlock] at hk; omega)
    have HO := Lib.hid hown'
    clear hown' hgrow O0 hcells
    go_wp2_with fail
    go_ret
    exact ⟨_, rfl, HO.out, hb1⟩
end Go.Proofs.YtmcbaheaocfdnaaGreatDoor

/- A machine over bytes that may come to an end: what it comes to, what it leaves, whatever the parts. -/
namespace Go.Proofs.YtmcbaheaocfdnaaGreatDoor
open Go.RowKit

section
variable {σ : Type} (step : σ → UInt8 → σ) (fin : σ → Bool)
def mRun (s : σ) (l : List UInt8) : σ := l.foldl step s
/-- The bytes that are left once it is done. -/
def mLeft : σ → List UInt8 → List UInt8
  | _, [] => []
  | s, c :: l => if fin s = true then c :: l else mLeft (step s c) l
theorem mRun_nil (s : σ) : mRun step s [] = s := rfl
theorem mRun_cons (s : σ) (c : UInt8) (l : List UInt8) : mRun step s (c :: l) = mRun step (step s c) l := rfl
theorem mRun_app (s : σ) (a b : List UInt8) : mRun step s (a ++ b) = mRun step (mRun step s a) b := List.foldl_append ..
theorem mLeft_nil (s : σ) : mLeft step fin s [] = [] := rfl
theorem mLeft_fin (s : σ) (l : List UInt8) (h : fin s = true) : mLeft step fin s l = l := by
  cases l with
  | nil => rfl
  | cons c l => simp [mLeft, h]
theorem mLeft_cons (s : σ) (c : UInt8) (l : List UInt8) (h : fin s = false) : mLeft step fin s (c :: l) = mLeft step fin (step s c) l := by
  simp [mLeft, h]
theorem mLeft_suffix : ∀ (l : List UInt8) (s : σ), ∃ a, l = a ++ mLeft step fin s l
  | [], _ => ⟨[], rfl⟩
  | c :: l, s => by
    cases hd : fin s with
    | true => exact ⟨[], by rw [mLeft_fin step fin s _ hd]; rfl⟩
    | false =>
      rw [mLeft_cons step fin s c l hd]
      obtain ⟨a, ha⟩ := mLeft_suffix l (step s c)
      exact ⟨c :: a, by rw [List.cons_append, ← ha]⟩
theorem mLeft_drop (l : List UInt8) (s : σ) : l.drop (l.length - (mLeft step fin s l).length) = mLeft step fin s l := by
  obtain ⟨a, ha⟩ := mLeft_suffix step fin l s
  have hl := congrArg List.length ha
  rw [List.length_append] at hl
  have e : l.length - (mLeft step fin s l).length = a.length := by omega
  rw [e]
  conv => lhs; rw [ha]
  exact List.drop_left' rfl
variable (hst : ∀ s c, fin s = true → step s c = s)
include hst
theorem mRun_fin (s : σ) (h : fin s = true) : ∀ l, mRun step s l = s
  | [] => rfl
  | c :: l => by rw [mRun_cons, hst s c h]; exact mRun_fin s h l
theorem fin_before {s : σ} {l : List UInt8} (h : fin (mRun step s l) = false) : fin s = false := by
  cases hs : fin s with
  | false => rfl
  | true => rw [mRun_fin step fin hst s hs] at h; rw [hs] at h; cases h
/-- Bytes in two parts. -/
theorem mLeft_app : ∀ (a : List UInt8) (s : σ) (b : List UInt8), fin (mRun step s a) = false → mLeft step fin s (a ++ b) = mLeft step fin (mRun step s a) b
  | [], _, _, _ => rfl
  | c :: a, s, b, h => by
    rw [List.cons_append, mLeft_cons step fin s c (a ++ b) (fin_before step fin hst h)]
    exact mLeft_app a (step s c) b h
theorem mLeft_undone : ∀ (l : List UInt8) (s : σ), fin (mRun step s l) = false → mLeft step fin s l = []
  | [], _, _ => rfl
  | c :: l, s, h => by
    rw [mLeft_cons step fin s c l (fin_before step fin hst h)]
    exact mLeft_undone l _ h
end
end Go.Proofs.YtmcbaheaocfdnaaGreatDoor

/- stewardlaw01.Cut. -/
namespace Go.Proofs.YtmcbaheaocfdnaaGreatDoor
open Go.RowKit

theorem extractC (t : ByteArray) (a b : Nat) : t.extract a b = ⟨((t.data.toList.drop a).take (b - a)).toArray⟩ := by
  have h : (t.extract a b).data = t.data.extract a b := ByteArray.data_extract
  have h2 : (t.data.extract a b).toList = (t.data.toList.drop a).take (b - a) := by simp [Array.toList_extract]
  rw [← h2, ← h]
/-- The first bytes. -/
def cutS (s : ByteArray) (n : Nat) : ByteArray := ⟨(s.data.toList.take n).toArray⟩
theorem cutS_all (s : ByteArray) (n : Nat) (h : s.size ≤ n) : cutS s n = s := by
  unfold cutS
  rw [List.take_of_length_le (by rw [← Lib.size_eq]; exact h)]
theorem cutS_size (s : ByteArray) (n : Nat) : (cutS s n).size ≤ n := by
  rw [Lib.size_eq]; simp [cutS]; omega
theorem cutS_data (s : ByteArray) (n : Nat) : (cutS s n).data.toList = s.data.toList.take n := rfl

set_option maxHeartbeats 400000 in
theorem cut11 (s : ByteArray) (n : Nat) (w : World) :
    Calls Tryz.prog 6 #[.string s, .int .i64 n] w fun e w' => e = .returned (.string (cutS s n)) ∧ w = w' := by
  by_cases h : s.size ≤ n
  · rw [cutS_all s n h]
    have h' : (s.size : Int) ≤ n := by omega
    go_enter Tryz.func6, Tryz.ntmps6
    go_wp2_with fail
    go_ret
    exact ⟨rfl, rfl⟩
  · have he : s.extract 0 n = cutS s n := by rw [extractC, List.drop_zero]; rfl
    have h' : (n : Int) < s.size := by omega
    have h2 : (n : Int) ≤ s.size := by omega
    go_enter Tryz.func6, Tryz.ntmps6
    go_wp2_with fail
    go_ret
    exact ⟨rfl, rfl⟩
end Go.Proofs.YtmcbaheaocfdnaaGreatDoor

