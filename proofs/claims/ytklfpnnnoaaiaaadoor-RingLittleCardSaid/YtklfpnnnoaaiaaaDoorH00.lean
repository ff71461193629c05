/- Packed: Mx, RgT, LawRgLittle, LsO. -/
import Derived.Laws.Tables
import Derived.KernelRfl
import Derived.Test.YtklfpnnnoaaiaaaDoorG00
import Derived.Test.YtklfpnnnoaaiaaaDoorG06
import Derived.Test.YtklfpnnnoaaiaaaDoorG09
/- A region that draws its order and makes, loads and stores rows: what holds of the memory, whatever the order. -/
namespace Go.Proofs.YtklfpnnnoaaiaaaDoor
open Go.RowKit

/-- A row that was there: its block, the operation that stores there, what it holds ahead of it and behind it. -/
structure OldR where
  g : Nat
  B : Nat
  T : TypeId
  z : Array Value
  c : Array Value
/-- A row that is made by operation A and written by operation B. -/
structure NewR where
  A : Nat
  B : Nat
  T : TypeId
  z : Array Value
  c : Array Value
/-- What holds. -/
structure MxS (W : World) (os : List OldR) (ns : List NewR) (L : Nat → Bool) (x : Nat → Value) (w : World) : Prop where
  keep : Keep (fun k => ∃ o ∈ os, o.g = k) W w
  old : ∀ o ∈ os, Row w o.g o.T (if L o.B = true then o.c else o.z)
  new : ∀ n ∈ ns, L n.A = true → ∃ b, x n.A = .pointer (some ⟨b, 0, none⟩) ∧ W.heap.size ≤ b ∧ Row w b n.T (if L n.B = true then n.c else n.z)
  ord : ∀ n ∈ ns, L n.B = true → L n.A = true
  dis : ∀ n ∈ ns, ∀ m ∈ ns, n.A ≠ m.A → L n.A = true → L m.A = true → x n.A ≠ x m.A
/-- An operation that neither makes nor stores a row. -/
def MxI (os : List OldR) (ns : List NewR) (i : Nat) : Prop := (∀ o ∈ os, o.B ≠ i) ∧ ∀ n ∈ ns, n.A ≠ i ∧ n.B ≠ i
theorem setRow_keep {G : Nat → Prop} {g : Nat} (hg : G g) (w : World) (cs : Array Value) : Keep G w (w.setRow g cs) :=
  ⟨rfl, rfl, rfl, by simp, fun k _ hn => setRow_other w g k cs (fun e => hn (e ▸ hg))⟩
theorem Row.over2 {w : World} {g : Nat} {T : TypeId} {cs cs' : Array Value} (h : Row w g T cs) : Row (w.setRow g cs') g T cs' := setRow_heap w g cs cs' T (0, 0) h
theorem Row.far2 {w : World} {g g' : Nat} {T : TypeId} {cs cs' : Array Value} (h : Row w g T cs) (hg : g ≠ g') : Row (w.setRow g' cs') g T cs := (setRow_other w g' g cs' hg).trans h
section
variable {W w w' : World} {os : List OldR} {ns : List NewR} {L : Nat → Bool} {x : Nat → Value}
theorem setL_ne {i j : Nat} (h : j ≠ i) : setL L i j = L j := by simp [setL, h]
theorem setL_eq (i : Nat) : setL L i i = true := by simp [setL]
theorem updV_ne {i j : Nat} (h : j ≠ i) (u : Value) : updV x i u j = x j := by simp [updV, h]
theorem updV_eq (i : Nat) (u : Value) : updV x i u i = u := by simp [updV]
theorem MxS.start (hos : ∀ o ∈ os, Row W o.g o.T o.z) : MxS W os ns (fun _ => false) x W.drew :=
  ⟨Keep.drew W, fun o ho => by rw [if_neg (by simp)]; exact hos o ho, (fun _ _ h => by cases h), (fun _ _ h => by cases h), (fun _ _ _ _ _ h => by cases h)⟩
theorem MxS.next (h : MxS W os ns L x w) (i : Nat) (u : Value) (hi : MxI os ns i) : MxS W os ns (setL L i) (updV x i u) w := by
  refine ⟨h.keep, fun o ho => ?_, fun n hn e => ?_, fun n hn e => ?_, fun n hn m hm hne e1 e2 => ?_⟩
  · rw [setL_ne (hi.1 o ho)]; exact h.old o ho
  · have hh := hi.2 n hn
    rw [setL_ne hh.1] at e
    rw [updV_ne hh.1, setL_ne hh.2]
    exact h.new n hn e
  · have hh := hi.2 n hn
    rw [setL_ne hh.1]
    rw [setL_ne hh.2] at e
    exact h.ord n hn e
  · rw [setL_ne (hi.2 n hn).1] at e1
    rw [setL_ne (hi.2 m hm).1] at e2
    rw [updV_ne (hi.2 n hn).1, updV_ne (hi.2 m hm).1]
    exact h.dis n hn m hm hne e1 e2
theorem MxS.below (h : MxS W os ns L x w) (hb : Below w.heap.size w w') : MxS W os ns L x w' :=
  ⟨h.keep.trans (.of_below hb), fun o ho => (h.old o ho).below hb, fun n hn e => by
    obtain ⟨b, h1, h2, h3⟩ := h.new n hn e
    exact ⟨b, h1, h2, h3.below hb⟩, h.ord, h.dis⟩
theorem MxS.alloc (h : MxS W os ns L x w) {n : NewR} (hn : n ∈ ns) (hA : L n.A = false) (hu : ∀ m ∈ ns, m.A = n.A → m = n) (ho : ∀ o ∈ os, o.B ≠ n.A) (hm : ∀ m ∈ ns, m.B ≠ n.A) :
    MxS W os ns (setL L n.A) (updV x n.A (.pointer (some ⟨w.heap.size, 0, none⟩))) (w.alloc (.cells n.z n.T)) := by
  have hb := below_alloc w (.cells n.z n.T)
  have hB : L n.B = false := by
    cases e : L n.B with
    | false => rfl
    | true => rw [h.ord n hn e] at hA; cases hA
  refine ⟨h.keep.trans (.alloc w _), fun o hoo => ?_, fun m hmm e => ?_, fun m hmm e => ?_, fun p hp q hq hne e1 e2 => ?_⟩
  · rw [setL_ne (ho o hoo)]; exact (h.old o hoo).alloc _
  · by_cases hmn : m.A = n.A
    · obtain rfl := hu m hmm hmn
      rw [updV_eq, setL_ne (hm m hmm), hB, if_neg (by simp)]
      exact ⟨_, rfl, h.keep.size, Row.new w _ _⟩
    · rw [setL_ne hmn] at e
      rw [updV_ne hmn, setL_ne (hm m hmm)]
      obtain ⟨b, h1, h2, h3⟩ := h.new m hmm e
      exact ⟨b, h1, h2, h3.alloc _⟩
  · rw [setL_ne (hm m hmm)] at e
    have h1 := h.ord m hmm e
    by_cases hmn : m.A = n.A
    · rw [hmn, setL_eq]
    · rw [setL_ne hmn]; exact h1
  · by_cases hpn : p.A = n.A
    · rw [hpn, updV_eq]
      by_cases hqn : q.A = n.A
      · exact absurd (hpn.trans hqn.symm) hne
      · rw [setL_ne hqn] at e2
        rw [updV_ne hqn]
        obtain ⟨b, h1, h2, h3⟩ := h.new q hq e2
        rw [h1]
        intro e
        have : w.heap.size = b := by injection e with e; injection e with e; injection e
        have := h3.lt
        omega
    · rw [setL_ne hpn] at e1
      rw [updV_ne hpn]
      by_cases hqn : q.A = n.A
      · rw [hqn, updV_eq]
        obtain ⟨b, h1, h2, h3⟩ := h.new p hp e1
        rw [h1]
        intro e
        have : b = w.heap.size := by injection e with e; injection e with e; injection e
        have := h3.lt
        omega
      · rw [setL_ne hqn] at e2
        rw [updV_ne hqn]
        exact h.dis p hp q hq hne e1 e2
/-- A row that was made is written. -/
theorem MxS.write (h : MxS W os ns L x w) {n : NewR} (hn : n ∈ ns) {b : Nat} (hx : x n.A = .pointer (some ⟨b, 0, none⟩)) (hA : L n.A = true) (hu : ∀ m ∈ ns, m.A = n.A ∨ m.B = n.B → m = n) (ho : ∀ o ∈ os, o.B ≠ n.B) (hm : ∀ m ∈ ns, m.A ≠ n.B) (u : Value) (hos : ∀ o ∈ os, o.g < W.heap.size) :
    MxS W os ns (setL L n.B) (updV x n.B u) (w.setRow b n.c) := by
  obtain ⟨b', hb', hbW, hrow⟩ := h.new n hn hA
  obtain rfl : b = b' := by rw [hx] at hb'; injection hb' with e; injection e with e; injection e
  refine ⟨⟨h.keep.os, h.keep.tape, h.keep.output, by simpa using h.keep.size, fun k hk hG => (setRow_other w b k n.c (by omega)).trans (h.keep.block k hk hG)⟩, fun o hoo => ?_, fun m hmm e => ?_, fun m hmm e => ?_, fun p hp q hq hne e1 e2 => ?_⟩
  · rw [setL_ne (ho o hoo)]
    have := hos o hoo
    exact (h.old o hoo).far2 (by omega)
  · rw [setL_ne (hm m hmm)] at e
    rw [updV_ne (hm m hmm)]
    by_cases hmn : m.A = n.A
    · obtain rfl := hu m hmm (.inl hmn)
      rw [setL_eq, if_pos rfl]
      exact ⟨b, hx, hbW, hrow.over2⟩
    · have hBn : m.B ≠ n.B := fun e2 => hmn (by rw [hu m hmm (.inr e2)])
      rw [setL_ne hBn]
      obtain ⟨b2, h1, h2, h3⟩ := h.new m hmm e
      refine ⟨b2, h1, h2, h3.far2 ?_⟩
      rintro rfl
      exact h.dis m hmm n hn hmn e hA (by rw [h1, hx])
  · rw [setL_ne (hm m hmm)]
    by_cases hBn : m.B = n.B
    · obtain rfl := hu m hmm (.inr hBn)
      exact hA
    · rw [setL_ne hBn] at e
      exact h.ord m hmm e
  · rw [setL_ne (hm p hp)] at e1
    rw [setL_ne (hm q hq)] at e2
    rw [updV_ne (hm p hp), updV_ne (hm q hq)]
    exact h.dis p hp q hq hne e1 e2
/-- A row that was there is written. -/
theorem MxS.over (h : MxS W os ns L x w) {o : OldR} (hoo : o ∈ os) (hu : ∀ p ∈ os, p.g = o.g ∨ p.B = o.B → p = o) (hm : ∀ m ∈ ns, m.A ≠ o.B ∧ m.B ≠ o.B) (u : Value) (hos : ∀ o ∈ os, o.g < W.heap.size) :
    MxS W os ns (setL L o.B) (updV x o.B u) (w.setRow o.g o.c) := by
  refine ⟨h.keep.trans (setRow_keep ⟨o, hoo, rfl⟩ w o.c), fun p hp => ?_, fun m hmm e => ?_, fun m hmm e => ?_, fun p hp q hq hne e1 e2 => ?_⟩
  · by_cases hpo : p.g = o.g
    · obtain rfl := hu p hp (.inl hpo)
      rw [setL_eq, if_pos rfl]
      exact (h.old p hp).over2
    · have hB : p.B ≠ o.B := fun e => hpo (by rw [hu p hp (.inr e)])
      rw [setL_ne hB]
      exact (h.old p hp).far2 hpo
  · have hh := hm m hmm
    rw [setL_ne hh.1] at e
    rw [updV_ne hh.1, setL_ne hh.2]
    obtain ⟨b2, h1, h2, h3⟩ := h.new m hmm e
    have := hos o hoo
    exact ⟨b2, h1, h2, h3.far2 (by omega)⟩
  · have hh := hm m hmm
    rw [setL_ne hh.1]
    rw [setL_ne hh.2] at e
    exact h.ord m hmm e
  · rw [setL_ne (hm p hp).1] at e1
    rw [setL_ne (hm q hq).1] at e2
    rw [updV_ne (hm p hp).1, updV_ne (hm q hq).1]
    exact h.dis p hp q hq hne e1 e2
theorem MxS.bel (h : MxS W os ns L x w) {B : Nat} (ho : ∀ o ∈ os, B ≤ o.g) (hB : B ≤ W.heap.size) : Below B W w :=
  h.keep.bel (fun _ ⟨o, hoo, e⟩ => e ▸ ho o hoo) hB
theorem MxS.bel0 (h : MxS W [] ns L x w) : Below W.heap.size W w := h.bel (fun _ hh => by cases hh) (Nat.le_refl _)
/-- A row that nobody writes. -/
theorem MxS.row (h : MxS W os ns L x w) {g : Nat} {T : TypeId} {cs : Array Value} (hr : Row W g T cs) (hg : ∀ o ∈ os, o.g ≠ g) : Row w g T cs :=
  hr.keep h.keep (fun ⟨o, hoo, e⟩ => hg o hoo e)
end
end Go.Proofs.YtklfpnnnoaaiaaaDoor

/- stewardlaw19.RingLittle: what holds while its values are loaded, and while an entry is left out. -/
namespace Go.Proofs.YtklfpnnnoaaiaaaDoor
open Go.RowKit

/-- Entries, cell by cell. -/
theorem ents_cells {w : World} {bk o c : Nat} {ys : List Ent} (h : IsEnts w (some ⟨bk, o, none⟩) c ys) : ∀ (i : Nat) u, (cellsE ys)[i]? = some u → w.cell? ⟨bk, o + i, none⟩ = some u := by
  intro i u hu
  have hl := (List.getElem?_eq_some_iff.1 hu).1
  rw [cellsE_length] at hl
  rcases h with h | ⟨bk', o', ha, hbk, hc, hcell⟩
  · subst h; simp at hl
  · injection ha with ha
    injection ha with h1 h2
    subst h1 h2
    have hj : i / 2 < ys.length := by omega
    obtain ⟨c1, c2⟩ := hcell (i / 2) _ (List.getElem?_eq_getElem hj)
    obtain ⟨d1, d2⟩ := cellsE_at ys (i / 2) _ (List.getElem?_eq_getElem hj)
    rcases Nat.mod_two_eq_zero_or_one i with hm | hm
    · have e : i / 2 * 2 = i := by omega
      rw [e] at d1 c1
      rw [d1] at hu
      rw [c1]; exact hu
    · have e : i / 2 * 2 + 1 = i := by omega
      rw [e] at d2
      rw [Nat.add_assoc, e] at c2
      rw [d2] at hu
      rw [c2]; exact hu
theorem cellsE_dropAt (ys : List Ent) (k : Nat) (hk : k ≤ ys.length) (i : Nat) : (cellsE (ys.drop k))[i]? = (cellsE ys)[k * 2 + i]? := by
  conv => rhs; rw [← List.take_append_drop k ys, cellsE_append]
  have hl : (cellsE (ys.take k)).length = k * 2 := by rw [cellsE_length, List.length_take]; omega
  rw [List.getElem?_append_right (by omega), hl, Nat.add_sub_cancel_left]
theorem cellsE_takeAt {ys : List Ent} {k i : Nat} {u : Value} (h : (cellsE (ys.take k))[i]? = some u) : (cellsE ys)[i]? = some u := by
  conv => lhs; rw [← List.take_append_drop k ys, cellsE_append]
  rw [List.getElem?_append_left (List.getElem?_eq_some_iff.1 h).1]
  exact h
/-- Few's entries come while others are loaded. -/
structure FwS (W : World) (ys : List Ent) (L : Nat → Bool) (x : Nat → Value) (w : World) : Prop where
  bel : Below W.heap.size W w
  z2 : L 2 = true → ∃ a c, x 2 = .slice a ys.length c ∧ IsEnts w a c ys
  z9 : L 9 = true → ∃ a c, x 9 = .slice a ys.length c ∧ IsEnts w a c ys
section
variable {W w w' : World} {ys : List Ent} {L : Nat → Bool} {x : Nat → Value}
theorem FwS.next (h : FwS W ys L x w) (i : Nat) (u : Value) (h2 : 2 ≠ i) (h9 : 9 ≠ i) : FwS W ys (setL L i) (updV x i u) w :=
  ⟨h.bel, fun e => by rw [setL_ne h2] at e; rw [updV_ne h2]; exact h.z2 e, fun e => by rw [setL_ne h9] at e; rw [updV_ne h9]; exact h.z9 e⟩
theorem FwS.below (h : FwS W ys L x w) (hb : Below w.heap.size w w') : FwS W ys L x w' :=
  ⟨h.bel.trans (hb.mono h.bel.size), fun e => by obtain ⟨a, c, h1, h2⟩ := h.z2 e; exact ⟨a, c, h1, h2.below hb⟩, fun e => by obtain ⟨a, c, h1, h2⟩ := h.z9 e; exact ⟨a, c, h1, h2.below hb⟩⟩
theorem FwS.put2 (h : FwS W ys L x w) {a : Option Addr} {c : Nat} (he : IsEnts w a c ys) : FwS W ys (setL L 2) (updV x 2 (.slice a ys.length c)) w :=
  ⟨h.bel, fun _ => ⟨a, c, updV_eq _ _, he⟩, fun e => by rw [setL_ne (by decide)] at e; rw [updV_ne (by decide)]; exact h.z9 e⟩
theorem FwS.put9 (h : FwS W ys L x w) {a : Option Addr} {c : Nat} (he : IsEnts w a c ys) : FwS W ys (setL L 9) (updV x 9 (.slice a ys.length c)) w :=
  ⟨h.bel, fun e => by rw [setL_ne (by decide)] at e; rw [updV_ne (by decide)]; exact h.z2 e, fun _ => ⟨a, c, updV_eq _ _, he⟩⟩
end
/-- An entry is left out. -/
structure LtS (W : World) (bk o q : Nat) (ys : List Ent) (L : Nat → Bool) (x : Nat → Value) (w : World) : Prop where
  bel : Below W.heap.size W w
  o4 : L 4 = true → L 0 = true
  o9 : L 9 = true → L 4 = true
  z0 : L 0 = true → L 4 = false → ∃ b, x 0 = .slice (some ⟨b, 0, none⟩) 0 0 ∧ w.ownsRow W.heap.size 51 2 (.slice (some ⟨b, 0, none⟩) 0 0) 0 []
  z4 : L 4 = true → L 9 = false → w.ownsRow W.heap.size 51 2 (x 4) q (cellsE (ys.take q))
  z8 : L 8 = true → ∃ ad m c, x 8 = .slice (some ad) m c ∧ m = ys.length - (q + 1) ∧ (m = 0 ∨ ad = ⟨bk, o + (q + 1) * 2, none⟩)
  z9 : L 9 = true → w.ownsRow W.heap.size 51 2 (x 9) (ys.length - 1) (cellsE (ys.take q ++ ys.drop (q + 1)))
section
variable {W w w' : World} {bk o q : Nat} {ys : List Ent} {L : Nat → Bool} {x : Nat → Value}
theorem LtS.start (W : World) (bk o q : Nat) (ys : List Ent) (x : Nat → Value) : LtS W bk o q ys (fun _ => false) x W.drew :=
  ⟨(Below.refl _ _).drew, (fun e => by cases e), (fun e => by cases e), (fun e => by cases e), (fun e => by cases e), (fun e => by cases e), (fun e => by cases e)⟩
theorem LtS.next (h : LtS W bk o q ys L x w) (i : Nat) (u : Value) (h0 : 0 ≠ i) (h4 : 4 ≠ i) (h8 : 8 ≠ i) (h9 : 9 ≠ i) : LtS W bk o q ys (setL L i) (updV x i u) w := by
  refine ⟨h.bel, ?_, ?_, ?_, ?_, ?_, ?_⟩
  · rw [setL_ne h0, setL_ne h4]; exact h.o4
  · rw [setL_ne h9, setL_ne h4]; exact h.o9
  · rw [setL_ne h0, setL_ne h4, updV_ne h0]; exact h.z0
  · rw [setL_ne h9, setL_ne h4, updV_ne h4]; exact h.z4
  · rw [setL_ne h8, updV_ne h8]; exact h.z8
  · rw [setL_ne h9, updV_ne h9]; exact h.z9
theorem LtS.put0 (h : LtS W bk o q ys L x w) (hl : L 0 = false) : LtS W bk o q ys (setL L 0) (updV x 0 (.slice (some ⟨w.heap.size, 0, none⟩) 0 0)) (w.alloc (.cells #[] 51)) := by
  have h4 : L 4 = false := by cases e : L 4 with | false => rfl | true => rw [h.o4 e] at hl; cases hl
  have h9 : L 9 = false := by cases e : L 9 with | false => rfl | true => rw [h.o9 e] at h4; cases h4
  have hb : Below w.heap.size w (w.alloc (.cells #[] 51)) := below_alloc w _
  refine ⟨h.bel.trans (hb.mono h.bel.size), ?_, ?_, ?_, ?_, ?_, ?_⟩
  · intro _; exact setL_eq _
  · rw [setL_ne (by decide), setL_ne (by decide)]; exact h.o9
  · intro _ _
    exact ⟨_, updV_eq _ _, World.ownsRow_lit w #[] 0 h.bel.size (by decide) (by simp)⟩
  · rw [setL_ne (by decide), h4]; intro e; cases e
  · rw [setL_ne (by decide), updV_ne (by decide)]; exact h.z8
  · rw [setL_ne (by decide), h9]; intro e; cases e
theorem LtS.put8 (h : LtS W bk o q ys L x w) (u : Value) (hu : ∃ ad m c, u = .slice (some ad) m c ∧ m = ys.length - (q + 1) ∧ (m = 0 ∨ ad = ⟨bk, o + (q + 1) * 2, none⟩)) : LtS W bk o q ys (setL L 8) (updV x 8 u) w := by
  refine ⟨h.bel, ?_, ?_, ?_, ?_, ?_, ?_⟩
  · rw [setL_ne (by decide), setL_ne (by decide)]; exact h.o4
  · rw [setL_ne (by decide), setL_ne (by decide)]; exact h.o9
  · rw [setL_ne (by decide), setL_ne (by decide), updV_ne (by decide)]; exact h.z0
  · rw [setL_ne (by decide), setL_ne (by decide), updV_ne (by decide)]; exact h.z4
  · intro _; rw [updV_eq]; exact hu
  · rw [setL_ne (by decide), updV_ne (by decide)]; exact h.z9
theorem LtS.put4 (h : LtS W bk o q ys L x w) (hl : L 4 = false) {b : Nat} {v : Value} (h0 : L 0 = true) (hg : w.grownBy w' (some b)) (hb : W.heap.size ≤ b) (hv : w'.ownsRow W.heap.size 51 2 v q (cellsE (ys.take q))) : LtS W bk o q ys (setL L 4) (updV x 4 v) w' := by
  have h9 : L 9 = false := by cases e : L 9 with | false => rfl | true => rw [h.o9 e] at hl; cases hl
  refine ⟨h.bel.grown hg h.bel.size (fun k e => by injection e with e; omega), ?_, ?_, ?_, ?_, ?_, ?_⟩
  · intro _; rw [setL_ne (by decide)]; exact h0
  · intro _; exact setL_eq _
  · intro _ e; rw [setL_eq] at e; cases e
  · intro _ _; rw [updV_eq]; exact hv
  · rw [setL_ne (by decide), updV_ne (by decide)]; exact h.z8
  · rw [setL_ne (by decide), h9]; intro e; cases e
theorem LtS.put9 (h : LtS W bk o q ys L x w) {b : Option Nat} {v : Value} (h4 : L 4 = true) (hg : w.grownBy w' b) (hb : ∀ k, b = some k → W.heap.size ≤ k) (hv : w'.ownsRow W.heap.size 51 2 v (ys.length - 1) (cellsE (ys.take q ++ ys.drop (q + 1)))) : LtS W bk o q ys (setL L 9) (updV x 9 v) w' := by
  refine ⟨h.bel.grown hg h.bel.size (fun k e => hb k e), ?_, ?_, ?_, ?_, ?_, ?_⟩
  · rw [setL_ne (by decide), setL_ne (by decide)]; exact h.o4
  · intro _; rw [setL_ne (by decide)]; exact h4
  · rw [setL_ne (by decide), setL_ne (by decide), updV_ne (by decide), h4]; intro _ e; cases e
  · intro _ e; rw [setL_eq] at e; cases e
  · rw [setL_ne (by decide), updV_ne (by decide)]; exact h.z8
  · intro _; rw [updV_eq]; exact hv
end
theorem gmE_nn : ∀ l : List Ent, 0 ≤ gmE l
  | [] => Int.le_refl _
  | e :: l => by show 0 ≤ max e.2 (gmE l); have := gmE_nn l; omega
theorem gmE_less {a b : List Ent} {e : Ent} : gmE (a ++ e :: b) = max e.2 (gmE (a ++ b)) := by
  induction a with
  | nil => rfl
  | cons x a ih => show max x.2 (gmE (a ++ e :: b)) = max e.2 (max x.2 (gmE (a ++ b))); rw [ih]; omega
end Go.Proofs.YtklfpnnnoaaiaaaDoor

/- stewardlaw19.RingLittle (written by genlawlt.py). -/
namespace Go.Proofs.YtklfpnnnoaaiaaaDoor
open Go.RowKit

theorem and16L (x : Int) : ∃ n : Nat, n ≤ 65535 ∧ bits .and .i64 x 65535 = (n : Int) := by
  have h : (BitVec.ofInt 64 x &&& BitVec.ofInt 64 65535).toNat ≤ 65535 := by
    rw [BitVec.toNat_and]
    exact Nat.le_trans Nat.and_le_right (by decide)
  refine ⟨(BitVec.ofInt 64 x &&& BitVec.ofInt 64 65535).toNat, h, ?_⟩
  show IntKind.i64.wrap (((BitVec.ofInt 64 x &&& BitVec.ofInt 64 65535).toNat : Nat) : Int) = _
  exact IntWalk.i64_in _ (by omega)
theorem tmodL (a b : Nat) : ((a : Int).tmod (b : Int)) = ((a % b : Nat) : Int) := by rw [Int.tmod_eq_emod_of_nonneg (by omega)]; rfl
set_option maxRecDepth 100000 in
set_option maxHeartbeats 8000000 in
theorem lawRingLittle (s : ByteArray) (a : Option Addr) (c : Nat) (es : List Ent) (hfl : es.length ≤ 9223372036854775807) (which x : Int) (hx0 : 0 ≤ x) (hx1 : x < 18446744073709551616) (w : World) (hI : Ini w) (hP : Pow w) (hf : IsEnts w a c es) :
    Calls Tryd.prog 4 #[.agg #[.string s, .slice a es.length c, .int .i64 which, .int .u64 x]] w fun e w' => e = .returned (.bool true) ∧ Below w.heap.size w w' := by
  obtain ⟨num, rfl⟩ : ∃ n : Nat, x = (n : Int) := ⟨x.toNat, by omega⟩
  obtain ⟨i0, hi, hz0, hz1, hz2⟩ := info_parts infoXEnt
  have hb0 := below_alloc w (.cells #[.string s, .slice a es.length c, .int .i64 which, .int .u64 (num : Nat)] 49)
  have HAW := Lib.hid (awake26 _ (hI.below hb0) (hP.below hb0))
  have HI0 : Hid (IniP (w.alloc (.cells #[.string s, .slice a es.length c, .int .i64 which, .int .u64 (num : Nat)] 49))) := ⟨hI.below hb0, hP.below hb0⟩
  have HF0 := Lib.hid (hf.below hb0)
  have HA0 := Lib.hid (Row.new w 49 #[.string s, .slice a es.length c, .int .i64 which, .int .u64 (num : Nat)])
  have HB0 := Lib.hid hb0
  have hfew : ∀ W, IsEnts W a c es → Calls Tryd.prog 6 #[.slice a es.length c, .int .i64 6] W fun e w' => ∃ a' c', e = .returned (.slice a' (fewE es 6).length c') ∧ IsEnts w' a' c' (fewE es 6) ∧ Below W.heap.size W w' := fun W hE => (few7 a c es 6 (by decide) hfl W hE).mono fun e w' ⟨u, h1, h2, h3⟩ => by
    obtain ⟨a', c', rfl⟩ := own_slice h2
    exact ⟨a', c', h1, (isEnts_own h2).2.1, h3⟩
  have HFEW := Lib.hid hfew
  have hkf := fun W => key17 s W
  generalize (fun i => s.data.toList.getD i 0) = kf at hkf
  have HK : Hid (∀ W, Calls Tryd.prog 7 #[.string s] W fun e w' => e = .returned (.agg #[.int .u8 (kf 0).toNat, .int .u8 (kf 1).toNat, .int .u8 (kf 2).toNat, .int .u8 (kf 3).toNat, .int .u8 (kf 4).toNat, .int .u8 (kf 5).toNat, .int .u8 (kf 6).toNat, .int .u8 (kf 7).toNat, .int .u8 (kf 8).toNat, .int .u8 (kf 9).toNat, .int .u8 (kf 10).toNat, .int .u8 (kf 11).toNat, .int .u8 (kf 12).toNat, .int .u8 (kf 13).toNat, .int .u8 (kf 14).toNat, .int .u8 (kf 15).toNat]) ∧ Below W.heap.size W w') := hkf
  clear hI hP hf hfl hkf hx0 hx1 hb0 hfew
  have hkl : (fewE es 6).length ≤ 6 := by unfold fewE; simp; omega
  have HZ : Hid (∀ e ∈ fewE es 6, e.1.size ≤ 1000) := by
    intro e he
    obtain ⟨g, _, rfl⟩ := List.mem_map.1 he
    exact Nat.le_trans (cutE_size g) (by decide)
  generalize fewE es 6 = ys at *
  go_enter Tryd.func4, Tryd.ntmps4
  go_upto_region 3 with (go_at_call 5; refine HAW.out.mono ?_; rintro e w1 ⟨rfl, hB1⟩; have HA1 := Lib.hid (HA0.out.below hB1); have HF1 := Lib.hid (HF0.out.below hB1); have HI1 := Lib.hid (HI0.out.below hB1); have HB1 := Lib.hid (HB0.out.trans (hB1.mono HB0.out.size)); clear hB1)
  clear HAW HI0 HF0 HA0 HB0
  refine region_mixt 12 [some (.pointer (some ⟨w.heap.size, 1, none⟩)), some (.slice a es.length c), none, some (.pointer (some ⟨w.heap.size, 0, none⟩)), some (.string s), some (.pointer (some ⟨w.heap.size, 2, none⟩)), some (.int .i64 which), some (.pointer (some ⟨w.heap.size, 3, none⟩)), some (.int .u64 (num : Nat)), none, some (.string s), some (.int .i64 which)]
    [[false, false, false, false, false, false, false, false, false, false, false, false], [true, false, false, false, false, false, false, false, false, false, false, false], [false, true, false, false, false, false, false, false, false, false, false, false], [false, false, false, false, false, false, false, false, false, false, false, false], [false, false, false, true, false, false, false, false, false, false, false, false], [false, false, false, false, false, false, false, false, false, false, false, false], [false, false, false, false, false, true, false, false, false, false, false, false], [false, false, false, false, false, false, false, false, false, false, false, false], [false, false, false, false, false, false, false, true, false, false, false, false], [true, true, true, false, false, false, false, false, false, false, false, false], [true, true, true, true, true, false, false, false, false, true, false, false], [true, true, true, true, true, true, true, false, false, true, true, false]]
    (fun LL xx w9 => FwS w1 ys LL xx w9)
    (by kernel_rfl) (by kernel_rfl) (by kernel_rfl) (by kernel_rfl) (by kernel_rfl) (by decide) ?_ ?_ ?_
  · intro x
    exact ⟨(Below.refl _ _).drew, (fun h => by cases h), (fun h => by cases h)⟩
  · simp only [List.take_succ_cons, List.take_zero]
    refine ⟨?_, ?_, ?_, ?_, ?_, ?_, ?_, ?_, ?_, ?_, ?_, ?_, trivial⟩
    all_goals
      intro L x w9 hS hl hp K9 hK9
      have hs : FwS w1 ys L x w9 := hS
      clear hS
      replace hK9 := hK9.out
      simp only [actMix, pickV, List.tail_cons, List.headD_cons, Act.put, List.setIfInBounds_toArray, List.set_cons_zero, List.set_cons_succ] at hK9 ⊢
    · clear hp
      go_simp
      with_reducible refine hK9 _ ?_
      exact hs.next 0 _ (by decide) (by decide)
    · clear hp
      have cb : w9.cell? ⟨w.heap.size, 1, none⟩ = some (.slice a es.length c) := by rw [(HA1.out.below hs.bel).cell]; rfl
      go_simp
      with_reducible refine hK9 _ ?_
      exact hs.next 1 _ (by decide) (by decide)
    · clear hp
      go_simp
      refine (HFEW.out w9 (HF1.out.below hs.bel)).mono ?_
      rintro e w8 ⟨a8, c8, rfl, hE8, hB8⟩
      go_simp
      with_reducible refine hK9 _ _ ?_
      exact (hs.below hB8).put2 hE8
    · clear hp
      go_simp
      with_reducible refine hK9 _ ?_
      exact hs.next 3 _ (by decide) (by decide)
    · clear hp
      have cb : w9.cell? ⟨w.heap.size, 0, none⟩ = some (.string s) := by rw [(HA1.out.below hs.bel).cell]; rfl
      go_simp
      with_reducible refine hK9 _ ?_
      exact hs.next 4 _ (by decide) (by decide)
    · clear hp
      go_simp
      with_reducible refine hK9 _ ?_
      exact hs.next 5 _ (by decide) (by decide)
    · clear hp
      have cb : w9.cell? ⟨w.heap.size, 2, none⟩ = some (.int .i64 which) := by rw [(HA1.out.below hs.bel).cell]; rfl
      go_simp
      with_reducible refine hK9 _ ?_
      exact hs.next 6 _ (by decide) (by decide)
    · clear hp
      go_simp
      with_reducible refine hK9 _ ?_
      exact hs.next 7 _ (by decide) (by decide)
    · clear hp
      have cb : w9.cell? ⟨w.heap.size, 3, none⟩ = some (.int .u64 (num : Nat)) := by rw [(HA1.out.below hs.bel).cell]; rfl
      go_simp
      with_reducible refine hK9 _ ?_
      exact hs.next 8 _ (by decide) (by decide)
    · obtain ⟨a8, c8, hx8, hE8⟩ := hs.z2 (allL_mem hp 2 (by decide +kernel))
      clear hp
      rw [hx8] at hK9 ⊢
      go_simp
      with_reducible refine hK9 _ _ ?_
      exact hs.put9 hE8
    · clear hp
      go_simp
      with_reducible refine hK9 _ ?_
      exact hs.next 10 _ (by decide) (by decide)
    · clear hp
      go_simp
      with_reducible refine hK9 _ ?_
      exact hs.next 11 _ (by decide) (by decide)
  intro L x w9 hS hL
  have hs : FwS w1 ys L x w9 := hS
  clear hS
  simp only [actMix, pickV, List.tail_cons, List.headD_cons, Act.put, List.setIfInBounds_toArray, List.set_cons_zero, List.set_cons_succ, List.replicate_succ, List.replicate_zero, List.drop_succ_cons, List.drop_zero, List.take_succ_cons, List.take_zero]
  obtain ⟨au, cu, hx9, hE9⟩ := hs.z9 (hL 9 (by decide))
  rw [hx9]
  have HE2 := Lib.hid hE9
  have HI2 := Lib.hid (HI1.out.below hs.bel)
  have HB2 := Lib.hid (HB1.out.trans (hs.bel.mono HB1.out.size))
  generalize x 2 = xa
  clear hs hL hx9 hE9 HA1 HF1 HI1 HB1 HFEW
  obtain ⟨wA, rfl⟩ : ∃ wA, wA = w9 := ⟨w9, rfl⟩
  go_wp2_with fail
  go_loopw [7, 33] (fun g i wr => ∃ j : Nat, j ≤ ys.length ∧ g = .int .i64 (gmE (ys.take j)) ∧ i = .int .i64 (j : Int) ∧ Hid (Below wA.heap.size wA wr)) (fun _ i _ => ys.length - (intOf i).toNat)
  case atStart => exact ⟨0, Nat.zero_le _, rfl, rfl, Below.refl _ _⟩
  case round =>
    obtain ⟨j, hj, rfl, rfl, HB⟩ := hrel
    by_cases hlt : j < ys.length
    · obtain h0 | ⟨bk, o, he0, hbk, hcc, hcell⟩ := HE2.out.below HB.out
      · rw [h0] at hlt; simp at hlt
      subst he0
      obtain ⟨c1, c2⟩ := hcell j _ (List.getElem?_eq_getElem hlt)
      have hst := gmE_step hlt
      have j1 : (j : Int) < ys.length := by omega
      generalize ys[j] = ee at *
      obtain ⟨N, V⟩ := ee
      simp only at c1 c2 hst
      have hif : (if gmE (ys.take j) < V then V else gmE (ys.take j)) = gmE (ys.take (j + 1)) := by rw [hst]; split <;> omega
      have hmx : max (gmE (ys.take j)) V = gmE (ys.take (j + 1)) := hst.symm
      have HBa := Lib.hid (HB.out.alloc HB.out.size (.cells #[.string N, .int .i64 V] 51))
      clear hst hcell
      generalize gmE (ys.take j) = G at *
      generalize hG2 : gmE (ys.take (j + 1)) = G2 at *
      have HG2 := Lib.hid hG2
      clear hG2
      go_wp2_with fail
      go_roundw
      case rel => exact ⟨j + 1, hlt, (by rw [HG2.out]), by go_num, HBa⟩
      case measure => simp [intOf]; omega
    · obtain rfl : j = ys.length := by omega
      have hne : ¬ (ys.length : Int) < ys.length := by omega
      rw [List.take_length]
      clear hlt
      have hck := check29 au cu ys (by omega) wr (HE2.out.below HB.out)
      have HB3 := Lib.hid (HB2.out.trans (HB.out.mono HB2.out.size))
      have HE3a := Lib.hid (HE2.out.below HB.out)
      have HI3a := Lib.hid (HI2.out.below HB.out)
      clear HB HB2 HE2 HI2
      by_cases hc : validB ys = true
      case neg =>
        have hc : validB ys = false := by simpa using hc
        rw [hc] at hck
        have HCK : Hid (Calls Tryd.prog 10 #[.slice au ys.length cu] wr fun e w' => e = .returned (.int .i64 1) ∧ Below wr.heap.size wr w') := hck
        clear hck
        go_wp2_with (go_at_call 10; refine HCK.out.mono ?_; rintro e w7 ⟨rfl, hB7⟩)
        go_ret
        exact ⟨rfl, HB3.out.trans (hB7.mono HB3.out.size)⟩
      rw [hc] at hck
      have HCK : Hid (Calls Tryd.prog 10 #[.slice au ys.length cu] wr fun e w' => e = .returned (.int .i64 0) ∧ Below wr.heap.size wr w') := hck
      have HVB := Lib.hid hc
      clear hck hc
      by_cases h2 : ys.length < 2
      case pos =>
        have g2 : (ys.length : Int) < 2 := by omega
        go_wp2_with (go_at_call 10; refine HCK.out.mono ?_; rintro e w7 ⟨rfl, hB7⟩)
        go_ret
        exact ⟨rfl, HB3.out.trans (hB7.mono HB3.out.size)⟩
      have g2 : ¬ (ys.length : Int) < 2 := by omega
      obtain ⟨wn, hwn, ew⟩ := and16L which
      have et := tmodL wn ys.length
      have hql : wn % ys.length < ys.length := Nat.mod_lt _ (by omega)
      generalize wn % ys.length = q at *
      have zz : ¬ (ys.length : Int) = 0 := by omega
      go_upto_region 13 with (go_at_call 10; refine HCK.out.mono ?_; rintro e w7 ⟨rfl, hB7⟩; have HE7 := Lib.hid (HE3a.out.below hB7); have HI7 := Lib.hid (HI3a.out.below hB7); have HB7 := Lib.hid (HB3.out.trans (hB7.mono HB3.out.size)); clear hB7)
      clear HCK HE3a HI3a HB3 et ew zz
      obtain h0 | ⟨bk, o, he0, hbk, hcc, hcell⟩ := id HE7.out
      · rw [h0] at h2; simp at h2
      subst he0
      have p1 : (q : Int) ≤ ys.length := by omega
      have p2 : (q : Int) ≤ cu := by omega
      have hw1 : IntKind.i64.wrap ((q : Int) + 1) = (q : Int) + 1 := wrapR _ (by omega) (by omega)
      have p3 : (q : Int) + 1 ≤ ys.length := by omega
      have p4 : (q : Int) + 1 ≤ cu := by omega
      have p0 : (0 : Int) ≤ (q : Int) + 1 := by omega
      have p5 : q + 1 ≤ ys.length := by omega
      have hey := ents_cells HE7.out
      have HBK := Lib.hid hbk
      have HCU := Lib.hid hcc
      clear hcell hbk
      refine region_mixt 10 [none, some (.slice (some ⟨bk, o, none⟩) ys.length cu), some (.int .i64 (q : Int)), some (.slice (some ⟨bk, o, none⟩) q cu), none, some (.slice (some ⟨bk, o, none⟩) ys.length cu), some (.int .i64 (q : Int)), some (.int .i64 ((q : Int) + 1)), none, none]
        [[false, false, false, false, false, false, false, false, false, false], [false, false, false, false, false, false, false, false, false, false], [false, false, false, false, false, false, false, false, false, false], [false, true, true, false, false, false, false, false, false, false], [true, false, false, true, false, false, false, false, false, false], [false, false, false, false, false, false, false, false, false, false], [false, false, false, false, false, false, false, false, false, false], [false, false, false, false, false, false, true, false, false, false], [false, false, false, false, false, true, false, true, false, false], [false, false, false, false, true, false, false, false, true, false]]
        (fun LL xx w9 => LtS w7 bk o q ys LL xx w9)
        (by kernel_rfl) (by kernel_rfl) (by kernel_rfl) (by kernel_rfl) (by kernel_rfl) (by decide) ?_ ?_ ?_
      · intro x
        exact LtS.start _ _ _ _ _ _
      · simp only [List.take_succ_cons, List.take_zero]
        refine ⟨?_, ?_, ?_, ?_, ?_, ?_, ?_, ?_, ?_, ?_, trivial⟩
        all_goals
          intro L x w9 hS hl hp K9 hK9
          have hs : LtS w7 bk o q ys L x w9 := hS
          clear hS
          replace hK9 := hK9.out
          simp only [actMix, pickV, List.tail_cons, List.headD_cons, Act.put, List.setIfInBounds_toArray, List.set_cons_zero, List.set_cons_succ] at hK9 ⊢
        · clear hp
          go_simp
          with_reducible refine hK9 _ _ ?_
          exact hs.put0 hl
        · clear hp
          go_simp
          with_reducible refine hK9 _ ?_
          exact hs.next 1 _ (by decide) (by decide) (by decide) (by decide)
        · clear hp
          go_simp
          with_reducible refine hK9 _ ?_
          exact hs.next 2 _ (by decide) (by decide) (by decide) (by decide)
        · clear hp
          go_simp
          with_reducible refine hK9 _ ?_
          exact hs.next 3 _ (by decide) (by decide) (by decide) (by decide)
        · have h0 := allL_mem hp 0 (by decide +kernel)
          obtain ⟨b0, hx0, ho0⟩ := hs.z0 h0 hl
          have hnc : ∀ (i : Nat) u, (cellsE (ys.take q))[i]? = some u → w9.cell? ((⟨bk, o, none⟩ : Addr).add i) = some u := fun i u hu => by
            rw [Addr.add_mid, (bcell hs.bel).1 _ _ HBK.out]; exact hey i u (cellsE_takeAt hu)
          have hnl : (cellsE (ys.take q)).length = q * 2 := by rw [cellsE_length, List.length_take, Nat.min_eq_left (by omega)]
          clear hp
          rw [hx0] at hK9 ⊢
          first | rw [if_pos (by rfl)] | skip
          refine wp_append_own _ _ _ 22 rfl w7.heap.size 51 i0 (.agg #[.string ⟨#[]⟩, .int .i64 0]) 2 24 Tryd.underlying22 hi hz0 hz1 hz2 rfl (by decide) _ _ _ rfl ho0 ⟨bk, o, none⟩ q cu (cellsE (ys.take q)) rfl hnl hnc (fun u hu => cellsE_one _ u hu) (by unfold maxLen; omega) (by omega) hs.bel.size ?_
          intro v' w1 hown hgrow _
          simp only [Act.put, List.setIfInBounds_toArray, List.set_cons_zero, List.set_cons_succ]
          with_reducible refine hK9 _ _ ?_
          exact hs.put4 hl h0 hgrow (ho0.lt _ rfl).1 (by rw [Nat.zero_add, List.nil_append] at hown; exact hown)
        · clear hp
          go_simp
          with_reducible refine hK9 _ ?_
          exact hs.next 5 _ (by decide) (by decide) (by decide) (by decide)
        · clear hp
          go_simp
          with_reducible refine hK9 _ ?_
          exact hs.next 6 _ (by decide) (by decide) (by decide) (by decide)
        · clear hp
          go_simp
          with_reducible refine hK9 _ ?_
          exact hs.next 7 _ (by decide) (by decide) (by decide) (by decide)
        · clear hp
          go_simp
          with_reducible refine hK9 _ _ ?_
          refine hs.put8 _ ?_
          by_cases hcp : cu = q + 1
          · rw [if_pos hcp]; exact ⟨_, _, _, rfl, by omega, .inl (by omega)⟩
          · rw [if_neg hcp]; exact ⟨_, _, _, rfl, by omega, .inr rfl⟩
        · have h4 := allL_mem hp 4 (by decide +kernel)
          have h8 := allL_mem hp 8 (by decide +kernel)
          have ho4 := hs.z4 h4 hl
          obtain ⟨ad, m', c', hx8, hm', had⟩ := hs.z8 h8
          obtain ⟨a4, c4, hx4⟩ := own_slice ho4
          have hnc : ∀ (i : Nat) u, (cellsE (ys.drop (q + 1)))[i]? = some u → w9.cell? (ad.add i) = some u := fun i u hu => by
            rcases had with h0 | rfl
            · have hll := (List.getElem?_eq_some_iff.1 hu).1
              rw [cellsE_length, List.length_drop] at hll
              omega
            · rw [Addr.add_mid, (bcell hs.bel).1 _ _ HBK.out, Nat.add_assoc]
              rw [cellsE_dropAt ys (q + 1) p5] at hu
              exact hey _ u hu
          have hnl : (cellsE (ys.drop (q + 1))).length = m' * 2 := by rw [cellsE_length, List.length_drop, hm']
          clear hp
          rw [hx4] at ho4
          rw [hx4, hx8] at hK9 ⊢
          first | rw [if_pos (by rfl)] | skip
          refine wp_append_own _ _ _ 22 rfl w7.heap.size 51 i0 (.agg #[.string ⟨#[]⟩, .int .i64 0]) 2 24 Tryd.underlying22 hi hz0 hz1 hz2 rfl (by decide) _ _ _ rfl ho4 ad m' c' (cellsE (ys.drop (q + 1))) rfl hnl hnc (fun u hu => cellsE_one _ u hu) (by unfold maxLen; omega) (by omega) hs.bel.size ?_
          intro v' w1 hown hgrow _
          simp only [Act.put, List.setIfInBounds_toArray, List.set_cons_zero, List.set_cons_succ]
          with_reducible refine hK9 _ _ ?_
          exact hs.put9 h4 hgrow (fun k hk => (ho4.lt k hk).1) (by rw [cellsE_append, show ys.length - 1 = q + m' by omega]; exact hown)
      intro L x w9 hS hL
      have hs : LtS w7 bk o q ys L x w9 := hS
      clear hS
      simp only [actMix, pickV, List.tail_cons, List.headD_cons, Act.put, List.setIfInBounds_toArray, List.set_cons_zero, List.set_cons_succ, List.replicate_succ, List.replicate_zero, List.drop_succ_cons, List.drop_zero, List.take_succ_cons, List.take_zero]
      have ho9 := hs.z9 (hL 9 (by decide))
      obtain ⟨az, cz, hx9⟩ := own_slice ho9
      rw [hx9] at ho9 ⊢
      have hzl : (ys.take q ++ ys.drop (q + 1)).length = ys.length - 1 := by rw [List.length_append, List.length_take, List.length_drop]; omega
      rw [← hzl] at ho9 ⊢
      have HZ9 := Lib.hid (isEnts_own ho9).2.1
      have HE9 := Lib.hid (HE7.out.below hs.bel)
      have HI9 := Lib.hid (HI7.out.below hs.bel)
      have HB9 := Lib.hid (HB7.out.trans (hs.bel.mono HB7.out.size))
      obtain ⟨eN, heN⟩ : ∃ e, e = ys[q] := ⟨_, rfl⟩
      have hys : ys = ys.take q ++ eN :: ys.drop (q + 1) := by rw [heN, List.getElem_cons_drop]; exact (List.take_append_drop q ys).symm
      have HEN : Hid (ys[q]? = some eN) := by show _ = _; rw [heN]; exact List.getElem?_eq_getElem hql
      have HYS := Lib.hid hys
      have HZL := Lib.hid hzl
      generalize hzs : ys.take q ++ ys.drop (q + 1) = zs at *
      have HZS := Lib.hid hzs
      generalize x 0 = x0
      generalize x 4 = x4
      generalize x 8 = x8
      clear hs hL hx9 ho9 HE7 HI7 HB7 hys hzl hzs hey p1 p2 p3 p4 p5 hw1 p0 heN
      obtain ⟨wB, rfl⟩ : ∃ wB, wB = w9 := ⟨w9, rfl⟩
      have hzb : zs.length ≤ 6 := by have := HZL.out; omega
      go_wp2_with fail
      go_loopw [11, 67] (fun g i wr => ∃ j : Nat, j ≤ zs.length ∧ g = .int .i64 (gmE (zs.take j)) ∧ i = .int .i64 (j : Int) ∧ Hid (Below wB.heap.size wB wr)) (fun _ i _ => zs.length - (intOf i).toNat)
      case atStart => exact ⟨0, Nat.zero_le _, rfl, rfl, Below.refl _ _⟩
      case round =>
        obtain ⟨j, hj, rfl, rfl, HB⟩ := hrel
        by_cases hlt : j < zs.length
        · obtain h0 | ⟨bk2, o2, he0, hbk, hcc, hcell⟩ := HZ9.out.below HB.out
          · rw [h0] at hlt; simp at hlt
          subst he0
          obtain ⟨c1, c2⟩ := hcell j _ (List.getElem?_eq_getElem hlt)
          have hst := gmE_step hlt
          have j1 : (j : Int) < zs.length := by omega
          generalize zs[j] = ee at *
          obtain ⟨N, V⟩ := ee
          simp only at c1 c2 hst
          have hif : (if gmE (zs.take j) < V then V else gmE (zs.take j)) = gmE (zs.take (j + 1)) := by rw [hst]; split <;> omega
          have hmx : max (gmE (zs.take j)) V = gmE (zs.take (j + 1)) := hst.symm
          have HBa := Lib.hid (HB.out.alloc HB.out.size (.cells #[.string N, .int .i64 V] 51))
          clear hst hcell
          generalize gmE (zs.take j) = G at *
          generalize hG2 : gmE (zs.take (j + 1)) = G2 at *
          have HG2 := Lib.hid hG2
          clear hG2
          go_wp2_with fail
          go_roundw
          case rel => exact ⟨j + 1, hlt, (by rw [HG2.out]), by go_num, HBa⟩
          case measure => simp [intOf]; omega
        · obtain rfl : j = zs.length := by omega
          have hne : ¬ (zs.length : Int) < zs.length := by omega
          rw [List.take_length]
          clear hlt
          have HE10 := Lib.hid (HE9.out.below HB.out)
          have HZ10 := Lib.hid (HZ9.out.below HB.out)
          have HI10 := Lib.hid (HI9.out.below HB.out)
          have HB10 := Lib.hid (HB9.out.trans (HB.out.mono HB9.out.size))
          clear HB HE9 HZ9 HI9 HB9
          by_cases hg : gmE zs = gmE ys
          case neg =>
            have hgb : (gmE zs != gmE ys) = true := by rw [bne_iff_ne]; exact hg
            generalize gmE zs = G1 at *
            generalize gmE ys = G2 at *
            go_wp2_with fail
            go_ret
            exact ⟨rfl, HB10.out⟩
          have hgb : (gmE zs != gmE ys) = false := by rw [hg]; simp
          clear hgb
          obtain ⟨hok, hap⟩ := valid_parts HVB.out
          have hpy : Apart (ys.take q ++ eN :: ys.drop (q + 1)) := by rw [← HYS.out]; exact hap
          have hsub : (ys.take q ++ ys.drop (q + 1)).Sublist (ys.take q ++ eN :: ys.drop (q + 1)) := (List.Sublist.refl _).append (List.sublist_cons_self _ _)
          have hzm : ∀ e ∈ zs, e ∈ ys := fun e he => by
            rw [HYS.out]
            rw [← HZS.out] at he
            exact hsub.subset he
          have hzv : validB zs = true := valid_all (fun e he => hok e (hzm e he)) (by
            unfold Apart at hpy ⊢
            rw [← HZS.out]
            exact hpy.sublist hsub)
          have hPQ : srtP (ptsL kf 10 (gmE ys).toNat zs) = (srtP (ptsL kf 10 (gmE ys).toNat ys)).filter (fun p => decide (p.2 ≠ eN.1)) := by
            have h := srtP_less (k := kf) (p := 10) (G := (gmE ys).toNat) hpy
            rw [← HYS.out, HZS.out] at h
            exact h
          have hp2 : min (max (10 : Int) 1) 256 = ((10 : Nat) : Int) := by decide
          have hbl := fun (a5 : Option Addr) (c5 : Nat) (w9 : World) (hi : IniP w9) (hx : IsEnts w9 a5 c5 ys) => ringBuild27 kf ys hkl HZ.out HVB.out 10 10 hp2 a5 c5 w9 hi.1 hi.2 hx
          have hbz := fun (a5 : Option Addr) (c5 : Nat) (w9 : World) (hi : IniP w9) (hx : IsEnts w9 a5 c5 zs) => ringBuild27 kf zs (by omega) (fun e he => HZ.out e (hzm e he)) hzv 10 10 hp2 a5 c5 w9 hi.1 hi.2 hx
          rw [hg] at hbz
          have hri := srtP_rise (ptsL kf 10 (gmE ys).toNat ys)
          have hriz := srtP_rise (ptsL kf 10 (gmE ys).toNat zs)
          have hpl : ∀ l : List Ent, l.length ≤ 6 → (∀ e ∈ l, e ∈ ys) → (srtP (ptsL kf 10 (gmE ys).toNat l)).length ≤ 100000 := fun l hl hm => by
            rw [(srtP_perm _).length_eq]
            have h1 := ptsL_le (k := kf) (p := 10) (G := (gmE ys).toNat) (es := l) (fun e he => by
              have h2 : 1 ≤ e.2 ∧ e.2 ≤ 65535 := by have := hok e (hm e he); unfold okW at this; simpa using this
              have h3 := gmE_ge (hm e he)
              have := cnt_le (p := 10) (W := e.2.toNat) (G := (gmE ys).toNat) (by omega) (by omega)
              omega)
            omega
          have hplP := hpl ys hkl (fun e he => he)
          have hplQ := hpl zs (by omega) hzm
          have hnm : ∀ p ∈ srtP (ptsL kf 10 (gmE ys).toNat ys), p.2.size ≤ 1000 := fun p hp => by
            obtain ⟨e, he, h2⟩ := ptsL_name ((srtP_perm _).mem_iff.1 hp)
            rw [h2]; exact HZ.out e he
          have hct := fun st => nmL_count (k := kf) (p := 10) (G := (gmE ys).toNat) hap st
          generalize srtP (ptsL kf 10 (gmE ys).toNat ys) = PP at *
          generalize srtP (ptsL kf 10 (gmE ys).toNat zs) = QQ at *
          obtain ⟨st, hst⟩ := lowAt_ex hri num
          obtain ⟨sq, hsq⟩ := lowAt_ex hriz num
          have hwl := hct st
          obtain ⟨wl, hwe0⟩ : ∃ wl, nmL (arL PP st) = wl := ⟨_, rfl⟩
          have hpk := pick_less hst hsq hPQ hwe0 (by rw [← hwe0]; exact (nmL_spec _).1) (by rw [← hwe0, hwl]; omega)
          have HPK := Lib.hid (fun tb W hT => pickW tb zs.length QQ hplQ hriz num sq hsq W hT)
          have hwk := fun tb W hT => walkW tb ys.length PP hplP hri num st hst W hnm (hct st) hT
          simp only [hwe0] at hwk hwl
          simp only [hwl] at hwk
          generalize pickP QQ sq = MM at *
          have HWK := Lib.hid hwk
          obtain ⟨n0, n1, rs, hwe⟩ : ∃ n0 n1 rs, wl = n0 :: n1 :: rs := by
            match wl, hwl with
            | [], h => simp at h; omega
            | [_], h => simp at h; omega
            | n0 :: n1 :: rs, _ => exact ⟨n0, n1, rs, rfl⟩
          have HPI : Hid ((n0 = eN.1 → MM = n1) ∧ (n0 ≠ eN.1 → MM = n0)) := by
            subst hwe
            exact hpk
          have HBLD : Hid (∀ a5 c5 w9, IniP w9 → IsEnts w9 a5 c5 ys → Calls Tryd.prog 8 #[keyVal kf, .slice a5 ys.length c5, .int .i64 10] w9 fun e w' => ∃ p, e = .returned (.tuple #[p, .int .i64 0]) ∧ RinR PP ys.length p w' ∧ Below w9.heap.size w9 w') := fun a5 c5 w9 hi hx => (hbl a5 c5 w9 hi hx).mono fun _ _ ⟨rb, h1, h2, h3⟩ => ⟨_, h1, ⟨rb, rfl, h2⟩, h3⟩
          have HBLZ : Hid (∀ a5 c5 w9, IniP w9 → IsEnts w9 a5 c5 zs → Calls Tryd.prog 8 #[keyVal kf, .slice a5 zs.length c5, .int .i64 10] w9 fun e w' => ∃ p, e = .returned (.tuple #[p, .int .i64 0]) ∧ RinR QQ zs.length p w' ∧ Below w9.heap.size w9 w') := fun a5 c5 w9 hi hx => (hbz a5 c5 w9 hi hx).mono fun _ _ ⟨rb, h1, h2, h3⟩ => ⟨_, h1, ⟨rb, rfl, h2⟩, h3⟩
          have HWE := Lib.hid hwe
          clear hbl hbz hpk hwk hwe0 hwl hwe hst hsq hct hnm hplP hplQ hpl hri hriz hPQ hzv hzm hsub hpy hok hap hp2 HVB HYS HZS HZ HZL
          have hgb2 : (gmE ys != gmE ys) = false := by simp
          rw [hg]
          clear hg
          generalize gmE ys = GG at *
          go_upto_region 23 with (go_at_call 7; refine (HK.out _).mono ?_; rintro e w3 ⟨rfl, hB3⟩; have HB3 := Lib.hid hB3; clear hB3)
          have HE3 := Lib.hid ((HE10.out.below HB3.out).below (below_alloc w3 (.cells #[.int .u8 (kf 0).toNat, .int .u8 (kf 1).toNat, .int .u8 (kf 2).toNat, .int .u8 (kf 3).toNat, .int .u8 (kf 4).toNat, .int .u8 (kf 5).toNat, .int .u8 (kf 6).toNat, .int .u8 (kf 7).toNat, .int .u8 (kf 8).toNat, .int .u8 (kf 9).toNat, .int .u8 (kf 10).toNat, .int .u8 (kf 11).toNat, .int .u8 (kf 12).toNat, .int .u8 (kf 13).toNat, .int .u8 (kf 14).toNat, .int .u8 (kf 15).toNat] 27)))
          have HZ3 := Lib.hid ((HZ10.out.below HB3.out).below (below_alloc w3 (.cells #[.int .u8 (kf 0).toNat, .int .u8 (kf 1).toNat, .int .u8 (kf 2).toNat, .int .u8 (kf 3).toNat, .int .u8 (kf 4).toNat, .int .u8 (kf 5).toNat, .int .u8 (kf 6).toNat, .int .u8 (kf 7).toNat, .int .u8 (kf 8).toNat, .int .u8 (kf 9).toNat, .int .u8 (kf 10).toNat, .int .u8 (kf 11).toNat, .int .u8 (kf 12).toNat, .int .u8 (kf 13).toNat, .int .u8 (kf 14).toNat, .int .u8 (kf 15).toNat] 27)))
          have HI3 := Lib.hid ((HI10.out.below HB3.out).below (below_alloc w3 (.cells #[.int .u8 (kf 0).toNat, .int .u8 (kf 1).toNat, .int .u8 (kf 2).toNat, .int .u8 (kf 3).toNat, .int .u8 (kf 4).toNat, .int .u8 (kf 5).toNat, .int .u8 (kf 6).toNat, .int .u8 (kf 7).toNat, .int .u8 (kf 8).toNat, .int .u8 (kf 9).toNat, .int .u8 (kf 10).toNat, .int .u8 (kf 11).toNat, .int .u8 (kf 12).toNat, .int .u8 (kf 13).toNat, .int .u8 (kf 14).toNat, .int .u8 (kf 15).toNat] 27)))
          have HKR : Hid (KeyRow (w3.alloc (.cells #[.int .u8 (kf 0).toNat, .int .u8 (kf 1).toNat, .int .u8 (kf 2).toNat, .int .u8 (kf 3).toNat, .int .u8 (kf 4).toNat, .int .u8 (kf 5).toNat, .int .u8 (kf 6).toNat, .int .u8 (kf 7).toNat, .int .u8 (kf 8).toNat, .int .u8 (kf 9).toNat, .int .u8 (kf 10).toNat, .int .u8 (kf 11).toNat, .int .u8 (kf 12).toNat, .int .u8 (kf 13).toNat, .int .u8 (kf 14).toNat, .int .u8 (kf 15).toNat] 27)) w3.heap.size kf) := Row.new w3 _ _
          have HBK := Lib.hid (HB10.out.trans ((HB3.out.alloc HB3.out.size (.cells #[.int .u8 (kf 0).toNat, .int .u8 (kf 1).toNat, .int .u8 (kf 2).toNat, .int .u8 (kf 3).toNat, .int .u8 (kf 4).toNat, .int .u8 (kf 5).toNat, .int .u8 (kf 6).toNat, .int .u8 (kf 7).toNat, .int .u8 (kf 8).toNat, .int .u8 (kf 9).toNat, .int .u8 (kf 10).toNat, .int .u8 (kf 11).toNat, .int .u8 (kf 12).toNat, .int .u8 (kf 13).toNat, .int .u8 (kf 14).toNat, .int .u8 (kf 15).toNat] 27)).mono HB10.out.size))
          clear HB3 HE10 HZ10 HI10 HB10 HK hgb2
          generalize w3.alloc (.cells #[.int .u8 (kf 0).toNat, .int .u8 (kf 1).toNat, .int .u8 (kf 2).toNat, .int .u8 (kf 3).toNat, .int .u8 (kf 4).toNat, .int .u8 (kf 5).toNat, .int .u8 (kf 6).toNat, .int .u8 (kf 7).toNat, .int .u8 (kf 8).toNat, .int .u8 (kf 9).toNat, .int .u8 (kf 10).toNat, .int .u8 (kf 11).toNat, .int .u8 (kf 12).toNat, .int .u8 (kf 13).toNat, .int .u8 (kf 14).toNat, .int .u8 (kf 15).toNat] 27) = WK at *
          generalize w3.heap.size = kb at *
          go_wp2_with fail
          refine region_mixt 8 [some (.agg #[.int .u8 (kf 0).toNat, .int .u8 (kf 1).toNat, .int .u8 (kf 2).toNat, .int .u8 (kf 3).toNat, .int .u8 (kf 4).toNat, .int .u8 (kf 5).toNat, .int .u8 (kf 6).toNat, .int .u8 (kf 7).toNat, .int .u8 (kf 8).toNat, .int .u8 (kf 9).toNat, .int .u8 (kf 10).toNat, .int .u8 (kf 11).toNat, .int .u8 (kf 12).toNat, .int .u8 (kf 13).toNat, .int .u8 (kf 14).toNat, .int .u8 (kf 15).toNat]), some (.slice (some ⟨bk, o, none⟩) ys.length cu), none, none, none, none, some (.int .i64 0), none]
            [[false, false, false, false, false, false, false, false], [false, false, false, false, false, false, false, false], [false, true, false, false, false, false, false, false], [true, false, true, false, false, false, false, false], [false, false, false, true, false, false, false, false], [false, false, false, false, true, false, false, false], [false, false, false, false, true, false, false, false], [true, true, true, true, true, true, false, false]]
            (fun LL xx w9 => KoS WK ys 3 0 (RinR PP ys.length) LL xx w9)
            (by kernel_rfl) (by kernel_rfl) (by kernel_rfl) (by kernel_rfl) (by kernel_rfl) (by decide) ?_ ?_ ?_
          · intro x
            exact KoS.start _ _ _ _ _ _
          · simp only [List.take_succ_cons, List.take_zero]
            refine ⟨?_, ?_, ?_, ?_, ?_, ?_, ?_, ?_, trivial⟩
            all_goals
              intro L x w9 hS hl hp K9 hK9
              have hs : KoS WK ys 3 0 (RinR PP ys.length) L x w9 := hS
              clear hS
              replace hK9 := hK9.out
              simp only [actMix, pickV, List.tail_cons, List.headD_cons, Act.put, List.setIfInBounds_toArray, List.set_cons_zero, List.set_cons_succ] at hK9 ⊢
            · clear hp
              have hkr := HKR.out.below hs.bel
              rw [if_pos (by rfl)]
              refine wp_load_mid 27 _ rfl kb 0 rfl [.int .u8 (kf 0).toNat, .int .u8 (kf 1).toNat, .int .u8 (kf 2).toNat, .int .u8 (kf 3).toNat, .int .u8 (kf 4).toNat, .int .u8 (kf 5).toNat, .int .u8 (kf 6).toNat, .int .u8 (kf 7).toNat, .int .u8 (kf 8).toNat, .int .u8 (kf 9).toNat, .int .u8 (kf 10).toNat, .int .u8 (kf 11).toNat, .int .u8 (kf 12).toNat, .int .u8 (kf 13).toNat, .int .u8 (kf 14).toNat, .int .u8 (kf 15).toNat] _ (key_range hkr.isKey) Tryd.underlying27 rfl (by kernel_rfl) ?_
              simp only [Act.put, List.setIfInBounds_toArray, List.set_cons_zero, List.set_cons_succ]
              with_reducible refine hK9 _ ?_
              exact hs.next 0 _ (by decide) (by decide) (by decide) (by decide) (by decide)
            · clear hp
              go_simp
              with_reducible refine hK9 _ ?_
              exact hs.next 1 _ (by decide) (by decide) (by decide) (by decide) (by decide)
            · clear hp
              go_simp
              refine (own28 (some ⟨bk, o, none⟩) cu ys (by omega) w9 (HE3.out.below hs.bel)).mono ?_
              rintro e w5 ⟨a5, c5, rfl, hE5, hB5⟩
              go_simp
              with_reducible refine hK9 _ _ ?_
              exact hs.put RinR.below (by decide) hE5 hB5
            · obtain ⟨a5, c5, hx5, hE5⟩ := hs.own (allL_mem hp 2 (by decide +kernel))
              clear hp
              rw [hx5] at hK9 ⊢
              go_simp
              refine (HBLD.out a5 c5 w9 (HI3.out.below hs.bel) hE5).mono ?_
              rintro e w5 ⟨p5, rfl, hR5, hB5⟩
              go_simp
              with_reducible refine hK9 _ _ ?_
              exact hs.built RinR.below (by decide) hR5 hB5
            · obtain ⟨p5, hx5, hR5⟩ := hs.tup (allL_mem hp 3 (by decide +kernel))
              clear hp
              rw [hx5] at hK9 ⊢
              go_simp
              with_reducible refine hK9 _ _ ?_
              exact hs.moved (by decide) hR5
            · obtain ⟨p5, hx5, hR5⟩ := hs.mv (allL_mem hp 4 (by decide +kernel))
              clear hp
              rw [hx5] at hK9 ⊢
              go_simp
              with_reducible refine hK9 _ _ ?_
              exact hs.first (by decide) hR5
            · obtain ⟨p5, hx5, hR5⟩ := hs.mv (allL_mem hp 4 (by decide +kernel))
              clear hp
              rw [hx5] at hK9 ⊢
              go_simp
              with_reducible refine hK9 _ ?_
              exact hs.next 6 _ (by decide) (by decide) (by decide) (by decide) (by decide)
            · have hR5 := hs.ex (allL_mem hp 5 (by decide +kernel))
              clear hp
              go_simp
              with_reducible refine hK9 _ _ ?_
              exact hs.assign (by decide) hR5
          intro L x w9 hS hL
          have hs : KoS WK ys 3 0 (RinR PP ys.length) L x w9 := hS
          have hR9 := hs.asg (hL 7 (by decide))
          simp only [actMix, pickV, List.tail_cons, List.headD_cons, Act.put, List.setIfInBounds_toArray, List.set_cons_zero, List.set_cons_succ, List.replicate_succ, List.replicate_zero, List.drop_succ_cons, List.drop_zero, List.take_succ_cons, List.take_zero]
          generalize x 3 = xa
          generalize x 4 = xb
          generalize x 5 = xc
          generalize x 7 = xd at *
          have HI9 := Lib.hid (HI3.out.below hs.bel)
          have HKR9 := Lib.hid (HKR.out.below hs.bel)
          have HE9 := Lib.hid (HE3.out.below hs.bel)
          have HB9 := Lib.hid (HBK.out.trans (hs.bel.mono (Nat.le_trans HBK.out.size (Nat.le_refl _))))
          have HZ9 := Lib.hid (HZ3.out.below hs.bel)
          clear hS hs hL HZ3 HKR HE3 HI3 HBK HBLD
          obtain ⟨tb, rfl, hTA⟩ := hR9
          have HTA := Lib.hid hTA
          have HYE := Lib.hid HE9.out
          have HKR := Lib.hid HKR9.out
          have HI3 := Lib.hid HI9.out
          have HBK := Lib.hid HB9.out
          have HE3 := Lib.hid HZ9.out
          have HBLD := Lib.hid HBLZ.out
          clear hTA HE9 HKR9 HI9 HB9 HZ9 HBLZ
          obtain ⟨WC, rfl⟩ : ∃ WC, WC = w9 := ⟨w9, rfl⟩
          go_wp2_with fail
          refine region_mixt 8 [some (.agg #[.int .u8 (kf 0).toNat, .int .u8 (kf 1).toNat, .int .u8 (kf 2).toNat, .int .u8 (kf 3).toNat, .int .u8 (kf 4).toNat, .int .u8 (kf 5).toNat, .int .u8 (kf 6).toNat, .int .u8 (kf 7).toNat, .int .u8 (kf 8).toNat, .int .u8 (kf 9).toNat, .int .u8 (kf 10).toNat, .int .u8 (kf 11).toNat, .int .u8 (kf 12).toNat, .int .u8 (kf 13).toNat, .int .u8 (kf 14).toNat, .int .u8 (kf 15).toNat]), some (.slice az zs.length cz), none, none, none, none, some (.int .i64 0), none]
            [[false, false, false, false, false, false, false, false], [false, false, false, false, false, false, false, false], [false, true, false, false, false, false, false, false], [true, false, true, false, false, false, false, false], [false, false, false, true, false, false, false, false], [false, false, false, false, true, false, false, false], [false, false, false, false, true, false, false, false], [true, true, true, true, true, true, false, false]]
            (fun LL xx w9 => KoS WC zs 3 0 (RinR QQ zs.length) LL xx w9)
            (by kernel_rfl) (by kernel_rfl) (by kernel_rfl) (by kernel_rfl) (by kernel_rfl) (by decide) ?_ ?_ ?_
          · intro x
            exact KoS.start _ _ _ _ _ _
          · simp only [List.take_succ_cons, List.take_zero]
            refine ⟨?_, ?_, ?_, ?_, ?_, ?_, ?_, ?_, trivial⟩
            all_goals
              intro L x w9 hS hl hp K9 hK9
              have hs : KoS WC zs 3 0 (RinR QQ zs.length) L x w9 := hS
              clear hS
              replace hK9 := hK9.out
              simp only [actMix, pickV, List.tail_cons, List.headD_cons, Act.put, List.setIfInBounds_toArray, List.set_cons_zero, List.set_cons_succ] at hK9 ⊢
            · clear hp
              have hkr := HKR.out.below hs.bel
              rw [if_pos (by rfl)]
              refine wp_load_mid 27 _ rfl kb 0 rfl [.int .u8 (kf 0).toNat, .int .u8 (kf 1).toNat, .int .u8 (kf 2).toNat, .int .u8 (kf 3).toNat, .int .u8 (kf 4).toNat, .int .u8 (kf 5).toNat, .int .u8 (kf 6).toNat, .int .u8 (kf 7).toNat, .int .u8 (kf 8).toNat, .int .u8 (kf 9).toNat, .int .u8 (kf 10).toNat, .int .u8 (kf 11).toNat, .int .u8 (kf 12).toNat, .int .u8 (kf 13).toNat, .int .u8 (kf 14).toNat, .int .u8 (kf 15).toNat] _ (key_range hkr.isKey) Tryd.underlying27 rfl (by kernel_rfl) ?_
              simp only [Act.put, List.setIfInBounds_toArray, List.set_cons_zero, List.set_cons_succ]
              with_reducible refine hK9 _ ?_
              exact hs.next 0 _ (by decide) (by decide) (by decide) (by decide) (by decide)
            · clear hp
              go_simp
              with_reducible refine hK9 _ ?_
              exact hs.next 1 _ (by decide) (by decide) (by decide) (by decide) (by decide)
            · clear hp
              go_simp
              refine (own28 az cz zs (by omega) w9 (HE3.out.below hs.bel)).mono ?_
              rintro e w5 ⟨a5, c5, rfl, hE5, hB5⟩
              go_simp
              with_reducible refine hK9 _ _ ?_
              exact hs.put RinR.below (by decide) hE5 hB5
            · obtain ⟨a5, c5, hx5, hE5⟩ := hs.own (allL_mem hp 2 (by decide +kernel))
              clear hp
              rw [hx5] at hK9 ⊢
              go_simp
              refine (HBLD.out a5 c5 w9 (HI3.out.below hs.bel) hE5).mono ?_
              rintro e w5 ⟨p5, rfl, hR5, hB5⟩
              go_simp
              with_reducible refine hK9 _ _ ?_
              exact hs.built RinR.below (by decide) hR5 hB5
            · obtain ⟨p5, hx5, hR5⟩ := hs.tup (allL_mem hp 3 (by decide +kernel))
              clear hp
              rw [hx5] at hK9 ⊢
              go_simp
              with_reducible refine hK9 _ _ ?_
              exact hs.moved (by decide) hR5
            · obtain ⟨p5, hx5, hR5⟩ := hs.mv (allL_mem hp 4 (by decide +kernel))
              clear hp
              rw [hx5] at hK9 ⊢
              go_simp
              with_reducible refine hK9 _ _ ?_
              exact hs.first (by decide) hR5
            · obtain ⟨p5, hx5, hR5⟩ := hs.mv (allL_mem hp 4 (by decide +kernel))
              clear hp
              rw [hx5] at hK9 ⊢
              go_simp
              with_reducible refine hK9 _ ?_
              exact hs.next 6 _ (by decide) (by decide) (by decide) (by decide) (by decide)
            · have hR5 := hs.ex (allL_mem hp 5 (by decide +kernel))
              clear hp
              go_simp
              with_reducible refine hK9 _ _ ?_
              exact hs.assign (by decide) hR5
          intro L x w9 hS hL
          have hs : KoS WC zs 3 0 (RinR QQ zs.length) L x w9 := hS
          have hR9 := hs.asg (hL 7 (by decide))
          simp only [actMix, pickV, List.tail_cons, List.headD_cons, Act.put, List.setIfInBounds_toArray, List.set_cons_zero, List.set_cons_succ, List.replicate_succ, List.replicate_zero, List.drop_succ_cons, List.drop_zero, List.take_succ_cons, List.take_zero]
          generalize x 3 = xa
          generalize x 4 = xb
          generalize x 5 = xc
          generalize x 7 = xd at *
          have HI9 := Lib.hid (HI3.out.below hs.bel)
          have HKR9 := Lib.hid (HKR.out.below hs.bel)
          have HE9 := Lib.hid (HE3.out.below hs.bel)
          have HB9 := Lib.hid (HBK.out.trans (hs.bel.mono (Nat.le_trans HBK.out.size (Nat.le_refl _))))
          have HTA2 := Lib.hid (HTA.out.below hs.bel)
          have HYE2 := Lib.hid (HYE.out.below hs.bel)
          clear hS hs hL HTA HYE HKR HE3 HI3 HBK HBLD
          obtain ⟨tb2, rfl, hTB⟩ := hR9
          have HTB := Lib.hid hTB
          clear hTB HE9 HKR9 HI9
          have n3 : ((ys.length : Int) != (ys.length : Int)) = false := by simp
          go_upto_region 30 with (go_at_call 15; refine (HWK.out _ _ HTA2.out).mono ?_; rintro e wW ⟨aw, cw, rfl, hsw, hBw⟩; have HSW := Lib.hid hsw; have HTB2 := Lib.hid (HTB.out.below hBw); have HYE3 := Lib.hid (HYE2.out.below hBw); have HBW := Lib.hid (HB9.out.trans (hBw.mono HB9.out.size)); clear hsw hBw)
          clear HWK HTA2 HTB HYE2 HB9 n3
          rw [HWE.out] at HSW
          obtain h0 | ⟨bw, ow, ha0, hbw, hcw, hcellw⟩ := id HSW.out
          · cases h0
          subst ha0
          obtain h0 | ⟨bk', o', ha0, hbk', hcc', hcell'⟩ := id HYE3.out
          · rw [h0] at h2; simp at h2
          injection ha0 with ha0
          injection ha0 with e1 e2
          subst e1 e2
          have cw0 := hcellw 0 n0 rfl
          have cw1 := hcellw 1 n1 rfl
          have cy := (hcell' q eN HEN.out).1
          rw [Nat.add_zero] at cw0
          have q1 : (q : Int) < ys.length := by omega
          have q2 : (0 : Int) < ys.length := by omega
          have q3 : 0 < ys.length := by omega
          have hcw2 : 2 ≤ cw := by simp at hcw; omega
          have HC1 := Lib.hid cw1
          have HC0 := Lib.hid cw0
          have HBWL := Lib.hid hbw
          clear hcellw hcell' hcw hcc' hbk' cw1
          by_cases hn : n0 = eN.1
          · have hb : (n0.toList == eN.1.toList) = true := by rw [str_beqM, decide_eq_true hn]
            obtain rfl : n1 = MM := (HPI.out.1 hn).symm
            have g1 : (1 : Int) ≤ ys.length := by omega
            have g3 : ¬ cw = 1 := by omega
            have g4 : (1 : Int) ≤ cw := by omega
            clear hn
            go_quiet (fail)
            have HTB3 := Lib.hid (HTB2.out.below (⟨rfl, rfl, rfl, Nat.le_refl _, fun _ _ => rfl⟩ : Below wW.heap.size wW (wW.drewN nq)))
            have HBQ : Hid (Below w.heap.size w (wW.drewN nq)) := HBW.out.trans ⟨rfl, rfl, rfl, Nat.le_refl _, fun _ _ => rfl⟩
            have HC0Q : Hid ((wW.drewN nq).cell? ⟨bw, ow, none⟩ = some (.string n0)) := HC0.out
            have HC1Q : Hid ((wW.drewN nq).cell? ⟨bw, ow + 1, none⟩ = some (.string n1)) := HC1.out
            have HBWQ : Hid (bw < (wW.drewN nq).heap.size) := HBWL.out
            clear cw0 cy HTB2 HBW HC0 HC1 HBWL
            generalize wW.drewN nq = wQ at *
            go_wp2_with fail
            have n2 : (n1.toList == n1.toList) = true := by simp
            have q4 : (0 : Int) < ((ys.length - 1 : Nat) : Int) := by omega
            have q5 : 0 < ys.length - 1 := by omega
            refine region_mixt 7 [some (.pointer (some ⟨tb2, 0, none⟩)), some (.int .u64 (num : Nat)), some (.string n1), some (.slice (some ⟨bw, ow + 1, none⟩) (ys.length - 1) (cw - 1)), some (.pointer (some ⟨bw, ow + 1, none⟩)), some (.string n1), some (.bool true)]
              [[false, false, false, false, false, false, false], [false, false, false, false, false, false, false], [true, true, false, false, false, false, false], [false, false, false, false, false, false, false], [false, false, false, true, false, false, false], [false, false, false, false, true, false, false], [false, false, true, false, false, true, false]]
              (fun LL xx w9 => MxS wQ [] [] LL xx w9)
              (by kernel_rfl) (by kernel_rfl) (by kernel_rfl) (by kernel_rfl) (by kernel_rfl) (by decide) ?_ ?_ ?_
            · intro x
              exact MxS.start (by simp)
            · simp only [List.take_succ_cons, List.take_zero]
              refine ⟨?_, ?_, ?_, ?_, ?_, ?_, ?_, trivial⟩
              all_goals
                intro L x w9 hS hl hp K9 hK9
                have hs : MxS wQ [] [] L x w9 := hS
                clear hS
                replace hK9 := hK9.out
                simp only [actMix, pickV, List.tail_cons, List.headD_cons, Act.put, List.setIfInBounds_toArray, List.set_cons_zero, List.set_cons_succ] at hK9 ⊢
              · clear hp
                go_simp
                with_reducible refine hK9 _ ?_
                exact hs.next 0 _ (by simp [MxI])
              · clear hp
                go_simp
                with_reducible refine hK9 _ ?_
                exact hs.next 1 _ (by simp [MxI])
              · clear hp
                go_simp
                refine (HPK.out tb2 w9 (HTB3.out.below hs.bel0)).mono ?_
                rintro e w8 ⟨rfl, hB8⟩
                go_simp
                with_reducible refine hK9 _ ?_
                exact (hs.below hB8).next 2 _ (by simp [MxI])
              · clear hp
                go_simp
                with_reducible refine hK9 _ ?_
                exact hs.next 3 _ (by simp [MxI])
              · clear hp
                go_simp
                with_reducible refine hK9 _ ?_
                exact hs.next 4 _ (by simp [MxI])
              · clear hp
                have cx : w9.cell? ⟨bw, ow + 1, none⟩ = some (.string n1) := by rw [(bcell hs.bel0).1 _ _ HBWQ.out]; exact HC1Q.out
                go_simp
                with_reducible refine hK9 _ ?_
                exact hs.next 5 _ (by simp [MxI])
              · clear hp
                go_simp
                with_reducible refine hK9 _ ?_
                exact hs.next 6 _ (by simp [MxI])
            intro L x w9 hS hL
            have hs : MxS wQ [] [] L x w9 := hS
            clear hS
            simp only [actMix, pickV, List.tail_cons, List.headD_cons, Act.put, List.setIfInBounds_toArray, List.set_cons_zero, List.set_cons_succ, List.replicate_succ, List.replicate_zero, List.drop_succ_cons, List.drop_zero, List.take_succ_cons, List.take_zero]
            have HBE := Lib.hid (HBQ.out.trans (hs.bel0.mono HBQ.out.size))
            clear hs hL
            go_wp2_with fail
            go_ret
            exact ⟨rfl, HBE.out⟩
          · have hb : (n0.toList == eN.1.toList) = false := by rw [str_beqM, decide_eq_false hn]
            obtain rfl : n0 = MM := (HPI.out.2 hn).symm
            clear hn
            go_quiet (fail)
            have HTB3 := Lib.hid (HTB2.out.below (⟨rfl, rfl, rfl, Nat.le_refl _, fun _ _ => rfl⟩ : Below wW.heap.size wW (wW.drewN nq)))
            have HBQ : Hid (Below w.heap.size w (wW.drewN nq)) := HBW.out.trans ⟨rfl, rfl, rfl, Nat.le_refl _, fun _ _ => rfl⟩
            have HC0Q : Hid ((wW.drewN nq).cell? ⟨bw, ow, none⟩ = some (.string n0)) := HC0.out
            have HC1Q : Hid ((wW.drewN nq).cell? ⟨bw, ow + 1, none⟩ = some (.string n1)) := HC1.out
            have HBWQ : Hid (bw < (wW.drewN nq).heap.size) := HBWL.out
            clear cw0 cy HTB2 HBW HC0 HC1 HBWL
            generalize wW.drewN nq = wQ at *
            go_wp2_with fail
            have n2 : (n0.toList == n0.toList) = true := by simp
            have q4 : (0 : Int) < ((ys.length - 1 : Nat) : Int) := by omega
            have q5 : 0 < ys.length - 1 := by omega
            refine region_mixt 7 [some (.pointer (some ⟨tb2, 0, none⟩)), some (.int .u64 (num : Nat)), some (.string n0), some (.slice (some ⟨bw, ow, none⟩) ys.length cw), some (.pointer (some ⟨bw, ow, none⟩)), some (.string n0), some (.bool true)]
              [[false, false, false, false, false, false, false], [false, false, false, false, false, false, false], [true, true, false, false, false, false, false], [false, false, false, false, false, false, false], [false, false, false, true, false, false, false], [false, false, false, false, true, false, false], [false, false, true, false, false, true, false]]
              (fun LL xx w9 => MxS wQ [] [] LL xx w9)
              (by kernel_rfl) (by kernel_rfl) (by kernel_rfl) (by kernel_rfl) (by kernel_rfl) (by decide) ?_ ?_ ?_
            · intro x
              exact MxS.start (by simp)
            · simp only [List.take_succ_cons, List.take_zero]
              refine ⟨?_, ?_, ?_, ?_, ?_, ?_, ?_, trivial⟩
              all_goals
                intro L x w9 hS hl hp K9 hK9
                have hs : MxS wQ [] [] L x w9 := hS
                clear hS
                replace hK9 := hK9.out
                simp only [actMix, pickV, List.tail_cons, List.headD_cons, Act.put, List.setIfInBounds_toArray, List.set_cons_zero, List.set_cons_succ] at hK9 ⊢
              · clear hp
                go_simp
                with_reducible refine hK9 _ ?_
                exact hs.next 0 _ (by simp [MxI])
              · clear hp
                go_simp
                with_reducible refine hK9 _ ?_
                exact hs.next 1 _ (by simp [MxI])
              · clear hp
                go_simp
                refine (HPK.out tb2 w9 (HTB3.out.below hs.bel0)).mono ?_
                rintro e w8 ⟨rfl, hB8⟩
                go_simp
                with_reducible refine hK9 _ ?_
                exact (hs.below hB8).next 2 _ (by simp [MxI])
              · clear hp
                go_simp
                with_reducible refine hK9 _ ?_
                exact hs.next 3 _ (by simp [MxI])
              · clear hp
                go_simp
                with_reducible refine hK9 _ ?_
                exact hs.next 4 _ (by simp [MxI])
              · clear hp
                have cx : w9.cell? ⟨bw, ow, none⟩ = some (.string n0) := by rw [(bcell hs.bel0).1 _ _ HBWQ.out]; exact HC0Q.out
                go_simp
                with_reducible refine hK9 _ ?_
                exact hs.next 5 _ (by simp [MxI])
              · clear hp
                go_simp
                with_reducible refine hK9 _ ?_
                exact hs.next 6 _ (by simp [MxI])
            intro L x w9 hS hL
            have hs : MxS wQ [] [] L x w9 := hS
            clear hS
            simp only [actMix, pickV, List.tail_cons, List.headD_cons, Act.put, List.setIfInBounds_toArray, List.set_cons_zero, List.set_cons_succ, List.replicate_succ, List.replicate_zero, List.drop_succ_cons, List.drop_zero, List.take_succ_cons, List.take_zero]
            have HBE := Lib.hid (HBQ.out.trans (hs.bel0.mono HBQ.out.size))
            clear hs hL
            go_wp2_with fail
            go_ret
            exact ⟨rfl, HBE.out⟩
end Go.Proofs.YtklfpnnnoaaiaaaDoor

/- A parameter: stewardlaw19.Less. -/
namespace Go.Proofs.YtklfpnnnoaaiaaaDoor
open Go.ChangeShapes Go.WideShapes Go.ChangeAt Go.RowKit

theorem ents_cellL {H : Type} {enc : TypeId × Value → H} {P : Program} {t e u i : TypeId} {W : World} {base : Nat} {held : Bool} (ht : P.underlying t = some (.slice e)) (hu : (P.underlying e).map fieldsOf = some [(u, 0), (i, 1)]) (hs : P.underlying u = some .string) (hi : P.underlying i = some (.int .i64)) (hc : P.cellsOf u = 1) (hci : P.cellsOf i = 1) (ce : P.cellsOf e = 2)
    {fuel : Nat} {cl : List Value} {x : DataW H × List MemPlace} (hf : DataW.trod enc P W base (fun _ => true) held fuel t cl = some x) :
    ∃ a c fs, cl = [.slice a fs.length c] ∧ IsEnts W a c fs ∧ fs.length ≤ maxLen := by
  obtain ⟨fa, hfa, hm⟩ := fieldsOf_struct hu (List.cons_ne_nil _ _)
  obtain ⟨fl, hfl⟩ : ∃ fl, fl = fa.toList := ⟨_, rfl⟩
  rw [← hfl] at hm
  have hl2 : fl.length = 2 := by have := congrArg List.length hm; simpa using this
  match fl, hl2 with
  | [f0, f1], _ =>
    simp only [List.map_cons, List.map_nil, List.cons.injEq, Prod.mk.injEq, and_true] at hm
    obtain ⟨⟨t0, o0⟩, t1, o1⟩ := hm
    have hfa2 : fa = #[f0, f1] := by rw [← Array.toArray_toList (xs := fa), ← hfl]
    rw [hfa2] at hfa
    rcases Go.Deep.open_slice_pairs ht hfa ce o0 o1 (by rw [t0]; exact hc) (by rw [t1]; exact hci) hf with ⟨rfl, _⟩ | ⟨a', l, m, m2, n, V0, V1, D0, D1, P0, P1, rfl, _, hl, hmx, hme, _, hcell⟩
    · exact ⟨none, 0, [], rfl, .inl rfl, by simp⟩
    · simp only [if_true] at hme
      subst hme
      obtain ⟨fs, hfs⟩ : ∃ fs : List Ent, fs = (List.range l).map fun i => (strV (V0 i), intV (V1 i)) := ⟨_, rfl⟩
      have hlen : fs.length = l := by rw [hfs]; simp
      refine ⟨some a', m2, fs, by rw [hlen], ?_, by rw [hlen]; omega⟩
      by_cases h0 : l = 0
      · left; rw [hfs, h0]; rfl
      · right
        have c0 := (hcell 0 (by omega)).1
        have hs0 := World.cell?_spot c0
        have ha0 : a'.add (0 * 2) = a' := by simp [Addr.add]
        rw [ha0] at hs0 c0
        obtain ⟨bk, o, sp⟩ := a'
        simp only at hs0
        subst hs0
        refine ⟨bk, o, rfl, World.block_lt_of_cell? W _ c0, by rw [hlen]; exact hl, fun j f hj => ?_⟩
        have hjl : j < l := by
          rcases Nat.lt_or_ge j l with h | h
          · exact h
          · rw [List.getElem?_eq_none (by omega)] at hj; cases hj
        obtain ⟨g0, g1, g2, g3⟩ := hcell j (by omega)
        rw [t0] at g2
        rw [t1] at g3
        obtain ⟨s0, e0, _, _⟩ := DataW.trod_string hs g2
        obtain ⟨s1, e1, _, _⟩ := DataW.trod_int hi g3
        simp only [List.cons.injEq, and_true] at e0 e1
        rw [hfs] at hj
        simp only [List.getElem?_map, List.getElem?_range hjl, Option.map_some, Option.some.injEq] at hj
        subst hj
        rw [Addr.add_mid] at g0 g1
        rw [e0] at g0
        rw [e1] at g1
        refine ⟨?_, ?_⟩
        · simp only [e0, strV]; exact g0
        · simp only [e1, intV]; rw [Nat.add_assoc]; exact g1
theorem lsU : (Tryd.prog.underlying 49).map fieldsOf = some [(9, 0), (22, 1), (3, 2), (23, 3)] := by kernel_rfl
theorem lsC : Tryd.prog.cellsOf 49 = 4 := by kernel_rfl
theorem lsS : Tryd.prog.cellsOf 9 = 1 := by kernel_rfl
theorem lsL : Tryd.prog.cellsOf 22 = 1 := by kernel_rfl
theorem lsI : Tryd.prog.cellsOf 3 = 1 := by kernel_rfl
theorem lsX : Tryd.prog.cellsOf 23 = 1 := by kernel_rfl
theorem lsEU : (Tryd.prog.underlying 51).map fieldsOf = some [(9, 0), (3, 1)] := by kernel_rfl
theorem lsEC : Tryd.prog.cellsOf 51 = 2 := by kernel_rfl
set_option maxRecDepth 100000 in
theorem ls_open {H : Type} {enc : TypeId × Value → H} {W : World} {base : Nat} {held : Bool} {r : Reach} {b0 : Nat} {v : Value} {d : DataW H} {ps : List MemPlace} (hval : Value.okWide Tryd.prog W r b0 49 v) (hd : DataW.Trod enc Tryd.prog W base (fun _ => true) held 49 v d ps) :
    ∃ (s : ByteArray) (a : Option Addr) (c : Nat) (fs : List Ent) (m x : Int), v = .agg #[.string s, .slice a fs.length c, .int .i64 m, .int .u64 x] ∧ IsEnts W a c fs ∧ fs.length ≤ maxLen ∧ (Lit.int .u64 x).wf = true := by
  obtain ⟨cs, xs, q, rfl, hc, rfl, rfl, hx, hf⟩ := rec_open lsU (List.cons_ne_nil _ _) hval hd
  rw [lsC] at hc
  have f0 := hf 0 _ _ rfl
  have f1 := hf 1 _ _ rfl
  have f2 := hf 2 _ _ rfl
  have f3 := hf 3 _ _ rfl
  match xs, hx with
  | [y0, y1, y2, y3], _ =>
    rw [lsS] at f0
    rw [lsL] at f1
    rw [lsI] at f2
    rw [lsX] at f3
    obtain ⟨s, e0, _, _⟩ := DataW.trod_string Tryd.underlying9 f0
    obtain ⟨a, c, fs, e1, hfs, hlen⟩ := ents_cellL Tryd.underlying22 lsEU Tryd.underlying9 Tryd.underlying3 lsS lsI lsEC f1
    obtain ⟨m, e2, _, _⟩ := DataW.trod_int Tryd.underlying3 f2
    obtain ⟨x, e3, _, hw⟩ := DataW.trod_int Tryd.underlying23 f3
    have g0 := one_cellR e0
    have g1 := one_cellR e1
    have g2 := one_cellR e2
    have g3 := one_cellR e3
    obtain ⟨l, hl⟩ : ∃ l, l = cs.toList := ⟨_, rfl⟩
    rw [← hl] at hc g0 g1 g2 g3
    match l, hc with
    | [z0, z1, z2, z3], _ =>
      obtain rfl : z0 = _ := Option.some.inj g0
      obtain rfl : z1 = _ := Option.some.inj g1
      obtain rfl : z2 = _ := Option.some.inj g2
      obtain rfl : z3 = _ := Option.some.inj g3
      refine ⟨s, a, c, fs, m, x, ?_, hfs, hlen, hw⟩
      rw [← Array.toArray_toList (xs := cs), ← hl]
end Go.Proofs.YtklfpnnnoaaiaaaDoor

