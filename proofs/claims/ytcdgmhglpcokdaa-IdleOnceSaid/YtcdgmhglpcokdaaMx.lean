/- A region that draws its order and makes, loads and stores rows: what holds of the memory, whatever the order. -/
import Derived.Test.YtcdgmhglpcokdaaKeepN
import Derived.Test.YtcdgmhglpcokdaaRegT
import Derived.Laws.Tables
namespace Go.Proofs.Ytcdgmhglpcokdaa
open Go.RowKit

/-- A row that was there: its block, the operation that stores there, what it holds ahead of it and behind it. -/
structure OldR where
  g : Nat
  B : Nat
  T : TypeId
  z : Array Value
  c : Array Value
/-- A row that is made by operation A and written by operation B. -/
structure NewR where
  A : Nat
  B : Nat
  T : TypeId
  z : Array Value
  c : Array Value
/-- What holds. -/
structure MxS (W : World) (os : List OldR) (ns : List NewR) (L : Nat → Bool) (x : Nat → Value) (w : World) : Prop where
  keep : Keep (fun k => ∃ o ∈ os, o.g = k) W w
  old : ∀ o ∈ os, Row w o.g o.T (if L o.B = true then o.c else o.z)
  new : ∀ n ∈ ns, L n.A = true → ∃ b, x n.A = .pointer (some ⟨b, 0, none⟩) ∧ W.heap.size ≤ b ∧ Row w b n.T (if L n.B = true then n.c else n.z)
  ord : ∀ n ∈ ns, L n.B = true → L n.A = true
  dis : ∀ n ∈ ns, ∀ m ∈ ns, n.A ≠ m.A → L n.A = true → L m.A = true → x n.A ≠ x m.A
/-- An operation that neither makes nor stores a row. -/
def MxI (os : List OldR) (ns : List NewR) (i : Nat) : Prop := (∀ o ∈ os, o.B ≠ i) ∧ ∀ n ∈ ns, n.A ≠ i ∧ n.B ≠ i
theorem setRow_keep {G : Nat → Prop} {g : Nat} (hg : G g) (w : World) (cs : Array Value) : Keep G w (w.setRow g cs) :=
  ⟨rfl, rfl, rfl, by simp, fun k _ hn => setRow_other w g k cs (fun e => hn (e ▸ hg))⟩
theorem Row.over2 {w : World} {g : Nat} {T : TypeId} {cs cs' : Array Value} (h : Row w g T cs) : Row (w.setRow g cs') g T cs' := setRow_heap w g cs cs' T (0, 0) h
theorem Row.far2 {w : World} {g g' : Nat} {T : TypeId} {cs cs' : Array Value} (h : Row w g T cs) (hg : g ≠ g') : Row (w.setRow g' cs') g T cs := (setRow_other w g' g cs' hg).trans h
section
variable {W w w' : World} {os : List OldR} {ns : List NewR} {L : Nat → Bool} {x : Nat → Value}
theorem setL_ne {i j : Nat} (h : j ≠ i) : setL L i j = L j := by simp [setL, h]
theorem setL_eq (i : Nat) : setL L i i = true := by simp [setL]
theorem updV_ne {i j : Nat} (h : j ≠ i) (u : Value) : updV x i u j = x j := by simp [updV, h]
theorem updV_eq (i : Nat) (u : Value) : updV x i u i = u := by simp [updV]
theorem MxS.start (hos : ∀ o ∈ os, Row W o.g o.T o.z) : MxS W os ns (fun _ => false) x W.drew :=
  ⟨Keep.drew W, fun o ho => by rw [if_neg (by simp)]; exact hos o ho, (fun _ _ h => by cases h), (fun _ _ h => by cases h), (fun _ _ _ _ _ h => by cases h)⟩
theorem MxS.next (h : MxS W os ns L x w) (i : Nat) (u : Value) (hi : MxI os ns i) : MxS W os ns (setL L i) (updV x i u) w := by
  refine ⟨h.keep, fun o ho => ?_, fun n hn e => ?_, fun n hn e => ?_, fun n hn m hm hne e1 e2 => ?_⟩
  · rw [setL_ne (hi.1 o ho)]; exact h.old o ho
  · have hh := hi.2 n hn
    rw [setL_ne hh.1] at e
    rw [updV_ne hh.1, setL_ne hh.2]
    exact h.new n hn e
  · have hh := hi.2 n hn
    rw [setL_ne hh.1]
    rw [setL_ne hh.2] at e
    exact h.ord n hn e
  · rw [setL_ne (hi.2 n hn).1] at e1
    rw [setL_ne (hi.2 m hm).1] at e2
    rw [updV_ne (hi.2 n hn).1, updV_ne (hi.2 m hm).1]
    exact h.dis n hn m hm hne e1 e2
theorem MxS.below (h : MxS W os ns L x w) (hb : Below w.heap.size w w') : MxS W os ns L x w' :=
  ⟨h.keep.trans (.of_below hb), fun o ho => (h.old o ho).below hb, fun n hn e => by
    obtain ⟨b, h1, h2, h3⟩ := h.new n hn e
    exact ⟨b, h1, h2, h3.below hb⟩, h.ord, h.dis⟩
theorem MxS.alloc (h : MxS W os ns L x w) {n : NewR} (hn : n ∈ ns) (hA : L n.A = false) (hu : ∀ m ∈ ns, m.A = n.A → m = n) (ho : ∀ o ∈ os, o.B ≠ n.A) (hm : ∀ m ∈ ns, m.B ≠ n.A) :
    MxS W os ns (setL L n.A) (updV x n.A (.pointer (some ⟨w.heap.size, 0, none⟩))) (w.alloc (.cells n.z n.T)) := by
  have hb := below_alloc w (.cells n.z n.T)
  have hB : L n.B = false := by
    cases e : L n.B with
    | false => rfl
    | true => rw [h.ord n hn e] at hA; cases hA
  refine ⟨h.keep.trans (.alloc w _), fun o hoo => ?_, fun m hmm e => ?_, fun m hmm e => ?_, fun p hp q hq hne e1 e2 => ?_⟩
  · rw [setL_ne (ho o hoo)]; exact (h.old o hoo).alloc _
  · by_cases hmn : m.A = n.A
    · obtain rfl := hu m hmm hmn
      rw [updV_eq, setL_ne (hm m hmm), hB, if_neg (by simp)]
      exact ⟨_, rfl, h.keep.size, Row.new w _ _⟩
    · rw [setL_ne hmn] at e
      rw [updV_ne hmn, setL_ne (hm m hmm)]
      obtain ⟨b, h1, h2, h3⟩ := h.new m hmm e
      exact ⟨b, h1, h2, h3.alloc _⟩
  · rw [setL_ne (hm m hmm)] at e
    have h1 := h.ord m hmm e
    by_cases hmn : m.A = n.A
    · rw [hmn, setL_eq]
    · rw [setL_ne hmn]; exact h1
  · by_cases hpn : p.A = n.A
    · rw [hpn, updV_eq]
      by_cases hqn : q.A = n.A
      · exact absurd (hpn.trans hqn.symm) hne
      · rw [setL_ne hqn] at e2
        rw [updV_ne hqn]
        obtain ⟨b, h1, h2, h3⟩ := h.new q hq e2
        rw [h1]
        intro e
        have : w.heap.size = b := by injection e with e; injection e with e; injection e
        have := h3.lt
        omega
    · rw [setL_ne hpn] at e1
      rw [updV_ne hpn]
      by_cases hqn : q.A = n.A
      · rw [hqn, updV_eq]
        obtain ⟨b, h1, h2, h3⟩ := h.new p hp e1
        rw [h1]
        intro e
        have : b = w.heap.size := by injection e with e; injection e with e; injection e
        have := h3.lt
        omega
      · rw [setL_ne hqn] at e2
        rw [updV_ne hqn]
        exact h.dis p hp q hq hne e1 e2
/-- A row that was made is written. -/
theorem MxS.write (h : MxS W os ns L x w) {n : NewR} (hn : n ∈ ns) {b : Nat} (hx : x n.A = .pointer (some ⟨b, 0, none⟩)) (hA : L n.A = true) (hu : ∀ m ∈ ns, m.A = n.A ∨ m.B = n.B → m = n) (ho : ∀ o ∈ os, o.B ≠ n.B) (hm : ∀ m ∈ ns, m.A ≠ n.B) (u : Value) (hos : ∀ o ∈ os, o.g < W.heap.size) :
    MxS W os ns (setL L n.B) (updV x n.B u) (w.setRow b n.c) := by
  obtain ⟨b', hb', hbW, hrow⟩ := h.new n hn hA
  obtain rfl : b = b' := by rw [hx] at hb'; injection hb' with e; injection e with e; injection e
  refine ⟨⟨h.keep.os, h.keep.tape, h.keep.output, by simpa using h.keep.size, fun k hk hG => (setRow_other w b k n.c (by omega)).trans (h.keep.block k hk hG)⟩, fun o hoo => ?_, fun m hmm e => ?_, fun m hmm e => ?_, fun p hp q hq hne e1 e2 => ?_⟩
  · rw [setL_ne (ho o hoo)]
    have := hos o hoo
    exact (h.old o hoo).far2 (by omega)
  · rw [setL_ne (hm m hmm)] at e
    rw [updV_ne (hm m hmm)]
    by_cases hmn : m.A = n.A
    · obtain rfl := hu m hmm (.inl hmn)
      rw [setL_eq, if_pos rfl]
      exact ⟨b, hx, hbW, hrow.over2⟩
    · have hBn : m.B ≠ n.B := fun e2 => hmn (by rw [hu m hmm (.inr e2)])
      rw [setL_ne hBn]
      obtain ⟨b2, h1, h2, h3⟩ := h.new m hmm e
      refine ⟨b2, h1, h2, h3.far2 ?_⟩
      rintro rfl
      exact h.dis m hmm n hn hmn e hA (by rw [h1, hx])
  · rw [setL_ne (hm m hmm)]
    by_cases hBn : m.B = n.B
    · obtain rfl := hu m hmm (.inr hBn)
      exact hA
    · rw [setL_ne hBn] at e
      exact h.ord m hmm e
  · rw [setL_ne (hm p hp)] at e1
    rw [setL_ne (hm q hq)] at e2
    rw [updV_ne (hm p hp), updV_ne (hm q hq)]
    exact h.dis p hp q hq hne e1 e2
/-- A row that was there is written. -/
theorem MxS.over (h : MxS W os ns L x w) {o : OldR} (hoo : o ∈ os) (hu : ∀ p ∈ os, p.g = o.g ∨ p.B = o.B → p = o) (hm : ∀ m ∈ ns, m.A ≠ o.B ∧ m.B ≠ o.B) (u : Value) (hos : ∀ o ∈ os, o.g < W.heap.size) :
    MxS W os ns (setL L o.B) (updV x o.B u) (w.setRow o.g o.c) := by
  refine ⟨h.keep.trans (setRow_keep ⟨o, hoo, rfl⟩ w o.c), fun p hp => ?_, fun m hmm e => ?_, fun m hmm e => ?_, fun p hp q hq hne e1 e2 => ?_⟩
  · by_cases hpo : p.g = o.g
    · obtain rfl := hu p hp (.inl hpo)
      rw [setL_eq, if_pos rfl]
      exact (h.old p hp).over2
    · have hB : p.B ≠ o.B := fun e => hpo (by rw [hu p hp (.inr e)])
      rw [setL_ne hB]
      exact (h.old p hp).far2 hpo
  · have hh := hm m hmm
    rw [setL_ne hh.1] at e
    rw [updV_ne hh.1, setL_ne hh.2]
    obtain ⟨b2, h1, h2, h3⟩ := h.new m hmm e
    have := hos o hoo
    exact ⟨b2, h1, h2, h3.far2 (by omega)⟩
  · have hh := hm m hmm
    rw [setL_ne hh.1]
    rw [setL_ne hh.2] at e
    exact h.ord m hmm e
  · rw [setL_ne (hm p hp).1] at e1
    rw [setL_ne (hm q hq).1] at e2
    rw [updV_ne (hm p hp).1, updV_ne (hm q hq).1]
    exact h.dis p hp q hq hne e1 e2
theorem MxS.bel (h : MxS W os ns L x w) {B : Nat} (ho : ∀ o ∈ os, B ≤ o.g) (hB : B ≤ W.heap.size) : Below B W w :=
  h.keep.bel (fun _ ⟨o, hoo, e⟩ => e ▸ ho o hoo) hB
theorem MxS.bel0 (h : MxS W [] ns L x w) : Below W.heap.size W w := h.bel (fun _ hh => by cases hh) (Nat.le_refl _)
/-- A row that nobody writes. -/
theorem MxS.row (h : MxS W os ns L x w) {g : Nat} {T : TypeId} {cs : Array Value} (hr : Row W g T cs) (hg : ∀ o ∈ os, o.g ≠ g) : Row w g T cs :=
  hr.keep h.keep (fun ⟨o, hoo, e⟩ => hg o hoo e)
end
end Go.Proofs.Ytcdgmhglpcokdaa
