/- strings.SplitSeq's calls; a loop over its iterator, as a law. -/
import Derived.Test.YtchpgdoidpllgaaDoorSeqA
namespace Go.Proofs.YtchpgdoidpllgaaDoor
open Go.RowKit

attribute [local go_sem] Oper.semAt_some

theorem seqBox_new (w : World) (c : UInt8) (s : ByteArray) :
    SeqBox (((w.alloc (.cells #[.string s] 9)).alloc (.cells #[.string ⟨#[c]⟩] 9)).alloc (.cells #[.int .i64 0] 3)) w.heap.size c s := by
  refine ⟨((Boxed.new w 9 (.string s)).alloc _).alloc _, ?_, ?_⟩
  · have := (Boxed.new (w.alloc (.cells #[.string s] 9)) 9 (.string ⟨#[c]⟩)).alloc (.cells #[.int .i64 0] 3)
    rw [World.size_alloc] at this
    exact this
  · have := Boxed.new ((w.alloc (.cells #[.string s] 9)).alloc (.cells #[.string ⟨#[c]⟩] 9)) 3 (.int .i64 0)
    rw [World.size_alloc, World.size_alloc] at this
    exact this
/-- How a round's body may be left. -/
def roundEnd (B h : Nat) (I Ix : List (List UInt8) → World → Prop) (xs : List (List UInt8)) (W : World) : Exit → Act → World → Prop
  | .normal, _, W' => KeepsFrom B W W' ∧ (∀ b, h ≤ b → b < h + 3 → W'.heap[b]? = W.heap[b]?) ∧ I xs W'
  | .ret, _, W' => KeepsFrom B W W' ∧ Ix xs W'
  | .exit _, _, _ => False
  | .goto _, _, _ => False
  | .panic _, _, _ => False
  | .outgrown, _, _ => False
/-- What the loop itself and the iterator turn: the iterator's text, blocks that the loop has laid. -/
def Minds (B h : Nat) (I : List (List UInt8) → World → Prop) : Prop :=
  ∀ pre A C row, I pre A → A.grownBy C row → (∀ r, row = some r → r = h ∨ (B ≤ r ∧ ∃ o : Obj, A.heap[r]? = some o ∧ o.isCells = false)) → I pre C
theorem Minds.put {B h : Nat} {I : List (List UInt8) → World → Prop} (hI : Minds B h I) {pre : List (List UInt8)} {W : World} {l : Nat} {o : Obj} (o' : Obj) (hi : I pre W) (hB : B ≤ l) (hl : W.heap[l]? = some o) (ho : o.isCells = false) : I pre (W.putObj l o') :=
  hI pre W _ (some l) hi (grownBy_putObj' W l o') (fun r e => by injection e with e; subst e; exact .inr ⟨hB, o, hl, ho⟩)
theorem Minds.new {B h : Nat} {I : List (List UInt8) → World → Prop} (hI : Minds B h I) {pre : List (List UInt8)} {W : World} (o : Obj) (hi : I pre W) : I pre (W.alloc o) :=
  hI pre W _ none hi (World.grownBy_alloc W o none) (fun r e => by cases e)
theorem Minds.text {B h : Nat} {I : List (List UInt8) → World → Prop} (hI : Minds B h I) {pre : List (List UInt8)} {W : World} (v : Value) (hi : I pre W) : I pre (W.setCell ⟨h, 0, none⟩ v) :=
  hI pre W _ (some h) hi (grownBy_setCell' W h v) (fun r e => by injection e with e; exact .inl e.symm)
theorem SeqBox.alloc {W : World} {h : Nat} {c : UInt8} {t : ByteArray} (hb : SeqBox W h c t) (o : Obj) : SeqBox (W.alloc o) h c t := ⟨hb.txt.alloc o, hb.sep.alloc o, hb.sav.alloc o⟩
theorem heap_set_other (W : World) (h k : Nat) (v : Value) (hk : k ≠ h) : (W.setCell ⟨h, 0, none⟩ v).heap[k]? = W.heap[k]? := Below.heap_setCell W ⟨h, 0, none⟩ v k hk

end Go.Proofs.YtchpgdoidpllgaaDoor
