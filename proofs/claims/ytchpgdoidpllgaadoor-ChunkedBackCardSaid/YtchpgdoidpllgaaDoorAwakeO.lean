/- stewardlaw05.awake. -/
import Derived.Test.YtchpgdoidpllgaaDoorNumB
import Derived.Test.YtchpgdoidpllgaaDoorNumC
import Derived.Test.YtchpgdoidpllgaaDoorSeqC
import Derived.Test.YtchpgdoidpllgaaDoorSameA
namespace Go.Proofs.YtchpgdoidpllgaaDoor
open Go.RowKit

/-- What the library's variables hold. -/
def Laid5 (w : World) : Prop := Syn w ∧ Deb w ∧ MaxL w
theorem Laid5.below {w w' : World} (h : Laid5 w) (hb : Below w.heap.size w w') : Laid5 w' := ⟨h.1.below hb, h.2.1.below hb, h.2.2.below hb⟩
theorem hex_at (s : ByteArray) (hs : s.size ≤ 4611686018427387904) (most a b : Int) (h : numR 16 8 isHex s.data.toList most = (a, b)) (w : World) (hw : Laid5 w) :
    Calls Tryd.prog 34 #[.string s, .int .i64 most] w fun e w' => e = .returned (.tuple #[.int .i64 a, .int .i64 b]) ∧ Below w.heap.size w w' := by
  have := hex_any s hs most w hw.1
  rw [h] at this
  exact this
theorem isStrs_new2 (w : World) (x y : ByteArray) (T : TypeId) : IsStrs (w.alloc (.cells #[.string x, .string y] T)) (some ⟨w.heap.size, 0, none⟩) 2 [x, y] := by
  refine .inr ⟨w.heap.size, 0, rfl, by simp, by simp, fun j z hz => ?_⟩
  rw [Nat.zero_add]
  match j, hz with
  | 0, hz => obtain rfl : x = z := Option.some.inj hz; simp
  | 1, hz => obtain rfl : y = z := Option.some.inj hz; simp
  | k + 2, hz => simp at hz
theorem isStrs_new3 (w : World) (x y z : ByteArray) (T : TypeId) : IsStrs (w.alloc (.cells #[.string x, .string y, .string z] T)) (some ⟨w.heap.size, 0, none⟩) 3 [x, y, z] := by
  refine .inr ⟨w.heap.size, 0, rfl, by simp, by simp, fun j u hu => ?_⟩
  rw [Nat.zero_add]
  match j, hu with
  | 0, hz => obtain rfl : x = u := Option.some.inj hz; simp
  | 1, hz => obtain rfl : y = u := Option.some.inj hz; simp
  | 2, hz => obtain rfl : z = u := Option.some.inj hz; simp
  | k + 3, hz => simp at hz
theorem prt255 : prt 16 255 = [102, 102] := by decide +kernel
theorem listP_ab : bsOf (listP [⟨#[97, 44, 32, 98]⟩, ⟨#[44, 99]⟩]) = [⟨#[97]⟩, ⟨#[98]⟩, ⟨#[99]⟩] := by decide +kernel
end Go.Proofs.YtchpgdoidpllgaaDoor
