/- SipHash, the reference: Sum. -/
import Derived.Test.YtpjbdejgamajlabDoorRefA
import Derived.Test.YtpjbdejgamajlabDoorRefW
import Derived.Test.YtpjbdejgamajlabDoorKey
import Derived.Lib.IndexBytes
namespace Go.Proofs.YtpjbdejgamajlabDoor
open Go.RowKit

/-- So many words absorbed. -/
def abs (l : List UInt8) (v : V4) : Nat → V4
  | 0 => v
  | k + 1 => absorb (abs l v k) (leW ((l.drop (8 * k)).take 8))
/-- SipHash-2-4. -/
def sip (k : Nat → UInt8) (l : List UInt8) : Int :=
  finish (absorb (abs l (start k) (l.length / 8)) (leW (lastBytes (l.drop (8 * (l.length / 8))) l.length)))

theorem extract_list (t : ByteArray) (a b : Nat) : t.extract a b = ⟨((t.data.toList.drop a).take (b - a)).toArray⟩ := by
  have h : (t.extract a b).data = t.data.extract a b := ByteArray.data_extract
  have h2 : (t.data.extract a b).toList = (t.data.toList.drop a).take (b - a) := by simp [Array.toList_extract]
  rw [← h2, ← h]
theorem last_eq (l : List UInt8) (h : l.length < 8) (n : Nat) : leW (lastBytes l n) = leW l + 72057594037927936 * ((n % 256 : Nat) : Int) := by
  have hn : (UInt8.ofNat (n % 256)).toNat = n % 256 := by simp
  match l, h with
  | [], _ | [_], _ | [_, _], _ | [_, _, _], _ | [_, _, _, _], _ | [_, _, _, _, _], _ | [_, _, _, _, _, _], _ | [_, _, _, _, _, _, _], _ =>
    simp only [lastBytes, List.getD_cons_zero, List.getD_cons_succ, List.getD_nil, leW, hn, show ((0 : UInt8).toNat : Int) = 0 from rfl]
    omega
theorem last_wrap (l : List UInt8) (h : l.length < 8) (n : Nat) :
    IntKind.u64.wrap (leW l + (n : Int) % 256 * 72057594037927936) = leW (lastBytes l n) := by
  have h0 := leW_nonneg l
  have h1 := leW_lt l
  have h2 : (256 : Int) ^ l.length ≤ 72057594037927936 := by
    match l.length, h with
    | 0, _ | 1, _ | 2, _ | 3, _ | 4, _ | 5, _ | 6, _ | 7, _ => decide
  rw [last_eq l h]
  simp only [IntKind.wrap_u64]
  omega
theorem Four.set2 {w : World} {b : Nat} {v : V4} (h : Four w b v) (x : Int) : Four (w.setCell ⟨b, 2, none⟩ (.int .u64 x)) b ⟨v.a, v.b, x, v.d⟩ := by
  obtain ⟨⟨c0, c1, c2, c3⟩, f0, f1, f2, f3⟩ := h
  simp [Four, go_sem, c0, c1, c2, c3, f0, f1, f2, f3]
def strLen : Value → Nat
  | .string t => t.size
  | _ => 0

end Go.Proofs.YtpjbdejgamajlabDoor
