/- Bytes and lists of bytes: classes, scanning. -/
import Derived.Test.YtchpgdoidpllgaaDoorBase
import Derived.Lib.IndexBytes
import Derived.Lib.SlTrimSet
namespace Go.Proofs.YtchpgdoidpllgaaDoor
open Go.RowKit

theorem all256 {P : UInt8 → Prop} (h : ∀ n : Fin 256, P (UInt8.ofNat n)) (c : UInt8) : P c := by
  have := h ⟨c.toNat, c.toNat_lt⟩
  simpa using this
def marksL : List UInt8 := [33, 35, 36, 37, 38, 39, 42, 43, 45, 46, 94, 95, 96, 124, 126]
def isDec (c : UInt8) : Bool := 48 ≤ c.toNat && c.toNat ≤ 57
def isAF (c : UInt8) : Bool := (97 ≤ c.toNat && c.toNat ≤ 102) || (65 ≤ c.toNat && c.toNat ≤ 70)
def isAZ (c : UInt8) : Bool := (97 ≤ c.toNat && c.toNat ≤ 122) || (65 ≤ c.toNat && c.toNat ≤ 90)
def isHex (c : UInt8) : Bool := isDec c || isAF c
def isTok (c : UInt8) : Bool := isDec c || isAZ c || marksL.contains c
def isVis (c : UInt8) : Bool := 33 ≤ c.toNat && c.toNat ≤ 126
def isBlk (c : UInt8) : Bool := c.toNat == 32 || c.toNat == 9
def isVal (c : UInt8) : Bool := isVis c || isBlk c
/-- All classes of a byte. -/
def clsI (c : UInt8) : Int := if isDec c then 31 else if isAF c then 30 else if isTok c then 28 else if isVis c then 24 else if isBlk c then 16 else 0
theorem cls_dec (c : UInt8) : (bits .and .i64 (clsI c) 1 == 0) = !isDec c := by revert c; apply all256; decide +kernel
theorem cls_hex (c : UInt8) : (bits .and .i64 (clsI c) 2 == 0) = !isHex c := by revert c; apply all256; decide +kernel
theorem cls_tok (c : UInt8) : (bits .and .i64 (clsI c) 4 == 0) = !isTok c := by revert c; apply all256; decide +kernel
theorem cls_vis (c : UInt8) : (bits .and .i64 (clsI c) 8 == 0) = !isVis c := by revert c; apply all256; decide +kernel
theorem cls_val (c : UInt8) : (bits .and .i64 (clsI c) 16 == 0) = !isVal c := by revert c; apply all256; decide +kernel
theorem mark_index (c : UInt8) : 0 ≤ Lib.indexByte marksL c ↔ marksL.contains c = true := by revert c; apply all256; decide +kernel
theorem blank_index (c : UInt8) : 0 ≤ Lib.indexByte [32, 9] c ↔ isBlk c = true := by revert c; apply all256; decide +kernel
/-- A small letter for a capital one. -/
def lowC (c : UInt8) : UInt8 := if 65 ≤ c.toNat ∧ c.toNat ≤ 90 then c + 32 else c
theorem lowC_up (c : UInt8) (h : 65 ≤ c.toNat) (h2 : c.toNat ≤ 90) : ((lowC c).toNat : Int) = c.toNat + 32 := by
  have : ∀ c : UInt8, 65 ≤ c.toNat → c.toNat ≤ 90 → ((lowC c).toNat : Int) = c.toNat + 32 := by apply all256; decide +kernel
  exact this c h h2
theorem lowC_no (c : UInt8) (h : ¬ (65 ≤ c.toNat ∧ c.toNat ≤ 90)) : lowC c = c := if_neg h
theorem lowC_low (c : UInt8) : lowC (lowC c) = lowC c := by revert c; apply all256; decide +kernel
def tokB (l : List UInt8) : Bool := decide (1 ≤ l.length) && decide (l.length ≤ 64) && l.all isTok
def tgtB (l : List UInt8) : Bool := decide (l.head? = some 47) && l.all isVis
def trimB (l : List UInt8) : List UInt8 := Lib.trimS l [32, 9]
def valB (l : List UInt8) : Bool := decide (trimB l = l) && l.all isVal

theorem toList_get (s : ByteArray) (k : Nat) (hk : k < s.size) : s.data.toList[k]? = some s[k] := by
  rw [List.getElem?_eq_getElem (by rw [← Lib.size_eq]; exact hk)]; rfl
theorem take_snoc (s : ByteArray) (k : Nat) (hk : k < s.size) : s.data.toList.take (k + 1) = s.data.toList.take k ++ [s[k]] := by
  rw [List.take_add_one, toList_get s k hk]; rfl
theorem all_step (s : ByteArray) (p : UInt8 → Bool) (k : Nat) (hk : k < s.size) (h : (s.data.toList.take k).all p = true) (hp : p s[k] = true) : (s.data.toList.take (k + 1)).all p = true := by
  rw [take_snoc s k hk, List.all_append, h]; simp [hp]
theorem all_no (s : ByteArray) (p : UInt8 → Bool) (k : Nat) (hk : k < s.size) (hp : p s[k] = false) : s.data.toList.all p = false := by
  rw [List.all_eq_false]
  exact ⟨s[k], List.mem_of_getElem? (toList_get s k hk), by rw [hp]; simp⟩
theorem all_full (s : ByteArray) (p : UInt8 → Bool) (k : Nat) (hk : ¬ k < s.size) (h : (s.data.toList.take k).all p = true) : s.data.toList.all p = true := by
  rwa [List.take_of_length_le (by rw [← Lib.size_eq]; omega)] at h
theorem byte_lt (c : UInt8) : (c.toNat : Int) < 256 := by have := c.toNat_lt; omega
end Go.Proofs.YtchpgdoidpllgaaDoor
