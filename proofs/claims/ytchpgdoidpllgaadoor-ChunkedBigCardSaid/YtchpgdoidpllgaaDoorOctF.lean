/- The reference of octet: Trim, Value. -/
import Derived.Test.YtchpgdoidpllgaaDoorOctE
namespace Go.Proofs.YtchpgdoidpllgaaDoor
open Go.RowKit

def blk2 (c : UInt8) : Bool := List.contains [32, 9] c
theorem blk2_is (c : UInt8) : blk2 c = isBlk c := by revert c; apply all256; decide +kernel
def rdrop (l : List UInt8) : List UInt8 := (l.reverse.dropWhile blk2).reverse
theorem trimB_eq (l : List UInt8) : trimB l = (rdrop l).dropWhile blk2 := rfl
theorem rdrop_cons (c : UInt8) (r : List UInt8) (hc : blk2 c = true) : rdrop (c :: r) = [] ∧ rdrop r = [] ∨ rdrop (c :: r) = c :: rdrop r := by
  unfold rdrop
  rw [List.reverse_cons, List.dropWhile_append]
  by_cases h : (r.reverse.dropWhile blk2).isEmpty = true
  · left
    rw [if_pos h]
    have h2 : r.reverse.dropWhile blk2 = [] := by simpa using h
    rw [h2]
    simp [hc]
  · right
    rw [if_neg h]
    simp
theorem trimB_left (c : UInt8) (r : List UInt8) (hc : isBlk c = true) : trimB (c :: r) = trimB r := by
  have hb : blk2 c = true := by rw [blk2_is]; exact hc
  rw [trimB_eq, trimB_eq]
  rcases rdrop_cons c r hb with ⟨h1, h2⟩ | h
  · rw [h1, h2]
  · rw [h, List.dropWhile_cons_of_pos hb]
theorem trimB_right (c : UInt8) (r : List UInt8) (hc : isBlk c = true) : trimB (r ++ [c]) = trimB r := by
  have hb : blk2 c = true := by rw [blk2_is]; exact hc
  rw [trimB_eq, trimB_eq]
  congr 1
  unfold rdrop
  rw [List.reverse_append, List.reverse_singleton, List.singleton_append, List.dropWhile_cons_of_pos hb]
theorem trimB_nil : trimB [] = [] := rfl
theorem trimB_stay (l : List UInt8) (c d : UInt8) (hc : l.head? = some c) (hd : l.getLast? = some d) (h1 : isBlk c = false) (h2 : isBlk d = false) : trimB l = l := by
  have b1 : ¬ blk2 c = true := by rw [blk2_is, h1]; simp
  have b2 : ¬ blk2 d = true := by rw [blk2_is, h2]; simp
  have hr : rdrop l = l := by
    unfold rdrop
    obtain ⟨t, rfl⟩ := List.getLast?_eq_some_iff.1 hd
    rw [List.reverse_append, List.reverse_singleton, List.singleton_append, List.dropWhile_cons_of_neg b2, List.reverse_cons, List.reverse_reverse]
  rw [trimB_eq, hr]
  cases l with
  | nil => rfl
  | cons a r =>
    obtain rfl : a = c := Option.some.inj hc
    exact List.dropWhile_cons_of_neg b1
theorem dropWhile_length (p : UInt8 → Bool) : ∀ l : List UInt8, (l.dropWhile p).length ≤ l.length
  | [] => Nat.le_refl _
  | c :: r => by
    rw [List.dropWhile_cons]
    split
    · have := dropWhile_length p r; simp; omega
    · exact Nat.le_refl _
theorem trimB_length (l : List UInt8) : (trimB l).length ≤ l.length := by
  rw [trimB_eq]
  have h1 := dropWhile_length blk2 (rdrop l)
  have h2 := dropWhile_length blk2 l.reverse
  unfold rdrop at *
  rw [List.length_reverse] at h1 h2
  omega
/-- The two ends of a text that trimming leaves alone. -/
theorem trimB_fix_head (l : List UInt8) (c : UInt8) (hc : l.head? = some c) (h : trimB l = l) : isBlk c = false := by
  cases l with
  | nil => cases hc
  | cons a r =>
    obtain rfl : a = c := Option.some.inj hc
    cases hb : isBlk a with
    | false => rfl
    | true =>
      have h2 := trimB_left a r hb
      have h3 := trimB_length r
      rw [h] at h2
      have := congrArg List.length h2
      simp at this
      omega
theorem trimB_fix_last (l : List UInt8) (d : UInt8) (hd : l.getLast? = some d) (h : trimB l = l) : isBlk d = false := by
  obtain ⟨t, rfl⟩ := List.getLast?_eq_some_iff.1 hd
  cases hb : isBlk d with
  | false => rfl
  | true =>
    have h2 := trimB_right d t hb
    have h3 := trimB_length t
    rw [h] at h2
    have := congrArg List.length h2
    simp at this
    omega
theorem valB_eq (l : List UInt8) : valB l = (l.all isVal && (decide (l = []) || (decide (l.head?.any (fun c => !isBlk c)) && decide (l.getLast?.any (fun c => !isBlk c))))) := by
  unfold valB
  rw [Bool.and_comm]
  congr 1
  rcases List.eq_nil_or_concat l with h | ⟨t, d, h⟩
  · subst h; rfl
  · rw [List.concat_eq_append] at h
    have hne : l ≠ [] := by rw [h]; simp
    have hd : l.getLast? = some d := by rw [h]; simp
    obtain ⟨c, hc⟩ : ∃ c, l.head? = some c := by
      cases l with
      | nil => exact absurd rfl hne
      | cons a r => exact ⟨a, rfl⟩
    rw [hc, hd, decide_eq_false hne, Bool.false_or]
    by_cases ht : trimB l = l
    · rw [decide_eq_true ht]
      have h1 := trimB_fix_head l c hc ht
      have h2 := trimB_fix_last l d hd ht
      simp [h1, h2]
    · rw [decide_eq_false ht]
      cases h1 : isBlk c with
      | true => simp [h1]
      | false =>
        cases h2 : isBlk d with
        | true => simp [h2]
        | false => exact absurd (trimB_stay l c d hc hd h1 h2) ht
theorem extractL (t : ByteArray) (a b : Nat) : (t.extract a b).data.toList = (t.data.toList.drop a).take (b - a) := by
  have h : (t.extract a b).data = t.data.extract a b := ByteArray.data_extract
  rw [h]; simp [Array.toList_extract]

theorem size_extract (t : ByteArray) (a b : Nat) (h : b ≤ t.size) : (t.extract a b).size = b - a := by
  rw [Lib.size_eq, extractL, List.length_take, List.length_drop, ← Lib.size_eq]; omega
theorem list_cons (t : ByteArray) (h : 0 < t.size) : t.data.toList = t[0] :: (t.extract 1 t.size).data.toList := by
  rw [extractL]
  have := toList_get t 0 h
  cases hl : t.data.toList with
  | nil => rw [hl] at this; cases this
  | cons a r =>
    rw [hl] at this
    obtain rfl : a = t[0] := Option.some.inj this
    have hz := Lib.size_eq t
    rw [hl] at hz
    simp only [List.length_cons] at hz
    rw [List.drop_succ_cons, List.drop_zero, List.take_of_length_le (by omega)]
theorem list_snoc (t : ByteArray) (h : t.size - 1 < t.size) : t.data.toList = (t.extract 0 (t.size - 1)).data.toList ++ [t[t.size - 1]] := by
  rw [extractL, List.drop_zero, Nat.sub_zero, ← take_snoc t (t.size - 1) h, List.take_of_length_le (by rw [← Lib.size_eq]; omega)]
theorem list_head (t : ByteArray) (h : 0 < t.size) : t.data.toList.head? = some t[0] := by rw [List.head?_eq_getElem?]; exact toList_get t 0 h
theorem list_last (t : ByteArray) (h : t.size - 1 < t.size) : t.data.toList.getLast? = some t[t.size - 1] := by rw [list_snoc t h]; simp
theorem emp_false (t : ByteArray) (h : 0 < t.size) : t.toList.isEmpty = false := by
  rw [ByteArray.toList_eq]
  cases hl : t.data.toList with
  | nil => have := Lib.size_eq t; rw [hl, List.length_nil] at this; omega
  | cons a r => rfl
theorem emp_true (t : ByteArray) (h : ¬ 0 < t.size) : t.toList = [] := by
  rw [ByteArray.toList_eq]
  exact List.eq_nil_of_length_eq_zero (by rw [← Lib.size_eq]; omega)
theorem str_eq (t : ByteArray) (l : List UInt8) (h : t.data.toList = l) : t = ⟨l.toArray⟩ := by
  cases t; simp at h; subst h; simp

end Go.Proofs.YtchpgdoidpllgaaDoor
