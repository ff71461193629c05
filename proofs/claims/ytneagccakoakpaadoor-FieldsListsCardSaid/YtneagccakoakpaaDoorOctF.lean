/- The reference of octet: Trim, Value. -/
import Derived.Test.YtneagccakoakpaaDoorOctE
namespace Go.Proofs.YtneagccakoakpaaDoor
open Go.RowKit

def blk2 (c : UInt8) : Bool := List.contains [32, 9] c
theorem blk2_is (c : UInt8) : blk2 c = isBlk c := by revert c; apply all256; decide +kernel
def rdrop (l : List UInt8) : List UInt8 := (l.reverse.dropWhile blk2).reverse
theorem trimB_eq (l : List UInt8) : trimB l = (rdrop l).dropWhile blk2 := rfl
theorem rdrop_cons (c : UInt8) (r : List UInt8) (hc : blk2 c = true) : rdrop (c :: r) = [] ∧ rdrop r = [] ∨ rdrop (c :: r) = c :: rdrop r := by
  unfold rdrop
  rw [List.reverse_cons, List.dropWhile_append]
  by_cases h : (r.reverse.dropWhile blk2).isEmpty = true
  · left
    rw [if_pos h]
    have h2 : r.reverse.dropWhile blk2 = [] := by simpa using h
    rw [h2]
    simp [hc]
  · right
    rw [if_neg h]
    simp
theorem trimB_left (c : UInt8) (r : List UInt8) (hc : isBlk c = true) : trimB (c :: r) = trimB r := by
  have hb : blk2 c = true := by rw [blk2_is]; exact hc
  rw [trimB_eq, trimB_eq]
  rcases rdrop_cons c r hb with ⟨h1, h2⟩ | h
  · rw [h1, h2]
  · rw [h, List.dropWhile_cons_of_pos hb]
theorem trimB_right (c : UInt8) (r : List UInt8) (hc : isBlk c = true) : trimB (r ++ [c]) = trimB r := by
  have hb : blk2 c = true := by rw [blk2_is]; exact hc
  rw [trimB_eq, trimB_eq]
  congr 1
  unfold rdrop
  rw [List.reverse_append, List.reverse_singleton, List.singleton_append, List.dropWhile_cons_of_pos hb]
theorem trimB_nil : trimB [] = [] := rfl
theorem trimB_stay (l : List UInt8) (c d : UInt8) (hc : l.head? = some c) (hd : l.getLast? = some d) (h1 : isBlk c = false) (h2 : isBlk d = false) : trimB l = l := by
  have b1 : ¬ blk2 c = true := by rw [blk2_is, h1]; simp
  have b2 : ¬ blk2 d = true := by rw [blk2_is, h2]; simp
  have hr : rdrop l = l := by
    unfold rdrop
    obtain ⟨t, rfl⟩ := List.getLast?_eq_some_iff.1 hd
    rw [List.reverse_append, List.reverse_singleton, List.singleton_append, List.dropWhile_cons_of_neg b2, List.reverse_cons, List.reverse_reverse]
  rw [trimB_eq, hr]
  cases l with
  | nil => rfl
  | cons a r =>
    obtain rfl : a = c := Option.some.inj hc
    exact List.dropWhile_cons_of_neg b1
theorem dropWhile_length (p : UInt8 → Bool) : ∀ l : List UInt8, (l.dropWhile p).length ≤ l.length
  | [] => Nat.le_refl _
  | c :: r => by
    rw [List.dropWhile_cons]
    split
    · have := dropWhile_length p r; simp; omega
    · exact Nat.le_refl _
theorem trimB_length (l : List UInt8) : (trimB l).length ≤ l.length := by
  rw [trimB_eq]
  have h1 := dropWhile_length blk2 (rdrop l)
  have h2 := dropWhile_length blk2 l.reverse
  unfold rdrop at *
  rw [List.length_reverse] at h1 h2
  omega
/-- The two ends of a text that trimming leaves alone. -/
theorem trimB_fix_head (l : List UInt8) (c : UInt8) (hc : l.head? = some c) (h : trimB l = l) : isBlk c = false := by
  cases l with
  | nil => cases hc
  | cons a r =>
    obtain rfl : a = c := Option.some.inj hc
    cases hb : isBlk a with
    | false => rfl
    | true =>
      have h2 := trimB_left a r hb
      have h3 := trimB_length r
      rw [h] at h2
      have := congrArg List.length h2
      simp at this
      omega
theorem trimB_fix_last (l : List UInt8) (d : UInt8) (hd : l.getLast? = some d) (h : trimB l = l) : isBlk d = false := by
  obtain ⟨t, rfl⟩ := List.getLast?_eq_some_iff.1 hd
  cases hb : isBlk d with
  | false => rfl
  | true =>
    have h2 := trimB_right d t hb
    have h3 := trimB_length t
    rw [h] at h2
    have := congrArg List.length h2
    simp at this
    omega
theorem valB_eq (l : List UInt8) : valB l = (l.all isVal && (decide (l = []) || (decide (l.head?.any (fun c => !isBlk c)) && decide (l.getLast?.any (fun c => !isBlk c))))) := by
  unfold valB
  rw [Bool.and_comm]
  congr 1
  rcases List.eq_nil_or_concat l with h | ⟨t, d, h⟩
  · subst h; rfl
  · rw [List.concat_eq_append] at h
    have hne : l ≠ [] := by rw [h]; simp
    have hd : l.getLast? = some d := by rw [h]; simp
    obtain ⟨c, hc⟩ : ∃ c, l.head? = some c := by
      cases l with
      | nil => exact absurd rfl hne
      | cons a r => exact ⟨a, rfl⟩
    rw [hc, hd, decide_eq_false hne, Bool.false_or]
    by_cases ht : trimB l = l
    · rw [decide_eq_true ht]
      have h1 := trimB_fix_head l c hc ht
      have h2 := trimB_fix_last l d hd ht
      simp [h1, h2]
    · rw [decide_eq_false ht]
      cases h1 : isBlk c with
      | true => simp [h1]
      | false =>
        cases h2 : isBlk d with
        | true => simp [h2]
        | false => exact absurd (trimB_stay l c d hc hd h1 h2) ht
theorem extractL (t : ByteArray) (a b : Nat) : (t.extract a b).data.toList = (t.data.toList.drop a).take (b - a) := by
  have h : (t.extract a b).data = t.data.extract a b := ByteArray.data_extract
  rw [h]; simp [Array.toList_extract]

theorem size_extract (t : ByteArray) (a b : Nat) (h : b ≤ t.size) : (t.extract a b).size = b - a := by
  rw [Lib.size_eq, extractL, List.length_take, List.length_drop, ← Lib.size_eq]; omega
theorem list_cons (t : ByteArray) (h : 0 < t.size) : t.data.toList = t[0] :: (t.extract 1 t.size).data.toList := by
  rw [extractL]
  have := toList_get t 0 h
  cases hl : t.data.toList with
  | nil => rw [hl] at this; cases this
  | cons a r =>
    rw [hl] at this
    obtain rfl : a = t[0] := Option.some.inj this
    have hz := Lib.size_eq t
    rw [hl] at hz
    simp only [List.length_cons] at hz
    rw [List.drop_succ_cons, List.drop_zero, List.take_of_length_le (by omega)]
theorem list_snoc (t : ByteArray) (h : t.size - 1 < t.size) : t.data.toList = (t.extract 0 (t.size - 1)).data.toList ++ [t[t.size - 1]] := by
  rw [extractL, List.drop_zero, Nat.sub_zero, ← take_snoc t (t.size - 1) h, List.take_of_length_le (by rw [← Lib.size_eq]; omega)]
theorem list_head (t : ByteArray) (h : 0 < t.size) : t.data.toList.head? = some t[0] := by rw [List.head?_eq_getElem?]; exact toList_get t 0 h
theorem list_last (t : ByteArray) (h : t.size - 1 < t.size) : t.data.toList.getLast? = some t[t.size - 1] := by rw [list_snoc t h]; simp
theorem emp_false (t : ByteArray) (h : 0 < t.size) : t.toList.isEmpty = false := by
  rw [ByteArray.toList_eq]
  cases hl : t.data.toList with
  | nil => have := Lib.size_eq t; rw [hl, List.length_nil] at this; omega
  | cons a r => rfl
theorem emp_true (t : ByteArray) (h : ¬ 0 < t.size) : t.toList = [] := by
  rw [ByteArray.toList_eq]
  exact List.eq_nil_of_length_eq_zero (by rw [← Lib.size_eq]; omega)
theorem str_eq (t : ByteArray) (l : List UInt8) (h : t.data.toList = l) : t = ⟨l.toArray⟩ := by
  cases t; simp at h; subst h; simp

set_option maxRecDepth 100000 in
set_option maxHeartbeats 1000000 in
theorem trim24 (s : ByteArray) (hs : s.size ≤ 4611686018427387904) (w : World) :
    Calls Tryd.prog 24 #[.string s] w fun e w' => e = .returned (.string ⟨(trimB s.data.toList).toArray⟩) ∧ w = w' := by
  obtain ⟨R, hR⟩ : ∃ R : ByteArray, R = ⟨(trimB s.data.toList).toArray⟩ := ⟨_, rfl⟩
  rw [← hR]
  have HR := Lib.hid hR
  clear hR
  go_enter Tryd.func24, Tryd.ntmps24
  go_wp2_with fail
  go_loop [0] (fun v => ∃ t : ByteArray, v = .string t ∧ t.size ≤ 4611686018427387904 ∧ Hid (trimB t.data.toList = trimB s.data.toList)) (fun v => match v with | .string t => t.size | _ => 0)
  case atStart => exact ⟨s, rfl, hs, rfl⟩
  case round =>
    obtain ⟨t, rfl, ht, hr⟩ := hrel
    by_cases h0 : 0 < t.size
    · have he1 := emp_false t h0
      obtain ⟨q, hq⟩ : ∃ q, isBlk t[0] = q := ⟨_, rfl⟩
      have HB := Lib.hid (blank62 t[0] q hq)
      have HQ := Lib.hid hq
      clear hq
      cases q
      · go_wp2_with (go_at_call 62; refine (HB.out _).mono ?_; rintro e w' ⟨rfl, rfl⟩)
        clear he1 HB
        go_loop [0] (fun v => ∃ u : ByteArray, v = .string u ∧ u.size ≤ 4611686018427387904 ∧ Hid (trimB u.data.toList = trimB s.data.toList) ∧ Hid (u.size = 0 ∨ ∃ c, u.data.toList.head? = some c ∧ isBlk c = false)) (fun v => match v with | .string t => t.size | _ => 0)
        case atStart => exact ⟨t, rfl, ht, hr, .inr ⟨t[0], list_head t h0, HQ.out⟩⟩
        case round =>
          clear HQ hr
          obtain ⟨u, rfl, hu, hr, hh⟩ := hrel
          by_cases h0 : 0 < u.size
          · have he1 := emp_false u h0
            have hlt : u.size - 1 < u.size := by omega
            obtain ⟨q, hq⟩ : ∃ q, isBlk u[u.size - 1] = q := ⟨_, rfl⟩
            have HB := Lib.hid (blank62 u[u.size - 1] q hq)
            have HQ := Lib.hid hq
            have k1 : (0 : Int) ≤ (u.size : Int) - 1 := by omega
            have k2 : ((u.size : Int) - 1).toNat = u.size - 1 := by omega
            have k3 : (1 : Int) ≤ u.size := by omega
            clear hq
            cases q
            · have hst : Hid (R = u) := by
                obtain ⟨c, hc, hcb⟩ : ∃ c, u.data.toList.head? = some c ∧ isBlk c = false := by
                  rcases hh.out with h | h
                  · omega
                  · exact h
                have h1 := trimB_stay _ c _ hc (list_last u hlt) hcb HQ.out
                have h2 := HR.out
                rw [← hr.out, h1] at h2
                exact h2.trans (str_eq u _ rfl).symm
              clear k1
              go_wp2_with (go_at_call 62; refine (HB.out _).mono ?_; rintro e w' ⟨rfl, rfl⟩)
              go_ret
              exact ⟨by rw [hst.out]; rfl, rfl⟩
            · have hrl : Hid (trimB (u.extract 0 (u.size - 1)).data.toList = trimB s.data.toList) := by
                have h1 := hr.out
                rw [list_snoc u hlt, trimB_right _ _ HQ.out] at h1
                exact h1
              have hhl : Hid ((u.extract 0 (u.size - 1)).size = 0 ∨ ∃ c, (u.extract 0 (u.size - 1)).data.toList.head? = some c ∧ isBlk c = false) := by
                rcases hh.out with h | ⟨c, hc, hcb⟩
                · omega
                · have h1 := list_snoc u hlt
                  rw [h1] at hc
                  cases hz : (u.extract 0 (u.size - 1)).data.toList with
                  | nil => left; rw [Lib.size_eq, hz]; rfl
                  | cons a r =>
                    rw [hz] at hc
                    exact .inr ⟨c, hc, hcb⟩
              have hsz := size_extract u 0 (u.size - 1) (by omega)
              have HSZ := Lib.hid hsz
              clear hsz
              go_wp2_with (go_at_call 62; refine (HB.out _).mono ?_; rintro e w' ⟨rfl, rfl⟩)
              go_round
              case rel => exact ⟨_, rfl, by have := HSZ.out; omega, hrl, hhl⟩
              case measure => have := HSZ.out; simp; omega
          · have he1 := emp_true u h0
            have hst : Hid (R = u) := by
              have h1 : u.data.toList = [] := List.eq_nil_of_length_eq_zero (by rw [← Lib.size_eq]; omega)
              have h2 := HR.out
              rw [← hr.out, h1, trimB_nil] at h2
              exact h2.trans (str_eq u _ h1).symm
            go_wp2_with fail
            go_ret
            exact ⟨by rw [hst.out]; rfl, rfl⟩
      · have hrl : Hid (trimB (t.extract 1 t.size).data.toList = trimB s.data.toList) := by
          have h1 := hr.out
          rw [list_cons t h0, trimB_left _ _ HQ.out] at h1
          exact h1
        have hsz := size_extract t 1 t.size (by omega)
        have HSZ := Lib.hid hsz
        have k3 : (1 : Int) ≤ t.size := by omega
        clear hsz
        go_wp2_with (go_at_call 62; refine (HB.out _).mono ?_; rintro e w' ⟨rfl, rfl⟩)
        go_round
        case rel => exact ⟨_, rfl, by have := HSZ.out; omega, hrl⟩
        case measure => have := HSZ.out; simp; omega
    · have he1 := emp_true t h0
      go_wp2_with fail
      go_loop [0] (fun v => v = .string t) (fun _ => 0)
      case atStart => rfl
      case round =>
        subst hrel
        have hst : Hid (R = t) := by
          have h1 : t.data.toList = [] := List.eq_nil_of_length_eq_zero (by rw [← Lib.size_eq]; omega)
          have h2 := HR.out
          rw [← hr.out, h1, trimB_nil] at h2
          exact h2.trans (str_eq t _ h1).symm
        go_wp2_with fail
        go_ret
        exact ⟨by rw [hst.out]; rfl, rfl⟩
end Go.Proofs.YtneagccakoakpaaDoor
