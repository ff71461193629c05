/- Packed: OctF, OctG, NumC. -/
import Derived.Laws.AppendOwn
import Derived.Laws.BytesArg
import Derived.Deep.MidRow
import Derived.Laws.BitsAllLaws
import Derived.Test.YtbbphklhnngjmaaGreatDoorS02
/- The reference of octet: Trim, Value. -/
namespace Go.Proofs.YtbbphklhnngjmaaGreatDoor
open Go.RowKit

def blk2 (c : UInt8) : Bool := List.contains [32, 9] c
theorem blk2_is (c : UInt8) : blk2 c = isBlk c := by revert c; apply all256; decide +kernel
def rdrop (l : List UInt8) : List UInt8 := (l.reverse.dropWhile blk2).reverse
theorem trimB_eq (l : List UInt8) : trimB l = (rdrop l).dropWhile blk2 := rfl
theorem rdrop_cons (c : UInt8) (r : List UInt8) (hc : blk2 c = true) : rdrop (c :: r) = [] ∧ rdrop r = [] ∨ rdrop (c :: r) = c :: rdrop r := by
  unfold rdrop
  rw [List.reverse_cons, List.dropWhile_append]
  by_cases h : (r.reverse.dropWhile blk2).isEmpty = true
  · left
    rw [if_pos h]
    have h2 : r.reverse.dropWhile blk2 = [] := by simpa using h
    rw [h2]
    simp [hc]
  · right
    rw [if_neg h]
    simp
theorem trimB_left (c : UInt8) (r : List UInt8) (hc : isBlk c = true) : trimB (c :: r) = trimB r := by
  have hb : blk2 c = true := by rw [blk2_is]; exact hc
  rw [trimB_eq, trimB_eq]
  rcases rdrop_cons c r hb with ⟨h1, h2⟩ | h
  · rw [h1, h2]
  · rw [h, List.dropWhile_cons_of_pos hb]
theorem trimB_right (c : UInt8) (r : List UInt8) (hc : isBlk c = true) : trimB (r ++ [c]) = trimB r := by
  have hb : blk2 c = true := by rw [blk2_is]; exact hc
  rw [trimB_eq, trimB_eq]
  congr 1
  unfold rdrop
  rw [List.reverse_append, List.reverse_singleton, List.singleton_append, List.dropWhile_cons_of_pos hb]
theorem trimB_nil : trimB [] = [] := rfl
theorem trimB_stay (l : List UInt8) (c d : UInt8) (hc : l.head? = some c) (hd : l.getLast? = some d) (h1 : isBlk c = false) (h2 : isBlk d = false) : trimB l = l := by
  have b1 : ¬ blk2 c = true := by rw [blk2_is, h1]; simp
  have b2 : ¬ blk2 d = true := by rw [blk2_is, h2]; simp
  have hr : rdrop l = l := by
    unfold rdrop
    obtain ⟨t, rfl⟩ := List.getLast?_eq_some_iff.1 hd
    rw [List.reverse_append, List.reverse_singleton, List.singleton_append, List.dropWhile_cons_of_neg b2, List.reverse_cons, List.reverse_reverse]
  rw [trimB_eq, hr]
  cases l with
  | nil => rfl
  | cons a r =>
    obtain rfl : a = c := Option.some.inj hc
    exact List.dropWhile_cons_of_neg b1
theorem dropWhile_length (p : UInt8 → Bool) : ∀ l : List UInt8, (l.dropWhile p).length ≤ l.length
  | [] => Nat.le_refl _
  | c :: r => by
    rw [List.dropWhile_cons]
    split
    · have := dropWhile_length p r; simp; omega
    · exact Nat.le_refl _
theorem trimB_length (l : List UInt8) : (trimB l).length ≤ l.length := by
  rw [trimB_eq]
  have h1 := dropWhile_length blk2 (rdrop l)
  have h2 := dropWhile_length blk2 l.reverse
  unfold rdrop at *
  rw [List.length_reverse] at h1 h2
  omega
/-- The two ends of a text that trimming leaves alone. -/
theorem trimB_fix_head (l : List UInt8) (c : UInt8) (hc : l.head? = some c) (h : trimB l = l) : isBlk c = false := by
  cases l with
  | nil => cases hc
  | cons a r =>
    obtain rfl : a = c := Option.some.inj hc
    cases hb : isBlk a with
    | false => rfl
    | true =>
      have h2 := trimB_left a r hb
      have h3 := trimB_length r
      rw [h] at h2
      have := congrArg List.length h2
      simp at this
      omega
theorem trimB_fix_last (l : List UInt8) (d : UInt8) (hd : l.getLast? = some d) (h : trimB l = l) : isBlk d = false := by
  obtain ⟨t, rfl⟩ := List.getLast?_eq_some_iff.1 hd
  cases hb : isBlk d with
  | false => rfl
  | true =>
    have h2 := trimB_right d t hb
    have h3 := trimB_length t
    rw [h] at h2
    have := congrArg List.length h2
    simp at this
    omega
theorem valB_eq (l : List UInt8) : valB l = (l.all isVal && (decide (l = []) || (decide (l.head?.any (fun c => !isBlk c)) && decide (l.getLast?.any (fun c => !isBlk c))))) := by
  unfold valB
  rw [Bool.and_comm]
  congr 1
  rcases List.eq_nil_or_concat l with h | ⟨t, d, h⟩
  · subst h; rfl
  · rw [List.concat_eq_append] at h
    have hne : l ≠ [] := by rw [h]; simp
    have hd : l.getLast? = some d := by rw [h]; simp
    obtain ⟨c, hc⟩ : ∃ c, l.head? = some c := by
      cases l with
      | nil => exact absurd rfl hne
      | cons a r => exact ⟨a, rfl⟩
    rw [hc, hd, decide_eq_false hne, Bool.false_or]
    by_cases ht : trimB l = l
    · rw [decide_eq_true ht]
      have h1 := trimB_fix_head l c hc ht
      have h2 := trimB_fix_last l d hd ht
      simp [h1, h2]
    · rw [decide_eq_false ht]
      cases h1 : isBlk c with
      | true => simp [h1]
      | false =>
        cases h2 : isBlk d with
        | true => simp [h2]
        | false => exact absurd (trimB_stay l c d hc hd h1 h2) ht
theorem extractL (t : ByteArray) (a b : Nat) : (t.extract a b).data.toList = (t.data.toList.drop a).take (b - a) := by
  have h : (t.extract a b).data = t.data.extract a b := ByteArray.data_extract
  rw [h]; simp [Array.toList_extract]

theorem size_extract (t : ByteArray) (a b : Nat) (h : b ≤ t.size) : (t.extract a b).size = b - a := by
  rw [Lib.size_eq, extractL, List.length_take, List.length_drop, ← Lib.size_eq]; omega
theorem list_cons (t : ByteArray) (h : 0 < t.size) : t.data.toList = t[0] :: (t.extract 1 t.size).data.toList := by
  rw [extractL]
  have := toList_get t 0 h
  cases hl : t.data.toList with
  | nil => rw [hl] at this; cases this
  | cons a r =>
    rw [hl] at this
    obtain rfl : a = t[0] := Option.some.inj this
    have hz := Lib.size_eq t
    rw [hl] at hz
    simp only [List.length_cons] at hz
    rw [List.drop_succ_cons, List.drop_zero, List.take_of_length_le (by omega)]
theorem list_snoc (t : ByteArray) (h : t.size - 1 < t.size) : t.data.toList = (t.extract 0 (t.size - 1)).data.toList ++ [t[t.size - 1]] := by
  rw [extractL, List.drop_zero, Nat.sub_zero, ← take_snoc t (t.size - 1) h, List.take_of_length_le (by rw [← Lib.size_eq]; omega)]
theorem list_head (t : ByteArray) (h : 0 < t.size) : t.data.toList.head? = some t[0] := by rw [List.head?_eq_getElem?]; exact toList_get t 0 h
theorem list_last (t : ByteArray) (h : t.size - 1 < t.size) : t.data.toList.getLast? = some t[t.size - 1] := by rw [list_snoc t h]; simp
theorem emp_false (t : ByteArray) (h : 0 < t.size) : t.toList.isEmpty = false := by
  rw [ByteArray.toList_eq]
  cases hl : t.data.toList with
  | nil => have := Lib.size_eq t; rw [hl, List.length_nil] at this; omega
  | cons a r => rfl
theorem emp_true (t : ByteArray) (h : ¬ 0 < t.size) : t.toList = [] := by
  rw [ByteArray.toList_eq]
  exact List.eq_nil_of_length_eq_zero (by rw [← Lib.size_eq]; omega)
theorem str_eq (t : ByteArray) (l : List UInt8) (h : t.data.toList = l) : t = ⟨l.toArray⟩ := by
  cases t; simp at h; subst h; simp

set_option maxRecDepth 100000 in
set_option maxHeartbeats 1000000 in
theorem trim24 (s : ByteArray) (hs : s.size ≤ 4611686018427387904) (w : World) :
    Calls Tryz.prog 63 #[.string s] w fun e w' => e = .returned (.string ⟨(trimB s.data.toList).toArray⟩) ∧ w = w' := by
  obtain ⟨R, hR⟩ : ∃ R : ByteArray, R = ⟨(trimB s.data.toList).toArray⟩ := ⟨_, rfl⟩
  rw [← hR]
  have HR := Lib.hid hR
  clear hR
  go_enter Tryz.func63, Tryz.ntmps63
  go_wp2_with fail
  go_loop [0] (fun v => ∃ t : ByteArray, v = .string t ∧ t.size ≤ 4611686018427387904 ∧ Hid (trimB t.data.toList = trimB s.data.toList)) (fun v => match v with | .string t => t.size | _ => 0)
  case atStart => exact ⟨s, rfl, hs, rfl⟩
  case round =>
    obtain ⟨t, rfl, ht, hr⟩ := hrel
    by_cases h0 : 0 < t.size
    · have he1 := emp_false t h0
      obtain ⟨q, hq⟩ : ∃ q, isBlk t[0] = q := ⟨_, rfl⟩
      have HB := Lib.hid (blank62 t[0] q hq)
      have HQ := Lib.hid hq
      clear hq
      cases q
      · go_wp2_with (go_at_call 62; refine (HB.out _).mono ?_; rintro e w' ⟨rfl, rfl⟩)
        clear he1 HB
        go_loop [0] (fun v => ∃ u : ByteArray, v = .string u ∧ u.size ≤ 4611686018427387904 ∧ Hid (trimB u.data.toList = trimB s.data.toList) ∧ Hid (u.size = 0 ∨ ∃ c, u.data.toList.head? = some c ∧ isBlk c = false)) (fun v => match v with | .string t => t.size | _ => 0)
        case atStart => exact ⟨t, rfl, ht, hr, .inr ⟨t[0], list_head t h0, HQ.out⟩⟩
        case round =>
          clear HQ hr
          obtain ⟨u, rfl, hu, hr, hh⟩ := hrel
          by_cases h0 : 0 < u.size
          · have he1 := emp_false u h0
            have hlt : u.size - 1 < u.size := by omega
            obtain ⟨q, hq⟩ : ∃ q, isBlk u[u.size - 1] = q := ⟨_, rfl⟩
            have HB := Lib.hid (blank62 u[u.size - 1] q hq)
            have HQ := Lib.hid hq
            have k1 : (0 : Int) ≤ (u.size : Int) - 1 := by omega
            have k2 : ((u.size : Int) - 1).toNat = u.size - 1 := by omega
            have k3 : (1 : Int) ≤ u.size := by omega
            clear hq
            cases q
            · have hst : Hid (R = u) := by
                obtain ⟨c, hc, hcb⟩ : ∃ c, u.data.toList.head? = some c ∧ isBlk c = false := by
                  rcases hh.out with h | h
                  · omega
                  · exact h
                have h1 := trimB_stay _ c _ hc (list_last u hlt) hcb HQ.out
                have h2 := HR.out
                rw [← hr.out, h1] at h2
                exact h2.trans (str_eq u _ rfl).symm
              clear k1
              go_wp2_with (go_at_call 62; refine (HB.out _).mono ?_; rintro e w' ⟨rfl, rfl⟩)
              go_ret
              exact ⟨by rw [hst.out]; rfl, rfl⟩
            · have hrl : Hid (trimB (u.extract 0 (u.size - 1)).data.toList = trimB s.data.toList) := by
                have h1 := hr.out
                rw [list_snoc u hlt, trimB_right _ _ HQ.out] at h1
                exact h1
              have hhl : Hid ((u.extract 0 (u.size - 1)).size = 0 ∨ ∃ c, (u.extract 0 (u.size - 1)).data.toList.head? = some c ∧ isBlk c = false) := by
                rcases hh.out with h | ⟨c, hc, hcb⟩
                · omega
                · have h1 := list_snoc u hlt
                  rw [h1] at hc
                  cases hz : (u.extract 0 (u.size - 1)).data.toList with
                  | nil => left; rw [Lib.size_eq, hz]; rfl
                  | cons a r =>
                    rw [hz] at hc
                    exact .inr ⟨c, hc, hcb⟩
              have hsz := size_extract u 0 (u.size - 1) (by omega)
              have HSZ := Lib.hid hsz
              clear hsz
              go_wp2_with (go_at_call 62; refine (HB.out _).mono ?_; rintro e w' ⟨rfl, rfl⟩)
              go_round
              case rel => exact ⟨_, rfl, by have := HSZ.out; omega, hrl, hhl⟩
              case measure => have := HSZ.out; simp; omega
          · have he1 := emp_true u h0
            have hst : Hid (R = u) := by
              have h1 : u.data.toList = [] := List.eq_nil_of_length_eq_zero (by rw [← Lib.size_eq]; omega)
              have h2 := HR.out
              rw [← hr.out, h1, trimB_nil] at h2
              exact h2.trans (str_eq u _ h1).symm
            go_wp2_with fail
            go_ret
            exact ⟨by rw [hst.out]; rfl, rfl⟩
      · have hrl : Hid (trimB (t.extract 1 t.size).data.toList = trimB s.data.toList) := by
          have h1 := hr.out
          rw [list_cons t h0, trimB_left _ _ HQ.out] at h1
          exact h1
        have hsz := size_extract t 1 t.size (by omega)
        have HSZ := Lib.hid hsz
        have k3 : (1 : Int) ≤ t.size := by omega
        clear hsz
        go_wp2_with (go_at_call 62; refine (HB.out _).mono ?_; rintro e w' ⟨rfl, rfl⟩)
        go_round
        case rel => exact ⟨_, rfl, by have := HSZ.out; omega, hrl⟩
        case measure => have := HSZ.out; simp; omega
    · have he1 := emp_true t h0
      go_wp2_with fail
      go_loop [0] (fun v => v = .string t) (fun _ => 0)
      case atStart => rfl
      case round =>
        subst hrel
        have hst : Hid (R = t) := by
          have h1 : t.data.toList = [] := List.eq_nil_of_length_eq_zero (by rw [← Lib.size_eq]; omega)
          have h2 := HR.out
          rw [← hr.out, h1, trimB_nil] at h2
          exact h2.trans (str_eq t _ h1).symm
        go_wp2_with fail
        go_ret
        exact ⟨by rw [hst.out]; rfl, rfl⟩
end Go.Proofs.YtbbphklhnngjmaaGreatDoor

/- The reference of octet: Value, Lower. -/
namespace Go.Proofs.YtbbphklhnngjmaaGreatDoor
open Go.RowKit

theorem val_cases (c : UInt8) (q : Bool) (hq : isVal c = q) : (((c.toNat : Int) != 9) = false ∧ q = true) ∨ (((c.toNat : Int) != 9) = true ∧ (c.toNat : Int) < 32 ∧ q = false) ∨ (((c.toNat : Int) != 9) = true ∧ ¬ (c.toNat : Int) < 32 ∧ (c.toNat : Int) > 126 ∧ q = false) ∨ (((c.toNat : Int) != 9) = true ∧ ¬ (c.toNat : Int) < 32 ∧ ¬ (c.toNat : Int) > 126 ∧ q = true) := by
  subst hq; revert c; apply all256; decide +kernel
set_option maxRecDepth 100000 in
set_option maxHeartbeats 1000000 in
theorem value19 (s : ByteArray) (hs : s.size ≤ 4611686018427387904) (R : Bool) (hR : valB s.data.toList = R) (w : World) :
    Calls Tryz.prog 27 #[.string s] w fun e w' => e = .returned (.bool R) ∧ w = w' := by
  rw [valB_eq] at hR
  have HR := Lib.hid hR
  clear hR
  go_enter Tryz.func27, Tryz.ntmps27
  go_wp2_with fail
  go_loop [3] (fun i => ∃ j : Nat, j ≤ s.size ∧ i = .int .i64 j ∧ Hid ((s.data.toList.take j).all isVal = true)) (fun i => s.size - (intOf i).toNat)
  case atStart => exact ⟨0, Nat.zero_le _, rfl, by simp [Hid]⟩
  case round =>
    obtain ⟨j, hj, rfl, hr⟩ := hrel
    by_cases hlt : j < s.size
    · obtain ⟨q, hq⟩ : ∃ q, isVal s[j] = q := ⟨_, rfl⟩
      cases q
      · have hno := all_no s isVal j hlt hq
        have HN : Hid (R = false) := by have e := HR.out; rw [hno, Bool.false_and] at e; exact e.symm
        have hc := val_cases s[j] false hq
        clear hno hq
        rcases hc with ⟨_, h⟩ | ⟨h1, h2, _⟩ | ⟨h1, h2, h3, _⟩ | ⟨_, _, _, h⟩
        · cases h
        · go_wp2_with fail
          go_ret
          exact ⟨by rw [HN.out]; rfl, rfl⟩
        · go_wp2_with fail
          go_ret
          exact ⟨by rw [HN.out]; rfl, rfl⟩
        · cases h
      · have hst := Lib.hid (all_step s isVal j hlt hr.out hq)
        have hc := val_cases s[j] true hq
        clear hq
        rcases hc with ⟨h1, _⟩ | ⟨_, _, h⟩ | ⟨_, _, _, h⟩ | ⟨h1, h2, h3, _⟩
        · go_wp2_with fail
          go_round
          case rel => exact ⟨j + 1, by omega, by go_num, hst⟩
          case measure => simp [intOf]; omega
        · cases h
        · cases h
        · go_wp2_with fail
          go_round
          case rel => exact ⟨j + 1, by omega, by go_num, hst⟩
          case measure => simp [intOf]; omega
    · have hf := all_full s isVal j hlt hr.out
      by_cases h0 : 0 < s.size
      · have he1 := emp_false s h0
        have hlt : s.size - 1 < s.size := by omega
        obtain ⟨q1, h1⟩ : ∃ q, isBlk s[0] = q := ⟨_, rfl⟩
        obtain ⟨q2, h2⟩ : ∃ q, isBlk s[s.size - 1] = q := ⟨_, rfl⟩
        have HN : Hid (R = (!q1 && !q2)) := by
          have e := HR.out
          have hne : s.data.toList ≠ [] := fun e => by have := Lib.size_eq s; rw [e, List.length_nil] at this; omega
          rw [hf, list_head s h0, list_last s hlt, decide_eq_false hne] at e
          simp only [Bool.true_and, Bool.false_or, Option.any_some, h1, h2] at e
          rw [← e]
          cases q1 <;> cases q2 <;> rfl
        have C1 := Lib.hid (blank62 s[0] q1 h1)
        have C2 := Lib.hid (blank62 s[s.size - 1] q2 h2)
        have k1 : (0 : Int) ≤ (s.size : Int) - 1 := by omega
        have k2 : ((s.size : Int) - 1).toNat = s.size - 1 := by omega
        clear h1 h2 hf
        cases q1
        · go_wp2_with fail
          refine (C1.out _).mono ?_
          rintro e w' ⟨rfl, rfl⟩
          go_wp2_with fail
          refine (C2.out _).mono ?_
          rintro e w' ⟨rfl, rfl⟩
          cases q2
          all_goals
            go_wp2_with fail
            go_ret
            exact ⟨by rw [HN.out]; rfl, rfl⟩
        · go_wp2_with fail
          refine (C1.out _).mono ?_
          rintro e w' ⟨rfl, rfl⟩
          go_wp2_with fail
          go_ret
          exact ⟨by rw [HN.out]; rfl, rfl⟩
      · have he1 := emp_true s h0
        have HN : Hid (R = true) := by
          have e := HR.out
          have hnil : s.data.toList = [] := List.eq_nil_of_length_eq_zero (by rw [← Lib.size_eq]; omega)
          rw [hnil] at e
          exact e.symm
        clear hf
        go_wp2_with fail
        go_ret
        exact ⟨by rw [HN.out]; rfl, rfl⟩

theorem infoU8 : (Tryz.prog.info? 5).map (fun i => (i.zero, i.size, i.bytes)) = some (some (.int .u8 0), 1, 1) := by kernel_rfl
def byteVals (l : List UInt8) : List Value := l.map fun c => Value.int .u8 (c.toNat : Int)
theorem byteVals_length (l : List UInt8) : (byteVals l).length = l.length := by simp [byteVals]
/-- A slice that owns these bytes reads back as the string. -/
theorem own_string (w : World) (base : Nat) (v : Value) (l : List UInt8) (h : w.ownsRow base 5 1 v l.length (byteVals l)) :
    (convert 101 9 v).run Tryz.prog w = .ok (.string ⟨l.toArray⟩) w := by
  obtain ⟨_, ⟨rfl, h0⟩ | ⟨g, cap, cur, rfl, _, hg, hcap, _, hcs, htk⟩⟩ := h
  · obtain rfl : l = [] := List.eq_nil_of_length_eq_zero h0
    exact run_convert_bytes_back w 101 9 5 ⟨0, 0, none⟩ 0 [] Tryz.underlying101 Tryz.underlying5 Tryz.underlying9 (fun j hj => by simp at hj) |> fun _ => by
      rw [run_convert_bytes_string w _ _ 5 none 0 0 Tryz.underlying101 Tryz.underlying5 Tryz.underlying9]
      rfl
  · refine run_convert_bytes_back w 101 9 5 ⟨g, 0, none⟩ cap l Tryz.underlying101 Tryz.underlying5 Tryz.underlying9 fun j hj => ?_
    have hx : cur[j]? = some (.int .u8 (l[j].toNat : Int)) := by
      have h1 : (byteVals l)[j]? = some (.int .u8 (l[j].toNat : Int)) := by simp [byteVals, hj]
      rw [← htk, List.getElem?_take, if_pos (by omega)] at h1
      simpa using h1
    unfold Addr.add
    by_cases e0 : j = 0
    · subst e0; simp [World.cell?, hg, hx]
    · simp [e0, World.cell?, hg, hx]
theorem below_alloc (w : World) (o : Obj) : Below w.heap.size w (w.alloc o) := (Below.refl _ _).alloc (Nat.le_refl _) _
/-- The small letters made so far. -/
def rowLow (s : ByteArray) (j : Nat) : List Value := byteVals ((s.data.toList.take j).map lowC)
theorem one_cell (k : IntKind) (x : Int) : ∀ u ∈ [Value.int k x], u.oneCell' = true := by intro u hu; simp at hu; subst hu; rfl
theorem byteVals_snoc (l : List UInt8) (c : UInt8) : byteVals l ++ [Value.int .u8 (c.toNat : Int)] = byteVals (l ++ [c]) := by simp [byteVals]
theorem cell_one (w : World) (v : Value) (t : TypeId) : ∀ (j : Nat) u, [v][j]? = some u → (w.alloc (.cells #[v] t)).cell? ((⟨w.heap.size, 0, none⟩ : Addr).add j) = some u := by
  intro i u hu
  match i, hu with
  | 0, hu => obtain rfl : v = u := Option.some.inj hu; rw [Addr.add_mid]; simp
  | i + 1, hu => simp at hu

set_option maxRecDepth 100000 in
set_option maxHeartbeats 1000000 in
theorem lower21 (s : ByteArray) (hs : s.size ≤ 140737488355328) (w : World) :
    Calls Tryz.prog 24 #[.string s] w fun e w' => e = .returned (.string ⟨(s.data.toList.map lowC).toArray⟩) ∧ Below w.heap.size w w' := by
  obtain ⟨i0, hi, hz0, hz1, hz2⟩ := info_parts infoU8
  obtain ⟨R, hR⟩ : ∃ R : ByteArray, R = ⟨(s.data.toList.map lowC).toArray⟩ := ⟨_, rfl⟩
  rw [← hR]
  have HR := Lib.hid hR
  clear hR
  go_enter Tryz.func24, Tryz.ntmps24
  go_wp2_with fail
  have L0 := below_alloc w (.cells #[] 5)
  have O0 : (w.alloc (.cells #[] 5)).ownsRow w.heap.size 5 1 (.slice (some ⟨w.heap.size, 0, none⟩) 0 0) 0 [] := World.ownsRow_lit w #[] 0 (Nat.le_refl _) (by decide) (by simp)
  go_loopw [3, 4] (fun v i wr => ∃ j : Nat, j ≤ s.size ∧ i = .int .i64 (j : Int) ∧ wr.ownsRow w.heap.size 5 1 v j (rowLow s j) ∧ Below w.heap.size w wr) (fun _ i _ => s.size - (intOf i).toNat)
  case atStart => exact ⟨0, Nat.zero_le _, rfl, O0, L0⟩
  case round =>
    clear O0 L0
    obtain ⟨j, hj, rfl, hown, hb⟩ := hrel
    by_cases hlt : j < s.size
    · have hts : rowLow s j ++ [Value.int .u8 ((lowC s[j]).toNat : Int)] = rowLow s (j + 1) := by
        unfold rowLow
        rw [byteVals_snoc, take_snoc s j hlt, List.map_append]; rfl
      have HT := Lib.hid hts
      clear hts
      have hsz := hb.size
      by_cases hup : 65 ≤ s[j].toNat ∧ s[j].toNat ≤ 90
      · have hl := lowC_up s[j] hup.1 hup.2
        have g1 : (s[j].toNat : Int) ≥ 65 := by omega
        have g2 : (s[j].toNat : Int) ≤ 90 := by omega
        have HLW := Lib.hid hl
        clear hl hup
        go_wp2_with (at_builtin; refine wpList_append_own _ rfl _ _ 101 rfl w.heap.size 5 i0 (.int .u8 0) 1 1 Tryz.underlying101 hi hz0 hz1 hz2 rfl (by decide) _ _ _ rfl (hown.alloc _) ⟨wr.heap.size, 0, none⟩ 1 1 [.int .u8 ((s[j].toNat : Int) + 32)] rfl rfl (cell_one _ _ _) (one_cell _ _) (by unfold maxLen; omega) (by omega) (by simp; omega) ?_)
        intro v' w1 hown' hgrow _
        rw [← HLW.out, HT.out] at hown'
        have hb1 : Below w.heap.size w w1 := (hb.alloc hsz _).grown hgrow (by simp; omega) (fun k hk => (hown.lt k hk).1)
        clear hown hgrow
        go_wp2_with fail
        go_roundw
        case rel => exact ⟨j + 1, by omega, by go_num, hown', hb1⟩
        case measure => simp [intOf]; omega
      · have hl := lowC_no s[j] hup
        have HLW := Lib.hid hl
        clear hl
        by_cases h1 : 65 ≤ s[j].toNat
        · have g1 : (s[j].toNat : Int) ≥ 65 := by omega
          have g2 : ¬ (s[j].toNat : Int) ≤ 90 := by omega
          clear hup
          go_wp2_with (at_builtin; refine wpList_append_own _ rfl _ _ 101 rfl w.heap.size 5 i0 (.int .u8 0) 1 1 Tryz.underlying101 hi hz0 hz1 hz2 rfl (by decide) _ _ _ rfl (hown.alloc _) ⟨wr.heap.size, 0, none⟩ 1 1 [.int .u8 (s[j].toNat : Int)] rfl rfl (cell_one _ _ _) (one_cell _ _) (by unfold maxLen; omega) (by omega) (by simp; omega) ?_)
          intro v' w1 hown' hgrow _
          rw [HLW.out] at HT
          rw [HT.out] at hown'
          have hb1 : Below w.heap.size w w1 := (hb.alloc hsz _).grown hgrow (by simp; omega) (fun k hk => (hown.lt k hk).1)
          clear hown hgrow
          go_wp2_with fail
          go_roundw
          case rel => exact ⟨j + 1, by omega, by go_num, hown', hb1⟩
          case measure => simp [intOf]; omega
        · have g1 : ¬ (s[j].toNat : Int) ≥ 65 := by omega
          clear hup
          go_wp2_with (at_builtin; refine wpList_append_own _ rfl _ _ 101 rfl w.heap.size 5 i0 (.int .u8 0) 1 1 Tryz.underlying101 hi hz0 hz1 hz2 rfl (by decide) _ _ _ rfl (hown.alloc _) ⟨wr.heap.size, 0, none⟩ 1 1 [.int .u8 (s[j].toNat : Int)] rfl rfl (cell_one _ _ _) (one_cell _ _) (by unfold maxLen; omega) (by omega) (by simp; omega) ?_)
          intro v' w1 hown' hgrow _
          rw [HLW.out] at HT
          rw [HT.out] at hown'
          have hb1 : Below w.heap.size w w1 := (hb.alloc hsz _).grown hgrow (by simp; omega) (fun k hk => (hown.lt k hk).1)
          clear hown hgrow
          go_wp2_with fail
          go_roundw
          case rel => exact ⟨j + 1, by omega, by go_num, hown', hb1⟩
          case measure => simp [intOf]; omega
    · obtain rfl : j = s.size := by omega
      have hz := Lib.size_eq s
      unfold rowLow at hown
      rw [List.take_of_length_le (by omega), show s.size = (s.data.toList.map lowC).length by rw [List.length_map]; exact hz] at hown
      have hcv := own_string wr w.heap.size _ _ hown
      rw [← HR.out] at hcv
      clear hown hz
      go_wp2_with fail
      go_ret
      exact ⟨rfl, hb⟩
end Go.Proofs.YtbbphklhnngjmaaGreatDoor

/- Writing digits with strconv.FormatInt at the base 16; octet's HexDigits. -/
namespace Go.Proofs.YtbbphklhnngjmaaGreatDoor
open Go.RowKit

/-- A digit. -/
def dch (n : Nat) : UInt8 := if n < 10 then UInt8.ofNat (48 + n) else UInt8.ofNat (87 + n)
/-- A number's digits to a base, with some fuel. -/
def prtF (b : Nat) : Nat → Nat → List UInt8
  | 0, n => [dch n]
  | k + 1, n => if n < b then [dch n] else prtF b k (n / b) ++ [dch (n % b)]
/-- A number's digits. -/
def prt (b n : Nat) : List UInt8 := prtF b 64 n
theorem prtF_small (b k n : Nat) (h : n < b) : prtF b k n = [dch n] := by
  cases k with
  | zero => rfl
  | succ k => simp [prtF, h]
theorem prtF_step (b k n : Nat) (h : b ≤ n) : prtF b (k + 1) n = prtF b k (n / b) ++ [dch (n % b)] := by
  rw [prtF, if_neg (by omega)]
/-- The cells of an array of 65 bytes. -/
def Arr65 (w : World) (b : Nat) (f : Nat → Int) : Prop := ∀ i, i < 65 → w.cell? ⟨b, i, none⟩ = some (.int .u8 (f i)) ∧ w.frozen? ⟨b, i, none⟩ = false
def updI (f : Nat → Int) (i : Nat) (x : Int) : Nat → Int := fun j => if j = i then x else f j
theorem Arr65.put {w : World} {b : Nat} {f : Nat → Int} (h : Arr65 w b f) (i : Nat) (x : Int) : Arr65 (w.setCell ⟨b, i, none⟩ (.int .u8 x)) b (updI f i x) := by
  intro j hj
  obtain ⟨hc, hf⟩ := h j hj
  refine ⟨?_, by rw [World.frozen?_setCell]; exact hf⟩
  unfold updI
  by_cases e : j = i
  · subst e
    rw [World.cell?_setCell_same _ _ _ hc, if_pos rfl]
  · rw [World.cell?_setCell_other _ _ _ _ (by simp <;> omega), hc, if_neg e]
theorem arr65_zero (w : World) (T : TypeId) : Arr65 (w.alloc (.cells (Array.replicate 65 (Value.int .u8 0)) T)) w.heap.size (fun _ => 0) := by
  intro i hi
  simp [hi, go_sem]
/-- What stands at the array's end. -/
def TailIs (f : Nat → Int) (i : Nat) (T : List UInt8) : Prop := i + T.length = 65 ∧ ∀ (j : Nat) c, T[j]? = some c → f (i + j) = (c.toNat : Int)
theorem TailIs.cons {f : Nat → Int} {i : Nat} {T : List UInt8} (h : TailIs f (i + 1) T) (c : UInt8) : TailIs (updI f i (c.toNat : Int)) i (c :: T) := by
  obtain ⟨h1, h2⟩ := h
  refine ⟨by simp; omega, fun j d hj => ?_⟩
  unfold updI
  cases j with
  | zero =>
    obtain rfl : c = d := by simpa using hj
    simp
  | succ j =>
    rw [if_neg (by omega)]
    have := h2 j d (by simpa using hj)
    rw [← this]
    congr 1
    omega
theorem tail_string (w : World) (b i n cap : Nat) (f : Nat → Int) (T : List UInt8) (h : Arr65 w b f) (ht : TailIs f i T) (hn : n = T.length) :
    (convert 101 9 (.slice (some ⟨b, i, none⟩) n cap)).run Tryz.prog w = .ok (.string ⟨T.toArray⟩) w := by
  subst hn
  refine run_convert_bytes_back w 101 9 5 ⟨b, i, none⟩ cap T Tryz.underlying101 Tryz.underlying5 Tryz.underlying9 fun j hj => ?_
  rw [Addr.add_mid]
  have h1 := ht.1
  rw [(h (i + j) (by omega)).1, ht.2 j T[j] (List.getElem?_eq_getElem hj)]
theorem dch_at (k : Nat) (h : k < 36) : ((⟨#[48, 49, 50, 51, 52, 53, 54, 55, 56, 57, 97, 98, 99, 100, 101, 102, 103, 104, 105, 106, 107, 108, 109, 110, 111, 112, 113, 114, 115, 116, 117, 118, 119, 120, 121, 122]⟩ : ByteArray)[k]'h).toNat = (dch k).toNat := by
  have : ∀ k : Fin 36, ((⟨#[48, 49, 50, 51, 52, 53, 54, 55, 56, 57, 97, 98, 99, 100, 101, 102, 103, 104, 105, 106, 107, 108, 109, 110, 111, 112, 113, 114, 115, 116, 117, 118, 119, 120, 121, 122]⟩ : ByteArray)[k.val]'k.isLt).toNat = (dch k.val).toNat := by decide +kernel
  exact this ⟨k, h⟩
theorem mask15 (u : Nat) (h : u < 18446744073709551616) : bits .and .u64 (u : Int) 15 = ((u % 16 : Nat) : Int) := by
  have := u64_and_nat u 15 h (by decide)
  rw [show ((15 : Nat) : Int) = 15 from rfl] at this
  rw [this]
  congr 1
  exact Nat.and_two_pow_sub_one_eq_mod u 4
theorem few_digits (u U t : Nat) (h1 : 1 ≤ u) (h : u * 16 ^ t ≤ U) (hU : U < 9223372036854775808) : t ≤ 15 := by
  rcases Nat.lt_or_ge t 16 with h2 | h2
  · omega
  · have h3 : 16 ^ 16 ≤ 16 ^ t := Nat.pow_le_pow_right (by decide) h2
    have h4 : 16 ^ t ≤ u * 16 ^ t := Nat.le_mul_of_pos_left _ h1
    have h5 : (16 : Nat) ^ 16 = 18446744073709551616 := by decide
    omega

set_option maxHeartbeats 1000000 in
theorem pow2_16 (w : World) : Calls Tryz.prog 164 #[.int .i64 16] w fun e w' => e = .returned (.bool true) ∧ w = w' := by
  go_enter Tryz.func164, Tryz.ntmps164
  go_wp2_with fail
  go_ret
  exact ⟨rfl, rfl⟩
/-- The table of trailing zeros says 4 of 16. -/
def Deb (w : World) : Prop := 4 < w.heap.size ∧ w.cell? ⟨4, 15, none⟩ = some (.int .u8 4)
theorem Deb.below {w w' : World} (h : Deb w) (hb : Below w.heap.size w w') : Deb w' := ⟨Nat.lt_of_lt_of_le h.1 hb.size, by rw [(bcell hb).1 _ _ h.1]; exact h.2⟩
set_option maxHeartbeats 1000000 in
theorem tz64 (w : World) (hw : Deb w) : Calls Tryz.prog 190 #[.int .u64 16] w fun e w' => e = .returned (.int .i64 4) ∧ w = w' := by
  have h2 := hw.2
  have e15 : (IntKind.u64.wrap (bits BinOp.and IntKind.u64 16 (IntKind.u64.wrap (-16)) * 285870213051353865) / 288230376151711744).toNat = 15 := by decide +kernel
  go_enter Tryz.func190, Tryz.ntmps190
  go_wp2_with fail
  go_ret
  exact ⟨rfl, rfl⟩
set_option maxHeartbeats 1000000 in
theorem tz16 (w : World) (hw : Deb w) : Calls Tryz.prog 165 #[.int .u64 16] w fun e w' => e = .returned (.int .i64 4) ∧ w = w' := by
  have HT := Lib.hid (tz64 w hw)
  go_enter Tryz.func165, Tryz.ntmps165
  go_wp2_with (go_at_call 190; refine HT.out.mono ?_; rintro e w' ⟨rfl, rfl⟩)
  go_ret
  exact ⟨rfl, rfl⟩

set_option maxRecDepth 1000000 in
set_option maxHeartbeats 4000000 in
theorem fbits (U : Nat) (hU : U < 9223372036854775808) (w : World) (hw : Deb w) :
    Calls Tryz.prog 144 #[.slice none 0 0, .int .u64 (U : Int), .int .i64 16, .bool false, .bool false] w fun e w' => e = .returned (.tuple #[.slice none 0 0, .string ⟨(prt 16 U).toArray⟩]) ∧ Below w.heap.size w w' := by
  have HD := Lib.hid hw
  obtain ⟨R, hR⟩ : ∃ R : ByteArray, R = ⟨(prt 16 U).toArray⟩ := ⟨_, rfl⟩
  rw [← hR]
  have HR := Lib.hid hR
  clear hR hw
  have hd1 := HD.out.below (below_alloc w (.cells (Array.replicate 65 (Value.int .u8 0)) 195))
  have HT := Lib.hid (tz16 _ hd1)
  clear hd1
  go_enter Tryz.func144, Tryz.ntmps144
  go_wp2_with (first | (go_at_call 164; refine (pow2_16 _).mono ?_; rintro e w' ⟨rfl, rfl⟩) | (go_at_call 165; refine HT.out.mono ?_; rintro e w' ⟨rfl, rfl⟩))
  have B0 := Lib.hid (arr65_zero w 195)
  have L0 := below_alloc w (.cells (Array.replicate 65 (Value.int .u8 0)) 195)
  clear HT HD
  generalize World.alloc w _ = w0 at *
  go_loopw [1, 13] (fun x i wr => ∃ (u k j : Nat) (T : List UInt8) (f : Nat → Int), x = .int .u64 (u : Int) ∧ i = .int .i64 (j : Int) ∧ u < 9223372036854775808 ∧ j + T.length = 65 ∧ k + T.length = 64 ∧ T.length ≤ 15 ∧ u * 16 ^ T.length ≤ U ∧ Hid (prt 16 U = prtF 16 k u ++ T) ∧ Hid (Arr65 wr w.heap.size f) ∧ Hid (TailIs f j T) ∧ Below w.heap.size w wr)
    (fun x _ _ => (intOf x).toNat)
  case atStart => exact ⟨U, 64, 65, [], fun _ => 0, rfl, rfl, hU, rfl, rfl, by simp, by simp, by simp [Hid, prt], B0, ⟨rfl, fun j c h => by simp at h⟩, L0⟩
  case round =>
    clear B0 L0
    obtain ⟨u, k, j, T, f, rfl, rfl, hu, hj, hk, ht, hpw, hp, hA, hT, hb⟩ := hrel
    have j1 : (1 : Int) ≤ j := by omega
    have j2 : (j : Int) ≤ 65 := by omega
    obtain ⟨i, rfl⟩ : ∃ i, j = i + 1 := ⟨j - 1, by omega⟩
    have e1 : ((i + 1 : Nat) : Int) - 1 = (i : Int) := by omega
    have i1 : (i : Int) < 65 := by omega
    by_cases hge : 16 ≤ u
    · have g1 : (u : Int) ≥ 16 := by omega
      have hu1 : 1 ≤ u / 16 := by omega
      have hpw2 : u / 16 * 16 ^ (T.length + 1) ≤ U := by
        have : u / 16 * 16 ≤ u := Nat.div_mul_le_self u 16
        have h3 := Nat.mul_le_mul_right (16 ^ T.length) this
        rw [Nat.pow_succ, Nat.mul_comm (16 ^ T.length) 16, ← Nat.mul_assoc]
        omega
      have ht2 := few_digits (u / 16) U (T.length + 1) hu1 hpw2 hU
      obtain ⟨k', rfl⟩ : ∃ k', k = k' + 1 := ⟨k - 1, by omega⟩
      have hp2 : Hid (prt 16 U = prtF 16 k' (u / 16) ++ (dch (u % 16) :: T)) := by
        have h := hp.out
        rw [prtF_step 16 k' u hge, List.append_assoc] at h
        exact h
      obtain ⟨ci, zi⟩ := hA.out i (by omega)
      have hA2 := Lib.hid (hA.out.put i ((dch (u % 16)).toNat : Int))
      have hT2 := Lib.hid (hT.out.cons (dch (u % 16)))
      have hb2 := hb.setCell (p := ⟨w.heap.size, i, none⟩) (Nat.le_refl _) (.int .u8 ((dch (u % 16)).toNat : Int))
      have hm := mask15 u (by omega)
      have hd := dch_at (u % 16) (by omega)
      have hm0 : (0 : Int) ≤ ((u % 16 : Nat) : Int) := by omega
      have hm1 : ((u % 16 : Nat) : Int) < 36 := by omega
      clear hp hA hT hb hpw
      go_wp2_with fail
      go_roundw
      case rel => exact ⟨u / 16, k', i, dch (u % 16) :: T, updI f i ((dch (u % 16)).toNat : Int), by simp, by first | rfl | go_num, by omega, by simp; omega, by simp; omega, by simpa using ht2, hpw2, hp2, hA2, hT2, hb2⟩
      case measure => simp [intOf]; omega
    · have g1 : ¬ (u : Int) ≥ 16 := by omega
      have hp2 : Hid (R = ⟨(dch u :: T).toArray⟩) := by
        have h := hp.out
        rw [prtF_small 16 k u (by omega)] at h
        have h2 := HR.out
        rw [h] at h2
        exact h2
      obtain ⟨ci, zi⟩ := hA.out i (by omega)
      have hA2 := hA.out.put i ((dch u).toNat : Int)
      have hT2 := hT.out.cons (dch u)
      have hb2 := hb.setCell (p := ⟨w.heap.size, i, none⟩) (Nat.le_refl _) (.int .u8 ((dch u).toNat : Int))
      have hd := dch_at u (by omega)
      have hcv := fun cap => tail_string _ w.heap.size i (65 - i) cap _ (dch u :: T) hA2 hT2 (by simp; omega)
      rw [← hp2.out] at hcv
      have hm0 : (0 : Int) ≤ (u : Int) := by omega
      have hm1 : (u : Int) < 36 := by omega
      have i0 : (0 : Int) ≤ i := by omega
      have i2 : (i : Int) ≤ 65 := by omega
      clear hp hA hT hb hpw hA2 hT2
      go_wp2_with fail
      go_ret2
      exact ⟨rfl, hb2⟩

set_option maxRecDepth 100000 in
set_option maxHeartbeats 1000000 in
theorem fint16 (U : Nat) (hU : U < 9223372036854775808) (w : World) (hw : Deb w) :
    Calls Tryz.prog 123 #[.int .i64 (U : Int), .int .i64 16] w fun e w' => e = .returned (.string ⟨(prt 16 U).toArray⟩) ∧ Below w.heap.size w w' := by
  have HF := Lib.hid (fbits U hU w hw)
  have u0 : (0 : Int) ≤ U := by omega
  have u1 : (U : Int) < 9223372036854775808 := by omega
  go_enter Tryz.func123, Tryz.ntmps123
  go_wp2_with fail
  refine HF.out.mono ?_
  rintro e w1 ⟨rfl, hb⟩
  go_wp2_with fail
  go_ret
  exact ⟨rfl, hb⟩
/-- A number's digits, 0 where it is negative. -/
def prtI (b : Nat) (n : Int) : List UInt8 := prt b n.toNat
end Go.Proofs.YtbbphklhnngjmaaGreatDoor

