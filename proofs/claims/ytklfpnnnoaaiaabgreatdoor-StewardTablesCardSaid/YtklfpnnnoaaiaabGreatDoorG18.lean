/- stewardtop.StewardTables: prime.Next(401), once, and how many names have places. -/
import Derived.Test.YtklfpnnnoaaiaabGreatDoorG07
import Derived.Test.YtklfpnnnoaaiaabGreatDoorG08
import Derived.Test.YtklfpnnnoaaiaabGreatDoorG17
namespace Go.Proofs.YtklfpnnnoaaiaabGreatDoor
open Go.RowKit

theorem next401 (w : World) : Calls Tryz.prog 12 #[.int .i64 401] w fun e w' => e = .returned (.int .i64 401) ∧ w' = w := by
  have HB := Lib.hid (show isP 401 = true by decide +kernel)
  go_enter Tryz.func12, Tryz.ntmps12
  go_wp2_with fail
  go_loopw [3] (fun i wr => i = .int .i64 401 ∧ wr = w) (fun _ _ => 0)
  case atStart => exact ⟨rfl, rfl⟩
  case round =>
    obtain ⟨rfl, rfl⟩ := hrel
    go_wp2_with fail
    refine (is17 _ _).mono ?_
    rintro e w' ⟨rfl, hw⟩
    subst w'
    have h := HB.out
    go_wp2_with fail
    go_ret
    exact ⟨rfl, rfl⟩
theorem cntF_pos {p : Nat → Bool} : ∀ {m : Nat}, 0 < cntF p m ↔ ∃ q, q < m ∧ p q = true
  | 0 => by constructor
            · intro h; exact absurd h (Nat.lt_irrefl 0)
            · rintro ⟨q, h, _⟩; omega
  | m + 1 => by
    rw [cntF]
    constructor
    · intro h
      by_cases hp : p m = true
      · exact ⟨m, by omega, hp⟩
      · rw [if_neg hp, Nat.add_zero] at h
        obtain ⟨q, h1, h2⟩ := cntF_pos.1 h
        exact ⟨q, by omega, h2⟩
    · rintro ⟨q, h1, h2⟩
      by_cases hq : q = m
      · subst hq; rw [if_pos h2]; omega
      · have := cntF_pos.2 ⟨q, (by omega : q < m), h2⟩
        omega
theorem cntF_filter (p : Nat → Bool) : ∀ n, cntF p n = ((List.range n).filter p).length
  | 0 => rfl
  | n + 1 => by
    rw [cntF, List.range_succ, List.filter_append, List.length_append, cntF_filter p n]
    by_cases h : p n = true
    · rw [if_pos h]; simp [h]
    · rw [if_neg h]; simp [h]
/-- What a table's walk gives. -/
structure WkOk (ns : List ByteArray) (m : Nat) (own : Nat → Int) (st j : Nat) : Prop where
  nd : (wkS ns m own st j).Nodup
  sub : ∀ N ∈ wkS ns m own st j, ∃ i, i < j ∧ atN ns m own (((st + i) % m : Nat) : Int) = N
  all : (wkS ns m own st j).length = ns.length ∨ ∀ i, i < j → atN ns m own (((st + i) % m : Nat) : Int) ∈ wkS ns m own st j
theorem wkS_ok (ns : List ByteArray) (m : Nat) (own : Nat → Int) (st : Nat) : ∀ j, WkOk ns m own st j
  | 0 => ⟨List.nodup_nil, (fun N h => by cases h), .inr (fun i h => by omega)⟩
  | j + 1 => by
    obtain ⟨h1, h2, h3⟩ := wkS_ok ns m own st j
    by_cases hl : (wkS ns m own st j).length = ns.length
    · have e := wkS_keep (st := st) (m := m) (own := own) hl
      exact ⟨by rw [e]; exact h1, fun N hN => by
        rw [e] at hN
        obtain ⟨i, a, b⟩ := h2 N hN
        exact ⟨i, by omega, b⟩, .inl (by rw [e]; exact hl)⟩
    · have hall := h3.resolve_left hl
      cases hin : inS (wkS ns m own st j) (atN ns m own (((st + j) % m : Nat) : Int)) with
      | true =>
        have e := wkS_old hl hin
        exact ⟨by rw [e]; exact h1, fun N hN => by
          rw [e] at hN
          obtain ⟨i, a, b⟩ := h2 N hN
          exact ⟨i, by omega, b⟩, .inr (fun i hi => by
          rw [e]
          rcases Nat.lt_or_ge i j with hij | hij
          · exact hall i hij
          · obtain rfl : i = j := by omega
            exact inS_mem.1 hin)⟩
      | false =>
        have e := wkS_new hl hin
        have hno : ¬ atN ns m own (((st + j) % m : Nat) : Int) ∈ wkS ns m own st j := fun h => by rw [inS_mem.2 h] at hin; cases hin
        refine ⟨?_, fun N hN => ?_, .inr (fun i hi => ?_)⟩
        · rw [e, List.nodup_append]
          exact ⟨h1, by simp, fun x hx y hy => by
            obtain rfl := List.mem_singleton.1 hy
            rintro rfl
            exact hno hx⟩
        · rw [e] at hN
          rcases List.mem_append.1 hN with hN | hN
          · obtain ⟨i, a, b⟩ := h2 N hN
            exact ⟨i, by omega, b⟩
          · exact ⟨j, by omega, (List.mem_singleton.1 hN).symm⟩
        · rw [e]
          rcases Nat.lt_or_ge i j with hij | hij
          · exact List.mem_append_left _ (hall i hij)
          · obtain rfl : i = j := by omega
            exact List.mem_append_right _ (List.mem_singleton.2 rfl)
theorem mod_hits {m st q : Nat} (hq : q < m) : ∃ i, i < m ∧ (st + i) % m = q := by
  have hs := Nat.mod_lt st (show 0 < m by omega)
  refine ⟨(q + m - st % m) % m, Nat.mod_lt _ (by omega), ?_⟩
  rw [Nat.add_mod_mod, ← Nat.mod_add_mod, show st % m + (q + m - st % m) = q + m by omega, Nat.add_mod_right, Nat.mod_eq_of_lt hq]
/-- A whole walk: each name that has a place, once. -/
theorem wkS_whole {ns : List ByteArray} {m : Nat} {own : Nat → Int} (hF : Full ns m own) (hm : 0 < m) (st : Nat) :
    (wkS ns m own st m).Nodup ∧ (∀ N ∈ wkS ns m own st m, N ∈ ns) ∧ (wkS ns m own st m).length = cntF (fun i => decide (0 < shN own i m)) ns.length := by
  obtain ⟨h1, h2, h3⟩ := wkS_ok ns m own st m
  rcases hF.mem with hn | hin
  · subst hn
    have h0 : wkS [] m own st m = [] := List.eq_nil_of_length_eq_zero (by have := wkS_le (ns := []) (m := m) (own := own) (st := st) m; simp at this; exact List.eq_nil_iff_length_eq_zero.1 this)
    rw [h0]
    exact ⟨List.nodup_nil, (fun N h => by cases h), rfl⟩
  have hsub : ∀ N ∈ wkS ns m own st m, N ∈ ns := fun N hN => by
    obtain ⟨i, _, rfl⟩ := h2 N hN
    exact hin _ (Nat.mod_lt _ hm)
  refine ⟨h1, hsub, ?_⟩
  rw [cntF_filter]
  have hmem : ∀ N, N ∈ wkS ns m own st m ↔ ∃ q, q < m ∧ atN ns m own (q : Int) = N := fun N => by
    constructor
    · intro hN
      obtain ⟨i, _, e⟩ := h2 N hN
      exact ⟨_, Nat.mod_lt _ hm, e⟩
    · rintro ⟨q, hq, rfl⟩
      rcases h3 with h3 | h3
      · exact nodup_all h1 hsub h3 (hin q hq)
      · obtain ⟨i, hi, e⟩ := mod_hits (st := st) hq
        have := h3 i hi
        rw [e] at this
        exact this
  have hL : ∀ l : List Nat, (∀ i ∈ l, i < ns.length) → l.Nodup → (l.map fun i => ns.getD i ⟨#[]⟩).Nodup := fun l hl hnd => by
    induction l with
    | nil => exact List.nodup_nil
    | cons a l ih =>
      rw [List.nodup_cons] at hnd
      rw [List.map_cons, List.nodup_cons]
      refine ⟨fun hm2 => ?_, ih (fun i hi => hl i (List.mem_cons_of_mem _ hi)) hnd.2⟩
      obtain ⟨b, hb, e⟩ := List.mem_map.1 hm2
      have ha := hl a (List.mem_cons_self ..)
      have hb2 := hl b (List.mem_cons_of_mem _ hb)
      rw [List.getD_eq_getElem?_getD, List.getD_eq_getElem?_getD, List.getElem?_eq_getElem ha, List.getElem?_eq_getElem hb2, Option.getD_some, Option.getD_some] at e
      have := (List.getElem_inj hF.nd).1 e
      exact hnd.1 (this ▸ hb)
  rw [← List.length_map (f := fun i => ns.getD i ⟨#[]⟩)]
  refine List.Perm.length_eq ((List.perm_ext_iff_of_nodup h1 (hL _ (fun i hi => List.mem_range.1 (List.mem_filter.1 hi).1) (List.nodup_range.filter _))).2 fun N => ?_)
  rw [hmem, List.mem_map]
  have hne : ns ≠ [] := by
    intro h
    subst h
    have := hin 0 hm
    cases this
  constructor
  · rintro ⟨q, hq, rfl⟩
    obtain ⟨i, hi, ho, ha⟩ := hF.at_ hne hq
    refine ⟨i, List.mem_filter.2 ⟨List.mem_range.2 hi, decide_eq_true (cntF_pos.2 ⟨q, hq, decide_eq_true ho⟩)⟩, ?_⟩
    rw [ha, List.getD_eq_getElem?_getD, List.getElem?_eq_getElem hi, Option.getD_some]
  · rintro ⟨i, hi, rfl⟩
    obtain ⟨h4, h5⟩ := List.mem_filter.1 hi
    have hil := List.mem_range.1 h4
    obtain ⟨q, hq, ho⟩ := cntF_pos.1 (of_decide_eq_true h5)
    have ho := of_decide_eq_true ho
    obtain ⟨i', hi', ho', ha⟩ := hF.at_ hne hq
    have : i' = i := by rw [ho] at ho'; omega
    subst this
    exact ⟨q, hq, by rw [ha, List.getD_eq_getElem?_getD, List.getElem?_eq_getElem hi', Option.getD_some]⟩
/-- The first name of a whole walk is the name at its start. -/
theorem wkS_head {ns : List ByteArray} {m : Nat} {own : Nat → Int} {st : Nat} (hn : ns ≠ []) (hs : st < m) : (wkS ns m own st m).head? = some (atN ns m own (st : Int)) := by
  have h1 : ∀ j, 0 < j → (wkS ns m own st j).head? = some (atN ns m own (st : Int)) := by
    intro j
    induction j with
    | zero => intro h; omega
    | succ j ih =>
      intro _
      rcases Nat.eq_zero_or_pos j with hj | hj
      · subst hj
        have hl : (wkS ns m own st 0).length ≠ ns.length := fun h => hn (List.eq_nil_of_length_eq_zero h.symm)
        rw [wkS_new hl rfl, Nat.add_zero, Nat.mod_eq_of_lt hs]
        rfl
      · have ih := ih hj
        rw [wkS]
        split
        · exact ih
        · split
          · exact ih
          · rw [List.head?_append, ih]; rfl
  exact h1 m (by omega)
end Go.Proofs.YtklfpnnnoaaiaabGreatDoor

