/- The reference's Of, Set, Weight. -/
import Derived.Test.YtcmjcpgfnkhnoaaRpM
namespace Go.Proofs.Ytcmjcpgfnkhnoaa
open Go.RowKit Go.Maps

theorem infoMark : (Try.prog.info? 38).map (fun i => (i.zero, i.size, i.bytes)) = some (some (.agg #[.string ⟨#[]⟩, .int .i64 0]), 2, 24) := by kernel_rfl
theorem ofL_none {l : List Ent} {s : ByteArray} : ∀ {j : Nat}, (∀ m ∈ l.take j, m.1 ≠ s) → ofL l s = ofL (l.drop j) s := by
  induction l with
  | nil => intro j _; simp
  | cons m l ih =>
    intro j h
    cases j with
    | zero => rfl
    | succ j =>
      have h1 : m.1 ≠ s := h m (by simp)
      show (if m.1 = s then m.2 else ofL l s) = ofL (l.drop j) s
      rw [if_neg h1]
      exact ih (fun x hx => h x (by simp [hx]))
theorem ofL_at {l : List Ent} {s : ByteArray} {j : Nat} (hj : j < l.length) (h : ∀ m ∈ l.take j, m.1 ≠ s) (he : l[j].1 = s) : ofL l s = l[j].2 := by
  rw [ofL_none h, List.drop_eq_getElem_cons hj]
  show (if l[j].1 = s then _ else _) = _
  rw [if_pos he]
theorem take_ne {l : List Ent} {s : ByteArray} {j : Nat} (hj : j < l.length) (h : ∀ m ∈ l.take j, m.1 ≠ s) (he : l[j].1 ≠ s) : ∀ m ∈ l.take (j + 1), m.1 ≠ s := by
  intro m hm
  rw [List.take_add_one, List.getElem?_eq_getElem hj, Option.toList_some, List.mem_append] at hm
  rcases hm with hm | hm
  · exact h m hm
  · simp at hm; rw [hm]; exact he
set_option maxHeartbeats 4000000 in
set_option maxRecDepth 100000 in
theorem of12 (a : Option Addr) (c : Nat) (l : List Ent) (hl : l.length ≤ 1000000) (s : ByteArray) (w : World) (hf : IsEnts w a c l) :
    Calls Try.prog 12 #[.slice a l.length c, .string s] w fun e w' => e = .returned (.int .i64 (ofL l s)) ∧ Below w.heap.size w w' := by
  have HFF := Lib.hid hf
  clear hf
  go_enter Try.func12, Try.ntmps12
  go_wp2_with fail
  go_loopw [9] (fun i wr => ∃ j : Nat, j ≤ l.length ∧ i = .int .i64 (j : Int) ∧ Hid (∀ m ∈ l.take j, m.1 ≠ s) ∧ Below w.heap.size w wr) (fun i _ => l.length - (intOf i).toNat)
  case atStart => exact ⟨0, Nat.zero_le _, rfl, (fun m hm => by simp at hm), Below.refl _ _⟩
  case round =>
    obtain ⟨j, hj, rfl, hne, hb⟩ := hrel
    by_cases hlt : j < l.length
    · obtain h0 | ⟨bk, o, rfl, hbk, hc, hcell⟩ := HFF.out.below hb
      · subst h0; simp at hlt
      obtain ⟨c1, c2⟩ := hcell j l[j] (by simp [hlt])
      have HAT : Hid (l[j].1 = s → ofL l s = l[j].2) := fun h => ofL_at hlt hne.out h
      have HNE : Hid (l[j].1 ≠ s → ∀ m ∈ l.take (j + 1), m.1 ≠ s) := fun h => take_ne hlt hne.out h
      obtain ⟨f, hfe⟩ : ∃ f, f = l[j] := ⟨_, rfl⟩
      rw [← hfe] at c1 c2 HAT HNE
      clear hcell hfe
      obtain ⟨N, V⟩ := f
      simp only at c1 c2 HAT HNE
      have j1 : (j : Int) < l.length := by omega
      have hse := strEq N s
      have HBA := Lib.hid (hb.alloc hb.size (.cells #[.string N, .int .i64 V] 38))
      clear hb hne
      by_cases he : N = s
      · rw [decide_eq_true he] at hse
        have HA := Lib.hid (HAT.out he)
        clear HAT HNE he
        go_wp2_with fail
        go_ret
        exact ⟨by rw [HA.out]; rfl, HBA.out⟩
      · rw [decide_eq_false he] at hse
        have HN := Lib.hid (HNE.out he)
        clear HAT HNE he
        go_wp2_with fail
        go_roundw
        case rel => exact ⟨j + 1, hlt, by go_num, HN, HBA.out⟩
        case measure => simp [intOf]; omega
    · obtain rfl : j = l.length := by omega
      have h0 : ofL l s = 0 := by
        rw [ofL_none hne.out, List.drop_length]; rfl
      have H0 := Lib.hid h0
      clear h0 hne
      go_wp2_with fail
      go_ret
      exact ⟨by rw [H0.out]; rfl, hb⟩
theorem weight35 (n : Int) (w : World) : Calls Try.prog 35 #[.int .i64 n] w fun e w' => e = .returned (.int .i64 (lim n)) ∧ w' = w := by
  have m1 := min_int n 65535 (min n 65535) rfl
  have m2 := max_int 1 (min n 65535) (lim n) (by unfold lim; omega)
  generalize lim n = r at *
  generalize min n 65535 = q at *
  go_enter Try.func35, Try.ntmps35
  go_wp2_with fail
  go_ret
  exact ⟨rfl, rfl⟩
theorem out_step {l : List Ent} {s : ByteArray} {j : Nat} (hj : j < l.length) : outL (l.take (j + 1)) s = if l[j].1 = s then outL (l.take j) s else outL (l.take j) s ++ [l[j]] := by
  unfold outL
  rw [List.take_add_one, List.getElem?_eq_getElem hj, Option.toList_some, List.filter_append]
  by_cases h : l[j].1 = s
  · rw [if_pos h]; simp [h]
  · rw [if_neg h]; simp [h]
set_option maxHeartbeats 4000000 in
set_option maxRecDepth 100000 in
theorem set34 (a : Option Addr) (c : Nat) (l : List Ent) (hl : l.length ≤ 1000000) (s : ByteArray) (n : Int) (w : World) (hf : IsEnts w a c l) :
    Calls Try.prog 34 #[.slice a l.length c, .string s, .int .i64 n] w fun e w' => ∃ a' c', e = .returned (.slice a' (setM l s n).length c') ∧ w'.ownsRow w.heap.size 38 2 (.slice a' (setM l s n).length c') (setM l s n).length (cellsE (setM l s n)) ∧ Below w.heap.size w w' := by
  obtain ⟨i0, hi, hz0, hz1, hz2⟩ := info_parts infoMark
  have HFF := Lib.hid hf
  clear hf
  have hw0 : (w.alloc (.cells #[.string s, .int .i64 n] 38)).ownsRow w.heap.size 38 2 (.slice (some ⟨w.heap.size, 0, none⟩) 1 1) 1 (cellsE (setM [] s n)) :=
    ⟨rfl, .inr ⟨w.heap.size, 1, #[.string s, .int .i64 n], rfl, Nat.le_refl _, heap_alloc_new w _, Nat.le_refl _, by unfold maxLen; omega, rfl, rfl⟩⟩
  have HW0 := Lib.hid hw0
  clear hw0
  go_enter Try.func34, Try.ntmps34
  go_wp2_with fail
  go_loopw [7, 16] (fun u i wr => ∃ (j : Nat) (ua : Option Addr) (uc : Nat), j ≤ l.length ∧ i = .int .i64 (j : Int) ∧ u = .slice ua (setM (l.take j) s n).length uc ∧ Hid (wr.ownsRow w.heap.size 38 2 (.slice ua (setM (l.take j) s n).length uc) (setM (l.take j) s n).length (cellsE (setM (l.take j) s n))) ∧ Hid (Below w.heap.size w wr)) (fun _ i _ => l.length - (intOf i).toNat)
  case atStart => exact ⟨0, _, _, Nat.zero_le _, rfl, rfl, HW0, below_alloc w _⟩
  case round =>
    obtain ⟨j, ua, uc, hj, rfl, rfl, ho, hb⟩ := hrel
    by_cases hlt : j < l.length
    · obtain h0 | ⟨bk, o, rfl, hbk, hc, hcell⟩ := HFF.out.below hb.out
      · subst h0; simp at hlt
      obtain ⟨c1, c2⟩ := hcell j l[j] (by simp [hlt])
      have hst : setM (l.take (j + 1)) s n = if l[j].1 = s then setM (l.take j) s n else setM (l.take j) s n ++ [l[j]] := by
        unfold setM
        rw [out_step hlt]
        split <;> rfl
      have hsl : (setM (l.take j) s n).length ≤ 1000001 := by have := set_len (l.take j) s n; simp at this; omega
      obtain ⟨f, hfe⟩ : ∃ f, f = l[j] := ⟨_, rfl⟩
      rw [← hfe] at c1 c2 hst
      clear hcell hfe
      obtain ⟨N, V⟩ := f
      simp only at c1 c2
      have HST := Lib.hid hst
      have j1 : (j : Int) < l.length := by omega
      have hse := strEq N s
      clear hst
      generalize setM (l.take j) s n = acc at *
      have hsz : (wr.alloc (.cells #[.string N, .int .i64 V] 38)).heap.size = wr.heap.size + 1 := World.size_alloc _ _
      have HBA := Lib.hid (hb.out.alloc hb.out.size (.cells #[.string N, .int .i64 V] 38))
      have HOA := Lib.hid (ho.out.alloc (.cells #[.string N, .int .i64 V] 38))
      clear ho hb
      by_cases he : N = s
      · have hst2 : setM (l.take (j + 1)) s n = acc := by rw [HST.out, if_pos he]
        have HS2 := Lib.hid hst2
        rw [decide_eq_true he] at hse
        clear hst2 HST he
        go_wp2_with fail
        go_roundw
        case rel => exact ⟨j + 1, ua, uc, hlt, by go_num, by rw [HS2.out], by rw [HS2.out]; exact HOA, HBA⟩
        case measure => simp [intOf]; omega
      · have hst2 : setM (l.take (j + 1)) s n = acc ++ [(N, V)] := by rw [HST.out, if_neg he]
        have HS2 := Lib.hid hst2
        rw [decide_eq_false he] at hse
        have hnw := cells_ent (wr.alloc (.cells #[.string N, .int .i64 V] 38)) N V 38
        rw [hsz] at hnw
        have HNW := Lib.hid hnw
        have hgr := HBA.out.size
        have HB4 := Lib.hid (HBA.out.alloc hgr (.cells #[.string N, .int .i64 V] 38))
        have HO4 := Lib.hid (HOA.out.alloc (.cells #[.string N, .int .i64 V] 38))
        rw [hsz] at hgr
        clear hst2 HST he hnw HBA HOA
        go_wp2_with (at_builtin; refine wpList_append_own _ rfl _ _ 26 rfl w.heap.size 38 i0 (.agg #[.string ⟨#[]⟩, .int .i64 0]) 2 24 Try.underlying26 hi hz0 hz1 hz2 rfl (by decide) _ _ _ rfl HO4.out ⟨wr.heap.size + 1, 0, none⟩ 1 1 [.string N, .int .i64 V] rfl rfl HNW.out (ent_one N V) (by unfold maxLen; omega) (by omega) (by simp; omega) ?_)
        intro v' w4 hown' hgrow _
        have HB5 : Hid (Below w.heap.size w w4) := HB4.out.grown hgrow HB4.out.size (fun k hk => (HO4.out.lt k hk).1)
        have hown5 : w4.ownsRow w.heap.size 38 2 v' (setM (l.take (j + 1)) s n).length (cellsE (setM (l.take (j + 1)) s n)) := by
          rw [HS2.out, List.length_append, cellsE_append]; exact hown'
        obtain ⟨a5, c5, rfl⟩ := own_slice hown5
        have HO5 := Lib.hid hown5
        clear hown' hgrow hown5 HB4 HO4 HNW
        go_wp2_with fail
        go_roundw
        case rel => exact ⟨j + 1, a5, c5, hlt, by go_num, rfl, HO5, HB5⟩
        case measure => simp [intOf]; omega
    · obtain rfl : l.length = j := by omega
      rw [List.take_of_length_le (Nat.le_refl _)] at ho ⊢
      have hne : ¬ ((l.length : Int) < l.length) := by omega
      go_wp2_with fail
      go_ret
      exact ⟨_, _, rfl, ho.out, hb.out⟩
end Go.Proofs.Ytcmjcpgfnkhnoaa
