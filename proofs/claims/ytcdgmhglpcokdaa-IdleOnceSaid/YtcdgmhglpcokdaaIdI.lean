/- Idle connections: Numbers; what each act leaves, with bounds. -/
import Derived.Test.YtcdgmhglpcokdaaIdH
import Derived.Test.YtcdgmhglpcokdaaCut
namespace Go.Proofs.Ytcdgmhglpcokdaa
open Go.RowKit Go.Maps

/-- A slice of numbers. -/
def IsNs (w : World) (a : Option Addr) (c : Nat) (l : List Int) : Prop :=
  l = [] ∨ ∃ bk o, a = some ⟨bk, o, none⟩ ∧ bk < w.heap.size ∧ l.length ≤ c ∧ ∀ (j : Nat) x, l[j]? = some x → w.cell? ⟨bk, o + j, none⟩ = some (.int .i64 x)
theorem IsNs.below {w w' : World} {a : Option Addr} {c : Nat} {l : List Int} (h : IsNs w a c l) (hb : Below w.heap.size w w') : IsNs w' a c l := by
  obtain h | ⟨bk, o, ha, hlt, hc, hcell⟩ := h
  · exact .inl h
  · refine .inr ⟨bk, o, ha, Nat.lt_of_lt_of_le hlt hb.size, hc, fun j e he => ?_⟩
    rw [(bcell hb).1 _ _ hlt]
    exact hcell j e he
theorem isNs_own {w : World} {base : Nat} {v : Value} {l : List Int} (h : w.ownsRow base 3 1 v l.length (l.map (Value.int .i64))) : ∃ a c, v = .slice a l.length c ∧ IsNs w a c l := by
  obtain ⟨a, c, rfl⟩ := own_slice h
  refine ⟨a, c, rfl, ?_⟩
  obtain ⟨_, ⟨_, h0⟩ | ⟨g, cap, cur, hv, hb, hg, hcap, _, hcs, htk⟩⟩ := h
  · exact .inl (List.eq_nil_of_length_eq_zero h0)
  · injection hv with h1 h2 h3
    subst h1 h3
    refine .inr ⟨g, 0, rfl, (Array.getElem?_eq_some_iff.1 hg).1, hcap, fun j x hx => ?_⟩
    have hj : j < l.length := (List.getElem?_eq_some_iff.1 hx).1
    have h5 : (cur.toList.take (l.length * 1))[j]? = (l.map (Value.int .i64))[j]? := by rw [htk]
    rw [List.getElem?_take_of_lt (by omega), Array.getElem?_toList, List.getElem?_map, hx] at h5
    rw [Nat.zero_add]
    simp only [World.cell?, hg]
    exact h5
set_option maxHeartbeats 1000000 in
set_option maxRecDepth 100000 in
theorem numbersI (a b : Option Addr) (ca cb : Nat) (l : List Int) (w : World) (hl : l.length ≤ 1000000) (ha : IsNs w a ca l) (hb : IsNs w b cb l) :
    Calls Try.prog 22 #[.slice a l.length ca, .slice b l.length cb] w fun e w' => e = .returned (.bool true) ∧ Below w.heap.size w w' := by
  have HA := Lib.hid ha
  have HB := Lib.hid hb
  clear ha hb
  go_enter Try.func22, Try.ntmps22
  go_wp2_with fail
  go_loopw [13] (fun i wr => ∃ j : Nat, j ≤ l.length ∧ i = .int .i64 (j : Int) ∧ Hid (Below w.heap.size w wr)) (fun i _ => l.length - (intOf i).toNat)
  case atStart => exact ⟨0, Nat.zero_le _, rfl, Below.refl _ _⟩
  case round =>
    obtain ⟨j, hj, rfl, hb⟩ := hrel
    by_cases hlt : j < l.length
    · have j1 : (j : Int) < (l.length : Int) := by omega
      obtain h0 | ⟨bk, o, rfl, hlt1, hc, hcell⟩ := HA.out.below hb.out
      · rw [h0] at hlt; simp at hlt
      obtain h0 | ⟨bk2, o2, rfl, hlt2, hc2, hcell2⟩ := HB.out.below hb.out
      · rw [h0] at hlt; simp at hlt
      have x1 := hcell j l[j] (List.getElem?_eq_getElem hlt)
      have x2 := hcell2 j l[j] (List.getElem?_eq_getElem hlt)
      obtain ⟨y, hy⟩ : ∃ y, y = l[j] := ⟨_, rfl⟩
      rw [← hy] at x1 x2
      have same : (y == y) = true := by simp
      have HB2 : Hid (∀ n, Below w.heap.size w (wr.drewN n)) := fun n => hb.out.trans ⟨rfl, rfl, rfl, Nat.le_refl _, fun _ _ => rfl⟩
      clear hcell hcell2 hy hlt1 hlt2
      go_wp2_with fail
      go_quiet (fail)
      go_wp2_with fail
      go_roundw
      case rel => exact ⟨j + 1, hlt, by go_num, HB2.out _⟩
      case measure => simp [intOf]; omega
    · obtain rfl : j = l.length := by omega
      have hj0 : ¬ ((l.length : Int) < l.length) := by omega
      go_wp2_with fail
      go_ret
      exact ⟨rfl, hb.out⟩
/-- Idle connections behind t acts. -/
def IdP (W : World) (X : Nat → Prop) (ab : Nat) (a b : Int) (t : Nat) (L : List Cn) (w : World) : Prop :=
  ∃ N sets, N ≤ 4 * t ∧ 0 ≤ sets ∧ sets ≤ (t : Int) ∧ L.length ≤ t ∧ IdS W X ab a b N sets L L w ∧ GoodI sets L ∧ (∀ x, ((ofI L x).length : Int) ≤ a) ∧ 0 ≤ a ∧ a ≤ 1024 ∧ 1 ≤ b ∧ b ≤ 1048576
/-- What Put makes of the list. -/
def addL (L : List Cn) (nm : ByteArray) (c now b s : Int) : List Cn := dropI L c ++ [⟨nm, c, clampA (clampA now + b), s⟩]
theorem cap_drop {a : Int} {L : List Cn} (h : ∀ x, ((ofI L x).length : Int) ≤ a) (c : Int) : ∀ x, ((ofI (dropI L c) x).length : Int) ≤ a := fun x => by
  have := ofI_len_drop L c x
  have := h x
  omega
theorem cap_put {a : Int} {L : List Cn} (h : ∀ x, ((ofI L x).length : Int) ≤ a) (nm : ByteArray) (c now b s : Int) : ∀ x, ((ofI (putR a (addL L nm c now b s) nm).1 x).length : Int) ≤ a := by
  have hL1 : ∀ x, ((ofI (addL L nm c now b s) x).length : Int) ≤ a + (if x = nm then 1 else 0) := fun x => by
    unfold addL
    rw [ofI_add, List.length_append]
    have := cap_drop h c x
    by_cases hx : nm = x
    · rw [if_pos hx, if_pos hx.symm]; simp; omega
    · rw [if_neg hx, if_neg (fun e => hx e.symm)]; simp; omega
  intro x
  unfold putR
  by_cases hc : ((ofI (addL L nm c now b s) nm).length : Int) ≤ a
  · rw [if_pos hc]
    by_cases hx : x = nm
    · rw [hx]; exact hc
    · have := hL1 x
      rw [if_neg hx] at this
      show ((ofI (addL L nm c now b s) x).length : Int) ≤ a
      omega
  · rw [if_neg hc]
    cases ho : ofI (addL L nm c now b s) nm with
    | nil => rw [ho] at hc; simp at hc; have := h nm; have := Int.natCast_nonneg (ofI L nm).length; omega
    | cons y r =>
      show ((ofI (dropI (addL L nm c now b s) y) x).length : Int) ≤ a
      by_cases hx : x = nm
      · rw [hx]
        refine put_once ?_ ho
        have := hL1 nm
        rw [if_pos rfl] at this
        exact this
      · have h1 := hL1 x
        rw [if_neg hx] at h1
        have := ofI_len_drop (addL L nm c now b s) y x
        omega
theorem good_put {sets : Int} {L : List Cn} (h : GoodI sets L) {a : Int} {nm : ByteArray} {c now b : Int} (hn : nm.size ≤ maxLen) (hw : (Lit.int .i64 c).wf = true) : GoodI (sets + 1) (putR a (addL L nm c now b (sets + 1)) nm).1 := by
  have h1 : GoodI (sets + 1) (addL L nm c now b (sets + 1)) := (h.drop c).add (fun e he => (mem_dropI.1 he).2) hn hw
  unfold putR
  split
  · exact h1
  · split
    · exact h1
    · exact h1.drop _
theorem len_put (L : List Cn) (a : Int) (nm : ByteArray) (c now b s : Int) : (putR a (addL L nm c now b s) nm).1.length ≤ L.length + 1 := by
  have h1 : (addL L nm c now b s).length ≤ L.length + 1 := by
    unfold addL; rw [List.length_append]; have := dropI_le L c; simp; omega
  unfold putR
  split
  · exact h1
  · split
    · exact h1
    · exact Nat.le_trans (dropI_le _ _) h1
section
variable {W w : World} {X : Nat → Prop} {ab t : Nat} {a b : Int} {L : List Cn}
theorem IdP.bel (h : IdP W X ab a b t L w) : Below W.heap.size W w := by
  obtain ⟨N, s, _, _, _, _, h1, _⟩ := h
  exact h1.bel
theorem IdP.oth (h : IdP W X ab a b t L w) : ∀ k, X k → k < w.heap.size := by
  obtain ⟨N, s, _, _, _, _, h1, _⟩ := h
  exact h1.oth
theorem IdP.belowX {w' : World} {X' : Nat → Prop} (h : IdP W X ab a b t L w) (hb : Below w.heap.size w w') (hX : ∀ k, X' k → k < w'.heap.size ∧ (X k ∨ w.heap.size ≤ k)) : IdP W X' ab a b t L w' := by
  obtain ⟨N, s, q1, q2, q3, q4, h1, h2⟩ := h
  exact ⟨N, s, q1, q2, q3, q4, h1.belowX hb hX, h2⟩
theorem IdP.new (W : World) (X : Nat → Prop) (m l : Int) (w : World) (hW : Below W.heap.size W w) (hX : ∀ k, X k → k < w.heap.size) :
    Calls Try.prog 6 #[.int .i64 m, .int .i64 l] w fun o w' => ∃ ab, o = .returned (.pointer (some ⟨ab, 0, none⟩)) ∧ IdP W X ab (clI m 0 1024) (clI l 1 1048576) 0 [] w' ∧ Below w.heap.size w w' := by
  refine (inew W X m l w hW hX).mono ?_
  rintro o w' ⟨ab, rfl, h1, h2⟩
  have c1 : 0 ≤ clI m 0 1024 ∧ clI m 0 1024 ≤ 1024 := by unfold clI; split <;> (try split) <;> omega
  have c2 : 1 ≤ clI l 1 1048576 ∧ clI l 1 1048576 ≤ 1048576 := by unfold clI; split <;> (try split) <;> omega
  exact ⟨ab, rfl, ⟨0, 0, Nat.le_refl _, Int.le_refl _, Int.le_refl _, Nat.le_refl _, h1, ⟨.nil, .nil, (fun _ h => by cases h), (fun _ h => by cases h), (fun _ h => by cases h)⟩, fun x => by simp [ofI]; exact c1.1, c1.1, c1.2, c2⟩, h2⟩
theorem IdP.put (h : IdP W X ab a b t L w) (ht : t ≤ 200) (nm : ByteArray) (hnm : KS.ok nm) (c : Int) (hcw : KN.ok c) (now : Int) :
    Calls Try.prog 8 #[.pointer (some ⟨ab, 0, none⟩), .string nm, .int .i64 c, .int .i64 now] w fun o w' => ∃ v s, o = .returned v ∧ (∀ e ∈ L, e.tu < s) ∧ w'.ownsRow w.heap.size 3 1 v (putR a (addL L nm c now b s) nm).2.length ((putR a (addL L nm c now b s) nm).2.map (Value.int .i64)) ∧ IdP W (XV X v) ab a b (t + 1) (putR a (addL L nm c now b s) nm).1 w' ∧ Keep (fun k => ¬ X k) w w' := by
  obtain ⟨N, s, q1, q2, q3, q4, h1, h2, h3, h4, h5, h6, h7⟩ := h
  refine (iput W X ab a b N s L w h1 h2 (by omega) (by omega) q2 (by omega) h4 h5 h6 h7 h3 nm hnm c hcw now).mono ?_
  rintro o w' ⟨v, rfl, r1, r2, r3⟩
  refine ⟨v, s + 1, rfl, fun e he => by have := h2.top e he; omega, r1, ⟨N + 4, s + 1, by omega, by omega, by omega, ?_, r2, good_put h2 hnm hcw, cap_put h3 nm c now b (s + 1), h4, h5, h6, h7⟩, r3⟩
  exact Nat.le_trans (len_put L a nm c now b (s + 1)) (by omega)
theorem IdP.drop (h : IdP W X ab a b t L w) (ht : t ≤ 200) (c : Int) (hcw : KN.ok c) :
    Calls Try.prog 10 #[.pointer (some ⟨ab, 0, none⟩), .int .i64 c] w fun o w' => o = .returned (.bool (waits L c)) ∧ IdP W X ab a b (t + 1) (dropI L c) w' ∧ Keep (fun k => ¬ X k) w w' := by
  obtain ⟨N, s, q1, q2, q3, q4, h1, h2, h3, h4⟩ := h
  refine (idrop W X ab a b N s L w h1 h2 (by omega) (by omega) c hcw).mono ?_
  rintro o w' ⟨rfl, r1, r2⟩
  exact ⟨rfl, ⟨N + 1, s, by omega, q2, by omega, Nat.le_trans (dropI_le L c) (by omega), r1, h2.drop c, cap_drop h3 c, h4⟩, r2⟩
theorem IdP.takeS (h : IdP W X ab a b t L w) (ht : t ≤ 200) (nm : ByteArray) (hnm : KS.ok nm) (r : List Int) (x : Int) (h0 : ofI L nm = r ++ [x]) :
    Calls Try.prog 9 #[.pointer (some ⟨ab, 0, none⟩), .string nm] w fun o w' => o = .returned (.tuple #[.int .i64 x, .bool true]) ∧ IdP W X ab a b (t + 1) (dropI L x) w' ∧ Keep (fun k => ¬ X k) w w' := by
  obtain ⟨N, s, q1, q2, q3, q4, h1, h2, h3, h4⟩ := h
  refine (itakeS W X ab a b N s L w h1 h2 (by omega) (by omega) nm hnm r x h0).mono ?_
  rintro o w' ⟨rfl, r1, r2⟩
  exact ⟨rfl, ⟨N + 1, s, by omega, q2, by omega, Nat.le_trans (dropI_le L x) (by omega), r1, h2.drop x, cap_drop h3 x, h4⟩, r2⟩
theorem IdP.takeN (h : IdP W X ab a b t L w) (nm : ByteArray) (hnm : KS.ok nm) (h0 : ofI L nm = []) :
    Calls Try.prog 9 #[.pointer (some ⟨ab, 0, none⟩), .string nm] w fun o w' => o = .returned (.tuple #[.int .i64 0, .bool false]) ∧ w' = w := by
  obtain ⟨N, s, q1, q2, q3, q4, h1, h2, h3, h4⟩ := h
  exact itakeN W X ab a b N s L L w h1 nm hnm h0
theorem IdP.lenC (h : IdP W X ab a b t L w) :
    Calls Try.prog 11 #[.pointer (some ⟨ab, 0, none⟩)] w fun o w' => o = .returned (.int .i64 (L.length : Int)) ∧ w' = w := by
  obtain ⟨N, s, q1, q2, q3, q4, h1, h2⟩ := h
  exact ilen W X ab a b N s L L w h1
theorem IdP.of (h : IdP W X ab a b t L w) (ht : t ≤ 200) (nm : ByteArray) (hnm : KS.ok nm) :
    Calls Try.prog 12 #[.pointer (some ⟨ab, 0, none⟩), .string nm] w fun o w' => ∃ v, o = .returned v ∧ w'.ownsRow w.heap.size 3 1 v (ofI L nm).length ((ofI L nm).map (Value.int .i64)) ∧ Below w.heap.size w w' := by
  obtain ⟨N, s, q1, q2, q3, q4, h1, h2⟩ := h
  exact iof W X ab a b N s L L w h1 (by omega) nm hnm
theorem IdP.more {t' : Nat} (h : IdP W X ab a b t L w) (ht : t ≤ t') : IdP W X ab a b t' L w := by
  obtain ⟨N, s, q1, q2, q3, q4, h1, h2⟩ := h
  exact ⟨N, s, by omega, q2, by omega, by omega, h1, h2⟩
theorem IdP.good (h : IdP W X ab a b t L w) : ∃ s, GoodI s L := by
  obtain ⟨N, s, q1, q2, q3, q4, h1, h2, _⟩ := h
  exact ⟨s, h2⟩
theorem IdP.cap (h : IdP W X ab a b t L w) (x : ByteArray) : ((ofI L x).length : Int) ≤ a := by
  obtain ⟨N, s, q1, q2, q3, q4, h1, h2, h3, _⟩ := h
  exact h3 x
end
end Go.Proofs.Ytcdgmhglpcokdaa
