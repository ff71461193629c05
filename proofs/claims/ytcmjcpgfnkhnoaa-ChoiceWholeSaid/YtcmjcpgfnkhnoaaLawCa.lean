/- The law ChoiceWhole. -/
import Derived.Test.YtcmjcpgfnkhnoaaCaO
namespace Go.Proofs.Ytcmjcpgfnkhnoaa
open Go.RowKit

theorem and_smallC (x : Int) (m : Nat) (hm : m ≤ 1000000) : 0 ≤ bits .and .i64 x (m : Int) ∧ bits .and .i64 x (m : Int) ≤ m := by
  have h1 : (BitVec.ofInt 64 x &&& BitVec.ofInt 64 (m : Int)).toNat ≤ m := by
    rw [BitVec.toNat_and]
    have : (BitVec.ofInt 64 (m : Int)).toNat = m := by
      rw [BitVec.toNat_ofInt]; omega
    rw [this]
    exact Nat.and_le_right
  have h2 : bits .and .i64 x (m : Int) = IntKind.i64.wrap ((BitVec.ofInt 64 x &&& BitVec.ofInt 64 (m : Int)).toNat : Int) := rfl
  rw [h2]
  generalize (BitVec.ofInt 64 x &&& BitVec.ofInt 64 (m : Int)).toNat = r at *
  simp [IntKind.wrap, IntKind.signed, IntKind.bits]
  omega
/-- A candidate with a small weight and a small number. -/
def mskC (c : Cand) : Cand := ⟨c.nm, 1 + bits .and .i64 c.w ((32767 : Nat) : Int), bits .and .i64 c.b ((65535 : Nat) : Int), c.t⟩
theorem mskC_small (c : Cand) : Small (mskC c) := by
  have h1 := and_smallC c.w 32767 (by omega)
  have h2 := and_smallC c.b 65535 (by omega)
  refine ⟨?_, ?_, ?_, ?_⟩ <;> simp only [mskC] <;> omega
def mskCs (cs : List Cand) (j : Nat) : List Cand := (cs.take j).map mskC ++ cs.drop j
theorem mskCs_zero (cs : List Cand) : mskCs cs 0 = cs := by simp [mskCs]
theorem mskCs_all (cs : List Cand) : mskCs cs cs.length = cs.map mskC := by simp [mskCs]
theorem mskCs_at {cs : List Cand} {j : Nat} (hj : j < cs.length) : (mskCs cs j)[j]? = some cs[j] := by
  unfold mskCs
  rw [List.getElem?_append_right (by simp; omega)]
  simp only [List.length_map, List.length_take, Nat.min_eq_left (Nat.le_of_lt hj), Nat.sub_self]
  simp [hj]
theorem cellsC_set {a b : List Cand} {c : Cand} (X Y : Int) : ((cellsC (a ++ c :: b)).set (a.length * 4 + 1) (.int .i64 X)).set (a.length * 4 + 2) (.int .i64 Y) = cellsC (a ++ ⟨c.nm, X, Y, c.t⟩ :: b) := by
  rw [cellsC_append, cellsC_append, List.set_append_right _ _ (by rw [cellsC_length]; omega), List.set_append_right _ _ (by rw [cellsC_length]; omega), cellsC_length, Nat.add_sub_cancel_left, Nat.add_sub_cancel_left]
  rfl
theorem mskCs_set {cs : List Cand} {j : Nat} (hj : j < cs.length) : ((cellsC (mskCs cs j)).set (j * 4 + 1) (.int .i64 (1 + bits .and .i64 cs[j].w ((32767 : Nat) : Int)))).set (j * 4 + 2) (.int .i64 (bits .and .i64 cs[j].b ((65535 : Nat) : Int))) = cellsC (mskCs cs (j + 1)) := by
  have h1 : mskCs cs j = (cs.take j).map mskC ++ cs[j] :: cs.drop (j + 1) := by
    unfold mskCs
    rw [List.drop_eq_getElem_cons hj]
  have h2 : mskCs cs (j + 1) = (cs.take j).map mskC ++ ⟨cs[j].nm, 1 + bits .and .i64 cs[j].w ((32767 : Nat) : Int), bits .and .i64 cs[j].b ((65535 : Nat) : Int), cs[j].t⟩ :: cs.drop (j + 1) := by
    unfold mskCs
    rw [List.take_add_one, List.getElem?_eq_getElem hj, Option.toList_some, List.map_append, List.append_assoc]
    rfl
  have h3 := cellsC_set (a := (cs.take j).map mskC) (b := cs.drop (j + 1)) (c := cs[j]) (1 + bits .and .i64 cs[j].w ((32767 : Nat) : Int)) (bits .and .i64 cs[j].b ((65535 : Nat) : Int))
  rw [← h1, ← h2] at h3
  rw [show ((cs.take j).map mskC).length = j by simp; omega] at h3
  exact h3
/-- What holds while two numbers are masked. -/
structure MkS (W : World) (g i : Nat) (v : Int) (L : Nat → Bool) (w : World) : Prop where
  no : L 19 = false → w = W
  yes : L 19 = true → w = W.setCell ⟨g, i, none⟩ (.int .i64 v) ∧ L 8 = true ∧ L 15 = true
theorem MkS.keep {W : World} {g i : Nat} {v : Int} {L : Nat → Bool} {w : World} (h : MkS W g i v L w) (k : Nat) (hk : k ≠ 19) : MkS W g i v (setL L k) w := by
  refine ⟨fun e => h.no ?_, fun e => ?_⟩
  · simpa [setL, Ne.symm hk] using e
  · obtain ⟨h1, h2, h3⟩ := h.yes (by simpa [setL, Ne.symm hk] using e)
    refine ⟨h1, ?_, ?_⟩
    · by_cases e7 : k = 8
      · subst e7; simp [setL]
      · simpa [setL, Ne.symm e7] using h2
    · by_cases e7 : k = 15
      · subst e7; simp [setL]
      · simpa [setL, Ne.symm e7] using h3
theorem own_someC {w : World} {base : Nat} {e : TypeId} {a : Option Addr} {m c : Nat} {xs : List Value} (h : w.ownsRow base e 4 (.slice a m c) m xs) (hm : 0 < m) : ∃ g, a = some ⟨g, 0, none⟩ := by
  rcases h.2 with ⟨h1, h2⟩ | ⟨g, cap, cur, h1, _⟩
  · omega
  · injection h1 with h1; exact ⟨g, h1⟩
/-- Nobody bears less, in whole numbers. -/
theorem whole_ok {cs : List Cand} {m i : Nat} (hm : m < cs.length) (hi : i < cs.length) (hok : ∀ x ∈ cs, Small x) (h : ckAt cs m < ckAt cs i ∨ ckAt cs m = ckAt cs i ∧ m ≤ i) :
    ¬ (cs[i].b + 1) * cs[m].w < (cs[m].b + 1) * cs[i].w ∧ ((cs[i].b + 1) * cs[m].w = (cs[m].b + 1) * cs[i].w → ¬ i < m) := by
  have s1 := hok _ (List.getElem_mem hm)
  have s2 := hok _ (List.getElem_mem hi)
  have k1 : ckAt cs m = (qk (cs[m].b + 1).toNat cs[m].w.toNat : Int) := by unfold ckAt; rw [List.getElem?_eq_getElem hm]; rfl
  have k2 : ckAt cs i = (qk (cs[i].b + 1).toNat cs[i].w.toNat : Int) := by unfold ckAt; rw [List.getElem?_eq_getElem hi]; rfl
  rw [k1, k2] at h
  obtain ⟨a1, a2, a3, a4⟩ := s1
  obtain ⟨b1, b2, b3, b4⟩ := s2
  generalize cs[m].b = x at *
  generalize cs[m].w = v at *
  generalize cs[i].b = y at *
  generalize cs[i].w = u at *
  obtain ⟨x, rfl⟩ := Int.eq_ofNat_of_zero_le a3
  obtain ⟨y, rfl⟩ := Int.eq_ofNat_of_zero_le b3
  obtain ⟨v, rfl⟩ := Int.eq_ofNat_of_zero_le (show 0 ≤ v by omega)
  obtain ⟨u, rfl⟩ := Int.eq_ofNat_of_zero_le (show 0 ≤ u by omega)
  rw [show ((x : Int) + 1).toNat = x + 1 by omega, show ((y : Int) + 1).toNat = y + 1 by omega, Int.toNat_natCast, Int.toNat_natCast] at h
  have e1 : ((y : Int) + 1) * v = (((y + 1) * v : Nat) : Int) := by rw [Int.natCast_mul]; rfl
  have e2 : ((x : Int) + 1) * u = (((x + 1) * u : Nat) : Int) := by rw [Int.natCast_mul]; rfl
  rw [e1, e2]
  constructor
  · intro hlt
    have := qk_lt (a := y + 1) (w := u) (b := x + 1) (v := v) (by omega) (by omega) (by omega) (by omega) (by omega) (by omega) (by omega) (by omega) (by omega)
    omega
  · intro heq hlt
    have := qk_eq (a := y + 1) (w := u) (b := x + 1) (v := v) (by omega) (by omega) (by omega) (by omega) (by omega) (by omega) (by omega) (by omega) (by omega)
    omega
set_option maxHeartbeats 4000000 in
set_option maxRecDepth 100000 in
theorem lawChoiceWhole_nil (a : Option Addr) (c : Nat) (W : World) :
    Calls Try.prog 6 #[.slice a 0 c] W fun e w' => e = .returned (.bool true) ∧ Below W.heap.size W w' := by
  go_enter Try.func6, Try.ntmps6
  go_wp2_with (first
    | (go_at_call 17; refine (awake16 _).mono ?_; rintro e w1 ⟨rfl, hb1⟩)
    | (go_at_call 18; refine (own18_nil _ _ _).mono ?_; rintro e w2 ⟨v, rfl, rfl⟩))
  go_loopw [21] (fun i wr => i = .int .i64 0 ∧ wr = w2) (fun _ _ => 0)
  case atStart => exact ⟨rfl, rfl⟩
  case round =>
    obtain ⟨rfl, rfl⟩ := hrel
    have hL : Calls Try.prog 19 #[.slice none 0 0] wr fun e w' => ∃ r, e = .returned (.int .i64 r) ∧ LeastIs [] r ∧ Below wr.heap.size wr w' := cleast19 none 0 [] (by decide) (fun _ h => by cases h) wr (.inl rfl)
    go_wp2_with (go_at_call 19; refine hL.mono ?_; rintro e w3 ⟨r, rfl, hr, hb3⟩; obtain rfl := hr.1 rfl)
    go_ret
    exact ⟨rfl, hb1.trans (hb3.mono hb1.size)⟩
end Go.Proofs.Ytcmjcpgfnkhnoaa
