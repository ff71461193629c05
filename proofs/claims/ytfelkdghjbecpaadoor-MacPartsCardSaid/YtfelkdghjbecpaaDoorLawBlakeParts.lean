/- The walk of the statement BlakeParts. -/
import Derived.Test.YtfelkdghjbecpaaDoorLawBlakeSums
import Derived.Test.YtfelkdghjbecpaaDoorFew
import Derived.Stop.BytesEq
namespace Go.Proofs.YtfelkdghjbecpaaDoor
open Go.RowKit

theorem flat_take (ys : List ByteArray) (j : Nat) (h : j < ys.length) : flat (ys.take (j + 1)) = flat (ys.take j) ++ ys[j].data.toList := by
  unfold flat
  rw [List.take_succ_eq_append_getElem h, List.map_append, List.flatten_append]
  simp
theorem fewS_size (xs : List ByteArray) (n m : Nat) : ∀ y ∈ fewS xs n m, y.size ≤ m := by
  intro y hy
  simp only [fewS, List.mem_map] at hy
  obtain ⟨s, _, rfl⟩ := hy
  exact cutS_size s m
theorem fewS_length (xs : List ByteArray) (n m : Nat) : (fewS xs n m).length ≤ n := by simp [fewS]; omega
theorem flat_size (ys : List ByteArray) (m : Nat) (h : ∀ y ∈ ys, y.size ≤ m) : (flat ys).length ≤ ys.length * m := by
  induction ys with
  | nil => simp [flat]
  | cons y r ih =>
    have h1 := h y (List.mem_cons_self ..)
    have h2 := ih (fun z hz => h z (List.mem_cons_of_mem _ hz))
    have h3 : (flat (y :: r)).length = y.size + (flat r).length := by
      show (y.data.toList ++ flat r).length = _
      rw [List.length_append, ← Lib.size_eq]
    rw [h3, List.length_cons, Nat.add_mul]
    omega
/-- An array of bytes is equal to itself. -/
theorem hash_eq (l : List UInt8) (w : World) : (binOp .eql 24 (.agg (bytesCells 32 (blakeB l)).toArray) (.agg (bytesCells 32 (blakeB l)).toArray)).run Tryd.prog w = .ok (.bool true) w := by
  have hc : bytesCells 32 (blakeB l) = (blakeL l).map fun c => Value.int .u8 (c.toNat : Int) := by
    unfold bytesCells blakeL
    rw [List.map_map]
    apply List.map_congr_left
    intro i _
    have h1 : 0 ≤ blakeB l i ∧ blakeB l i < 256 := by unfold blakeB byteOf; omega
    simp only [Function.comp]
    rw [UInt8.toNat_ofNat']
    congr 1
    omega
  have h := run_eql_bytes (P := Tryd.prog) (w := w) 24 5 32 Tryd.underlying24 Tryd.underlying5 (fun _ => by kernel_rfl) (blakeL l) (blakeL l) (blakeL_length l) (blakeL_length l)
  rw [hc]
  have h2 : (blakeL l == blakeL l) = true := by simp
  rw [h2] at h
  exact h

set_option maxHeartbeats 1000000 in
theorem lawBlakeParts (a : Option Addr) (c : Nat) (xs : List ByteArray) (hlen : xs.length ≤ 9223372036854775807) (w : World) (ht : Tabs w) (hx : IsStrs w a c xs) :
    Calls Tryd.prog 4 #[.slice a xs.length c] w fun e w' => e = .returned (.bool true) ∧ Below w.heap.size w w' := by
  have HT := Lib.hid ht
  have HX := Lib.hid hx
  clear ht hx
  go_enter Tryd.func4, Tryd.ntmps4
  go_wp2_with fail
  refine (bawake10 w HT.out).mono ?_
  rintro e w1 ⟨rfl, hb1⟩
  have T1 : Hid (Tabs w1) := HT.out.below hb1
  have X1 : Hid (IsStrs w1 a c xs) := HX.out.below hb1
  clear HT HX
  go_wp2_with fail
  refine (few14 a c xs 12 70 (by decide) hlen w1 X1.out).mono ?_
  rintro e w2 ⟨a2, c2, rfl, hx2, hb2⟩
  obtain ⟨ys, hys⟩ : ∃ ys, ys = fewS xs 12 70 := ⟨_, rfl⟩
  have hyl : ys.length ≤ 12 := by rw [hys]; exact fewS_length xs 12 70
  have hyz : ∀ y ∈ ys, y.size ≤ 70 := by rw [hys]; exact fewS_size xs 12 70
  rw [← hys] at hx2 ⊢
  have hfl := flat_size ys 70 hyz
  have hflz : (flat ys).length ≤ 840 := Nat.le_trans hfl (Nat.mul_le_mul_right 70 hyl)
  have T2 : Hid (Tabs w2) := T1.out.below hb2
  have X2 := Lib.hid hx2
  have hbel : Below w.heap.size w w2 := hb1.trans (hb2.mono hb1.size)
  have HYZ := Lib.hid hyz
  clear hys hx2 hb1 hb2 T1 X1 hyz hfl
  go_wp2_with fail
  go_loop [3, 5, 12] (fun sv _ i => ∃ (j : Nat) (t : ByteArray), j ≤ ys.length ∧ i = .int .i64 (j : Int) ∧ sv = .string t ∧ Hid (t.data.toList = flat (ys.take j))) (fun _ _ i => ys.length - (intOf i).toNat)
  case atStart => exact ⟨0, ⟨#[]⟩, by omega, rfl, rfl, rfl⟩
  case round =>
    obtain ⟨j, t, hj, rfl, rfl, htl⟩ := hrel
    by_cases hlt : j < ys.length
    · have hcj : w2.cell? ⟨0, 0, none⟩ = w2.cell? ⟨0, 0, none⟩ := rfl
      obtain h0 | ⟨bk, o, rfl, hbk, hc, hcell⟩ := X2.out
      · subst h0; simp at hlt
      · have cj := hcell j ys[j] (by simp [hlt])
        have hft := flat_take ys j hlt
        have HFT := Lib.hid hft
        have hyj : ys[j].size ≤ 70 := HYZ.out _ (List.getElem_mem hlt)
        have htz : t.size ≤ 840 := by
          rw [Lib.size_eq, htl.out]
          have h1 : flat ys = flat (ys.take j) ++ flat (ys.drop j) := by
            unfold flat
            rw [← List.flatten_append, ← List.map_append, List.take_append_drop]
          have h2 := congrArg List.length h1
          rw [List.length_append] at h2
          omega
        clear hcell hft hcj
        generalize ys[j] = x at *
        have j1 : (j : Int) < ys.length := by omega
        go_wp2_with fail
        go_round
        case rel =>
          refine ⟨j + 1, t ++ x, hlt, by go_num, rfl, ?_⟩
          show (t ++ x : ByteArray).data.toList = _
          rw [HFT.out, ← htl.out]
          simp
        case measure => simp [intOf]; omega
    · have hjl : j = ys.length := by omega
      have htf : t.data.toList = flat ys := by rw [htl.out, hjl, List.take_length]
      have htz : t.size ≤ 840 := by rw [Lib.size_eq, htf]; exact hflz
      have HTF := Lib.hid htf
      clear htl htf
      have heq := hash_eq (flat ys)
      have heq0 := hash_eq []
      have HEQ := Lib.hid heq
      have HEQ0 := Lib.hid heq0
      clear heq heq0
      go_wp2_with fail
      refine (bsum12 a2 c2 ys w2 T2.out X2.out (by omega) (by omega)).mono ?_
      rintro e w3 ⟨rfl, hb3⟩
      have T3 : Hid (Tabs w3) := T2.out.below hb3
      have hbel3 : Below w.heap.size w w3 := hbel.trans (hb3.mono hbel.size)
      clear hb3 hbel T2 X2
      generalize hcs : bytesCells 32 (blakeB (flat ys)) = cs at *
      have HCS := Lib.hid hcs
      clear hcs
      go_wp2_with fail
      refine (bsum_one t w3 _ T3.out (by omega)).mono ?_
      rintro e w4 ⟨rfl, hb4⟩
      rw [HTF.out, HCS.out]
      have T4 : Hid (Tabs w4) := T3.out.below hb4
      have hbel4 : Below w.heap.size w w4 := hbel3.trans (hb4.mono hbel3.size)
      clear hb4 hbel3 T3
      have heq := HEQ.out
      go_wp2_with fail
      clear heq
      refine (bsum12 none 0 [] w4 T4.out (.inl rfl) (by simp) (by simp [flat])).mono ?_
      rintro e w5 ⟨rfl, hb5⟩
      rw [show flat [] = [] from rfl]
      have T5 : Hid (Tabs w5) := T4.out.below hb5
      have hbel5 : Below w.heap.size w w5 := hbel4.trans (hb5.mono hbel4.size)
      clear hb5 hbel4 T4
      generalize hcs0 : bytesCells 32 (blakeB []) = cs0 at *
      have HCS0 := Lib.hid hcs0
      clear hcs0
      go_wp2_with fail
      refine (bsum_one ⟨#[]⟩ w5 _ T5.out (by decide)).mono ?_
      rintro e w6 ⟨rfl, hb6⟩
      rw [show (⟨#[]⟩ : ByteArray).data.toList = [] from rfl, HCS0.out]
      have hbel6 : Below w.heap.size w w6 := hbel5.trans (hb6.mono hbel5.size)
      clear hb6 hbel5 T5
      have heq0 := HEQ0.out
      go_wp2_with fail
      go_ret
      exact ⟨rfl, hbel6⟩
end Go.Proofs.YtfelkdghjbecpaaDoor
