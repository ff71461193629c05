/- The reference of octet: Value, Lower. -/
import Derived.Test.YtkajfocjpaemgaaDoorOctF
import Derived.Test.YtkajfocjpaemgaaDoorOctD
import Derived.Laws.AppendOwn
import Derived.Laws.BytesArg
import Derived.Deep.MidRow
namespace Go.Proofs.YtkajfocjpaemgaaDoor
open Go.RowKit

theorem val_cases (c : UInt8) (q : Bool) (hq : isVal c = q) : (((c.toNat : Int) != 9) = false ∧ q = true) ∨ (((c.toNat : Int) != 9) = true ∧ (c.toNat : Int) < 32 ∧ q = false) ∨ (((c.toNat : Int) != 9) = true ∧ ¬ (c.toNat : Int) < 32 ∧ (c.toNat : Int) > 126 ∧ q = false) ∨ (((c.toNat : Int) != 9) = true ∧ ¬ (c.toNat : Int) < 32 ∧ ¬ (c.toNat : Int) > 126 ∧ q = true) := by
  subst hq; revert c; apply all256; decide +kernel
set_option maxRecDepth 100000 in
set_option maxHeartbeats 1000000 in
theorem value19 (s : ByteArray) (hs : s.size ≤ 4611686018427387904) (R : Bool) (hR : valB s.data.toList = R) (w : World) :
    Calls Tryd.prog 37 #[.string s] w fun e w' => e = .returned (.bool R) ∧ w = w' := by
  rw [valB_eq] at hR
  have HR := Lib.hid hR
  clear hR
  go_enter Tryd.func37, Tryd.ntmps37
  go_wp2_with fail
  go_loop [3] (fun i => ∃ j : Nat, j ≤ s.size ∧ i = .int .i64 j ∧ Hid ((s.data.toList.take j).all isVal = true)) (fun i => s.size - (intOf i).toNat)
  case atStart => exact ⟨0, Nat.zero_le _, rfl, by simp [Hid]⟩
  case round =>
    obtain ⟨j, hj, rfl, hr⟩ := hrel
    by_cases hlt : j < s.size
    · obtain ⟨q, hq⟩ : ∃ q, isVal s[j] = q := ⟨_, rfl⟩
      cases q
      · have hno := all_no s isVal j hlt hq
        have HN : Hid (R = false) := by have e := HR.out; rw [hno, Bool.false_and] at e; exact e.symm
        have hc := val_cases s[j] false hq
        clear hno hq
        rcases hc with ⟨_, h⟩ | ⟨h1, h2, _⟩ | ⟨h1, h2, h3, _⟩ | ⟨_, _, _, h⟩
        · cases h
        · go_wp2_with fail
          go_ret
          exact ⟨by rw [HN.out]; rfl, rfl⟩
        · go_wp2_with fail
          go_ret
          exact ⟨by rw [HN.out]; rfl, rfl⟩
        · cases h
      · have hst := Lib.hid (all_step s isVal j hlt hr.out hq)
        have hc := val_cases s[j] true hq
        clear hq
        rcases hc with ⟨h1, _⟩ | ⟨_, _, h⟩ | ⟨_, _, _, h⟩ | ⟨h1, h2, h3, _⟩
        · go_wp2_with fail
          go_round
          case rel => exact ⟨j + 1, by omega, by go_num, hst⟩
          case measure => simp [intOf]; omega
        · cases h
        · cases h
        · go_wp2_with fail
          go_round
          case rel => exact ⟨j + 1, by omega, by go_num, hst⟩
          case measure => simp [intOf]; omega
    · have hf := all_full s isVal j hlt hr.out
      by_cases h0 : 0 < s.size
      · have he1 := emp_false s h0
        have hlt : s.size - 1 < s.size := by omega
        obtain ⟨q1, h1⟩ : ∃ q, isBlk s[0] = q := ⟨_, rfl⟩
        obtain ⟨q2, h2⟩ : ∃ q, isBlk s[s.size - 1] = q := ⟨_, rfl⟩
        have HN : Hid (R = (!q1 && !q2)) := by
          have e := HR.out
          have hne : s.data.toList ≠ [] := fun e => by have := Lib.size_eq s; rw [e, List.length_nil] at this; omega
          rw [hf, list_head s h0, list_last s hlt, decide_eq_false hne] at e
          simp only [Bool.true_and, Bool.false_or, Option.any_some, h1, h2] at e
          rw [← e]
          cases q1 <;> cases q2 <;> rfl
        have C1 := Lib.hid (blank62 s[0] q1 h1)
        have C2 := Lib.hid (blank62 s[s.size - 1] q2 h2)
        have k1 : (0 : Int) ≤ (s.size : Int) - 1 := by omega
        have k2 : ((s.size : Int) - 1).toNat = s.size - 1 := by omega
        clear h1 h2 hf
        cases q1
        · go_wp2_with fail
          refine (C1.out _).mono ?_
          rintro e w' ⟨rfl, rfl⟩
          go_wp2_with fail
          refine (C2.out _).mono ?_
          rintro e w' ⟨rfl, rfl⟩
          cases q2
          all_goals
            go_wp2_with fail
            go_ret
            exact ⟨by rw [HN.out]; rfl, rfl⟩
        · go_wp2_with fail
          refine (C1.out _).mono ?_
          rintro e w' ⟨rfl, rfl⟩
          go_wp2_with fail
          go_ret
          exact ⟨by rw [HN.out]; rfl, rfl⟩
      · have he1 := emp_true s h0
        have HN : Hid (R = true) := by
          have e := HR.out
          have hnil : s.data.toList = [] := List.eq_nil_of_length_eq_zero (by rw [← Lib.size_eq]; omega)
          rw [hnil] at e
          exact e.symm
        clear hf
        go_wp2_with fail
        go_ret
        exact ⟨by rw [HN.out]; rfl, rfl⟩

theorem infoU8 : (Tryd.prog.info? 5).map (fun i => (i.zero, i.size, i.bytes)) = some (some (.int .u8 0), 1, 1) := by kernel_rfl
def byteVals (l : List UInt8) : List Value := l.map fun c => Value.int .u8 (c.toNat : Int)
theorem byteVals_length (l : List UInt8) : (byteVals l).length = l.length := by simp [byteVals]
/-- A slice that owns these bytes reads back as the string. -/
theorem own_string (w : World) (base : Nat) (v : Value) (l : List UInt8) (h : w.ownsRow base 5 1 v l.length (byteVals l)) :
    (convert 89 9 v).run Tryd.prog w = .ok (.string ⟨l.toArray⟩) w := by
  obtain ⟨_, ⟨rfl, h0⟩ | ⟨g, cap, cur, rfl, _, hg, hcap, _, hcs, htk⟩⟩ := h
  · obtain rfl : l = [] := List.eq_nil_of_length_eq_zero h0
    exact run_convert_bytes_back w 89 9 5 ⟨0, 0, none⟩ 0 [] Tryd.underlying89 Tryd.underlying5 Tryd.underlying9 (fun j hj => by simp at hj) |> fun _ => by
      rw [run_convert_bytes_string w _ _ 5 none 0 0 Tryd.underlying89 Tryd.underlying5 Tryd.underlying9]
      rfl
  · refine run_convert_bytes_back w 89 9 5 ⟨g, 0, none⟩ cap l Tryd.underlying89 Tryd.underlying5 Tryd.underlying9 fun j hj => ?_
    have hx : cur[j]? = some (.int .u8 (l[j].toNat : Int)) := by
      have h1 : (byteVals l)[j]? = some (.int .u8 (l[j].toNat : Int)) := by simp [byteVals, hj]
      rw [← htk, List.getElem?_take, if_pos (by omega)] at h1
      simpa using h1
    unfold Addr.add
    by_cases e0 : j = 0
    · subst e0; simp [World.cell?, hg, hx]
    · simp [e0, World.cell?, hg, hx]
theorem below_alloc (w : World) (o : Obj) : Below w.heap.size w (w.alloc o) := (Below.refl _ _).alloc (Nat.le_refl _) _
/-- The small letters made so far. -/
def rowLow (s : ByteArray) (j : Nat) : List Value := byteVals ((s.data.toList.take j).map lowC)
theorem one_cell (k : IntKind) (x : Int) : ∀ u ∈ [Value.int k x], u.oneCell' = true := by intro u hu; simp at hu; subst hu; rfl
theorem byteVals_snoc (l : List UInt8) (c : UInt8) : byteVals l ++ [Value.int .u8 (c.toNat : Int)] = byteVals (l ++ [c]) := by simp [byteVals]
theorem cell_one (w : World) (v : Value) (t : TypeId) : ∀ (j : Nat) u, [v][j]? = some u → (w.alloc (.cells #[v] t)).cell? ((⟨w.heap.size, 0, none⟩ : Addr).add j) = some u := by
  intro i u hu
  match i, hu with
  | 0, hu => obtain rfl : v = u := Option.some.inj hu; rw [Addr.add_mid]; simp
  | i + 1, hu => simp at hu

end Go.Proofs.YtkajfocjpaemgaaDoor
