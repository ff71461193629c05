/- The reference's Name. -/
import Derived.Test.YtllmlngfmcbaaaaGreatDoorTA
namespace Go.Proofs.YtllmlngfmcbaaaaGreatDoor
open Go.RowKit

def NameTo (l : List UInt8) : Prop := l.all isNam = true ∧ (l ≠ [] → l.head?.any isLet = true)
theorem let_nam {c : UInt8} (h : isLet c = true) : isNam c = true := by unfold isNam; rw [h]; rfl
theorem take_ne (s : ByteArray) (j : Nat) (h : 0 < j) (hj : j < s.size) : s.data.toList.take (j + 1) ≠ [] ∧ s.data.toList.take j ≠ [] ∧ (s.data.toList.take (j + 1)).head? = (s.data.toList.take j).head? := by
  have hz := Lib.size_eq s
  cases hl : s.data.toList with
  | nil => rw [hl, List.length_nil] at hz; omega
  | cons a r =>
    obtain ⟨k, rfl⟩ : ∃ k, j = k + 1 := ⟨j - 1, by omega⟩
    simp
theorem nt_step0 (s : ByteArray) (hj : 0 < s.size) (h : isLet s[0] = true) : NameTo (s.data.toList.take 1) := by
  rw [take_snocT s 0 hj]
  simp [NameTo, h, let_nam h]
theorem nt_step (s : ByteArray) (j : Nat) (h0 : 0 < j) (hj : j < s.size) (hn : NameTo (s.data.toList.take j)) (h : isNam s[j] = true) : NameTo (s.data.toList.take (j + 1)) := by
  obtain ⟨h1, h2, h3⟩ := take_ne s j h0 hj
  refine ⟨all_stepT s isNam j hj hn.1 h, fun _ => ?_⟩
  rw [h3]; exact hn.2 h2
theorem nt_bad0 (s : ByteArray) (hj : 0 < s.size) (h : isLet s[0] = false) : nameB s.data.toList = false := by
  unfold nameB
  rw [head_let s hj, h]; simp
theorem nt_bad (s : ByteArray) (j : Nat) (hj : j < s.size) (h : isNam s[j] = false) : nameB s.data.toList = false := by
  unfold nameB
  rw [all_noT s isNam j hj h]; simp
theorem nt_full (s : ByteArray) (h : NameTo (s.data.toList.take s.size)) : nameB s.data.toList = (decide (1 ≤ s.size) && decide (s.size ≤ 32)) := by
  have hz := Lib.size_eq s
  rw [List.take_of_length_le (by omega)] at h
  unfold nameB
  rw [h.1, ← hz]
  by_cases h1 : 1 ≤ s.size
  · rw [h.2 (fun e => by rw [e, List.length_nil] at hz; omega)]; simp
  · rw [decide_eq_false h1]; simp
set_option maxRecDepth 100000 in
set_option maxHeartbeats 4000000 in
theorem rname14 (s : ByteArray) (hs : s.size ≤ 4611686018427387904) (w : World) :
    Calls Tryz.prog 14 #[.string s] w fun e w' => e = .returned (.bool (nameB s.data.toList)) ∧ Below w.heap.size w w' := by
  obtain ⟨R, hR⟩ : ∃ R, R = nameB s.data.toList := ⟨_, rfl⟩
  rw [← hR]
  have HR := Lib.hid hR
  clear hR
  go_enter Tryz.func14, Tryz.ntmps14
  go_wp2_with fail
  go_loopw [3] (fun i wr => ∃ j : Nat, j ≤ s.size ∧ i = .int .i64 (j : Int) ∧ Hid (NameTo (s.data.toList.take j)) ∧ Below w.heap.size w wr) (fun i _ => s.size - (intOf i).toNat)
  case atStart => exact ⟨0, Nat.zero_le _, rfl, ⟨rfl, fun h => absurd rfl h⟩, Below.refl _ _⟩
  case round =>
    obtain ⟨j, hj, rfl, hr, hb⟩ := hrel
    by_cases hlt : j < s.size
    · have hc := byte_ltT s[j]
      have jl : (j : Int) < s.size := by omega
      by_cases h1 : (97 : Int) ≤ s[j].toNat
      · by_cases h2 : (s[j].toNat : Int) ≤ 122
        · have hL : isLet s[j] = true := by unfold isLet; simp; omega
          have hst : Hid (NameTo (s.data.toList.take (j + 1))) := by
            by_cases h0 : 0 < j
            · exact nt_step s j h0 hlt hr.out (let_nam hL)
            · obtain rfl : j = 0 := by omega
              exact nt_step0 s hlt hL
          clear hL
          go_wp2_with fail
          go_roundw
          case rel => exact ⟨j + 1, hlt, by go_num, hst, hb⟩
          case measure => simp [intOf]; omega
        · have hL : isLet s[j] = false := by unfold isLet; simp; omega
          have hN : isNam s[j] = false := by unfold isNam; rw [hL]; simp; omega
          have hno : Hid (nameB s.data.toList = false) := nt_bad s j hlt hN
          have e2 : ((s[j].toNat : Int) != 45) = true := by rw [bne_iff_ne]; omega
          clear hL hN
          by_cases h0 : j = 0
          · have e1 : ((j : Int) == 0) = true := by rw [beq_iff_eq]; omega
            clear h0
            go_wp2_with fail
            go_ret
            exact ⟨by rw [HR.out, hno.out]; rfl, hb⟩
          · have e1 : ((j : Int) == 0) = false := by rw [beq_eq_false_iff_ne]; omega
            clear h0
            go_wp2_with fail
            go_ret
            exact ⟨by rw [HR.out, hno.out]; rfl, hb⟩
      · have hL : isLet s[j] = false := by unfold isLet; simp; omega
        by_cases h0 : j = 0
        · have e1 : ((j : Int) == 0) = true := by rw [beq_iff_eq]; omega
          have hno : Hid (nameB s.data.toList = false) := by
            subst h0
            exact nt_bad0 s hlt hL
          clear h0 hL
          go_wp2_with fail
          go_ret
          exact ⟨by rw [HR.out, hno.out]; rfl, hb⟩
        · have e1 : ((j : Int) == 0) = false := by rw [beq_eq_false_iff_ne]; omega
          by_cases h45 : s[j].toNat = 45
          · have e2 : ((s[j].toNat : Int) != 45) = false := by rw [bne_eq_false_iff_eq]; omega
            have hN : isNam s[j] = true := by unfold isNam; simp [h45]
            have hst : Hid (NameTo (s.data.toList.take (j + 1))) := nt_step s j (by omega) hlt hr.out hN
            clear hL hN h45 h0
            go_wp2_with fail
            go_roundw
            case rel => exact ⟨j + 1, hlt, by go_num, hst, hb⟩
            case measure => simp [intOf]; omega
          · have e2 : ((s[j].toNat : Int) != 45) = true := by rw [bne_iff_ne]; omega
            by_cases h48 : (s[j].toNat : Int) < 48
            · have hN : isNam s[j] = false := by unfold isNam; rw [hL]; simp; omega
              have hno : Hid (nameB s.data.toList = false) := nt_bad s j hlt hN
              clear hL hN h45 h0
              go_wp2_with fail
              go_ret
              exact ⟨by rw [HR.out, hno.out]; rfl, hb⟩
            · by_cases h57 : (57 : Int) < s[j].toNat
              · have hN : isNam s[j] = false := by unfold isNam; rw [hL]; simp; omega
                have hno : Hid (nameB s.data.toList = false) := nt_bad s j hlt hN
                clear hL hN h45 h0
                go_wp2_with fail
                go_ret
                exact ⟨by rw [HR.out, hno.out]; rfl, hb⟩
              · have hN : isNam s[j] = true := by unfold isNam; rw [hL]; simp; omega
                have hst : Hid (NameTo (s.data.toList.take (j + 1))) := nt_step s j (by omega) hlt hr.out hN
                clear hL hN h45 h0
                go_wp2_with fail
                go_roundw
                case rel => exact ⟨j + 1, hlt, by go_num, hst, hb⟩
                case measure => simp [intOf]; omega
    · obtain rfl : j = s.size := by omega
      have hf := Lib.hid (nt_full s hr.out)
      by_cases h1 : 1 ≤ s.size
      · have j1 : (1 : Int) ≤ s.size := by omega
        by_cases h2 : s.size ≤ 32
        · have j2 : (s.size : Int) ≤ 32 := by omega
          have hv : Hid (R = true) := by show R = true; rw [HR.out, hf.out, decide_eq_true h1, decide_eq_true h2]; rfl
          go_wp2_with fail
          go_ret
          exact ⟨by rw [hv.out]; rfl, hb⟩
        · have j2 : decide ((s.size : Int) ≤ 32) = false := decide_eq_false (by omega)
          have hv : Hid (R = false) := by show R = false; rw [HR.out, hf.out, decide_eq_false h2]; simp
          go_wp2_with fail
          go_ret
          exact ⟨by rw [hv.out]; rfl, hb⟩
      · have j1 : decide ((1 : Int) ≤ s.size) = false := decide_eq_false (by omega)
        have hv : Hid (R = false) := by show R = false; rw [HR.out, hf.out, decide_eq_false h1]; simp
        go_wp2_with fail
        go_ret
        exact ⟨by rw [hv.out]; rfl, hb⟩
end Go.Proofs.YtllmlngfmcbaaaaGreatDoor
