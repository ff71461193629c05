/- strconv: numDigits, formatBase10, setDigits. -/
import Derived.Lib.ItoaLen
import Derived.Lib.LaidTab
import Derived.WalkSmall
import Derived.Test.YtpjbdejgamajlabDoorG02
import Derived.Test.YtpjbdejgamajlabDoorShelfN
namespace Go.Proofs.YtpjbdejgamajlabDoor
open Go.RowKit Go.«Sort»

/-- What shortFloat gives is one pair, whatever the world. -/
theorem shf_all (m : Nat) (e : Int) (hm : 9223372036854775808 ≤ m) (hm1 : m < 18446744073709551616) (he : -1137 ≤ e) (he1 : e ≤ 960) : ∃ R : Int × Int, ∀ w, PmAt w →
    Calls Tryd.prog 103 #[.int .u64 (m : Int), .int .i64 e] w fun r w' => r = .returned (.tuple #[.int .u64 R.1, .int .i64 R.2]) ∧ Below w.heap.size w w' := by
  by_cases hA : m = 9223372036854775808
  · subst hA
    by_cases h1 : -1085 < e
    · exact ⟨_, fun w hw => shf53A e he he1 h1 w hw⟩
    · by_cases h2 : -1085 ≤ e
      · exact ⟨_, fun w hw => shf53B e he he1 ⟨h2, by omega⟩ w hw⟩
      · exact ⟨_, fun w hw => shf53C e he he1 (by omega) w hw⟩
  · by_cases h2 : -1085 ≤ e
    · exact ⟨_, fun w hw => shf53D m e (by omega) hm1 he he1 h2 w hw⟩
    · exact ⟨_, fun w hw => shf53E m e (by omega) hm1 he he1 (by omega) w hw⟩
def P10At (w : World) : Prop := Lib.TabIs Tryd.prog w "internal/strconv.uint64pow10" .u64 Lib.pow10Tab
/-- How many digits are written. -/
def nd0 (d : Nat) : Nat := if d = 0 then 0 else Lib.nDigits d
theorem nd0_le (d : Nat) (h : d < 18446744073709551616) : nd0 d ≤ 20 := by
  unfold nd0
  split
  · omega
  · exact Lib.nDigits_le20 d h
theorem nd0_lt (d : Nat) : d < 10 ^ nd0 d := by
  unfold nd0
  split
  · rename_i h; rw [h]; decide
  · exact Lib.lt_pow_nDigits d
theorem b2i66 (q : Bool) (w : World) : Calls Tryd.prog 129 #[.bool q] w fun e w' => e = .returned (.int .i64 (if q then 1 else 0)) ∧ w' = w := by
  cases q <;> (
  go_enter Tryd.func129, Tryd.ntmps129
  go_wp2
  go_ret
  exact ⟨rfl, rfl⟩)
theorem gP10 : Tryd.prog.globalNamed "internal/strconv.uint64pow10" = some 3 := by kernel_rfl
theorem numd47 (d : Nat) (hd : d < 18446744073709551616) (w : World) (h : P10At w) :
    Calls Tryd.prog 97 #[.int .u64 (d : Int)] w fun e w' => e = .returned (.int .i64 ((nd0 d : Nat) : Int)) ∧ w' = w := by
  by_cases h0 : d = 0
  · subst h0
    have c0 := Lib.TabIs.cell h gP10 0 (by decide)
    have c0' : w.cell? ⟨3, 0, none⟩ = some (.int .u64 1) := c0
    have hl := fun w => Tryd.bits_Len64 0 w (by decide) (by decide)
    have hl' : ∀ w, Calls Tryd.prog 94 #[.int .u64 0] w fun e w' => e = .returned (.int .i64 0) ∧ w' = w := hl
    clear c0 hl h
    show Calls Tryd.prog 97 #[.int .u64 0] w fun e w' => e = .returned (.int .i64 0) ∧ w' = w
    go_enter Tryd.func97, Tryd.ntmps97
    go_wp2_with (first
      | (go_at_call 94; with_reducible refine (calls_flop (hl' _)).mono ?_; rintro r w' ⟨rfl, rfl⟩)
      | (go_at_call 98; with_reducible refine (calls_flop (l10_48 _ (by omega) (by omega) _)).mono ?_; rintro r w' ⟨rfl, rfl⟩)
      | (go_at_call 129; with_reducible refine (calls_flop (b2i66 _ _)).mono ?_; rintro r w' ⟨rfl, rfl⟩))
    go_ret
    exact ⟨rfl, rfl⟩
  · have e : nd0 d = Lib.nDigits d := if_neg h0
    rw [e]
    exact Tryd.internal_strconv_numDigits d (by omega) hd w h
/-- A row of bytes. -/
def BytesR (w : World) (b n : Nat) (g : Nat → UInt8) : Prop := ∀ j, j < n → w.cell? ⟨b, j, none⟩ = some (.int .u8 ((g j).toNat : Int)) ∧ w.frozen? ⟨b, j, none⟩ = false
theorem fmt65 (b c d : Nat) (hd : d < 18446744073709551616) (w : World) (h : BytesR w b (nd0 d) (fun _ => 0)) :
    Calls Tryd.prog 128 #[.slice (some ⟨b, 0, none⟩) (nd0 d) c, .int .u64 (d : Int)] w fun e w' => e = .returned (.tuple #[]) ∧ BytesR w' b (nd0 d) (fun t => Lib.dg d (nd0 d - 1 - t)) ∧ (∀ B, B ≤ b → Below B w w') := by
  have hH : «Sort».Holds (fun (b : UInt8) => Value.int .u8 (b.toNat : Int)) w b 0 (Array.replicate (nd0 d) (0 : UInt8)) := by
    intro j hj
    rw [Array.size_replicate] at hj
    obtain ⟨h1, h2⟩ := h j hj
    rw [Nat.zero_add]
    refine ⟨?_, h2⟩
    rw [h1, getElem!_pos _ j (by simpa using hj), Array.getElem_replicate]
  have hf := Tryd.internal_strconv_formatBase10 b 0 c d (Array.replicate (nd0 d) (0 : UInt8)) w hH (by rw [Array.size_replicate]; exact nd0_lt d) hd (by rw [Array.size_replicate]; have := nd0_le d hd; omega)
  rw [Array.size_replicate] at hf
  refine hf.mono ?_
  rintro e w' ⟨rfl, n, v', dk, rfl, hF⟩
  have hsz : dk.size = (Array.replicate (nd0 d) (0 : UInt8)).size := by rw [hF.size, Array.size_replicate]
  have hh := holds_putRow (fun (b : UInt8) => Value.int .u8 (b.toNat : Int)) w b 0 _ dk hH hsz
  refine ⟨rfl, fun j hj => ?_, fun B hB => ?_⟩
  · obtain ⟨h1, h2⟩ := hh j (by rw [hF.size]; exact hj)
    rw [Nat.zero_add] at h1 h2
    rw [hF.done j (Nat.zero_le _) hj] at h1
    exact ⟨h1, h2⟩
  · refine below_drewN ?_ n
    exact ⟨rfl, rfl, rfl, by simp, fun k hk => by
      show (mapBlock w b _).heap[k]? = _
      unfold mapBlock
      simp [Array.getElem?_modify, show b ≠ k by omega]⟩
/-- How many digits remain without the zeros at the end. -/
def trimZ (d nd : Nat) : Nat → Nat
  | 0 => 0
  | k + 1 => if Lib.dg d (nd - 1 - k) = 48 then trimZ d nd k else k + 1
theorem trimZ_le (d nd : Nat) : ∀ k, trimZ d nd k ≤ k
  | 0 => Nat.le_refl _
  | k + 1 => by
    unfold trimZ
    split
    · have := trimZ_le d nd k; omega
    · omega
def nzF (d : Nat) : Nat := trimZ d (nd0 d) (nd0 d)
set_option maxHeartbeats 1000000 in
set_option maxRecDepth 100000 in
theorem setd46 (b d : Nat) (p : Int) (hp : -3000 ≤ p ∧ p ≤ 3000) (hd : d < 18446744073709551616) (w : World) (h : BytesR w b 32 (fun _ => 0)) :
    Calls Tryd.prog 96 #[.slice (some ⟨b, 0, none⟩) 32 32, .int .u64 (d : Int), .int .i64 p, .int .i64 ((nd0 d : Nat) : Int)] w fun e w' =>
      e = .returned (.tuple #[.int .i64 ((nd0 d : Nat) + p), .int .i64 ((nzF d : Nat) : Int)]) ∧ BytesR w' b (nd0 d) (fun t => Lib.dg d (nd0 d - 1 - t)) ∧ (∀ B, B ≤ b → Below B w w') := by
  obtain ⟨p0, p1⟩ := hp
  have hn := nd0_le d hd
  have HF := Lib.hid (fmt65 b 32 d hd w (fun j hj => h j (by omega)))
  have hz : Hid (trimZ d (nd0 d) (nd0 d) = nzF d) := rfl
  generalize nzF d = z at *
  generalize nd0 d = n at *
  clear h hd
  go_enter Tryd.func96, Tryd.ntmps96
  go_wp2_with fail
  refine HF.out.mono ?_
  rintro e w1 ⟨rfl, hr, hbel⟩
  have HR := Lib.hid hr
  have HB := Lib.hid hbel
  clear hr hbel HF
  go_wp2_with fail
  go_loopw [3] (fun kv wr => ∃ k : Nat, k ≤ n ∧ kv = .int .i64 (k : Int) ∧ Hid (trimZ d n k = z) ∧ wr = w1) (fun kv _ => (intOf kv).toNat)
  case atStart => exact ⟨n, Nat.le_refl _, rfl, hz, rfl⟩
  case round =>
    clear hz
    obtain ⟨k, hk, rfl, hz, rfl⟩ := hrel
    match k, hk, hz with
    | 0, hk, hz =>
      have e0 : z = 0 := hz.out.symm
      subst e0
      go_wp2_with fail
      go_ret2
      exact ⟨rfl, HR.out, HB.out⟩
    | k + 1, hk, hz =>
      obtain ⟨ck, _⟩ := HR.out k (by omega)
      simp only at ck
      have hzz := hz.out
      unfold trimZ at hzz
      by_cases hq : Lib.dg d (n - 1 - k) = 48
      · rw [if_pos hq] at hzz
        have hz2 := Lib.hid hzz
        rw [hq] at ck
        have ck : wr.cell? ⟨b, k, none⟩ = some (.int .u8 48) := ck
        clear hzz hz hq
        go_wp2_with fail
        go_roundw
        case rel => exact ⟨k, by omega, by go_num, hz2, trivial⟩
        case measure => simp [intOf] <;> omega
      · rw [if_neg hq] at hzz
        have hne : (((Lib.dg d (n - 1 - k)).toNat : Int) == 48) = false := by
          rw [beq_eq_false_iff_ne]
          intro e
          apply hq
          apply UInt8.toNat_inj.1
          show (Lib.dg d (n - 1 - k)).toNat = 48
          omega
        subst hzz
        clear hz hq
        generalize Lib.dg d (n - 1 - k) = q at *
        go_wp2_with fail
        go_ret2
        exact ⟨by simp, HR.out, HB.out⟩
end Go.Proofs.YtpjbdejgamajlabDoor

