/- stewardlaw01.Cut and awake. -/
import Derived.Test.YtpmkcmkohobmfaaDoorSum
import Derived.Test.YtpmkcmkohobmfaaDoorBelow
namespace Go.Proofs.YtpmkcmkohobmfaaDoor
open Go.RowKit

/-- The first bytes. -/
def cutS (s : ByteArray) (n : Nat) : ByteArray := ⟨(s.data.toList.take n).toArray⟩
theorem cutS_all (s : ByteArray) (n : Nat) (h : s.size ≤ n) : cutS s n = s := by
  unfold cutS
  rw [List.take_of_length_le (by rw [← Lib.size_eq]; exact h)]
theorem cutS_size (s : ByteArray) (n : Nat) : (cutS s n).size ≤ n := by
  rw [Lib.size_eq]; simp [cutS]; omega
theorem cutS_data (s : ByteArray) (n : Nat) : (cutS s n).data.toList = s.data.toList.take n := rfl

set_option maxHeartbeats 400000 in
theorem cut11 (s : ByteArray) (n : Nat) (w : World) :
    Calls Tryd.prog 11 #[.string s, .int .i64 n] w fun e w' => e = .returned (.string (cutS s n)) ∧ w = w' := by
  by_cases h : s.size ≤ n
  · rw [cutS_all s n h]
    have h' : (s.size : Int) ≤ n := by omega
    go_enter Tryd.func11, Tryd.ntmps11
    go_wp2_with fail
    go_ret
    exact ⟨rfl, rfl⟩
  · have he : s.extract 0 n = cutS s n := by rw [extract_list, List.drop_zero]; rfl
    have h' : (n : Int) < s.size := by omega
    have h2 : (n : Int) ≤ s.size := by omega
    go_enter Tryd.func11, Tryd.ntmps11
    go_wp2_with fail
    go_ret
    exact ⟨rfl, rfl⟩

/-- A string of one byte. -/
theorem one_byte (w : World) (T : TypeId) (m : Nat) :
    (convert 29 9 (.slice (some ⟨w.heap.size, 0, none⟩) 1 1)).run Tryd.prog (w.alloc (.cells #[.int .u8 (m : Int)] T)) = .ok (.string ⟨#[UInt8.ofNat m]⟩) (w.alloc (.cells #[.int .u8 (m : Int)] T)) := by
  have := run_convert_bytes_arg (P := Tryd.prog) (w.alloc (.cells #[.int .u8 (m : Int)] T)) 29 5 Tryd.underlying29 Tryd.underlying5 w.heap.size 0 1 1 [(m : Int)] rfl (by
    intro i hi
    obtain rfl : i = 0 := by omega
    simp) 9 Tryd.underlying9
  rw [this]
  rfl
theorem sum_one (k : Nat → UInt8) (s : ByteArray) (w : World) (T : TypeId) (hi : Ini w) (hs : s.size ≤ 140737488355328) :
    Calls Tryd.prog 12 #[keyVal k, .slice (some ⟨w.heap.size, 0, none⟩) 1 1] (w.alloc (.cells #[.string s] T)) fun e w' => e = .returned (.int .u64 (sip k s.data.toList)) ∧ Below w.heap.size w w' := by
  have hb : Below w.heap.size w (w.alloc (.cells #[.string s] T)) := (Below.refl _ _).alloc (Nat.le_refl _) _
  have hf : flat [s] = s.data.toList := by simp [flat]
  have := sum12 k (some ⟨w.heap.size, 0, none⟩) 1 [s] (w.alloc (.cells #[.string s] T)) (hi.below hb)
    (.inr ⟨w.heap.size, 0, rfl, by simp, by simp, fun j x hx => by
      match j, hx with
      | 0, hx => obtain rfl : s = x := Option.some.inj hx; simp
      | j + 1, hx => simp at hx⟩) (by simp) (by rw [hf, ← Lib.size_eq]; exact hs)
  refine this.mono fun e w' ⟨he, hw⟩ => ⟨by rw [he, hf], hb.trans (hw.mono (by simp))⟩
theorem below_awake (w : World) :
    Calls Tryd.prog 15 #[.int .u64 9223372036854775808, .int .i64 10] w fun e w' => e = .returned (.int .i64 5) ∧ w = w' :=
  below15 9223372036854775808 10 (by decide) (by decide) (by decide) w
theorem awake_sip : sip (fun i => UInt8.ofNat i) ((List.range 15).map UInt8.ofNat) = 11613035633349379557 := by decide +kernel

/-- The first bytes of a block are a key's, and may be written. -/
def KeyTo (w : World) (b j : Nat) : Prop := ∀ i, i < 16 → w.cell? ⟨b, i, none⟩ = some (.int .u8 (if i < j then (i : Int) else 0)) ∧ w.frozen? ⟨b, i, none⟩ = false

theorem KeyTo.step {w : World} {b j : Nat} (h : KeyTo w b j) (hj : j < 16) : KeyTo (w.setCell ⟨b, j, none⟩ (.int .u8 (j : Int))) b (j + 1) := by
  intro i hi
  obtain ⟨hc, hf⟩ := h i hi
  refine ⟨?_, by rw [World.frozen?_setCell]; exact hf⟩
  by_cases e : i = j
  · subst e
    rw [World.cell?_setCell_same _ _ _ hc, if_pos (by omega)]
  · rw [World.cell?_setCell_other _ _ _ _ (by simp <;> omega), hc]
    by_cases h1 : i < j
    · rw [if_pos h1, if_pos (by omega)]
    · rw [if_neg h1, if_neg (by omega)]
theorem KeyTo.key {w : World} {b : Nat} (h : KeyTo w b 16) : IsKey w b (fun i => UInt8.ofNat i) := by
  intro i hi
  rw [(h i hi).1, if_pos hi]
  have : (UInt8.ofNat i).toNat = i := by rw [UInt8.toNat_ofNat']; exact Nat.mod_eq_of_lt (Nat.lt_of_lt_of_le hi (by decide))
  rw [this]
theorem IsKey.below {w w' : World} {b : Nat} {k : Nat → UInt8} (h : IsKey w b k) (hb : Below w.heap.size w w') (hlt : b < w.heap.size) : IsKey w' b k := by
  obtain ⟨hc, _⟩ := bcell hb
  exact fun i hi => by rw [hc _ _ hlt]; exact h i hi

set_option maxHeartbeats 400000 in
theorem awake10 (w : World) (hi : Ini w) :
    Calls Tryd.prog 10 #[] w fun e w' => e = .returned (.bool true) ∧ Below w.heap.size w w' := by
  have HI := Lib.hid hi
  clear hi
  go_enter Tryd.func10, Tryd.ntmps10
  go_wp2_with fail
  generalize hW : World.alloc w _ = W
  have hb : Below w.heap.size w W := by subst hW; exact ((Below.refl _ _).alloc (Nat.le_refl _) _)
  have hz : w.heap.size < W.heap.size := by subst hW; simp
  have hk : KeyTo W w.heap.size 0 := by
    subst hW
    intro i hi
    have h16 : i = 0 ∨ i = 1 ∨ i = 2 ∨ i = 3 ∨ i = 4 ∨ i = 5 ∨ i = 6 ∨ i = 7 ∨ i = 8 ∨ i = 9 ∨ i = 10 ∨ i = 11 ∨ i = 12 ∨ i = 13 ∨ i = 14 ∨ i = 15 := by omega
    rcases h16 with rfl | rfl | rfl | rfl | rfl | rfl | rfl | rfl | rfl | rfl | rfl | rfl | rfl | rfl | rfl | rfl <;> simp
  have HK := Lib.hid hk
  clear hW hk
  go_loopw [3, 5] (fun _ i wr => ∃ j : Nat, j ≤ 16 ∧ i = .int .i64 (j : Int) ∧ w.heap.size < wr.heap.size ∧ Hid (KeyTo wr w.heap.size j) ∧ Below w.heap.size w wr)
    (fun _ i _ => 16 - (intOf i).toNat)
  case atStart => exact ⟨0, by decide, rfl, hz, HK, hb⟩
  case round =>
    clear hz HK hb
    obtain ⟨j, hj, rfl, hz, HK, hb⟩ := hrel
    by_cases hlt : j < 16
    · have cj := (HK.out j hlt).1
      have fj := (HK.out j hlt).2
      go_wp2_with fail
      go_roundw
      case rel =>
        refine ⟨j + 1, hlt, by go_num, by simp; exact hz, ?_, hb.setCell (Nat.le_refl _) _⟩
        exact HK.out.step hlt
      case measure => simp [intOf]; omega
    · obtain rfl : j = 16 := by omega
      have hkey := HK.out.key
      have HKEY := Lib.hid hkey
      clear hkey HK
      go_wp2_with fail
      generalize Value.int .i64 ((16 : Nat) : Int) = v16
      obtain ⟨wo, rfl⟩ : ∃ wo : World, wo = wr := ⟨_, rfl⟩
      go_loopw [2, 13] (fun sv i wq => ∃ (m : Nat) (t : ByteArray), m ≤ 15 ∧ i = .int .i64 (m : Int) ∧ sv = .string t ∧ Hid (t.data.toList = (List.range m).map UInt8.ofNat) ∧ Below wo.heap.size wo wq)
        (fun _ i _ => 15 - (intOf i).toNat)
      case atStart => exact ⟨0, ⟨#[]⟩, by decide, rfl, rfl, rfl, Below.refl _ _⟩
      case round =>
        obtain ⟨m, t, hm, rfl, rfl, ht, hbq⟩ := hrel
        by_cases hlt : m < 15
        · have hcv := fun T => one_byte wr T m
          have htz : t.size ≤ 15 := by rw [Lib.size_eq, ht.out]; simp; omega
          go_wp2_with fail
          go_roundw
          case rel =>
            refine ⟨m + 1, t ++ ⟨#[UInt8.ofNat m]⟩, hlt, by go_num, rfl, ?_, hbq.alloc hbq.size _⟩
            show (t ++ ⟨#[UInt8.ofNat m]⟩ : ByteArray).data.toList = _
            rw [List.range_succ, List.map_append, ← ht.out]
            simp
          case measure => simp [intOf]; omega
        · obtain rfl : m = 15 := by omega
          have hkey : IsKey wr w.heap.size fun i => UInt8.ofNat i := HKEY.out.below hbq hz
          have hbel : Below w.heap.size w wr := hb.trans (hbq.mono (Nat.le_of_lt hz))
          have hz1 := Nat.lt_of_lt_of_le hz hbq.size
          have hini : Ini wr := HI.out.below hbel
          obtain ⟨kk, hkk⟩ : ∃ kk : Nat → UInt8, kk = fun i => UInt8.ofNat i := ⟨_, rfl⟩
          rw [← hkk] at hkey
          have hsip : sip kk t.data.toList = 11613035633349379557 := by
            rw [ht.out, hkk]
            exact awake_sip
          have HS := Lib.hid hsip
          have htz : t.size ≤ 15 := by rw [Lib.size_eq, ht.out]; simp
          have k0 := hkey 0 (by decide)
          have k1 := hkey 1 (by decide)
          have k2 := hkey 2 (by decide)
          have k3 := hkey 3 (by decide)
          have k4 := hkey 4 (by decide)
          have k5 := hkey 5 (by decide)
          have k6 := hkey 6 (by decide)
          have k7 := hkey 7 (by decide)
          have k8 := hkey 8 (by decide)
          have k9 := hkey 9 (by decide)
          have k10 := hkey 10 (by decide)
          have k11 := hkey 11 (by decide)
          have k12 := hkey 12 (by decide)
          have k13 := hkey 13 (by decide)
          have k14 := hkey 14 (by decide)
          have k15 := hkey 15 (by decide)
          clear hkk hsip hkey HKEY ht hlt hm hb hbq hz
          go_wp2_with fail
          refine (sum_one kk t wr _ hini (by omega)).mono ?_
          rintro e w1 ⟨rfl, hb1⟩
          rw [HS.out]
          clear k0 k1 k2 k3 k4 k5 k6 k7 k8 k9 k10 k11 k12 k13 k14 k15
          go_wp2_with (go_at_call 15; refine (below_awake _).mono ?_; rintro e w' ⟨rfl, rfl⟩)
          go_ret
          exact ⟨rfl, hbel.trans (hb1.mono (Nat.le_of_lt hz1))⟩
end Go.Proofs.YtpmkcmkohobmfaaDoor
