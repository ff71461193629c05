/- chunked: step at a machine's place; Feed. -/
import Derived.Test.YtchpgdoidpllgaaDoorDecF
import Derived.Test.YtchpgdoidpllgaaDoorFldA
namespace Go.Proofs.YtchpgdoidpllgaaDoor
open Go.RowKit

set_option maxRecDepth 100000 in
set_option maxHeartbeats 1000000 in
theorem step_c (G : Nat → Prop) (g : Nat) (m st : Int) (ds : List UInt8) (k : Nat) (z : Bool) (b : List UInt8) (e : Int) (hst : (st != 2) = true) (s : ByteArray) (h0 : 0 < s.size) (Q : World → Prop) (w : World) (h : Dec G w g m st ds k z b e)
    (HT : Calls Tryd.prog 25 #[.pointer (some ⟨g, 0, none⟩), .int .u8 (s[0].toNat : Int)] w fun r w' => r = .returned (.tuple #[]) ∧ Q w') :
    Calls Tryd.prog 19 #[.pointer (some ⟨g, 0, none⟩), .string s] w fun r w' => r = .returned (.string (s.extract 1 s.size)) ∧ Q w' := by
  have HX := Lib.hid HT
  obtain ⟨sv, bv, h⟩ := h
  have c1 := h.c.2.1
  clear h HT
  have m0 : (0 : Int) < s.size := by omega
  have m1 : (1 : Int) ≤ s.size := by omega
  go_enter Tryd.func19, Tryd.ntmps19
  go_wp2_with fail
  refine HX.out.mono ?_
  rintro e9 w9 ⟨rfl, hq⟩
  have HQ := Lib.hid hq
  clear hq
  go_wp2_with fail
  go_ret
  exact ⟨rfl, HQ.out⟩
/-- 1 if it takes a chunk's bytes. -/
def stB (w : World) (g : Nat) : Nat := if (w.cell? ⟨g, 1, none⟩).map intOf = some 2 then 1 else 0
theorem stB_le (w : World) (g : Nat) : stB w g ≤ 1 := by
  unfold stB
  split <;> omega
theorem stB_two {G : Nat → Prop} {w : World} {g : Nat} {m : Int} {ds : List UInt8} {k : Nat} {z : Bool} {b : List UInt8} {e : Int} (h : Dec G w g m 2 ds k z b e) : stB w g = 1 := by
  obtain ⟨s, b, h⟩ := h
  unfold stB
  rw [h.c.2.1]
  rfl
theorem stB_three {G : Nat → Prop} {w : World} {g : Nat} {m : Int} {ds : List UInt8} {k : Nat} {z : Bool} {b : List UInt8} {e : Int} (h : Dec G w g m 3 ds k z b e) : stB w g = 0 := by
  obtain ⟨s, b, h⟩ := h
  unfold stB
  rw [h.c.2.1]
  rfl
/-- What a step comes to. -/
def StepTo (G : Nat → Prop) (w : World) (g : Nat) (m : Int) (σ : ChS) (l : List UInt8) (r : Ending) (w' : World) : Prop :=
  ∃ (l' : List UInt8) (σ' : ChS), r = .returned (.string (bs l')) ∧ DecS G w' g m σ' ∧ Keep G w w' ∧ chRun m σ l = chRun m σ' l' ∧ chLeft m σ l = chLeft m σ' l' ∧ 2 * l'.length + stB w' g < 2 * l.length + stB w g ∧ σ'.body.length + l'.length ≤ σ.body.length + l.length
theorem step_body (m : Int) (σ : ChS) (c : UInt8) : (σ.step m c).body.length ≤ σ.body.length + 1 := by
  cases σ <;> simp only [ChS.step] <;> (repeat' split) <;> simp [ChS.body]
set_option maxHeartbeats 1000000 in
theorem step_s (G : Nat → Prop) (g : Nat) (m : Int) (hm0 : -9223372036854775808 ≤ m) (hm1 : m ≤ 9223372036854775807) (σ : ChS) (hd : σ.isDone = false) (he : ∀ e, σ ≠ .err e) (l : List UInt8) (h0 : l ≠ []) (hbd : σ.body.length + l.length ≤ 1000000000) (w : World) (h : DecS G w g m σ) (hu : Up G w) (hy : ∀ w', Keep G w w' → Syn w') :
    Calls Tryd.prog 19 #[.pointer (some ⟨g, 0, none⟩), .string (bs l)] w (StepTo G w g m σ l) := by
  obtain ⟨m', st, ds, k, z, b, e, hr, hdc⟩ := h
  have hl0 : 0 < l.length := List.length_pos_iff.2 h0
  have hbz : (bs l).size = l.length := bs_size l
  have byByte : (st = 0 ∨ st = 1 ∨ st = 3 ∨ st = 4) → (st != 2) = true → Calls Tryd.prog 19 #[.pointer (some ⟨g, 0, none⟩), .string (bs l)] w (StepTo G w g m σ l) := by
    intro hst hne
    refine (step_c G g m' st ds k z b e hne (bs l) (by omega) _ w hdc (take_s G g m hm0 hm1 σ m' st ds k z b e hr hst _ w hdc hu hy)).mono ?_
    rintro r w' ⟨rfl, hs, hk⟩
    have hcons := list_cons (bs l) (by omega)
    rw [bs_list] at hcons
    refine ⟨((bs l).extract 1 (bs l).size).data.toList, _, by rw [bs_of], hs, hk, ?_, ?_, ?_, ?_⟩
    · conv => lhs; rw [hcons]
      rw [chRun_cons]
    · conv => lhs; rw [hcons]
      rw [chLeft_cons m σ _ _ hd]
    · have hlen := congrArg List.length hcons
      rw [List.length_cons] at hlen
      have := stB_le w' g
      omega
    · have hlen := congrArg List.length hcons
      rw [List.length_cons] at hlen
      have := step_body m σ (bs l)[0]
      omega
  cases hr with
  | size ds b z h1 h2 h3 => exact byByte (by decide) rfl
  | sizeLF ds b z h0 h1 h2 h3 => exact byByte (by decide) rfl
  | end0 z b h3 => exact byByte (by decide) rfl
  | end1 z b h3 => exact byByte (by decide) rfl
  | done b => cases hd
  | err e h0 => exact absurd rfl (he e)
  | data k b hk0 h4 h3 =>
    have hbl : b.length + l.length ≤ 1000000000 := hbd
    obtain ⟨n, hn⟩ : ∃ n, n = min k (bs l).size := ⟨_, rfl⟩
    refine (bytes19 G g m k false b (bs l) n (k - n) hn (by omega) h4 (by omega) (by omega) _ rfl _ rfl w hdc hu).mono ?_
    rintro r w' ⟨rfl, hs, hk⟩
    rw [bs_list] at hs
    have hex : ((bs l).extract n (bs l).size).data.toList = l.drop n := by
      rw [extractL, bs_list]
      exact List.take_of_length_le (by rw [List.length_drop]; omega)
    have hsp : l = l.take n ++ l.drop n := (List.take_append_drop n l).symm
    have htl : (l.take n).length = n := by rw [List.length_take]; omega
    have hrun := run_data m (l.take n) k b (by omega) hk0
    rw [htl] at hrun
    have hB : (b ++ l.take n).length = b.length + n := by rw [List.length_append, htl]
    have hst2 := stB_two hdc
    have key : ∀ σ', chRun m (.data k b) (l.take n) = σ' → σ'.isDone = false → DecS G w' g m σ' → σ'.body = b ++ l.take n → StepTo G w g m (.data k b) l (.returned (.string ((bs l).extract n (bs l).size))) w' := by
      intro σ' h1 h2 h3 h5
      refine ⟨l.drop n, σ', by rw [← hex, bs_of], h3, hk, ?_, ?_, ?_, ?_⟩
      · conv => lhs; rw [hsp]
        rw [chRun_app, h1]
      · conv => lhs; rw [hsp]
        rw [chLeft_app m _ _ _ (by rw [h1]; exact h2), h1]
      · have := stB_le w' g
        rw [List.length_drop]
        omega
      · rw [h5, hB, List.length_drop]
        show _ ≤ b.length + l.length
        omega
    by_cases hkn : n = k
    · rw [if_pos hkn] at hrun
      rw [if_pos (by omega), show k - n = 0 by omega] at hs
      exact key _ hrun rfl ⟨_, _, _, _, _, _, _, .end0 false _ (by omega), hs⟩ rfl
    · rw [if_neg hkn] at hrun
      rw [if_neg (by omega)] at hs
      exact key _ hrun rfl ⟨_, _, _, _, _, _, _, .data (k - n) _ (by omega) (by omega) (by omega), hs⟩ rfl
  | end00 z b h3 =>
    have hbl : b.length + l.length ≤ 1000000000 := hbd
    refine (bytes19 G g m 0 z b (bs l) 0 0 (by omega) (by omega) (by omega) (by omega) (by omega) 3 rfl _ rfl w hdc hu).mono ?_
    rintro r w' ⟨rfl, hs, hk⟩
    rw [bs_list, List.take_zero, List.append_nil] at hs
    have hex : (bs l).extract 0 (bs l).size = bs l := by
      have : ((bs l).extract 0 (bs l).size).data.toList = l := by
        rw [extractL, bs_list, List.drop_zero]
        exact List.take_of_length_le (by omega)
      rw [← bs_of ((bs l).extract 0 (bs l).size), this]
    refine ⟨l, .end0 z b, by rw [hex], ⟨_, _, _, _, _, _, _, .end0 z b h3, hs⟩, hk, rfl, rfl, ?_, Nat.le_refl _⟩
    have h1 := stB_two hdc
    have h2 := stB_three hs
    omega
end Go.Proofs.YtchpgdoidpllgaaDoor
