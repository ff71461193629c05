/- The reference's Sign; the fixed facts of token. -/
import Derived.Test.YtllmlngfmcbaaaaGreatDoorTJ
import Derived.Test.YtllmlngfmcbaaaaGreatDoorTokG
import Derived.Test.YtllmlngfmcbaaaaGreatDoorTQ
namespace Go.Proofs.YtllmlngfmcbaaaaGreatDoor
open Go.RowKit

theorem rname_l (l : List UInt8) (hl : l.length ≤ 1000000) (q : Bool) (hq : nameB l = q) (w : World) :
    Calls Tryz.prog 14 #[.string (bs l)] w fun e w' => e = .returned (.bool q) ∧ Below w.heap.size w w' := by
  subst hq; exact rname14 (bs l) (by rw [bs_size]; omega) w
theorem itoa_l (n : Nat) (hn : n ≤ 1099511627776) (w : World) (hw : LaidT w) :
    Calls Tryz.prog 25 #[.int .i64 (n : Int)] w fun e w' => e = .returned (.string (bs (Lib.decDigits n))) ∧ Below w.heap.size w w' := itoa25 n (by omega) w hw.pow
theorem rtag_l (k s : List UInt8) (hk : k.length ≤ 1000) (hs : s.length ≤ 2000) (w : World) :
    Calls Tryz.prog 26 #[.string (bs k), .string (bs s)] w fun e w' => e = .returned (.string (bs (tagL k s))) ∧ Below w.heap.size w w' :=
  rtag23 (bs k) (bs s) (by rw [bs_size]; omega) (by rw [bs_size]; omega) w
theorem bs_app (a b : List UInt8) : bs a ++ bs b = bs (a ++ b) := by
  have : (bs a ++ bs b).data.toList = a ++ b := by simp [bs]
  exact str_eq _ _ this
set_option maxRecDepth 100000 in
set_option maxHeartbeats 2000000 in
theorem rsign12 (key name : List UInt8) (hk : key.length ≤ 1000) (hl : name.length ≤ 1000) (u : Int) (w : World) (hw : LaidT w) :
    Calls Tryz.prog 12 #[.string (bs key), .string (bs name), .int .i64 u] w fun e w' => e = .returned (.string (bs (signL key name u))) ∧ Below w.heap.size w w' := by
  have HN := Lib.hid (fun q hq => rname_l name (by omega) q hq w)
  unfold signL
  cases hn : nameB name with
  | false =>
    have HN2 := Lib.hid (HN.out false hn)
    rw [if_neg (by simp)]
    clear HN hn
    go_enter Tryz.func12, Tryz.ntmps12
    go_wp2_with fail
    refine HN2.out.mono ?_
    rintro e w1 ⟨rfl, hb⟩
    go_wp2_with fail
    go_ret
    exact ⟨rfl, hb⟩
  | true =>
    have HN2 := Lib.hid (HN.out true hn)
    rw [if_pos rfl]
    clear HN hn
    have hc := clampT_le u
    have hcl := contL_length name (clampT u) hc
    have HC := Lib.hid (fun W h => itoa_l (clampT u) hc W h)
    obtain ⟨m, hm⟩ : ∃ m : Int, min u 1099511627776 = m := ⟨_, rfl⟩
    have hm2 : max 0 m = ((clampT u : Nat) : Int) := by rw [← hm]; unfold clampT; omega
    have hm3 : max m 0 = ((clampT u : Nat) : Int) := by rw [← hm]; unfold clampT; omega
    have hdl := dec_13 (clampT u) hc
    generalize clampT u = n at *
    have hA1 : Hid (bs name ++ ⟨#[46]⟩ ++ bs (Lib.decDigits n) = bs (contL name n)) := app_dot_l name (Lib.decDigits n)
    obtain ⟨s, hs⟩ : ∃ s, s = contL name n := ⟨_, rfl⟩
    rw [← hs] at hA1 hcl ⊢
    have HT := Lib.hid (fun W => rtag_l key s hk (by omega) W)
    have htl := tagL_length key s
    have HAP := Lib.hid (app_dot_l s (tagL key s))
    generalize tagL key s = t at *
    have hz0 := bs_size name
    have hz1 := bs_size s
    have hz2 := bs_size t
    have hz3 := bs_size (Lib.decDigits n)
    have j0 : ((bs name).size : Int) ≤ 1000 := by omega
    have j1 : ((bs s).size : Int) ≤ 2000 := by omega
    have j2 : ((bs t).size : Int) = 32 := by omega
    have j3 : ((bs (Lib.decDigits n)).size : Int) ≤ 13 := by omega
    have HR : Hid (bs (s ++ 46 :: t) = bs s ++ ⟨#[46]⟩ ++ bs t) := HAP.out.symm
    generalize bs (s ++ 46 :: t) = R at *
    generalize bs s = S at *
    generalize bs t = T at *
    generalize bs (Lib.decDigits n) = D at *
    generalize bs name = NM at *
    clear hs hcl hc htl hz1 hz2 HAP hz0 hz3 hdl
    go_enter Tryz.func12, Tryz.ntmps12
    go_wp2_with fail
    refine HN2.out.mono ?_
    rintro e w1 ⟨rfl, hb1⟩
    have W1 := hw.below hb1
    go_wp2_with fail
    refine (HC.out w1 W1).mono ?_
    rintro e w2 ⟨rfl, hb2⟩
    have b2 := hb1.trans (hb2.mono hb1.size)
    have W2 := W1.below hb2
    clear hb1 hb2
    go_wp2_with fail
    rw [hA1.out]
    refine (HT.out w2).mono ?_
    rintro e w3 ⟨rfl, hb3⟩
    have b3 := b2.trans (hb3.mono b2.size)
    go_wp2_with fail
    go_ret
    exact ⟨by rw [HR.out, ← hA1.out]; rfl, b3⟩
theorem sign_at (key name : List UInt8) (hk : key.length ≤ 1000) (hl : name.length ≤ 1000) (u : Int) (r : List UInt8) (hr : signL key name u = r) (w : World) (hw : LaidT w) :
    Calls Tryz.prog 11 #[.string (bs key), .string (bs name), .int .i64 u] w fun e w' => e = .returned (.string (bs r)) ∧ Below w.heap.size w w' := by
  subst hr; exact sign11 key name hk hl u w hw
theorem verify_at (key l : List UInt8) (hk : key.length ≤ 1000) (hl : l.length ≤ 1000) (now : Int) (a : List UInt8) (e : Int) (hr : verL key l now = (a, e)) (w : World) (hw : LaidT w) :
    Calls Tryz.prog 15 #[.string (bs key), .string (bs l), .int .i64 now] w fun x w' => x = .returned (.tuple #[.string (bs a), .int .i64 e]) ∧ Below w.heap.size w w' := by
  have := verify15 key l hk hl now w hw
  rw [hr] at this
  exact this
theorem signL_length (key name : List UInt8) (u : Int) : (signL key name u).length ≤ name.length + 47 := by
  unfold signL
  split
  · have := contL_length name (clampT u) (clampT_le u)
    rw [List.length_append, List.length_cons, tagL_length]
    omega
  · simp
theorem isStrs_new1 (w : World) (x : ByteArray) (T : TypeId) : IsStrs (w.alloc (.cells #[.string x] T)) (some ⟨w.heap.size, 0, none⟩) 1 [x] := by
  refine .inr ⟨w.heap.size, 0, rfl, by simp, by simp, fun j z hz => ?_⟩
  rw [Nat.zero_add]
  match j, hz with
  | 0, hz => obtain rfl : x = z := Option.some.inj hz; simp
  | k + 1, hz => simp at hz
set_option maxHeartbeats 1000000 in
theorem cookie22 (a b : ByteArray) (ha : a.size ≤ 1000) (hb : b.size ≤ 1000) (w : World) :
    Calls Tryz.prog 22 #[.string a, .string b] w fun e w' => e = .returned (.string (a ++ ⟨#[61]⟩ ++ b ++ ⟨#[59, 32, 80, 97, 116, 104, 61, 47, 59, 32, 72, 116, 116, 112, 79, 110, 108, 121]⟩)) ∧ w = w' := by
  have j1 : (a.size : Int) ≤ 1000 := by omega
  have j2 : (b.size : Int) ≤ 1000 := by omega
  go_enter Tryz.func22, Tryz.ntmps22
  go_wp2_with fail
  go_ret
  exact ⟨rfl, rfl⟩
end Go.Proofs.YtllmlngfmcbaaaaGreatDoor
