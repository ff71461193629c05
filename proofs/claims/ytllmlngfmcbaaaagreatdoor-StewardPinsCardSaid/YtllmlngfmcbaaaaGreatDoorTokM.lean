/- stewardlaw04.awake. -/
import Derived.Test.YtllmlngfmcbaaaaGreatDoorTokK
namespace Go.Proofs.YtllmlngfmcbaaaaGreatDoor
open Go.RowKit

theorem find_pin : findL ([112, 105, 110] ++ [61]) (pairsP [⟨#[97, 61, 49, 59, 32, 112, 105, 110, 61, 120, 46, 53, 46, 48, 48, 59, 32, 98]⟩]) = some [120, 46, 53, 46, 48, 48] := by decide +kernel
theorem cookie_pin : (⟨#[112, 105, 110]⟩ : ByteArray) ++ ⟨#[61]⟩ ++ ⟨#[120]⟩ ++ ⟨#[59, 32, 80, 97, 116, 104, 61, 47, 59, 32, 72, 116, 116, 112, 79, 110, 108, 121]⟩ = ⟨#[112, 105, 110, 61, 120, 59, 32, 80, 97, 116, 104, 61, 47, 59, 32, 72, 116, 116, 112, 79, 110, 108, 121]⟩ := by decide +kernel
set_option maxRecDepth 100000 in
set_option maxHeartbeats 4000000 in
theorem awake9 (w : World) (hw : LaidT w) : Calls Tryz.prog 9 #[] w fun e w' => e = .returned (.bool true) ∧ Below w.heap.size w w' := by
  obtain ⟨r, hr⟩ : ∃ r, signL [107] [98, 49] 5 = r := ⟨_, rfl⟩
  have hrl : r.length ≤ 1000 := by rw [← hr]; have := signL_length [107] [98, 49] 5; simp at this; omega
  have h1 : ∀ W, LaidT W → Calls Tryz.prog 11 #[.string ⟨#[107]⟩, .string ⟨#[98, 49]⟩, .int .i64 5] W fun e w' => e = .returned (.string (bs r)) ∧ Below W.heap.size W w' :=
    fun W h => sign_at [107] [98, 49] (by decide) (by decide) 5 r hr W h
  have v1 : verL [107] r 5 = ([98, 49], 0) := by rw [← hr, ver_sign]; decide +kernel
  have v2 : verL [107] r 6 = ([], 5) := by rw [← hr, ver_sign]; decide +kernel
  have h2 : ∀ W, LaidT W → Calls Tryz.prog 15 #[.string ⟨#[107]⟩, .string (bs r), .int .i64 5] W fun x w' => x = .returned (.tuple #[.string ⟨#[98, 49]⟩, .int .i64 0]) ∧ Below W.heap.size W w' :=
    fun W h => verify_at [107] r (by decide) hrl 5 [98, 49] 0 v1 W h
  have h3 : ∀ W, LaidT W → Calls Tryz.prog 15 #[.string ⟨#[107]⟩, .string (bs r), .int .i64 6] W fun x w' => x = .returned (.tuple #[.string ⟨#[]⟩, .int .i64 5]) ∧ Below W.heap.size W w' :=
    fun W h => verify_at [107] r (by decide) hrl 6 [] 5 v2 W h
  have h4 : ∀ W, LaidT W → Calls Tryz.prog 18 #[.slice (some ⟨W.heap.size, 0, none⟩) 1 1, .string ⟨#[112, 105, 110]⟩] (W.alloc (.cells #[.string ⟨#[97, 61, 49, 59, 32, 112, 105, 110, 61, 120, 46, 53, 46, 48, 48, 59, 32, 98]⟩] 9))
      fun x w' => x = .returned (.tuple #[.string ⟨#[120, 46, 53, 46, 48, 48]⟩, .bool true]) ∧ Below W.heap.size W w' := fun W h => by
    have := find_any (some ⟨W.heap.size, 0, none⟩) 1 [⟨#[97, 61, 49, 59, 32, 112, 105, 110, 61, 120, 46, 53, 46, 48, 48, 59, 32, 98]⟩] ⟨#[112, 105, 110]⟩ (fun x hx => by rw [List.mem_singleton] at hx; subst hx; decide) (by decide) (by decide) _ (isStrs_new1 W _ 9) (h.maxl.below (below_alloc W _))
    rw [show findL ((⟨#[112, 105, 110]⟩ : ByteArray).data.toList ++ [61]) _ = _ from find_pin] at this
    refine Calls.mono this fun x w' ⟨he, hb⟩ => ⟨he, (below_alloc W _).trans (hb.mono (by simp))⟩
  have h5 : ∀ W, Calls Tryz.prog 22 #[.string ⟨#[112, 105, 110]⟩, .string ⟨#[120]⟩] W fun e w' => e = .returned (.string ⟨#[112, 105, 110, 61, 120, 59, 32, 80, 97, 116, 104, 61, 47, 59, 32, 72, 116, 116, 112, 79, 110, 108, 121]⟩) ∧ W = w' := fun W => by
    have := cookie22 ⟨#[112, 105, 110]⟩ ⟨#[120]⟩ (by decide) (by decide) W
    rw [cookie_pin] at this
    exact this
  have H1 := Lib.hid h1
  have H2 := Lib.hid h2
  have H3 := Lib.hid h3
  have H4 := Lib.hid h4
  have H5 := Lib.hid h5
  have HW := Lib.hid hw
  clear h1 h2 h3 h4 h5 v1 v2 hr hrl hw
  generalize bs r = R at *
  go_enter Tryz.func9, Tryz.ntmps9
  go_wp2_with fail
  refine (H1.out w HW.out).mono ?_
  rintro e w1 ⟨rfl, hb1⟩
  have W1 := Lib.hid (HW.out.below hb1)
  go_wp2_with fail
  refine (H2.out w1 W1.out).mono ?_
  rintro e w2 ⟨rfl, hb2⟩
  have W2 := Lib.hid (W1.out.below hb2)
  have b2 := hb1.trans (hb2.mono hb1.size)
  clear hb1 hb2
  go_wp2_with fail
  refine (H3.out w2 W2.out).mono ?_
  rintro e w3 ⟨rfl, hb3⟩
  have W3 := Lib.hid (W2.out.below hb3)
  have b3 := b2.trans (hb3.mono b2.size)
  clear hb3
  go_wp2_with fail
  refine (H4.out w3 W3.out).mono ?_
  rintro e w4 ⟨rfl, hb4⟩
  have b4 := b3.trans (hb4.mono b3.size)
  clear hb4
  have q1 : ((⟨#[98, 49]⟩ : ByteArray).toList == (⟨#[98, 49]⟩ : ByteArray).toList) = true := by simp
  have q2 : ((⟨#[120, 46, 53, 46, 48, 48]⟩ : ByteArray).toList == (⟨#[120, 46, 53, 46, 48, 48]⟩ : ByteArray).toList) = true := by simp
  have q3 : ((⟨#[112, 105, 110, 61, 120, 59, 32, 80, 97, 116, 104, 61, 47, 59, 32, 72, 116, 116, 112, 79, 110, 108, 121]⟩ : ByteArray).toList == (⟨#[112, 105, 110, 61, 120, 59, 32, 80, 97, 116, 104, 61, 47, 59, 32, 72, 116, 116, 112, 79, 110, 108, 121]⟩ : ByteArray).toList) = true := by simp
  go_wp2_with fail
  refine (H5.out w4).mono ?_
  rintro e w' ⟨rfl, rfl⟩
  go_wp2_with fail
  go_ret
  exact ⟨rfl, b4⟩
end Go.Proofs.YtllmlngfmcbaaaaGreatDoor
