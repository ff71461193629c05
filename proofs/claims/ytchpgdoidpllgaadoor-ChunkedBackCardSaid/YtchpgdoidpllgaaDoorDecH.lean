/- chunked: Feed. -/
import Derived.Test.YtchpgdoidpllgaaDoorDecG
namespace Go.Proofs.YtchpgdoidpllgaaDoor
open Go.RowKit

theorem rep_done {m : Int} {b : List UInt8} {m' st : Int} {ds : List UInt8} {k : Nat} {z : Bool} {body : List UInt8} {e : Int} (h : ChRep m (.done b) m' st ds k z body e) : st = 5 ∧ b = body := by cases h; exact ⟨rfl, rfl⟩
theorem rep_err {m e0 : Int} {m' st : Int} {ds : List UInt8} {k : Nat} {z : Bool} {body : List UInt8} {e : Int} (h : ChRep m (.err e0) m' st ds k z body e) : st = 6 ∧ e = e0 := by cases h; exact ⟨rfl, rfl⟩
theorem rep_on {m : Int} {σ : ChS} {m' st : Int} {ds : List UInt8} {k : Nat} {z : Bool} {body : List UInt8} {e : Int} (h : ChRep m σ m' st ds k z body e) (hd : σ.isDone = false) (he : ∀ e, σ ≠ .err e) : (st != 5) = true ∧ (st != 6) = true ∧ (st == 6) = false := by
  cases h with
  | done b => cases hd
  | err e h0 => exact absurd rfl (he e)
  | _ => exact ⟨rfl, rfl, rfl⟩
theorem rep_body {m : Int} {σ : ChS} {m' st : Int} {ds : List UInt8} {k : Nat} {z : Bool} {body : List UInt8} {e : Int} (h : ChRep m σ m' st ds k z body e) : σ.body = body := by cases h <;> rfl
theorem rep_isDone {m : Int} {σ : ChS} {m' st : Int} {ds : List UInt8} {k : Nat} {z : Bool} {body : List UInt8} {e : Int} (h : ChRep m σ m' st ds k z body e) : (st == 5) = σ.isDone := by cases h <;> rfl
def strOf : Value → ByteArray
  | .string s => s
  | _ => ⟨#[]⟩
theorem ch_three (σ : ChS) : (∃ b, σ = .done b) ∨ (∃ e, σ = .err e) ∨ (σ.isDone = false ∧ ∀ e, σ ≠ .err e) := by
  cases σ with
  | done b => exact .inl ⟨b, rfl⟩
  | err e => exact .inr (.inl ⟨e, rfl⟩)
  | _ => exact .inr (.inr ⟨rfl, fun e h => nomatch h⟩)
/-- What Feed comes to. -/
def FeedTo (G : Nat → Prop) (w : World) (g : Nat) (m : Int) (σ : ChS) (l : List UInt8) (r : Ending) (w' : World) : Prop :=
  r = .returned (.tuple #[.string (bs (chLeft m σ l)), .int .i64 (chRun m σ l).errOf]) ∧ DecS G w' g m (chRun m σ l) ∧ Keep G w w'
theorem FeedTo.drewN {G : Nat → Prop} {w w' : World} {g : Nat} {m : Int} {σ : ChS} {l : List UInt8} {r : Ending} (h : FeedTo G w g m σ l r w') (n : Nat) : FeedTo G w g m σ l r (w'.drewN n) :=
  ⟨h.1, h.2.1.below ⟨rfl, rfl, rfl, Nat.le_refl _, fun _ _ => rfl⟩, h.2.2.trans (.drewN w' n)⟩
set_option maxRecDepth 100000 in
set_option maxHeartbeats 4000000 in
theorem feed12 (G : Nat → Prop) (g : Nat) (m : Int) (hm0 : -9223372036854775808 ≤ m) (hm1 : m ≤ 9223372036854775807) (σ : ChS) (l : List UInt8) (hbd : σ.body.length + l.length ≤ 1000000000) (w : World) (h : DecS G w g m σ) (hu : Up G w) (hy : ∀ w', Keep G w w' → Syn w') :
    Calls Tryd.prog 12 #[.pointer (some ⟨g, 0, none⟩), .string (bs l)] w (FeedTo G w g m σ l) := by
  have H0 := Lib.hid h
  have HU := Lib.hid hu
  have HY := Lib.hid hy
  have HM0 := Lib.hid hm0
  have HM1 := Lib.hid hm1
  have HBD := Lib.hid hbd
  have HK0 := Lib.hid (Keep.refl G w)
  clear h hu hy hm0 hm1 hbd
  obtain ⟨S, hS⟩ : ∃ S, S = bs l := ⟨_, rfl⟩
  rw [← hS]
  have HS := Lib.hid hS
  clear hS
  go_enter Tryd.func12, Tryd.ntmps12
  go_wp2_with fail
  go_loopw [1] (fun sv wr => ∃ (s : ByteArray) (σ' : ChS), sv = .string s ∧ Hid (DecS G wr g m σ') ∧ Hid (Keep G w wr) ∧ Hid (chRun m σ l = chRun m σ' s.data.toList ∧ chLeft m σ l = chLeft m σ' s.data.toList ∧ σ'.body.length + s.data.toList.length ≤ 1000000000)) (fun sv wr => 2 * (strOf sv).size + stB wr g)
  case atStart => exact ⟨S, σ, rfl, H0, HK0, by rw [HS.out]; exact ⟨rfl, rfl, HBD.out⟩⟩
  case round =>
    clear H0 HK0 HBD
    obtain ⟨s, σ', rfl, HD, HK, HR⟩ := hrel
    obtain ⟨m', st, ds, k, z, b, e, hr, hdc⟩ := HD.out
    obtain ⟨s1, b1, hda⟩ := hdc
    have c1 := hda.c.2.1
    have c6 := hda.c.2.2.2.2.2.2
    have HDC := Lib.hid (show Dec G wr g m' st ds k z b e from ⟨s1, b1, hda⟩)
    have HREP := Lib.hid hr
    clear hda
    have FT : ∀ (v : ByteArray) (q : Int), v = bs (chLeft m σ' s.data.toList) → q = (chRun m σ' s.data.toList).errOf → DecS G wr g m (chRun m σ' s.data.toList) → FeedTo G w g m σ l (.returned (.tuple #[.string v, .int .i64 q])) wr := by
      rintro v q rfl rfl h
      obtain ⟨r1, r2, _⟩ := HR.out
      unfold FeedTo
      rw [r1, r2]
      exact ⟨rfl, h, HK.out⟩
    have HFT := Lib.hid FT
    clear FT
    rcases ch_three σ' with ⟨b0, rfl⟩ | ⟨e0, rfl⟩ | ⟨hd, he⟩
    · obtain ⟨rfl, rfl⟩ := rep_done hr
      clear hr
      have FX := Lib.hid (HFT.out s 0 (by rw [chLeft_done, bs_of]) (by rw [chRun_done]; rfl) (by rw [chRun_done]; exact HD.out))
      clear HFT
      by_cases hne : 0 < s.size
      · have e1 := emp_false s hne
        go_wp2_with fail
        go_ret2
        exact FX.out
      · obtain rfl := empty_of s hne
        go_wp2_with fail
        go_ret2
        exact FX.out
    · obtain ⟨rfl, rfl⟩ := rep_err hr
      clear hr
      have FX := Lib.hid (HFT.out ⟨#[]⟩ e (by rw [chLeft_err]; rfl) (by rw [chRun_err]; rfl) (by rw [chRun_err]; exact HD.out))
      clear HFT
      by_cases hne : 0 < s.size
      · have e1 := emp_false s hne
        go_wp2_with fail
        go_quiet (fail)
        go_wp2_with fail
        go_ret2
        exact FX.out.drewN _
      · obtain rfl := empty_of s hne
        go_wp2_with fail
        go_quiet (fail)
        go_wp2_with fail
        go_ret2
        exact FX.out.drewN _
    · obtain ⟨t5, t6, t6'⟩ := rep_on hr hd he
      by_cases hne : 0 < s.size
      · have e1 := emp_false s hne
        have hl0 : s.data.toList ≠ [] := fun h => by have := Lib.size_eq s; rw [h, List.length_nil] at this; omega
        have HST := Lib.hid (step_s G g m HM0.out HM1.out σ' hd he s.data.toList hl0 HR.out.2.2 wr HD.out (HU.out.keep HK.out) (fun w' hk => HY.out w' (HK.out.trans hk)))
        rw [bs_of] at HST
        clear hr hd he hl0 HFT t6'
        go_wp2_with fail
        refine HST.out.mono ?_
        rintro r9 w9 ⟨l', σ9, rfl, hd9, hk9, hr1, hr2, hm9, hb9⟩
        have HD9 := Lib.hid hd9
        have HK9 := Lib.hid (HK.out.trans hk9)
        have HR9 : Hid (chRun m σ l = chRun m σ9 (bs l').data.toList ∧ chLeft m σ l = chLeft m σ9 (bs l').data.toList ∧ σ9.body.length + (bs l').data.toList.length ≤ 1000000000) := ⟨HR.out.1.trans hr1, HR.out.2.1.trans hr2, Nat.le_trans hb9 HR.out.2.2⟩
        have hm9' : 2 * (bs l').size + stB w9 g < 2 * s.size + stB wr g := by rw [bs_size, Lib.size_eq s]; exact hm9
        clear hd9 hk9 hr1 hr2 hm9 hb9
        generalize bs l' = s9 at *
        go_wp2_with fail
        go_roundw
        case rel => exact ⟨s9, σ9, rfl, HD9, HK9, HR9⟩
        case measure => exact hm9'
      · obtain rfl := empty_of s hne
        have FX := Lib.hid (HFT.out ⟨#[]⟩ 0 (by
          have : (⟨#[]⟩ : ByteArray).data.toList = [] := rfl
          rw [this, chLeft_nil]; rfl) (by
          have : (⟨#[]⟩ : ByteArray).data.toList = [] := rfl
          rw [this, chRun_nil]
          cases σ' with
          | err e => exact absurd rfl (he e)
          | _ => rfl) HD.out)
        clear HFT hr hd he
        go_wp2_with fail
        go_ret2
        exact FX.out
end Go.Proofs.YtchpgdoidpllgaaDoor
