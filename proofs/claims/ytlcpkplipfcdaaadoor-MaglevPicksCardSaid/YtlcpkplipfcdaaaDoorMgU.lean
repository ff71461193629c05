/- stewardlaw18.awake. -/
import Derived.Test.YtlcpkplipfcdaaaDoorMgQ
namespace Go.Proofs.YtlcpkplipfcdaaaDoor
open Go.RowKit

theorem isEnts_one (w : World) (n : ByteArray) (v : Int) (T : TypeId) : IsEnts (w.alloc (.cells #[.string n, .int .i64 v] T)) (some ⟨w.heap.size, 0, none⟩) 1 [(n, v)] := by
  refine .inr ⟨w.heap.size, 0, rfl, by simp, by simp, fun j e he => ?_⟩
  match j, he with
  | 0, he => obtain rfl : (n, v) = e := by simpa using he
             constructor <;> simp
  | j + 1, he => simp at he
theorem prime101 : primeB 101 = true := by decide +kernel
theorem prime503 : primeB 503 = true := by decide +kernel
set_option maxRecDepth 100000 in
set_option maxHeartbeats 4000000 in
theorem awake6 (w : World) (hi : Ini w) :
    Calls Tryd.prog 9 #[] w fun e w' => e = .returned (.bool true) ∧ Below w.heap.size w w' := by
  have hk := key17 ⟨#[107]⟩ w
  generalize (fun i => (⟨#[107]⟩ : ByteArray).data.toList.getD i 0) = kf at hk
  have HK := Lib.hid hk
  have HI := Lib.hid hi
  clear hk hi
  have hck : validB [((⟨#[97]⟩ : ByteArray), (5 : Int))] = true := valid_all (by intro e he; obtain rfl : e = _ := (by simpa using he); rfl) (by unfold Apart; exact List.pairwise_singleton _ _)
  have HCK := Lib.hid hck
  clear hck
  have hB : ∀ W, Ini W → ∀ b c, IsEnts W (some ⟨b, 0, none⟩) c [((⟨#[97]⟩ : ByteArray), (5 : Int))] → Calls Tryd.prog 12 #[keyVal kf, .slice (some ⟨b, 0, none⟩) 1 c, .int .i64 101] W fun e w' => ∃ tb own, e = .returned (.tuple #[.pointer (some ⟨tb, 0, none⟩), .int .i64 0]) ∧ OwnOk 1 101 own ∧ (∀ q, q < 101 → own q = 0) ∧ TableAt w' tb [⟨#[97]⟩] 101 own ∧ Below W.heap.size W w' := by
    intro W hI b c hE
    refine (build8 kf [((⟨#[97]⟩ : ByteArray), (5 : Int))] (by simp) (by intro e he; obtain rfl : e = _ := (by simpa using he); decide) 101 (by omega) prime101 (by simp) HCK.out (some ⟨b, 0, none⟩) c W hI hE).mono ?_
    rintro e w' ⟨tb, own, es', rfl, hp, _, ha, ht, hb⟩
    obtain rfl := List.perm_singleton.1 hp
    have hv : ∀ e ∈ [((⟨#[97]⟩ : ByteArray), (5 : Int))], okW e = true := by intro e he; obtain rfl : e = _ := (by simpa using he); rfl
    refine ⟨tb, own, rfl, ha.ok prime101 hv, fun q hq => ?_, ht, hb⟩
    have := ha.full (by simp) prime101 hv q hq
    simp at this
    omega
  have HB := Lib.hid hB
  clear hB
  have HSZ : Hid (∀ (tb : Nat) (own : Nat → Int) (W : World), TableAt W tb [⟨#[97]⟩] 101 own → Calls Tryd.prog 15 #[.pointer (some ⟨tb, 0, none⟩)] W fun e w' => e = .returned (.int .i64 101) ∧ w' = W) := fun tb own W h => size11 tb 101 _ own W h
  have at0 : ∀ (own : Nat → Int), (∀ q, q < 101 → own q = 0) → atN [⟨#[97]⟩] 101 own (belowN 0 101) = ⟨#[97]⟩ := fun own h => by
    have h0 : belowN 0 101 = 0 := by decide
    rw [h0]; unfold atN; rw [if_neg (by omega), if_neg (by rw [h _ (by decide)]; decide), h _ (by decide)]; rfl
  have at100 : ∀ (own : Nat → Int), (∀ q, q < 101 → own q = 0) → atN [⟨#[97]⟩] 101 own 100 = ⟨#[97]⟩ := fun own h => by
    unfold atN; rw [if_neg (by omega), if_neg (by rw [h _ (by decide)]; decide), h _ (by decide)]; rfl
  have HPK : Hid (∀ (tb : Nat) (own : Nat → Int) (W : World), OwnOk 1 101 own → (∀ q, q < 101 → own q = 0) → TableAt W tb [⟨#[97]⟩] 101 own → Calls Tryd.prog 21 #[.pointer (some ⟨tb, 0, none⟩), .int .u64 0] W fun e w' => e = .returned (.string ⟨#[97]⟩) ∧ Below W.heap.size W w') := fun tb own W h0 h1 h => by
    have := pick26 tb 101 (by omega) (by omega) [⟨#[97]⟩] (by simp) own h0 0 (by omega) W h
    rw [at0 own h1] at this
    exact this
  have HAA : Hid (∀ (tb : Nat) (own : Nat → Int) (W : World) (p : Int), p = 100 ∨ p = 101 → OwnOk 1 101 own → (∀ q, q < 101 → own q = 0) → TableAt W tb [⟨#[97]⟩] 101 own → Calls Tryd.prog 17 #[.pointer (some ⟨tb, 0, none⟩), .int .i64 p] W fun e w' => e = .returned (.string (if p = 100 then ⟨#[97]⟩ else ⟨#[]⟩)) ∧ Below W.heap.size W w') := fun tb own W p hp h0 h1 h => by
    have := at13 tb 101 [⟨#[97]⟩] (by simp) own h0 p W h
    rcases hp with rfl | rfl
    · rw [at100 own h1] at this
      exact this
    · exact this
  clear at0 at100
  have eqa : ((⟨#[97]⟩ : ByteArray).toList == (⟨#[97]⟩ : ByteArray).toList) = true := by simp
  have eqb : ((⟨#[]⟩ : ByteArray).toList == (⟨#[]⟩ : ByteArray).toList) = true := by simp
  go_enter Tryd.func9, Tryd.ntmps9
  go_wp2_with (first
    | (go_at_call 11; refine HK.out.mono ?_; rintro e w1 ⟨rfl, hB1⟩; have HB1 := Lib.hid hB1; have HI1 := Lib.hid (HI.out.below hB1); clear hB1)
    | (go_at_call 12; have hba := below_alloc w1 (.cells #[.string ⟨#[97]⟩, .int .i64 5] 72); refine (HB.out _ (HI1.out.below hba) _ 1 (isEnts_one w1 ⟨#[97]⟩ 5 72)).mono ?_; rintro e w2 ⟨tb, own, rfl, hok, hoz, ht, hb⟩; have HOK := Lib.hid hok; have HOZ := Lib.hid hoz; have HT := Lib.hid ht; have HBL := Lib.hid ((HB1.out.trans (hba.mono HB1.out.size)).trans (hb.mono (Nat.le_trans HB1.out.size hba.size))); clear hba hok hoz ht hb)
    | (go_at_call 15; refine (HSZ.out _ _ _ HT.out).mono ?_; rintro e w3 ⟨rfl, rfl⟩)
    | (go_at_call 21; refine (HPK.out _ _ _ HOK.out HOZ.out HT.out).mono ?_; rintro e w4 ⟨rfl, hB4⟩; have HT := Lib.hid (HT.out.below hB4); have HBL := Lib.hid (HBL.out.trans (hB4.mono HBL.out.size)); clear hB4)
    | (go_at_call 17; refine (HAA.out _ _ _ _ (by first | exact .inl rfl | exact .inr rfl) HOK.out HOZ.out HT.out).mono ?_; rintro e w4 ⟨rfl, hB4⟩; have HT := Lib.hid (HT.out.below hB4); have HBL := Lib.hid (HBL.out.trans (hB4.mono HBL.out.size)); clear hB4))
  go_ret
  exact ⟨rfl, HBL.out⟩
end Go.Proofs.YtlcpkplipfcdaaaDoor
