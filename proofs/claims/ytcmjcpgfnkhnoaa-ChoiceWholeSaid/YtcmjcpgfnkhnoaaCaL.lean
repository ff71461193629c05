/- choice.Least; the fixed facts of the law. -/
import Derived.Test.YtcmjcpgfnkhnoaaCaC
import Derived.Test.YtcmjcpgfnkhnoaaCaR
namespace Go.Proofs.Ytcmjcpgfnkhnoaa
open Go.RowKit

/-- The place of a candidate's load by its requests, by its index. -/
def ckAt (cs : List Cand) (i : Nat) : Int := (cs[i]?.map ck).getD 0
theorem lst_same {f : Nat → Nat} {k : Nat → Int} {n : Nat} (h : ∀ i, i < n → kf (f i) = k i) (hn : 0 < n) : 0 ≤ lstF f n ∧ lstF f n < n ∧ ∀ i, i < n → k (lstF f n).toNat < k i ∨ k (lstF f n).toNat = k i ∧ lstF f n ≤ i := by
  have h1 := lstF_ge f n hn
  have h2 := (lstF_lt f n).1
  refine ⟨h1, h2, fun i hi => ?_⟩
  have h3 := lstF_ok f n hn i hi
  rw [h _ (by omega), h i hi] at h3
  exact h3
/-- The first of the least. -/
def LeastIs (cs : List Cand) (r : Int) : Prop := (cs = [] → r = -1) ∧ (cs ≠ [] → 0 ≤ r ∧ r < cs.length ∧ ∀ i, i < cs.length → ckAt cs r.toNat < ckAt cs i ∨ ckAt cs r.toNat = ckAt cs i ∧ r ≤ i)
set_option maxHeartbeats 2000000 in
set_option maxRecDepth 100000 in
theorem cleast19 (a : Option Addr) (c : Nat) (cs : List Cand) (hl : cs.length ≤ 100000) (hok : ∀ x ∈ cs, Small x) (w : World) (hf : IsCands w a c cs) :
    Calls Try.prog 19 #[.slice a cs.length c] w fun e w' => ∃ r, e = .returned (.int .i64 r) ∧ LeastIs cs r ∧ Below w.heap.size w w' := by
  have HL := Lib.hid (loads_count a c cs hl hok w hf)
  clear hf
  generalize hn : cs.length = n at *
  have HN := Lib.hid hn
  clear hn
  go_enter Try.func19, Try.ntmps19
  go_wp2_with (go_at_call 30; refine HL.out.mono ?_; rintro e w1 ⟨a1, ys, rfl, hyl, hys, ho, hb⟩)
  have hrow : n = 0 ∨ ∃ b o, a1 = some ⟨b, o, none⟩ ∧ ∀ j, j < n → w1.cell? ⟨b, o + j, none⟩ = some (.float .f64 (ys[j]?.getD 0)) := by
    rcases ho.2 with ⟨_, h2⟩ | ⟨g, cap, cur, h1, _⟩
    · exact .inl h2
    · injection h1 with h1 h2 h3
      subst h1
      have hcap : cap = n := h3.symm
      subst hcap
      refine .inr ⟨g, 0, rfl, fun j hj => ?_⟩
      rw [Nat.zero_add, ho.cellAt j (by omega)]
      unfold cellsF64
      rw [List.getElem?_map, List.getElem?_eq_getElem (by omega)]; rfl
  have HLE := Lib.hid (least3 a1 n n (fun j => ys[j]?.getD 0) w1 (by omega) hrow)
  have HLI : Hid (LeastIs cs (lstF (fun j => ys[j]?.getD 0) n)) := by
    have hn := HN.out
    refine ⟨fun h => ?_, fun h => ?_⟩
    · have : n = 0 := by rw [← hn, h]; rfl
      rw [this]; rfl
    · have hp : 0 < n := by rw [← hn]; exact List.length_pos_iff.2 h
      rw [hn]
      exact lst_same (k := ckAt cs) (fun i hi => hys i hi) hp
  have HB := Lib.hid hb
  generalize lstF (fun j => ys[j]?.getD 0) n = r at *
  clear hrow hys ho hb hyl HL
  go_wp2_with (go_at_call 29; refine HLE.out.mono ?_; rintro e w2 ⟨rfl, rfl⟩)
  go_ret
  exact ⟨r, rfl, HLI.out, HB.out⟩
/-- The two fixed candidates. -/
def acs : List Cand := [⟨⟨#[]⟩, 1, 1, 0⟩, ⟨⟨#[]⟩, 3, 2, 0⟩]
theorem acs_small : ∀ x ∈ acs, Small x := by
  intro x hx
  simp only [acs, List.mem_cons, List.not_mem_nil, or_false] at hx
  rcases hx with rfl | rfl <;> exact ⟨by decide, by decide, by decide, by decide⟩
theorem acs_least {r : Int} (h : LeastIs acs r) : r = 1 := by
  obtain ⟨h0, h1, h2⟩ := h.2 (by decide)
  have h3 := h2 1 (by decide)
  have hk : qk 3 3 < qk 2 1 := qk_lt (by decide) (by decide) (by decide) (by decide) (by decide) (by decide) (by decide) (by decide) (by decide)
  have e0 : ckAt acs 0 = (qk 2 1 : Int) := rfl
  have e1 : ckAt acs 1 = (qk 3 3 : Int) := rfl
  have hl : acs.length = 2 := rfl
  rw [hl] at h1
  have hr : r = 0 ∨ r = 1 := by omega
  rcases hr with rfl | rfl
  · exfalso
    rw [show (0 : Int).toNat = 0 from rfl, e0, e1] at h3
    omega
  · rfl
theorem isCands_two (w : World) (T : TypeId) : IsCands (w.alloc (.cells #[.string ⟨#[]⟩, .int .i64 1, .int .i64 1, .float .f64 0, .string ⟨#[]⟩, .int .i64 3, .int .i64 2, .float .f64 0] T)) (some ⟨w.heap.size, 0, none⟩) 2 acs := by
  refine .inr ⟨w.heap.size, 0, rfl, by simp, by decide, fun j e he => ?_⟩
  match j, he with
  | 0, he => simp [acs] at he; subst he; simp
  | 1, he => simp [acs] at he; subst he; simp
  | j + 2, he => simp [acs] at he
set_option maxHeartbeats 2000000 in
set_option maxRecDepth 100000 in
theorem awake16 (w : World) : Calls Try.prog 17 #[] w fun e w' => e = .returned (.bool true) ∧ Below w.heap.size w w' := by
  have hc := isCands_two w 54
  have hb := below_alloc w (.cells #[.string ⟨#[]⟩, .int .i64 1, .int .i64 1, .float .f64 0, .string ⟨#[]⟩, .int .i64 3, .int .i64 2, .float .f64 0] 54)
  have h1 := cleast19 (some ⟨w.heap.size, 0, none⟩) 2 acs (by decide) acs_small _ hc
  have HC := Lib.hid hc
  have HB := Lib.hid hb
  have H1 : Hid (Calls Try.prog 19 #[.slice (some ⟨w.heap.size, 0, none⟩) 2 2] (w.alloc (.cells #[.string ⟨#[]⟩, .int .i64 1, .int .i64 1, .float .f64 0, .string ⟨#[]⟩, .int .i64 3, .int .i64 2, .float .f64 0] 54)) fun e w' => ∃ r, e = .returned (.int .i64 r) ∧ LeastIs acs r ∧ Below (w.alloc (.cells #[.string ⟨#[]⟩, .int .i64 1, .int .i64 1, .float .f64 0, .string ⟨#[]⟩, .int .i64 3, .int .i64 2, .float .f64 0] 54)).heap.size (w.alloc (.cells #[.string ⟨#[]⟩, .int .i64 1, .int .i64 1, .float .f64 0, .string ⟨#[]⟩, .int .i64 3, .int .i64 2, .float .f64 0] 54)) w') := h1
  clear h1 hc hb
  go_enter Try.func17, Try.ntmps17
  go_wp2_with (go_at_call 19; refine H1.out.mono ?_; rintro e w1 ⟨r, rfl, hr, hb1⟩; obtain rfl := acs_least hr; clear hr)
  have H2 : Hid (Calls Try.prog 19 #[.slice none 0 0] w1 fun e w' => ∃ r, e = .returned (.int .i64 r) ∧ LeastIs [] r ∧ Below w1.heap.size w1 w') := cleast19 none 0 [] (by decide) (fun _ h => by cases h) w1 (.inl rfl)
  have HB1 := Lib.hid (HB.out.trans (hb1.mono HB.out.size))
  have HC1 := Lib.hid (HC.out.below hb1)
  clear hb1 H1 HB HC
  refine H2.out.mono ?_
  rintro e w2 ⟨r, rfl, hr, hb2⟩
  obtain rfl := hr.1 rfl
  have H3 : Hid (Calls Try.prog 28 #[.slice (some ⟨w.heap.size, 0, none⟩) 2 2] w2 fun e w' => ∃ g f, e = .returned (.slice (some ⟨g, 0, none⟩) 2 2) ∧ Srt (tkAt acs) f 2 2 ∧ RowI w' g 2 f ∧ Below w2.heap.size w2 w' ∧ g < w'.heap.size) := rank28 (some ⟨w.heap.size, 0, none⟩) 2 acs (by decide) acs_small w2 (HC1.out.below hb2)
  have HB2 := Lib.hid (HB1.out.trans (hb2.mono HB1.out.size))
  clear hb2 H2 HB1 HC1 hr
  go_wp2_with (go_at_call 28; refine H3.out.mono ?_; rintro e w3 ⟨g, f, rfl, _, _, hb3, _⟩)
  go_ret
  exact ⟨rfl, HB2.out.trans (hb3.mono HB2.out.size)⟩
end Go.Proofs.Ytcmjcpgfnkhnoaa
