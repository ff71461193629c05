/- The reference's pool: Take and Change. -/
import Derived.Test.YtoikgphbicnhaabPlS
namespace Go.Proofs.Ytoikgphbicnhaab
open Go.RowKit Go.Maps Go.Shelf Go.Sort

/-- A slice of backends; a nil slice has no capacity. -/
structure IsBksN (w : World) (a : Option Addr) (c : Nat) (l : List Bk) : Prop where
  bks : IsBks w a c l
  cap : a = none → c = 0
  blk : ∀ p, a = some p → p.block < w.heap.size
theorem IsBksN.below {w w' : World} {a : Option Addr} {c : Nat} {l : List Bk} (h : IsBksN w a c l) (hb : Below w.heap.size w w') : IsBksN w' a c l := ⟨h.bks.below hb, h.cap, fun p hp => Nat.lt_of_lt_of_le (h.blk p hp) hb.size⟩
theorem IsBksN.keep {G : Nat → Prop} {w w' : World} {a : Option Addr} {c : Nat} {l : List Bk} (h : IsBksN w a c l) (hk : Keep G w w') (hg : ∀ p, a = some p → ¬ G p.block) : IsBksN w' a c l := ⟨h.bks.keep hk hg, h.cap, fun p hp => Nat.lt_of_lt_of_le (h.blk p hp) hk.size⟩
/-- A slice that is returned: it is the one that was given, or new. -/
def RetB (w : World) (a0 : Option Addr) (l' : List Bk) (k : Value → Value) (e : Ending) (w' : World) : Prop := ∃ a' c', e = .returned (k (.slice a' l'.length c')) ∧ IsBksN w' a' c' l' ∧ (a' = a0 ∨ ∀ p, a' = some p → w.heap.size ≤ p.block) ∧ Below w.heap.size w w'
theorem RetB.of_own {w w' : World} {a0 : Option Addr} {v : Value} {l' : List Bk} {k : Value → Value} {base : Nat} {e : TypeId} (h : w'.ownsRow base e 5 v l'.length (cellsB l')) (hb : Below w.heap.size w w') (hbase : w.heap.size ≤ base) : RetB w a0 l' k (.returned (k v)) w' := by
  obtain ⟨a, c, rfl⟩ := own_slice h
  have hib := isBks_own h
  refine ⟨a, c, rfl, ⟨hib.2.1, fun e => ?_, fun p hp => (hib.2.2 p hp).2⟩, .inr (fun p hp => Nat.le_trans hbase (hib.2.2 p hp).1), hb⟩
  obtain ⟨_, ⟨hv, _⟩ | ⟨g, cap, cur, hv, _⟩⟩ := h
  · injection hv
  · injection hv with h1; rw [e] at h1; cases h1
def pairE (E : Int) (v : Value) : Value := .tuple #[v, .int .i64 E]
theorem ch_none {l : List Bk} {s : ByteArray} (hf : fndB l s = none) (h : Bk → Int) (g : Bk → Bk) : chE l s h = 6 ∧ chL l s g = l := by unfold chE chL; rw [hf]; exact ⟨rfl, rfl⟩
theorem ch_some {l : List Bk} {s : ByteArray} {b : Bk} (hf : fndB l s = some b) (h : Bk → Int) (g : Bk → Bk) : chE l s h = h b ∧ chL l s g = putB l (g b) := by unfold chE chL; rw [hf]; exact ⟨rfl, rfl⟩
set_option maxHeartbeats 2000000 in
theorem rtake26 (a : Option Addr) (c : Nat) (l : List Bk) (hg : Good l) (hl : l.length ≤ 1100) (s : ByteArray) (w : World) (h : IsBksN w a c l) :
    Calls Try.prog 26 #[.slice a l.length c, .string s] w (RetB w a (chL l s tk1) (pairE (chE l s tk1E))) := by
  have HI := Lib.hid h.bks
  have HNC := Lib.hid h
  have HF := Lib.hid (rfind39 a c l hl s w h.bks)
  cases hf : fndB l s with
  | none =>
    obtain ⟨e1, e2⟩ := ch_none hf tk1E tk1
    rw [e1, e2]
    rw [hf] at HF
    simp only [Option.getD_none, Option.isSome_none, bkV, bkC, bk0] at HF
    clear h hf e1 e2
    go_enter Try.func26, Try.ntmps26
    go_wp2_with fail
    refine HF.out.mono ?_
    rintro e w2 ⟨rfl, hb⟩
    have HB := Lib.hid hb
    clear hb
    go_wp2_with fail
    refine bodyPost_ret (v := .tuple #[.slice a l.length c, .int .i64 6]) (by simp [results, Try.results26, go_sem]) rfl ?_
    exact ⟨a, c, rfl, HNC.out.below (HB.out.alloc HB.out.size _), .inl rfl, HB.out.alloc HB.out.size _⟩
  | some b =>
    obtain ⟨e1, e2⟩ := ch_some hf tk1E tk1
    rw [e1, e2]
    have hself := putB_self hg hf
    have hbd := hg.of hf
    rw [hf] at HF
    obtain ⟨n0, w0, c0, s0, z0⟩ := b
    simp only [Option.getD_some, Option.isSome_some, bkV, bkC] at HF
    simp only at hbd
    have hz0 := hbd.2.1.1
    have hz1 := hbd.2.1.2
    have hc1 := hbd.2.2.1.2
    clear hbd
    have HSELF := Lib.hid hself
    clear h hf e1 e2 hself hg
    by_cases h1 : s0 = 0
    · subst h1
      by_cases h2 : c0 ≤ z0
      · have e3 : tk1E ⟨n0, w0, c0, 0, z0⟩ = 8 := by simp [tk1E, h2]
        have e4 : tk1 ⟨n0, w0, c0, 0, z0⟩ = ⟨n0, w0, c0, 0, z0⟩ := by simp [tk1, h2]
        rw [e3, e4, HSELF.out]
        clear e3 e4
        go_enter Try.func26, Try.ntmps26
        go_wp2_with fail
        refine HF.out.mono ?_
        rintro e w2 ⟨rfl, hb⟩
        have HB := Lib.hid hb
        clear hb
        go_wp2_with fail
        refine bodyPost_ret (v := .tuple #[.slice a l.length c, .int .i64 8]) (by simp [results, Try.results26, go_sem]) rfl ?_
        exact ⟨a, c, rfl, HNC.out.below (HB.out.alloc HB.out.size _), .inl rfl, HB.out.alloc HB.out.size _⟩
      · have e3 : tk1E ⟨n0, w0, c0, 0, z0⟩ = 0 := by simp [tk1E, h2]
        have e4 : tk1 ⟨n0, w0, c0, 0, z0⟩ = ⟨n0, w0, c0, 0, z0 + 1⟩ := by simp [tk1, h2]
        rw [e3, e4]
        have h3 : z0 < c0 := by omega
        clear e3 e4
        go_enter Try.func26, Try.ntmps26
        go_wp2_with fail
        refine HF.out.mono ?_
        rintro e w2 ⟨rfl, hb⟩
        have HB := Lib.hid hb
        clear hb
        have HBA := Lib.hid (HB.out.alloc HB.out.size (.cells #[.string n0, .int .i64 w0, .int .i64 c0, .int .i64 0, .int .i64 (z0 + 1)] 61))
        go_wp2_with fail
        refine (rput40 a c l hl ⟨n0, w0, c0, 0, z0 + 1⟩ _ (HI.out.below HBA.out)).mono ?_
        rintro e w3 ⟨v, rfl, ho, hb3⟩
        have HO := Lib.hid ho
        have HB3 := Lib.hid (HBA.out.trans (hb3.mono HBA.out.size))
        clear ho hb3
        go_wp2_with fail
        refine bodyPost_ret (v := .tuple #[v, .int .i64 0]) (by simp [results, Try.results26, go_sem]) rfl ?_
        exact RetB.of_own (a0 := a) (k := pairE 0) HO.out HB3.out HBA.out.size
    · have e3 : tk1E ⟨n0, w0, c0, s0, z0⟩ = 9 := by simp [tk1E, h1]
      have e4 : tk1 ⟨n0, w0, c0, s0, z0⟩ = ⟨n0, w0, c0, s0, z0⟩ := by simp [tk1, h1]
      rw [e3, e4, HSELF.out]
      have h3 : (s0 != 0) = true := by simp [h1]
      clear e3 e4 h1
      go_enter Try.func26, Try.ntmps26
      go_wp2_with fail
      refine HF.out.mono ?_
      rintro e w2 ⟨rfl, hb⟩
      have HB := Lib.hid hb
      clear hb
      go_wp2_with fail
      refine bodyPost_ret (v := .tuple #[.slice a l.length c, .int .i64 9]) (by simp [results, Try.results26, go_sem]) rfl ?_
      exact ⟨a, c, rfl, HNC.out.below (HB.out.alloc HB.out.size _), .inl rfl, HB.out.alloc HB.out.size _⟩
set_option maxHeartbeats 2000000 in
theorem rchg25_0 (a : Option Addr) (c : Nat) (l : List Bk) (hg : Good l) (hl : l.length ≤ 1100) (s : ByteArray) (u : Int) (w : World) (h : IsBksN w a c l) :
    Calls Try.prog 25 #[.slice a l.length c, .int .i64 0, .string s, .int .i64 u] w (RetB w a (chL l s (rw2 u)) (pairE (chE l s (rw2E u)))) := by
  have HI := Lib.hid h.bks
  have HNC := Lib.hid h
  have HF := Lib.hid (rfind39 a c l hl s w h.bks)
  cases hf : fndB l s with
  | none =>
    obtain ⟨e1, e2⟩ := ch_none hf (rw2E u) (rw2 u)
    rw [e1, e2]
    rw [hf] at HF
    simp only [Option.getD_none, Option.isSome_none, bkV, bkC, bk0] at HF
    clear h hf e1 e2
    go_enter Try.func25, Try.ntmps25
    go_wp2_with fail
    refine HF.out.mono ?_
    rintro e w2 ⟨rfl, hb⟩
    have HB := Lib.hid hb
    clear hb
    go_wp2_with fail
    refine bodyPost_ret (v := .tuple #[.slice a l.length c, .int .i64 6]) (by simp [results, Try.results25, go_sem]) rfl ?_
    exact ⟨a, c, rfl, HNC.out.below (HB.out.alloc HB.out.size _), .inl rfl, HB.out.alloc HB.out.size _⟩
  | some b =>
    obtain ⟨e1, e2⟩ := ch_some hf (rw2E u) (rw2 u)
    rw [e1, e2]
    have hself := putB_self hg hf
    rw [hf] at HF
    obtain ⟨n0, w0, c0, s0, z0⟩ := b
    simp only [Option.getD_some, Option.isSome_some, bkV, bkC] at HF
    have HSELF := Lib.hid hself
    clear h hf e1 e2 hself hg
    by_cases h1 : s0 = 2
    · subst h1
      have e3 : rw2E u ⟨n0, w0, c0, 2, z0⟩ = 6 := by simp [rw2E]
      have e4 : rw2 u ⟨n0, w0, c0, 2, z0⟩ = ⟨n0, w0, c0, 2, z0⟩ := by simp [rw2]
      rw [e3, e4, HSELF.out]
      clear e3 e4
      go_enter Try.func25, Try.ntmps25
      go_wp2_with fail
      refine HF.out.mono ?_
      rintro e w2 ⟨rfl, hb⟩
      have HB := Lib.hid hb
      clear hb
      go_wp2_with fail
      refine bodyPost_ret (v := .tuple #[.slice a l.length c, .int .i64 6]) (by simp [results, Try.results25, go_sem]) rfl ?_
      exact ⟨a, c, rfl, HNC.out.below (HB.out.alloc HB.out.size _), .inl rfl, HB.out.alloc HB.out.size _⟩
    · have t1 : (s0 == 2) = false := by simp [h1]
      by_cases hu : 1 ≤ u ∧ u ≤ 65535
      · have e3 : rw2E u ⟨n0, w0, c0, s0, z0⟩ = 0 := by simp [rw2E, rw1E, h1, hu]
        have e4 : rw2 u ⟨n0, w0, c0, s0, z0⟩ = ⟨n0, u, c0, s0, z0⟩ := by simp [rw2, rw1, h1, hu]
        obtain ⟨hu1, hu2⟩ := hu
        have hu3 : decide (u < 1) = false := decide_eq_false (by omega)
        have hu4 : decide (65535 < u) = false := decide_eq_false (by omega)
        rw [e3, e4]
        clear e3 e4 h1
        go_enter Try.func25, Try.ntmps25
        go_wp2_with fail
        refine HF.out.mono ?_
        rintro e w2 ⟨rfl, hb⟩
        have HB := Lib.hid hb
        clear hb
        have HBA := Lib.hid (HB.out.alloc HB.out.size (.cells #[.string n0, .int .i64 u, .int .i64 c0, .int .i64 s0, .int .i64 z0] 61))
        go_wp2_with fail
        refine (rput40 a c l hl ⟨n0, u, c0, s0, z0⟩ _ (HI.out.below HBA.out)).mono ?_
        rintro e w3 ⟨v, rfl, ho, hb3⟩
        have HO := Lib.hid ho
        have HB3 := Lib.hid (HBA.out.trans (hb3.mono HBA.out.size))
        clear ho hb3
        go_wp2_with fail
        refine bodyPost_ret (v := .tuple #[v, .int .i64 0]) (by simp [results, Try.results25, go_sem]) rfl ?_
        exact RetB.of_own (a0 := a) (k := pairE 0) HO.out HB3.out HBA.out.size
      · have e3 : rw2E u ⟨n0, w0, c0, s0, z0⟩ = 1 := by simp [rw2E, rw1E, h1, hu]
        have e4 : rw2 u ⟨n0, w0, c0, s0, z0⟩ = ⟨n0, w0, c0, s0, z0⟩ := by simp [rw2, rw1, h1, hu]
        rw [e3, e4, HSELF.out]
        clear e3 e4 h1
        by_cases hu1 : u < 1
        · have hu3 : decide (u < 1) = true := decide_eq_true hu1
          go_enter Try.func25, Try.ntmps25
          go_wp2_with fail
          refine HF.out.mono ?_
          rintro e w2 ⟨rfl, hb⟩
          have HB := Lib.hid hb
          clear hb
          go_wp2_with fail
          refine bodyPost_ret (v := .tuple #[.slice a l.length c, .int .i64 1]) (by simp [results, Try.results25, go_sem]) rfl ?_
          exact ⟨a, c, rfl, HNC.out.below (HB.out.alloc HB.out.size _), .inl rfl, HB.out.alloc HB.out.size _⟩
        · have hu3 : decide (u < 1) = false := decide_eq_false hu1
          have hu4 : decide (65535 < u) = true := decide_eq_true (by omega)
          go_enter Try.func25, Try.ntmps25
          go_wp2_with fail
          refine HF.out.mono ?_
          rintro e w2 ⟨rfl, hb⟩
          have HB := Lib.hid hb
          clear hb
          go_wp2_with fail
          refine bodyPost_ret (v := .tuple #[.slice a l.length c, .int .i64 1]) (by simp [results, Try.results25, go_sem]) rfl ?_
          exact ⟨a, c, rfl, HNC.out.below (HB.out.alloc HB.out.size _), .inl rfl, HB.out.alloc HB.out.size _⟩
set_option maxHeartbeats 2000000 in
theorem rchg25_1 (a : Option Addr) (c : Nat) (l : List Bk) (hg : Good l) (hl : l.length ≤ 1100) (s : ByteArray) (w : World) (h : IsBksN w a c l) :
    Calls Try.prog 25 #[.slice a l.length c, .int .i64 1, .string s, .int .i64 0] w (RetB w a (chL l s (tn1 1)) (pairE (chE l s tn1E))) := by
  have HI := Lib.hid h.bks
  have HNC := Lib.hid h
  have HF := Lib.hid (rfind39 a c l hl s w h.bks)
  cases hf : fndB l s with
  | none =>
    obtain ⟨e1, e2⟩ := ch_none hf tn1E (tn1 1)
    rw [e1, e2]
    rw [hf] at HF
    simp only [Option.getD_none, Option.isSome_none, bkV, bkC, bk0] at HF
    clear h hf e1 e2
    go_enter Try.func25, Try.ntmps25
    go_wp2_with fail
    refine HF.out.mono ?_
    rintro e w2 ⟨rfl, hb⟩
    have HB := Lib.hid hb
    clear hb
    go_wp2_with fail
    refine bodyPost_ret (v := .tuple #[.slice a l.length c, .int .i64 6]) (by simp [results, Try.results25, go_sem]) rfl ?_
    exact ⟨a, c, rfl, HNC.out.below (HB.out.alloc HB.out.size _), .inl rfl, HB.out.alloc HB.out.size _⟩
  | some b =>
    obtain ⟨e1, e2⟩ := ch_some hf tn1E (tn1 1)
    rw [e1, e2]
    have hself := putB_self hg hf
    rw [hf] at HF
    obtain ⟨n0, w0, c0, s0, z0⟩ := b
    simp only [Option.getD_some, Option.isSome_some, bkV, bkC] at HF
    have HSELF := Lib.hid hself
    clear h hf e1 e2 hself hg
    by_cases h1 : s0 = 2
    · subst h1
      have e3 : tn1E ⟨n0, w0, c0, 2, z0⟩ = 6 := by simp [tn1E]
      have e4 : tn1 1 ⟨n0, w0, c0, 2, z0⟩ = ⟨n0, w0, c0, 2, z0⟩ := by simp [tn1]
      rw [e3, e4, HSELF.out]
      clear e3 e4
      go_enter Try.func25, Try.ntmps25
      go_wp2_with fail
      refine HF.out.mono ?_
      rintro e w2 ⟨rfl, hb⟩
      have HB := Lib.hid hb
      clear hb
      go_wp2_with fail
      refine bodyPost_ret (v := .tuple #[.slice a l.length c, .int .i64 6]) (by simp [results, Try.results25, go_sem]) rfl ?_
      exact ⟨a, c, rfl, HNC.out.below (HB.out.alloc HB.out.size _), .inl rfl, HB.out.alloc HB.out.size _⟩
    · have t1 : (s0 == 2) = false := by simp [h1]
      have e3 : tn1E ⟨n0, w0, c0, s0, z0⟩ = 0 := by simp [tn1E, h1]
      have e4 : tn1 1 ⟨n0, w0, c0, s0, z0⟩ = ⟨n0, w0, c0, 1, z0⟩ := by simp [tn1, h1]
      rw [e3, e4]
      clear e3 e4 h1
      go_enter Try.func25, Try.ntmps25
      go_wp2_with fail
      refine HF.out.mono ?_
      rintro e w2 ⟨rfl, hb⟩
      have HB := Lib.hid hb
      clear hb
      have HBA := Lib.hid (HB.out.alloc HB.out.size (.cells #[.string n0, .int .i64 w0, .int .i64 c0, .int .i64 1, .int .i64 z0] 61))
      go_wp2_with fail
      refine (rput40 a c l hl ⟨n0, w0, c0, 1, z0⟩ _ (HI.out.below HBA.out)).mono ?_
      rintro e w3 ⟨v, rfl, ho, hb3⟩
      have HO := Lib.hid ho
      have HB3 := Lib.hid (HBA.out.trans (hb3.mono HBA.out.size))
      clear ho hb3
      go_wp2_with fail
      refine bodyPost_ret (v := .tuple #[v, .int .i64 0]) (by simp [results, Try.results25, go_sem]) rfl ?_
      exact RetB.of_own (a0 := a) (k := pairE 0) HO.out HB3.out HBA.out.size
set_option maxHeartbeats 2000000 in
theorem rchg25_2 (a : Option Addr) (c : Nat) (l : List Bk) (hg : Good l) (hl : l.length ≤ 1100) (s : ByteArray) (w : World) (h : IsBksN w a c l) :
    Calls Try.prog 25 #[.slice a l.length c, .int .i64 2, .string s, .int .i64 0] w (RetB w a (chL l s (tn1 0)) (pairE (chE l s tn1E))) := by
  have HI := Lib.hid h.bks
  have HNC := Lib.hid h
  have HF := Lib.hid (rfind39 a c l hl s w h.bks)
  cases hf : fndB l s with
  | none =>
    obtain ⟨e1, e2⟩ := ch_none hf tn1E (tn1 0)
    rw [e1, e2]
    rw [hf] at HF
    simp only [Option.getD_none, Option.isSome_none, bkV, bkC, bk0] at HF
    clear h hf e1 e2
    go_enter Try.func25, Try.ntmps25
    go_wp2_with fail
    refine HF.out.mono ?_
    rintro e w2 ⟨rfl, hb⟩
    have HB := Lib.hid hb
    clear hb
    go_wp2_with fail
    refine bodyPost_ret (v := .tuple #[.slice a l.length c, .int .i64 6]) (by simp [results, Try.results25, go_sem]) rfl ?_
    exact ⟨a, c, rfl, HNC.out.below (HB.out.alloc HB.out.size _), .inl rfl, HB.out.alloc HB.out.size _⟩
  | some b =>
    obtain ⟨e1, e2⟩ := ch_some hf tn1E (tn1 0)
    rw [e1, e2]
    have hself := putB_self hg hf
    rw [hf] at HF
    obtain ⟨n0, w0, c0, s0, z0⟩ := b
    simp only [Option.getD_some, Option.isSome_some, bkV, bkC] at HF
    have HSELF := Lib.hid hself
    clear h hf e1 e2 hself hg
    by_cases h1 : s0 = 2
    · subst h1
      have e3 : tn1E ⟨n0, w0, c0, 2, z0⟩ = 6 := by simp [tn1E]
      have e4 : tn1 0 ⟨n0, w0, c0, 2, z0⟩ = ⟨n0, w0, c0, 2, z0⟩ := by simp [tn1]
      rw [e3, e4, HSELF.out]
      clear e3 e4
      go_enter Try.func25, Try.ntmps25
      go_wp2_with fail
      refine HF.out.mono ?_
      rintro e w2 ⟨rfl, hb⟩
      have HB := Lib.hid hb
      clear hb
      go_wp2_with fail
      refine bodyPost_ret (v := .tuple #[.slice a l.length c, .int .i64 6]) (by simp [results, Try.results25, go_sem]) rfl ?_
      exact ⟨a, c, rfl, HNC.out.below (HB.out.alloc HB.out.size _), .inl rfl, HB.out.alloc HB.out.size _⟩
    · have t1 : (s0 == 2) = false := by simp [h1]
      have e3 : tn1E ⟨n0, w0, c0, s0, z0⟩ = 0 := by simp [tn1E, h1]
      have e4 : tn1 0 ⟨n0, w0, c0, s0, z0⟩ = ⟨n0, w0, c0, 0, z0⟩ := by simp [tn1, h1]
      rw [e3, e4]
      clear e3 e4 h1
      go_enter Try.func25, Try.ntmps25
      go_wp2_with fail
      refine HF.out.mono ?_
      rintro e w2 ⟨rfl, hb⟩
      have HB := Lib.hid hb
      clear hb
      have HBA := Lib.hid (HB.out.alloc HB.out.size (.cells #[.string n0, .int .i64 w0, .int .i64 c0, .int .i64 0, .int .i64 z0] 61))
      go_wp2_with fail
      refine (rput40 a c l hl ⟨n0, w0, c0, 0, z0⟩ _ (HI.out.below HBA.out)).mono ?_
      rintro e w3 ⟨v, rfl, ho, hb3⟩
      have HO := Lib.hid ho
      have HB3 := Lib.hid (HBA.out.trans (hb3.mono HBA.out.size))
      clear ho hb3
      go_wp2_with fail
      refine bodyPost_ret (v := .tuple #[v, .int .i64 0]) (by simp [results, Try.results25, go_sem]) rfl ?_
      exact RetB.of_own (a0 := a) (k := pairE 0) HO.out HB3.out HBA.out.size
set_option maxHeartbeats 2000000 in
theorem rchg25_3 (a : Option Addr) (c : Nat) (l : List Bk) (hg : Good l) (hl : l.length ≤ 1100) (s : ByteArray) (w : World) (h : IsBksN w a c l) :
    Calls Try.prog 25 #[.slice a l.length c, .int .i64 3, .string s, .int .i64 0] w (RetB w a (chL l s (tn1 2)) (pairE (chE l s tn1E))) := by
  have HI := Lib.hid h.bks
  have HNC := Lib.hid h
  have HF := Lib.hid (rfind39 a c l hl s w h.bks)
  cases hf : fndB l s with
  | none =>
    obtain ⟨e1, e2⟩ := ch_none hf tn1E (tn1 2)
    rw [e1, e2]
    rw [hf] at HF
    simp only [Option.getD_none, Option.isSome_none, bkV, bkC, bk0] at HF
    clear h hf e1 e2
    go_enter Try.func25, Try.ntmps25
    go_wp2_with fail
    refine HF.out.mono ?_
    rintro e w2 ⟨rfl, hb⟩
    have HB := Lib.hid hb
    clear hb
    go_wp2_with fail
    refine bodyPost_ret (v := .tuple #[.slice a l.length c, .int .i64 6]) (by simp [results, Try.results25, go_sem]) rfl ?_
    exact ⟨a, c, rfl, HNC.out.below (HB.out.alloc HB.out.size _), .inl rfl, HB.out.alloc HB.out.size _⟩
  | some b =>
    obtain ⟨e1, e2⟩ := ch_some hf tn1E (tn1 2)
    rw [e1, e2]
    have hself := putB_self hg hf
    rw [hf] at HF
    obtain ⟨n0, w0, c0, s0, z0⟩ := b
    simp only [Option.getD_some, Option.isSome_some, bkV, bkC] at HF
    have HSELF := Lib.hid hself
    clear h hf e1 e2 hself hg
    by_cases h1 : s0 = 2
    · subst h1
      have e3 : tn1E ⟨n0, w0, c0, 2, z0⟩ = 6 := by simp [tn1E]
      have e4 : tn1 2 ⟨n0, w0, c0, 2, z0⟩ = ⟨n0, w0, c0, 2, z0⟩ := by simp [tn1]
      rw [e3, e4, HSELF.out]
      clear e3 e4
      go_enter Try.func25, Try.ntmps25
      go_wp2_with fail
      refine HF.out.mono ?_
      rintro e w2 ⟨rfl, hb⟩
      have HB := Lib.hid hb
      clear hb
      go_wp2_with fail
      refine bodyPost_ret (v := .tuple #[.slice a l.length c, .int .i64 6]) (by simp [results, Try.results25, go_sem]) rfl ?_
      exact ⟨a, c, rfl, HNC.out.below (HB.out.alloc HB.out.size _), .inl rfl, HB.out.alloc HB.out.size _⟩
    · have t1 : (s0 == 2) = false := by simp [h1]
      have e3 : tn1E ⟨n0, w0, c0, s0, z0⟩ = 0 := by simp [tn1E, h1]
      have e4 : tn1 2 ⟨n0, w0, c0, s0, z0⟩ = ⟨n0, w0, c0, 2, z0⟩ := by simp [tn1, h1]
      rw [e3, e4]
      clear e3 e4 h1
      go_enter Try.func25, Try.ntmps25
      go_wp2_with fail
      refine HF.out.mono ?_
      rintro e w2 ⟨rfl, hb⟩
      have HB := Lib.hid hb
      clear hb
      have HBA := Lib.hid (HB.out.alloc HB.out.size (.cells #[.string n0, .int .i64 w0, .int .i64 c0, .int .i64 2, .int .i64 z0] 61))
      go_wp2_with fail
      refine (rput40 a c l hl ⟨n0, w0, c0, 2, z0⟩ _ (HI.out.below HBA.out)).mono ?_
      rintro e w3 ⟨v, rfl, ho, hb3⟩
      have HO := Lib.hid ho
      have HB3 := Lib.hid (HBA.out.trans (hb3.mono HBA.out.size))
      clear ho hb3
      go_wp2_with fail
      refine bodyPost_ret (v := .tuple #[v, .int .i64 0]) (by simp [results, Try.results25, go_sem]) rfl ?_
      exact RetB.of_own (a0 := a) (k := pairE 0) HO.out HB3.out HBA.out.size
end Go.Proofs.Ytoikgphbicnhaab
