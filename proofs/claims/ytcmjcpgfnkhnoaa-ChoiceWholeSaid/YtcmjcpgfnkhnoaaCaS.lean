/- The insertion sort of indices by a function that compares loads. -/
import Derived.Test.YtcmjcpgfnkhnoaaCaB
import Derived.Test.YtcmjcpgfnkhnoaaRegT
namespace Go.Proofs.Ytcmjcpgfnkhnoaa
open Go.RowKit

/-- A row of integers. -/
def RowI (w : World) (lb n : Nat) (f : Nat → Nat) : Prop := ∀ j, j < n → w.cell? ⟨lb, j, none⟩ = some (.int .i64 ((f j : Nat) : Int)) ∧ w.frozen? ⟨lb, j, none⟩ = false
theorem RowI.set {w : World} {lb n : Nat} {f : Nat → Nat} (h : RowI w lb n f) {k : Nat} (hk : k < n) (v : Nat) : RowI (w.setCell ⟨lb, k, none⟩ (.int .i64 (v : Int))) lb n (fun j => if j = k then v else f j) := fun j hj => by
  rw [World.frozen?_setCell]
  refine ⟨?_, (h j hj).2⟩
  show _ = some (Value.int .i64 ((if j = k then v else f j : Nat) : Int))
  by_cases e : j = k
  · subst e; rw [World.cell?_setCell_same _ _ _ (h j hj).1, if_pos rfl]
  · rw [World.cell?_setCell_other _ _ _ _ (by intro e2; injection e2 with _ e3; exact e e3.symm), if_neg e]; exact (h j hj).1
theorem RowI.drewN {w : World} {lb n : Nat} {f : Nat → Nat} (h : RowI w lb n f) (m : Nat) : RowI (w.drewN m) lb n f := h
def swp (f : Nat → Nat) (i j : Nat) : Nat → Nat := fun k => if k = j then f i else if k = i then f j else f k
/-- Where the loads lie that are compared: their places. -/
structure FoundAt (w : World) (fb g n : Nat) (k : Nat → Int) : Prop where
  ne : fb ≠ g
  lt : fb < w.heap.size
  cell : ∃ a, w.cell? ⟨fb, 0, none⟩ = some (.slice a n n) ∧ ∀ i, i < n → ∃ b o y, a = some ⟨b, o, none⟩ ∧ b ≠ g ∧ b < w.heap.size ∧ w.cell? ⟨b, o + i, none⟩ = some (.float .f64 y) ∧ kf y = k i
theorem keep_cell {G : Nat → Prop} {w w' : World} (h : Keep G w w') {b : Nat} (hb : b < w.heap.size) (hg : ¬ G b) (o : Nat) : w'.cell? ⟨b, o, none⟩ = w.cell? ⟨b, o, none⟩ := by
  have := h.block b hb hg
  simp only [World.cell?, this]
theorem FoundAt.keep {w w' : World} {fb g n : Nat} {k : Nat → Int} (h : FoundAt w fb g n k) (hk : Keep (fun x => x = g) w w') : FoundAt w' fb g n k := by
  obtain ⟨a, ha, hi⟩ := h.cell
  refine ⟨h.ne, Nat.lt_of_lt_of_le h.lt hk.size, a, by rw [keep_cell hk h.lt h.ne]; exact ha, fun i hin => ?_⟩
  obtain ⟨b, o, y, h1, h2, h3, h4, h5⟩ := hi i hin
  exact ⟨b, o, y, h1, h2, Nat.lt_of_lt_of_le h3 hk.size, by rw [keep_cell hk h3 h2]; exact h4, h5⟩
/-- How two places compare. -/
def cmpK (a b : Int) : Int := if a < b then -1 else if b < a then 1 else 0
set_option maxHeartbeats 1000000 in
set_option maxRecDepth 100000 in
theorem rank39 (fb g n : Nat) (k : Nat → Int) (i j : Nat) (hi : i < n) (hj : j < n) (w : World) (h : FoundAt w fb g n k) :
    Calls Try.prog 39 #[.int .i64 (i : Int), .int .i64 (j : Int), .pointer (some ⟨fb, 0, none⟩)] w fun e w' => e = .returned (.int .i64 (cmpK (k i) (k j))) ∧ ∃ m, w' = w.drewN m := by
  obtain ⟨a, ha, hr⟩ := h.cell
  obtain ⟨b, o, y, rfl, _, _, cy, ky⟩ := hr i hi
  obtain ⟨b', o', z, e, _, _, cz, kz⟩ := hr j hj
  injection e with e
  injection e with e1 e2
  subst e1 e2
  have hc := fun W => compare5 y z W
  have hk : cmpF y z = cmpK (k i) (k j) := by unfold cmpF cmpK; rw [ky, kz]
  rw [hk] at hc
  have i1 : (i : Int) < n := by omega
  have j1 : (j : Int) < n := by omega
  generalize cmpK (k i) (k j) = r at *
  clear hr h hk ky kz
  go_enter Try.func39, Try.ntmps39
  go_wp2_with fail
  go_quiet ((go_at_call 40; exact Calls.quiet_of_same (hc _)))
  go_wp2_with fail
  go_ret
  exact ⟨rfl, _, rfl⟩
/-- What holds while two numbers are exchanged. -/
structure SwS (W : World) (lb i v : Nat) (L : Nat → Bool) (w : World) : Prop where
  no : L 15 = false → w = W
  yes : L 15 = true → w = W.setCell ⟨lb, i, none⟩ (.int .i64 (v : Int)) ∧ L 9 = true ∧ L 13 = true
theorem SwS.keep {W : World} {lb i v : Nat} {L : Nat → Bool} {w : World} (h : SwS W lb i v L w) (k : Nat) (hk : k ≠ 15) : SwS W lb i v (setL L k) w := by
  refine ⟨fun e => h.no ?_, fun e => ?_⟩
  · simpa [setL, Ne.symm hk] using e
  · obtain ⟨h1, h2, h3⟩ := h.yes (by simpa [setL, Ne.symm hk] using e)
    refine ⟨h1, ?_, ?_⟩
    · by_cases e7 : k = 9
      · subst e7; simp [setL]
      · simpa [setL, Ne.symm e7] using h2
    · by_cases e7 : k = 13
      · subst e7; simp [setL]
      · simpa [setL, Ne.symm e7] using h3
/-- Sorted below i. -/
def Srt (k : Nat → Int) (f : Nat → Nat) (n i : Nat) : Prop := (∀ q, q < n → f q < n) ∧ ∀ p q, p < q → q < i → k (f p) ≤ k (f q)
/-- Sorted but for the one at j. -/
def SrtJ (k : Nat → Int) (f : Nat → Nat) (n i j : Nat) : Prop := (∀ q, q < n → f q < n) ∧ (∀ p q, p < q → q ≤ i → p ≠ j → q ≠ j → k (f p) ≤ k (f q)) ∧ ∀ q, j < q → q ≤ i → k (f j) ≤ k (f q)
theorem Srt.one (k : Nat → Int) (f : Nat → Nat) (n : Nat) (h : ∀ q, q < n → f q < n) : Srt k f n 1 := ⟨h, fun p q _ _ => by omega⟩
theorem Srt.start {k : Nat → Int} {f : Nat → Nat} {n i : Nat} (h : Srt k f n i) : SrtJ k f n i i := ⟨h.1, fun p q h1 h2 _ h4 => h.2 p q h1 (by omega), fun q h1 h2 => by omega⟩
theorem SrtJ.zero {k : Nat → Int} {f : Nat → Nat} {n i : Nat} (h : SrtJ k f n i 0) : Srt k f n (i + 1) := ⟨h.1, fun p q h1 h2 => by
  by_cases hp : p = 0
  · subst hp; exact h.2.2 q h1 (by omega)
  · exact h.2.1 p q h1 (by omega) hp (by omega)⟩
theorem SrtJ.done {k : Nat → Int} {f : Nat → Nat} {n i p : Nat} (h : SrtJ k f n i (p + 1)) (hk : k (f p) ≤ k (f (p + 1))) : Srt k f n (i + 1) := ⟨h.1, fun a b h1 h2 => by
  by_cases ha : a = p + 1
  · subst ha; exact h.2.2 b h1 (by omega)
  · by_cases hb : b = p + 1
    · subst hb
      by_cases hap : a = p
      · subst hap; exact hk
      · exact Int.le_trans (h.2.1 a p (by omega) (by omega) ha (by omega)) hk
    · exact h.2.1 a b h1 (by omega) ha hb⟩
theorem SrtJ.swap {k : Nat → Int} {f : Nat → Nat} {n i p : Nat} (h : SrtJ k f n i (p + 1)) (hi : i < n) (hpi : p + 1 ≤ i) (hk : k (f (p + 1)) < k (f p)) : SrtJ k (swp f p (p + 1)) n i p := by
  have s1 : swp f p (p + 1) (p + 1) = f p := if_pos rfl
  have s2 : swp f p (p + 1) p = f (p + 1) := by unfold swp; rw [if_neg (by omega), if_pos rfl]
  have s3 : ∀ q, q ≠ p → q ≠ p + 1 → swp f p (p + 1) q = f q := fun q h1 h2 => by unfold swp; rw [if_neg h2, if_neg h1]
  refine ⟨fun q hq => ?_, fun a b h1 h2 h3 h4 => ?_, fun q h1 h2 => ?_⟩
  · by_cases q1 : q = p
    · subst q1; rw [s2]; exact h.1 _ (by omega)
    · by_cases q2 : q = p + 1
      · subst q2; rw [s1]; exact h.1 _ (by omega)
      · rw [s3 q q1 q2]; exact h.1 q hq
  · by_cases a2 : a = p + 1
    · subst a2
      rw [s1, s3 b h4 (by omega)]
      exact h.2.1 p b (by omega) h2 (by omega) (by omega)
    · rw [s3 a h3 a2]
      by_cases b2 : b = p + 1
      · subst b2
        rw [s1]
        exact h.2.1 a p (by omega) (by omega) a2 (by omega)
      · rw [s3 b h4 b2]
        exact h.2.1 a b h1 h2 a2 b2
  · by_cases q2 : q = p + 1
    · subst q2; rw [s1, s2]; omega
    · rw [s2, s3 q (by omega) q2]
      exact h.2.2 q (by omega) h2
theorem cmpK_neg (a b : Int) : (cmpK a b < 0) = (a < b) := by
  unfold cmpK
  split
  · rename_i h; simp [h]
  · rename_i h
    split <;> simp [h]
set_option maxHeartbeats 4000000 in
set_option maxRecDepth 100000 in
theorem insert47 (fb g n : Nat) (k : Nat → Int) (f0 : Nat → Nat) (hn : n ≤ 100000) (hf0 : ∀ q, q < n → f0 q < n) (w : World) (h : FoundAt w fb g n k) (hr : RowI w g n f0) :
    Calls Try.prog 47 #[.slice (some ⟨g, 0, none⟩) n n, .int .i64 0, .int .i64 (n : Int), .func (.func 39) #[] #[.pointer (some ⟨fb, 0, none⟩)]] w fun e w' => e = .returned (.tuple #[]) ∧ ∃ f, Srt k f n n ∧ RowI w' g n f ∧ Keep (fun x => x = g) w w' := by
  have H := Lib.hid h
  have HR := Lib.hid hr
  have HS0 := Lib.hid (Srt.one k f0 n hf0)
  clear h hr
  go_enter Try.func47, Try.ntmps47
  go_wp2_with fail
  go_loopw [8] (fun iv wr => ∃ (i : Nat) (f : Nat → Nat), 1 ≤ i ∧ i ≤ n + 1 ∧ iv = .int .i64 (i : Int) ∧ Hid (Srt k f n i) ∧ Hid (RowI wr g n f) ∧ Hid (Keep (fun x => x = g) w wr)) (fun iv _ => n + 1 - (intOf iv).toNat)
  case atStart => exact ⟨1, f0, Nat.le_refl _, by omega, rfl, HS0, HR, Keep.refl _ _⟩
  case round =>
    obtain ⟨i, f, hi1, hi2, rfl, HS, HR, HK⟩ := hrel
    by_cases hlt : i < n
    · have i1 : (i : Int) < n := by omega
      have HSJ := Lib.hid HS.out.start
      clear HS
      go_wp2_with fail
      go_loopw [9] (fun jv wr => ∃ (j : Nat) (f : Nat → Nat), j ≤ i ∧ jv = .int .i64 (j : Int) ∧ Hid (SrtJ k f n i j) ∧ Hid (RowI wr g n f) ∧ Hid (Keep (fun x => x = g) w wr)) (fun jv _ => (intOf jv).toNat)
      case atStart => exact ⟨i, f, Nat.le_refl _, rfl, HSJ, HR, HK⟩
      case round =>
        clear HSJ HR HK
        obtain ⟨j, f, hj, rfl, HS, HR, HK⟩ := hrel
        by_cases h0 : j = 0
        · subst h0
          have HS2 := Lib.hid HS.out.zero
          go_wp2_with fail
          go_quiet (fail)
          go_wp2_with fail
          go_roundw
          case rel => exact ⟨i + 1, f, by omega, by omega, by go_num, HS2, HR.out.drewN nq, HK.out.trans (Keep.drewN _ _)⟩
          case measure => simp [intOf]; omega
        · obtain ⟨p, rfl⟩ : ∃ p, j = p + 1 := ⟨j - 1, by omega⟩
          have hp1 : p + 1 < n := by omega
          have hp0 : p < n := by omega
          obtain ⟨cp, fp⟩ := HR.out p hp0
          obtain ⟨cj, fj⟩ := HR.out (p + 1) hp1
          have HFA := Lib.hid (H.out.keep HK.out)
          have hfp := HS.out.1 p hp0
          have hfj := HS.out.1 (p + 1) hp1
          have hcm := fun nq => rank39 fb g n k (f (p + 1)) (f p) hfj hfp (wr.drewN nq) (HFA.out.keep (Keep.drewN _ _))
          have p1 : (p : Int) + 1 < n := by omega
          have p0 : (0 : Int) < (p : Int) + 1 := by omega
          have p2 : (0 : Int) ≤ (p : Int) + 1 := by omega
          have p3 : (p : Int) < n := by omega
          have p4 : IntKind.i64.wrap (p : Int) = (p : Int) := by simp [IntKind.wrap, IntKind.signed, IntKind.bits]; omega
          have hng := cmpK_neg (k (f (p + 1))) (k (f p))
          rw [show ((p + 1 : Nat) : Int) = (p : Int) + 1 from rfl]
          generalize cmpK (k (f (p + 1))) (k (f p)) = c at *
          have HCM := Lib.hid hcm
          by_cases hk : k (f (p + 1)) < k (f p)
          · have hc0 : c < 0 := by rw [hng]; exact hk
            have HSW := Lib.hid (HS.out.swap hlt hj hk)
            clear hcm hng hk HS
            go_wp2_with fail
            go_quiet ((go_at_call 39; exact Calls.quiet_of (HCM.out _)))
            go_wp2_with fail
            obtain ⟨W, hW⟩ : ∃ W, W = (wr.drewN nq).drew := ⟨_, rfl⟩
            have HRW : Hid (RowI W g n f) := by rw [hW]; exact HR.out
            have HKW : Hid (Keep (fun x => x = g) w W) := by rw [hW]; exact (HK.out.trans (Keep.drewN _ nq)).trans (Keep.drew _)
            have HWW := Lib.hid hW
            clear HR HK HFA HCM hW cp fp cj fj
            refine region_mixt 16 [some (.slice (some ⟨g, 0, none⟩) n n), some (.int .i64 ((p : Int) + 1)), some (.slice (some ⟨g, 0, none⟩) n n), some (.int .i64 ((p : Int) + 1)), some (.int .i64 (p : Int)), some (.slice (some ⟨g, 0, none⟩) n n), some (.int .i64 ((p : Int) + 1)), some (.int .i64 (p : Int)), some (.pointer (some ⟨g, p, none⟩)), some (.int .i64 ((f p : Nat) : Int)), some (.slice (some ⟨g, 0, none⟩) n n), some (.int .i64 ((p : Int) + 1)), some (.pointer (some ⟨g, p + 1, none⟩)), some (.int .i64 ((f (p + 1) : Nat) : Int)), some (.pointer (some ⟨g, p + 1, none⟩)), none]
              [[false, false, false, false, false, false, false, false, false, false, false, false, false, false, false, false], [false, false, false, false, false, false, false, false, false, false, false, false, false, false, false, false], [false, false, false, false, false, false, false, false, false, false, false, false, false, false, false, false], [false, false, false, false, false, false, false, false, false, false, false, false, false, false, false, false], [false, false, false, true, false, false, false, false, false, false, false, false, false, false, false, false], [false, false, false, false, false, false, false, false, false, false, false, false, false, false, false, false], [false, false, false, false, false, false, false, false, false, false, false, false, false, false, false, false], [false, false, false, false, false, false, true, false, false, false, false, false, false, false, false, false], [false, false, false, false, false, true, false, true, false, false, false, false, false, false, false, false], [false, false, false, false, false, false, false, false, true, false, false, false, false, false, false, false], [false, false, false, false, false, false, false, false, false, false, false, false, false, false, false, false], [false, false, false, false, false, false, false, false, false, false, false, false, false, false, false, false], [false, false, false, false, false, false, false, false, false, false, true, true, false, false, false, false], [false, false, false, false, false, false, false, false, false, false, false, false, true, false, false, false], [true, true, false, false, false, true, true, true, true, true, false, false, false, true, false, false], [true, true, false, false, false, true, true, true, true, true, false, false, false, true, true, false]]
              (fun LL _ w1 => SwS W g (p + 1) (f p) LL w1)
              (by kernel_rfl) (by kernel_rfl) (by kernel_rfl) (by kernel_rfl) (by kernel_rfl) (by decide) ?_ ?_ ?_
            · intro _
              exact ⟨fun _ => HWW.out.symm, fun h => (by cases h)⟩
            · simp only [List.take_succ_cons, List.take_zero]
              refine ⟨?_, ?_, ?_, ?_, ?_, ?_, ?_, ?_, ?_, ?_, ?_, ?_, ?_, ?_, ?_, ?_, trivial⟩
              all_goals
                intro LL x w9 hS hl9 hp K hK
                have hs9 : SwS W g (p + 1) (f p) LL w9 := hS
                clear hS
                replace hK := hK.out
                simp only [actMix, pickV, List.tail_cons, List.headD_cons, Act.put, List.setIfInBounds_toArray, List.set_cons_zero, List.set_cons_succ] at hK ⊢
              iterate 9
                · clear hp
                  go_simp
                  with_reducible refine hK _ ?_
                  exact hs9.keep _ (by decide)
              · clear hp
                have e13 : LL 15 = false := by
                  cases h13 : LL 15
                  · rfl
                  · rw [(hs9.yes h13).2.1] at hl9; cases hl9
                obtain rfl := hs9.no e13
                obtain ⟨cq, _⟩ := HRW.out p hp0
                go_simp
                with_reducible refine hK _ ?_
                exact hs9.keep _ (by decide)
              iterate 3
                · clear hp
                  go_simp
                  with_reducible refine hK _ ?_
                  exact hs9.keep _ (by decide)
              · clear hp
                have e13 : LL 15 = false := by
                  cases h13 : LL 15
                  · rfl
                  · rw [(hs9.yes h13).2.2] at hl9; cases hl9
                obtain rfl := hs9.no e13
                obtain ⟨cq, _⟩ := HRW.out (p + 1) hp1
                go_simp
                with_reducible refine hK _ ?_
                exact hs9.keep _ (by decide)
              · clear hp
                go_simp
                with_reducible refine hK _ ?_
                exact hs9.keep _ (by decide)
              · have h7 := allL_mem hp 9 (by decide +kernel)
                have h11 := allL_mem hp 13 (by decide +kernel)
                clear hp
                obtain rfl := hs9.no hl9
                obtain ⟨cq, fq⟩ := HRW.out (p + 1) hp1
                go_simp
                with_reducible refine hK undef _ ?_
                refine ⟨fun e => ?_, fun _ => ⟨rfl, ?_, ?_⟩⟩
                · simp [setL] at e
                · simpa [setL] using h7
                · simpa [setL] using h11
            · intro LL x w9 hS hall
              have hs9 : SwS W g (p + 1) (f p) LL w9 := hS
              obtain ⟨rfl, _, _⟩ := hs9.yes (hall 15 (by decide))
              clear hS hs9 hall
              have HR9 : Hid (RowI (W.setCell ⟨g, p + 1, none⟩ (.int .i64 ((f p : Nat) : Int))) g n (fun k => if k = p + 1 then f p else f k)) := HRW.out.set hp1 (f p)
              have HK9 := Lib.hid (HKW.out.trans (Keep.setCell (G := fun x => x = g) W (p := ⟨g, p + 1, none⟩) rfl (.int .i64 ((f p : Nat) : Int))))
              clear HRW HKW HWW
              generalize W.setCell ⟨g, p + 1, none⟩ (.int .i64 ((f p : Nat) : Int)) = W9 at *
              obtain ⟨cq, fq⟩ := HR9.out p hp0
              simp only [actMix, pickV, List.tail_cons, List.headD_cons, Act.put, List.setIfInBounds_toArray, List.set_cons_zero, List.set_cons_succ, List.replicate_succ, List.replicate_zero, List.drop_succ_cons, List.drop_zero, List.take_succ_cons, List.take_zero]
              go_wp2_with fail
              refine ⟨⟨p, swp f p (p + 1), by omega, rfl, HSW, ?_, HK9.out.trans (Keep.setCell (G := fun x => x = g) W9 (p := ⟨g, p, none⟩) rfl _)⟩, by simp [intOf]⟩
              intro q hq
              have h : _ ∧ _ := HR9.out.set hp0 (f (p + 1)) q hq
              refine ⟨?_, h.2⟩
              have h1 := h.1
              simp only at h1
              unfold swp
              by_cases q1 : q = p
              · subst q1
                rw [if_pos rfl] at h1
                rw [if_neg (by omega), if_pos rfl]; exact h1
              · rw [if_neg q1] at h1
                by_cases q2 : q = p + 1
                · subst q2; rw [if_pos rfl] at h1; rw [if_pos rfl]; exact h1
                · rw [if_neg q2] at h1; rw [if_neg q2, if_neg q1]; exact h1
          · have hc0 : ¬ c < 0 := by rw [hng]; exact hk
            have HS2 := Lib.hid (HS.out.done (by omega))
            clear hcm hng hk HS
            go_wp2_with fail
            go_quiet ((go_at_call 39; exact Calls.quiet_of (HCM.out _)))
            go_wp2_with fail
            go_roundw
            case rel => exact ⟨i + 1, f, by omega, by omega, by go_num, HS2, HR.out.drewN nq, HK.out.trans (Keep.drewN _ _)⟩
            case measure => simp [intOf]; omega
    · have i1 : ¬ ((i : Int) < n) := by omega
      have HS2 : Hid (Srt k f n n) := by
        refine ⟨HS.out.1, fun p q h1 h2 => HS.out.2 p q h1 (by omega)⟩
      go_wp2_with fail
      go_end0
      exact ⟨rfl, f, HS2.out, HR.out, HK.out⟩
end Go.Proofs.Ytcmjcpgfnkhnoaa
