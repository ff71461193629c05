/- Packed: CaS, CaT, CaR, CaL, RoI, RoJ, CaO, IsF, EdH. -/
import Derived.Laws.MakeOwn
import Derived.Lib.SlicesS
import Derived.Test.YtpjbdejgamajlabDoorG00
import Derived.Test.YtpjbdejgamajlabDoorG02
import Derived.Test.YtpjbdejgamajlabDoorG05
import Derived.Test.YtpjbdejgamajlabDoorG10
import Derived.Test.YtpjbdejgamajlabDoorG11
/- The insertion sort of indices by a function that compares loads. -/
namespace Go.Proofs.YtpjbdejgamajlabDoor
open Go.RowKit

/-- A row of integers. -/
def RowI (w : World) (lb n : Nat) (f : Nat → Nat) : Prop := ∀ j, j < n → w.cell? ⟨lb, j, none⟩ = some (.int .i64 ((f j : Nat) : Int)) ∧ w.frozen? ⟨lb, j, none⟩ = false
theorem RowI.set {w : World} {lb n : Nat} {f : Nat → Nat} (h : RowI w lb n f) {k : Nat} (hk : k < n) (v : Nat) : RowI (w.setCell ⟨lb, k, none⟩ (.int .i64 (v : Int))) lb n (fun j => if j = k then v else f j) := fun j hj => by
  rw [World.frozen?_setCell]
  refine ⟨?_, (h j hj).2⟩
  show _ = some (Value.int .i64 ((if j = k then v else f j : Nat) : Int))
  by_cases e : j = k
  · subst e; rw [World.cell?_setCell_same _ _ _ (h j hj).1, if_pos rfl]
  · rw [World.cell?_setCell_other _ _ _ _ (by intro e2; injection e2 with _ e3; exact e e3.symm), if_neg e]; exact (h j hj).1
theorem RowI.drewN {w : World} {lb n : Nat} {f : Nat → Nat} (h : RowI w lb n f) (m : Nat) : RowI (w.drewN m) lb n f := h
def swp (f : Nat → Nat) (i j : Nat) : Nat → Nat := fun k => if k = j then f i else if k = i then f j else f k
/-- Where the loads lie that are compared: their places. -/
structure FoundAt (w : World) (fb g n : Nat) (k : Nat → Int) : Prop where
  ne : fb ≠ g
  lt : fb < w.heap.size
  cell : ∃ a, w.cell? ⟨fb, 0, none⟩ = some (.slice a n n) ∧ ∀ i, i < n → ∃ b o y, a = some ⟨b, o, none⟩ ∧ b ≠ g ∧ b < w.heap.size ∧ w.cell? ⟨b, o + i, none⟩ = some (.float .f64 y) ∧ kf y = k i
theorem keep_cellS {G : Nat → Prop} {w w' : World} (h : Keep G w w') {b : Nat} (hb : b < w.heap.size) (hg : ¬ G b) (o : Nat) : w'.cell? ⟨b, o, none⟩ = w.cell? ⟨b, o, none⟩ := by
  have := h.block b hb hg
  simp only [World.cell?, this]
theorem FoundAt.keep {w w' : World} {fb g n : Nat} {k : Nat → Int} (h : FoundAt w fb g n k) (hk : Keep (fun x => x = g) w w') : FoundAt w' fb g n k := by
  obtain ⟨a, ha, hi⟩ := h.cell
  refine ⟨h.ne, Nat.lt_of_lt_of_le h.lt hk.size, a, by rw [keep_cellS hk h.lt h.ne]; exact ha, fun i hin => ?_⟩
  obtain ⟨b, o, y, h1, h2, h3, h4, h5⟩ := hi i hin
  exact ⟨b, o, y, h1, h2, Nat.lt_of_lt_of_le h3 hk.size, by rw [keep_cellS hk h3 h2]; exact h4, h5⟩
/-- How two places compare. -/
def cmpK (a b : Int) : Int := if a < b then -1 else if b < a then 1 else 0
set_option maxHeartbeats 1000000 in
set_option maxRecDepth 100000 in
theorem rank39 (fb g n : Nat) (k : Nat → Int) (i j : Nat) (hi : i < n) (hj : j < n) (w : World) (h : FoundAt w fb g n k) :
    Calls Tryd.prog 46 #[.int .i64 (i : Int), .int .i64 (j : Int), .pointer (some ⟨fb, 0, none⟩)] w fun e w' => e = .returned (.int .i64 (cmpK (k i) (k j))) ∧ ∃ m, w' = w.drewN m := by
  obtain ⟨a, ha, hr⟩ := h.cell
  obtain ⟨b, o, y, rfl, _, _, cy, ky⟩ := hr i hi
  obtain ⟨b', o', z, e, _, _, cz, kz⟩ := hr j hj
  injection e with e
  injection e with e1 e2
  subst e1 e2
  have hc := fun W => compare5 y z W
  have hk : cmpF y z = cmpK (k i) (k j) := by unfold cmpF cmpK; rw [ky, kz]
  rw [hk] at hc
  have i1 : (i : Int) < n := by omega
  have j1 : (j : Int) < n := by omega
  generalize cmpK (k i) (k j) = r at *
  clear hr h hk ky kz
  go_enter Tryd.func46, Tryd.ntmps46
  go_wp2_with fail
  go_quiet ((go_at_call 21; exact Calls.quiet_of_same (hc _)))
  go_wp2_with fail
  go_ret
  exact ⟨rfl, _, rfl⟩
/-- What holds while two numbers are exchanged. -/
structure SwS (W : World) (lb i v : Nat) (L : Nat → Bool) (w : World) : Prop where
  no : L 15 = false → w = W
  yes : L 15 = true → w = W.setCell ⟨lb, i, none⟩ (.int .i64 (v : Int)) ∧ L 9 = true ∧ L 13 = true
theorem SwS.keep {W : World} {lb i v : Nat} {L : Nat → Bool} {w : World} (h : SwS W lb i v L w) (k : Nat) (hk : k ≠ 15) : SwS W lb i v (setL L k) w := by
  refine ⟨fun e => h.no ?_, fun e => ?_⟩
  · simpa [setL, Ne.symm hk] using e
  · obtain ⟨h1, h2, h3⟩ := h.yes (by simpa [setL, Ne.symm hk] using e)
    refine ⟨h1, ?_, ?_⟩
    · by_cases e7 : k = 9
      · subst e7; simp [setL]
      · simpa [setL, Ne.symm e7] using h2
    · by_cases e7 : k = 13
      · subst e7; simp [setL]
      · simpa [setL, Ne.symm e7] using h3
/-- Sorted below i. -/
def Srt (k : Nat → Int) (f : Nat → Nat) (n i : Nat) : Prop := (∀ q, q < n → f q < n) ∧ ∀ p q, p < q → q < i → k (f p) ≤ k (f q)
/-- Sorted but for the one at j. -/
def SrtJ (k : Nat → Int) (f : Nat → Nat) (n i j : Nat) : Prop := (∀ q, q < n → f q < n) ∧ (∀ p q, p < q → q ≤ i → p ≠ j → q ≠ j → k (f p) ≤ k (f q)) ∧ ∀ q, j < q → q ≤ i → k (f j) ≤ k (f q)
theorem Srt.one (k : Nat → Int) (f : Nat → Nat) (n : Nat) (h : ∀ q, q < n → f q < n) : Srt k f n 1 := ⟨h, fun p q _ _ => by omega⟩
theorem Srt.start {k : Nat → Int} {f : Nat → Nat} {n i : Nat} (h : Srt k f n i) : SrtJ k f n i i := ⟨h.1, fun p q h1 h2 _ h4 => h.2 p q h1 (by omega), fun q h1 h2 => by omega⟩
theorem SrtJ.zero {k : Nat → Int} {f : Nat → Nat} {n i : Nat} (h : SrtJ k f n i 0) : Srt k f n (i + 1) := ⟨h.1, fun p q h1 h2 => by
  by_cases hp : p = 0
  · subst hp; exact h.2.2 q h1 (by omega)
  · exact h.2.1 p q h1 (by omega) hp (by omega)⟩
theorem SrtJ.done {k : Nat → Int} {f : Nat → Nat} {n i p : Nat} (h : SrtJ k f n i (p + 1)) (hk : k (f p) ≤ k (f (p + 1))) : Srt k f n (i + 1) := ⟨h.1, fun a b h1 h2 => by
  by_cases ha : a = p + 1
  · subst ha; exact h.2.2 b h1 (by omega)
  · by_cases hb : b = p + 1
    · subst hb
      by_cases hap : a = p
      · subst hap; exact hk
      · exact Int.le_trans (h.2.1 a p (by omega) (by omega) ha (by omega)) hk
    · exact h.2.1 a b h1 (by omega) ha hb⟩
theorem SrtJ.swap {k : Nat → Int} {f : Nat → Nat} {n i p : Nat} (h : SrtJ k f n i (p + 1)) (hi : i < n) (hpi : p + 1 ≤ i) (hk : k (f (p + 1)) < k (f p)) : SrtJ k (swp f p (p + 1)) n i p := by
  have s1 : swp f p (p + 1) (p + 1) = f p := if_pos rfl
  have s2 : swp f p (p + 1) p = f (p + 1) := by unfold swp; rw [if_neg (by omega), if_pos rfl]
  have s3 : ∀ q, q ≠ p → q ≠ p + 1 → swp f p (p + 1) q = f q := fun q h1 h2 => by unfold swp; rw [if_neg h2, if_neg h1]
  refine ⟨fun q hq => ?_, fun a b h1 h2 h3 h4 => ?_, fun q h1 h2 => ?_⟩
  · by_cases q1 : q = p
    · subst q1; rw [s2]; exact h.1 _ (by omega)
    · by_cases q2 : q = p + 1
      · subst q2; rw [s1]; exact h.1 _ (by omega)
      · rw [s3 q q1 q2]; exact h.1 q hq
  · by_cases a2 : a = p + 1
    · subst a2
      rw [s1, s3 b h4 (by omega)]
      exact h.2.1 p b (by omega) h2 (by omega) (by omega)
    · rw [s3 a h3 a2]
      by_cases b2 : b = p + 1
      · subst b2
        rw [s1]
        exact h.2.1 a p (by omega) (by omega) a2 (by omega)
      · rw [s3 b h4 b2]
        exact h.2.1 a b h1 h2 a2 b2
  · by_cases q2 : q = p + 1
    · subst q2; rw [s1, s2]; omega
    · rw [s2, s3 q (by omega) q2]
      exact h.2.2 q (by omega) h2
theorem cmpK_neg (a b : Int) : (cmpK a b < 0) = (a < b) := by
  unfold cmpK
  split
  · rename_i h; simp [h]
  · rename_i h
    split <;> simp [h]
set_option maxHeartbeats 4000000 in
set_option maxRecDepth 100000 in
theorem insert47 (fb g n : Nat) (k : Nat → Int) (f0 : Nat → Nat) (hn : n ≤ 100000) (hf0 : ∀ q, q < n → f0 q < n) (w : World) (h : FoundAt w fb g n k) (hr : RowI w g n f0) :
    Calls Tryd.prog 79 #[.slice (some ⟨g, 0, none⟩) n n, .int .i64 0, .int .i64 (n : Int), .func (.func 46) #[] #[.pointer (some ⟨fb, 0, none⟩)]] w fun e w' => e = .returned (.tuple #[]) ∧ ∃ f, Srt k f n n ∧ RowI w' g n f ∧ Keep (fun x => x = g) w w' := by
  have H := Lib.hid h
  have HR := Lib.hid hr
  have HS0 := Lib.hid (Srt.one k f0 n hf0)
  clear h hr
  go_enter Tryd.func79, Tryd.ntmps79
  go_wp2_with fail
  go_loopw [8] (fun iv wr => ∃ (i : Nat) (f : Nat → Nat), 1 ≤ i ∧ i ≤ n + 1 ∧ iv = .int .i64 (i : Int) ∧ Hid (Srt k f n i) ∧ Hid (RowI wr g n f) ∧ Hid (Keep (fun x => x = g) w wr)) (fun iv _ => n + 1 - (intOf iv).toNat)
  case atStart => exact ⟨1, f0, Nat.le_refl _, by omega, rfl, HS0, HR, Keep.refl _ _⟩
  case round =>
    obtain ⟨i, f, hi1, hi2, rfl, HS, HR, HK⟩ := hrel
    by_cases hlt : i < n
    · have i1 : (i : Int) < n := by omega
      have HSJ := Lib.hid HS.out.start
      clear HS
      go_wp2_with fail
      go_loopw [9] (fun jv wr => ∃ (j : Nat) (f : Nat → Nat), j ≤ i ∧ jv = .int .i64 (j : Int) ∧ Hid (SrtJ k f n i j) ∧ Hid (RowI wr g n f) ∧ Hid (Keep (fun x => x = g) w wr)) (fun jv _ => (intOf jv).toNat)
      case atStart => exact ⟨i, f, Nat.le_refl _, rfl, HSJ, HR, HK⟩
      case round =>
        clear HSJ HR HK
        obtain ⟨j, f, hj, rfl, HS, HR, HK⟩ := hrel
        by_cases h0 : j = 0
        · subst h0
          have HS2 := Lib.hid HS.out.zero
          go_wp2_with fail
          go_quiet (fail)
          go_wp2_with fail
          go_roundw
          case rel => exact ⟨i + 1, f, by omega, by omega, by go_num, HS2, HR.out.drewN nq, HK.out.trans (Keep.drewN _ _)⟩
          case measure => simp [intOf]; omega
        · obtain ⟨p, rfl⟩ : ∃ p, j = p + 1 := ⟨j - 1, by omega⟩
          have hp1 : p + 1 < n := by omega
          have hp0 : p < n := by omega
          obtain ⟨cp, fp⟩ := HR.out p hp0
          obtain ⟨cj, fj⟩ := HR.out (p + 1) hp1
          have HFA := Lib.hid (H.out.keep HK.out)
          have hfp := HS.out.1 p hp0
          have hfj := HS.out.1 (p + 1) hp1
          have hcm := fun nq => rank39 fb g n k (f (p + 1)) (f p) hfj hfp (wr.drewN nq) (HFA.out.keep (Keep.drewN _ _))
          have p1 : (p : Int) + 1 < n := by omega
          have p0 : (0 : Int) < (p : Int) + 1 := by omega
          have p2 : (0 : Int) ≤ (p : Int) + 1 := by omega
          have p3 : (p : Int) < n := by omega
          have p4 : IntKind.i64.wrap (p : Int) = (p : Int) := by simp [IntKind.wrap, IntKind.signed, IntKind.bits]; omega
          have hng := cmpK_neg (k (f (p + 1))) (k (f p))
          rw [show ((p + 1 : Nat) : Int) = (p : Int) + 1 from rfl]
          generalize cmpK (k (f (p + 1))) (k (f p)) = c at *
          have HCM := Lib.hid hcm
          by_cases hk : k (f (p + 1)) < k (f p)
          · have hc0 : c < 0 := by rw [hng]; exact hk
            have HSW := Lib.hid (HS.out.swap hlt hj hk)
            clear hcm hng hk HS
            go_wp2_with fail
            go_quiet ((go_at_call 46; exact Calls.quiet_of (HCM.out _)))
            go_wp2_with fail
            obtain ⟨W, hW⟩ : ∃ W, W = (wr.drewN nq).drew := ⟨_, rfl⟩
            have HRW : Hid (RowI W g n f) := by rw [hW]; exact HR.out
            have HKW : Hid (Keep (fun x => x = g) w W) := by rw [hW]; exact (HK.out.trans (Keep.drewN _ nq)).trans (Keep.drew _)
            have HWW := Lib.hid hW
            clear HR HK HFA HCM hW cp fp cj fj
            refine region_mixt 16 [some (.slice (some ⟨g, 0, none⟩) n n), some (.int .i64 ((p : Int) + 1)), some (.slice (some ⟨g, 0, none⟩) n n), some (.int .i64 ((p : Int) + 1)), some (.int .i64 (p : Int)), some (.slice (some ⟨g, 0, none⟩) n n), some (.int .i64 ((p : Int) + 1)), some (.int .i64 (p : Int)), some (.pointer (some ⟨g, p, none⟩)), some (.int .i64 ((f p : Nat) : Int)), some (.slice (some ⟨g, 0, none⟩) n n), some (.int .i64 ((p : Int) + 1)), some (.pointer (some ⟨g, p + 1, none⟩)), some (.int .i64 ((f (p + 1) : Nat) : Int)), some (.pointer (some ⟨g, p + 1, none⟩)), none]
              [[false, false, false, false, false, false, false, false, false, false, false, false, false, false, false, false], [false, false, false, false, false, false, false, false, false, false, false, false, false, false, false, false], [false, false, false, false, false, false, false, false, false, false, false, false, false, false, false, false], [false, false, false, false, false, false, false, false, false, false, false, false, false, false, false, false], [false, false, false, true, false, false, false, false, false, false, false, false, false, false, false, false], [false, false, false, false, false, false, false, false, false, false, false, false, false, false, false, false], [false, false, false, false, false, false, false, false, false, false, false, false, false, false, false, false], [false, false, false, false, false, false, true, false, false, false, false, false, false, false, false, false], [false, false, false, false, false, true, false, true, false, false, false, false, false, false, false, false], [false, false, false, false, false, false, false, false, true, false, false, false, false, false, false, false], [false, false, false, false, false, false, false, false, false, false, false, false, false, false, false, false], [false, false, false, false, false, false, false, false, false, false, false, false, false, false, false, false], [false, false, false, false, false, false, false, false, false, false, true, true, false, false, false, false], [false, false, false, false, false, false, false, false, false, false, false, false, true, false, false, false], [true, true, false, false, false, true, true, true, true, true, false, false, false, true, false, false], [true, true, false, false, false, true, true, true, true, true, false, false, false, true, true, false]]
              (fun LL _ w1 => SwS W g (p + 1) (f p) LL w1)
              (by kernel_rfl) (by kernel_rfl) (by kernel_rfl) (by kernel_rfl) (by kernel_rfl) (by decide) ?_ ?_ ?_
            · intro _
              exact ⟨fun _ => HWW.out.symm, fun h => (by cases h)⟩
            · simp only [List.take_succ_cons, List.take_zero]
              refine ⟨?_, ?_, ?_, ?_, ?_, ?_, ?_, ?_, ?_, ?_, ?_, ?_, ?_, ?_, ?_, ?_, trivial⟩
              all_goals
                intro LL x w9 hS hl9 hp K hK
                have hs9 : SwS W g (p + 1) (f p) LL w9 := hS
                clear hS
                replace hK := hK.out
                simp only [actMix, pickV, List.tail_cons, List.headD_cons, Act.put, List.setIfInBounds_toArray, List.set_cons_zero, List.set_cons_succ] at hK ⊢
              iterate 9
                · clear hp
                  go_simp
                  with_reducible refine hK _ ?_
                  exact hs9.keep _ (by decide)
              · clear hp
                have e13 : LL 15 = false := by
                  cases h13 : LL 15
                  · rfl
                  · rw [(hs9.yes h13).2.1] at hl9; cases hl9
                obtain rfl := hs9.no e13
                obtain ⟨cq, _⟩ := HRW.out p hp0
                go_simp
                with_reducible refine hK _ ?_
                exact hs9.keep _ (by decide)
              iterate 3
                · clear hp
                  go_simp
                  with_reducible refine hK _ ?_
                  exact hs9.keep _ (by decide)
              · clear hp
                have e13 : LL 15 = false := by
                  cases h13 : LL 15
                  · rfl
                  · rw [(hs9.yes h13).2.2] at hl9; cases hl9
                obtain rfl := hs9.no e13
                obtain ⟨cq, _⟩ := HRW.out (p + 1) hp1
                go_simp
                with_reducible refine hK _ ?_
                exact hs9.keep _ (by decide)
              · clear hp
                go_simp
                with_reducible refine hK _ ?_
                exact hs9.keep _ (by decide)
              · have h7 := allL_mem hp 9 (by decide +kernel)
                have h11 := allL_mem hp 13 (by decide +kernel)
                clear hp
                obtain rfl := hs9.no hl9
                obtain ⟨cq, fq⟩ := HRW.out (p + 1) hp1
                go_simp
                with_reducible refine hK undef _ ?_
                refine ⟨fun e => ?_, fun _ => ⟨rfl, ?_, ?_⟩⟩
                · simp [setL] at e
                · simpa [setL] using h7
                · simpa [setL] using h11
            · intro LL x w9 hS hall
              have hs9 : SwS W g (p + 1) (f p) LL w9 := hS
              obtain ⟨rfl, _, _⟩ := hs9.yes (hall 15 (by decide))
              clear hS hs9 hall
              have HR9 : Hid (RowI (W.setCell ⟨g, p + 1, none⟩ (.int .i64 ((f p : Nat) : Int))) g n (fun k => if k = p + 1 then f p else f k)) := HRW.out.set hp1 (f p)
              have HK9 := Lib.hid (HKW.out.trans (Keep.setCell (G := fun x => x = g) W (p := ⟨g, p + 1, none⟩) rfl (.int .i64 ((f p : Nat) : Int))))
              clear HRW HKW HWW
              generalize W.setCell ⟨g, p + 1, none⟩ (.int .i64 ((f p : Nat) : Int)) = W9 at *
              obtain ⟨cq, fq⟩ := HR9.out p hp0
              simp only [actMix, pickV, List.tail_cons, List.headD_cons, Act.put, List.setIfInBounds_toArray, List.set_cons_zero, List.set_cons_succ, List.replicate_succ, List.replicate_zero, List.drop_succ_cons, List.drop_zero, List.take_succ_cons, List.take_zero]
              go_wp2_with fail
              refine ⟨⟨p, swp f p (p + 1), by omega, rfl, HSW, ?_, HK9.out.trans (Keep.setCell (G := fun x => x = g) W9 (p := ⟨g, p, none⟩) rfl _)⟩, by simp [intOf]⟩
              intro q hq
              have h : _ ∧ _ := HR9.out.set hp0 (f (p + 1)) q hq
              refine ⟨?_, h.2⟩
              have h1 := h.1
              simp only at h1
              unfold swp
              by_cases q1 : q = p
              · subst q1
                rw [if_pos rfl] at h1
                rw [if_neg (by omega), if_pos rfl]; exact h1
              · rw [if_neg q1] at h1
                by_cases q2 : q = p + 1
                · subst q2; rw [if_pos rfl] at h1; rw [if_pos rfl]; exact h1
                · rw [if_neg q2] at h1; rw [if_neg q2, if_neg q1]; exact h1
          · have hc0 : ¬ c < 0 := by rw [hng]; exact hk
            have HS2 := Lib.hid (HS.out.done (by omega))
            clear hcm hng hk HS
            go_wp2_with fail
            go_quiet ((go_at_call 46; exact Calls.quiet_of (HCM.out _)))
            go_wp2_with fail
            go_roundw
            case rel => exact ⟨i + 1, f, by omega, by omega, by go_num, HS2, HR.out.drewN nq, HK.out.trans (Keep.drewN _ _)⟩
            case measure => simp [intOf]; omega
    · have i1 : ¬ ((i : Int) < n) := by omega
      have HS2 : Hid (Srt k f n n) := by
        refine ⟨HS.out.1, fun p q h1 h2 => HS.out.2 p q h1 (by omega)⟩
      go_wp2_with fail
      go_end0
      exact ⟨rfl, f, HS2.out, HR.out, HK.out⟩
end Go.Proofs.YtpjbdejgamajlabDoor

/- choice.loads by the time. -/
namespace Go.Proofs.YtpjbdejgamajlabDoor
open Go.RowKit

set_option maxHeartbeats 4000000 in
set_option maxRecDepth 100000 in
theorem loads_time (a : Option Addr) (c : Nat) (cs : List Cand) (hl : cs.length ≤ 100000) (hok : ∀ x ∈ cs, Small x) (w : World) (hf : IsCands w a c cs) :
    Calls Tryd.prog 37 #[.func (.func 44) #[] #[], .slice a cs.length c] w fun e w' => ∃ (a' : Option Addr) (ys : List Nat), e = .returned (.slice a' cs.length cs.length) ∧ ys.length = cs.length ∧ (∀ i, i < cs.length → kf (ys[i]?.getD 0) = (cs[i]?.map (tk)).getD 0) ∧ w'.ownsRow w.heap.size 48 1 (.slice a' cs.length cs.length) cs.length (cellsF64 ys) ∧ Below w.heap.size w w' := by
  obtain ⟨i0, hi, hz0, hz1, hz2⟩ := info_parts infoF64
  have HFF := Lib.hid hf
  have HOK := Lib.hid hok
  have HF := Lib.hid time37
  have HK : Hid (∀ c, tk c = tk c) := fun _ => rfl
  clear hf hok HK
  have hsf := store_flt Tryd.prog
  go_enter Tryd.func37, Tryd.ntmps37
  go_wp2_with (at_make; refine wpList_make_full _ rfl _ _ 47 rfl w.heap.size 48 i0 (.float .f64 0) 1 Tryd.underlying47 hi hz0 hz1 _ _ _ _ cs.length rfl rfl rfl rfl (by rw [hz2]; omega) (by unfold maxLen; omega) (Nat.le_refl _) ?_)
  intro w1 hown1 hg1
  have hB1 : Below w.heap.size w w1 := (Below.refl _ _).grown hg1 (Nat.le_refl _) (fun k hk => by cases hk)
  rw [toList_madeCells_one] at hown1
  have hml : List.replicate cs.length (Value.float .f64 0) = cellsF64 (List.replicate cs.length 0) := by unfold cellsF64; rw [List.map_replicate]
  rw [hml] at hown1
  obtain ⟨rb, hrb⟩ : ∃ rb, rb = w.heap.size := ⟨_, rfl⟩
  have HRB : Hid (rb = w.heap.size) := hrb
  have HO1 := Lib.hid hown1
  have HB1 := Lib.hid hB1
  clear hown1 hg1 hB1 hml
  rw [← hrb] at HO1 ⊢
  clear hrb
  go_wp2_with fail
  go_loopw [13] (fun i wr => ∃ (j : Nat) (ys : List Nat), j ≤ cs.length ∧ i = .int .i64 (j : Int) ∧ ys.length = cs.length ∧ (∀ i, i < j → kf (ys[i]?.getD 0) = (cs[i]?.map (tk)).getD 0) ∧ wr.ownsRow rb 48 1 (.slice (some ⟨rb, 0, none⟩) cs.length cs.length) cs.length (cellsF64 ys) ∧ Below w.heap.size w wr) (fun i _ => cs.length - (intOf i).toNat)
  case atStart => exact ⟨0, _, Nat.zero_le _, rfl, List.length_replicate, fun i h => by omega, HO1.out, HB1.out⟩
  case round =>
    obtain ⟨j, ys, hj, rfl, hyl, hys, ho, hb⟩ := hrel
    by_cases hlt : j < cs.length
    · obtain h0 | ⟨bk, o, rfl, hbk, hc, hcell⟩ := HFF.out.below hb
      · subst h0; simp at hlt
      obtain ⟨c1, c2, c3, c4⟩ := hcell j cs[j] (by simp [hlt])
      have hm := HF.out cs[j] (HOK.out _ (List.getElem_mem hlt))
      have hk1 : (cs[j]?.map (tk)).getD 0 = (tk) cs[j] := by simp [hlt]
      obtain ⟨f, hfe⟩ : ∃ f, f = cs[j] := ⟨_, rfl⟩
      rw [← hfe] at c1 c2 c3 c4 hm hk1
      clear hcell hfe
      obtain ⟨N, v, b, t⟩ := f
      simp only at c1 c2 c3 c4
      unfold candV at hm
      simp only at hm
      have HM := Lib.hid hm
      have HK1 := Lib.hid hk1
      have HYS := Lib.hid hys
      have HO := Lib.hid ho
      have HB := Lib.hid hb
      have j1 : (j : Int) < cs.length := by omega
      clear hm hk1 hys ho hb
      go_wp2_with fail
      obtain ⟨u, hcell64⟩ : ∃ u, (cellsF64 ys)[j]? = some (.float .f64 u) := ⟨ys[j], by simp [cellsF64, hyl, hlt]⟩
      have hsz : (wr.alloc (.cells #[.string N, .int .i64 v, .int .i64 b, .float .f64 t] 54)).heap.size = wr.heap.size + 1 := World.size_alloc _ _
      have HBA := Lib.hid (HB.out.alloc HB.out.size (.cells #[.string N, .int .i64 v, .int .i64 b, .float .f64 t] 54))
      have HOA := Lib.hid (HO.out.alloc (.cells #[.string N, .int .i64 v, .int .i64 b, .float .f64 t] 54))
      go_wp2_with (go_at_call 44; refine (HM.out _).mono ?_; rintro e w3 ⟨y, rfl, hky, hb3⟩; have hO3 := own_below HOA.out hb3; have hcl3 := hO3.cellAt j (by omega); rw [hcell64] at hcl3; have hfr3 := hO3.frozenAt j; have HS3 := Lib.hid (hO3.stored j (.float .f64 y)); have HB3 := Lib.hid (HBA.out.trans (hb3.mono HBA.out.size)); have HKY := Lib.hid hky; clear hO3 hb3 hky)
      have hset : (cellsF64 ys).set j (.float .f64 y) = cellsF64 (ys.set j y) := by unfold cellsF64; rw [List.map_set]
      have hO4 := HS3.out.1
      rw [hset] at hO4
      have HO4 := Lib.hid hO4
      have HB4 := Lib.hid (HB3.out.setCell (p := ⟨rb, j, none⟩) (Nat.le_of_eq HRB.out.symm) (.float .f64 y))
      have HY : Hid (∀ i, i < j + 1 → kf ((ys.set j y)[i]?.getD 0) = (cs[i]?.map tk).getD 0) := by
        intro i hi
        by_cases hij : i = j
        · subst hij
          rw [HK1.out, ← HKY.out, List.getElem?_set_self (by omega)]; rfl
        · rw [List.getElem?_set_ne (fun h => hij h.symm)]
          exact HYS.out i (by omega)
      clear hO4 hset HS3 HB3
      go_roundw
      case rel => exact ⟨j + 1, ys.set j y, hlt, by go_num, by rw [List.length_set]; exact hyl, HY.out, HO4.out, HB4.out⟩
      case measure => simp [intOf]; omega
    · obtain rfl : cs.length = j := by omega
      have hne : ¬ ((cs.length : Int) < cs.length) := by omega
      have HO := Lib.hid ho
      have HB := Lib.hid hb
      have HYS := Lib.hid hys
      clear ho hb hys
      go_wp2_with fail
      go_ret
      have hO := HO.out
      rw [HRB.out] at hO
      refine ⟨some ⟨w.heap.size, 0, none⟩, ?_, ys, hyl, HYS.out, hO, HB.out⟩
      rw [← HRB.out]; rfl
end Go.Proofs.YtpjbdejgamajlabDoor

/- choice.Rank. -/
namespace Go.Proofs.YtpjbdejgamajlabDoor
open Go.RowKit

theorem infoI64 : (Tryd.prog.info? 3).map (fun i => (i.zero, i.size, i.bytes)) = some (some (.int .i64 0), 1, 8) := by kernel_rfl
/-- The row that Shuffle makes. -/
theorem makeI (n : Nat) (hn : n ≤ 4096) (w : World) : ∃ cs, (∀ w', w' = w → (Instr.makeSlice 37 (.int .i64 (n : Int)) (.int .i64 (n : Int))).run Tryd.prog w' = .ok (.slice (some ⟨w.heap.size, 0, none⟩) n n) (w.alloc (.cells cs 3))) ∧
    RowI (w.alloc (.cells cs 3)) w.heap.size n (fun _ => 0) := by
  obtain ⟨i0, hi, hz0, hz1, hz2⟩ := info_parts infoI64
  have h := run_make (P := Tryd.prog) w 37 3 i0 (.int .i64 0) Tryd.underlying37 hi hz0 .i64 .i64 n n (by omega) (by omega) (by rw [hz2]; omega) (by omega)
  rw [hz1, Int.toNat_natCast, Nat.mul_one] at h
  refine ⟨_, fun w' e => by rw [e]; exact h, fun j hj => ?_⟩
  have hm : (madeCells (Value.int .i64 0).cells n)[j]? = some (.int .i64 0) := by
    unfold madeCells
    rw [Array.getElem?_map, Array.getElem?_range, if_pos hj]
    have e : (Value.int .i64 0).cells = #[.int .i64 0] := rfl
    rw [e]
    simp [Nat.mod_one]
  have hh : (w.alloc (.cells (madeCells (Value.int .i64 0).cells n) 3)).heap[w.heap.size]? = some (.cells (madeCells (Value.int .i64 0).cells n) 3) := by
    show (w.heap.push _)[w.heap.size]? = _
    rw [Array.getElem?_push_size]
  constructor
  · simp only [World.cell?, hh]
    exact hm
  · simp only [World.frozen?, hh]
    simp
def fillF (i j : Nat) : Nat := if j < i then j else 0
theorem Srt.below {k : Nat → Int} {f : Nat → Nat} {n : Nat} (h : Srt k f n n) {i j : Nat} (hi : i ≤ j) (hj : j < n) : k (f i) ≤ k (f j) := by
  rcases Nat.lt_or_eq_of_le hi with h1 | h1
  · exact h.2 i j h1 hj
  · subst h1; exact Int.le_refl _
set_option maxHeartbeats 2000000 in
set_option maxRecDepth 100000 in
theorem stable43 (fb g n : Nat) (k : Nat → Int) (f0 : Nat → Nat) (hn : n ≤ 19) (hf0 : ∀ q, q < n → f0 q < n) (w : World) (h : FoundAt w fb g n k) (hr : RowI w g n f0) :
    Calls Tryd.prog 63 #[.slice (some ⟨g, 0, none⟩) n n, .int .i64 (n : Int), .func (.func 46) #[] #[.pointer (some ⟨fb, 0, none⟩)]] w fun e w' => e = .returned (.tuple #[]) ∧ ∃ f, Srt k f n n ∧ RowI w' g n f ∧ Keep (fun x => x = g) w w' := by
  have HI := Lib.hid (insert47 fb g n k f0 (by omega) hf0 w h hr)
  have n1 : ¬ (20 : Int) ≤ n := by omega
  have n2 : ¬ (20 : Int) < n := by omega
  clear h hr
  go_enter Tryd.func63, Tryd.ntmps63
  go_wp2_with fail
  go_loopw [7, 8] (fun z b wr => z = .int .i64 0 ∧ b = .int .i64 20 ∧ wr = w) (fun _ _ _ => 0)
  case atStart => exact ⟨rfl, rfl, rfl⟩
  case round =>
    obtain ⟨rfl, rfl, rfl⟩ := hrel
    go_wp2_with (go_at_call 79; refine HI.out.mono ?_; rintro e w2 ⟨rfl, f, h1, h2, h3⟩)
    have H1 := Lib.hid h1
    have H2 := Lib.hid h2
    have H3 := Lib.hid h3
    clear h1 h2 h3 HI
    go_loopw [6] (fun b wr => b = .int .i64 20 ∧ wr = w2) (fun _ _ => 0)
    case atStart => exact ⟨rfl, rfl⟩
    case round =>
      obtain ⟨rfl, rfl⟩ := hrel
      go_wp2_with fail
      go_end0
      exact ⟨rfl, f, H1.out, H2.out, H3.out⟩
theorem sort38 (fb g n : Nat) (k : Nat → Int) (f0 : Nat → Nat) (hn : n ≤ 19) (hf0 : ∀ q, q < n → f0 q < n) (w : World) (h : FoundAt w fb g n k) (hr : RowI w g n f0) :
    Calls Tryd.prog 45 #[.slice (some ⟨g, 0, none⟩) n n, .func (.func 46) #[] #[.pointer (some ⟨fb, 0, none⟩)]] w fun e w' => e = .returned (.tuple #[]) ∧ ∃ f, Srt k f n n ∧ RowI w' g n f ∧ Keep (fun x => x = g) w w' := by
  have HI := Lib.hid (stable43 fb g n k f0 hn hf0 w h hr)
  clear h hr
  go_enter Tryd.func45, Tryd.ntmps45
  go_wp2_with (go_at_call 63; refine HI.out.mono ?_; rintro e w2 ⟨rfl, f, h1, h2, h3⟩)
  go_end0
  exact ⟨rfl, f, h1, h2, h3⟩
/-- The place of a candidate's load, by its index. -/
noncomputable def tkAt (cs : List Cand) (i : Nat) : Int := (cs[i]?.map tk).getD 0
set_option maxHeartbeats 2000000 in
set_option maxRecDepth 100000 in
theorem rank28 (a : Option Addr) (c : Nat) (cs : List Cand) (hl : cs.length ≤ 19) (hok : ∀ x ∈ cs, Small x) (w : World) (hf : IsCands w a c cs) :
    Calls Tryd.prog 20 #[.slice a cs.length c] w fun e w' => ∃ g f, e = .returned (.slice (some ⟨g, 0, none⟩) cs.length cs.length) ∧ Srt (tkAt cs) f cs.length cs.length ∧ RowI w' g cs.length f ∧ Below w.heap.size w w' ∧ g < w'.heap.size := by
  have HL := Lib.hid (loads_time a c cs (by omega) hok w hf)
  clear hf
  generalize hn : cs.length = n at *
  go_enter Tryd.func20, Tryd.ntmps20
  go_wp2_with (go_at_call 37; refine HL.out.mono ?_; rintro e w1 ⟨a1, ys, rfl, hyl, hys, ho, hb⟩; obtain ⟨cc, hmk, hri⟩ := makeI n (by omega) (w1.alloc (.cells #[.slice a1 n n] 47)))
  have hri2 := hri
  obtain ⟨fb, hfb⟩ : ∃ fb, fb = w1.heap.size := ⟨_, rfl⟩
  have hs1 : (w1.alloc (.cells #[.slice a1 n n] 47)).heap.size = w1.heap.size + 1 := World.size_alloc _ _
  have hbw := hb.size
  have hB0 : Below w.heap.size w ((w1.alloc (.cells #[.slice a1 n n] 47)).alloc (.cells cc 3)) := (hb.alloc hbw _).alloc (by rw [hs1]; omega) _
  have hFA : FoundAt ((w1.alloc (.cells #[.slice a1 n n] 47)).alloc (.cells cc 3)) fb (fb + 1) n (tkAt cs) := by
    have hrow := ((Row.new w1 47 #[.slice a1 n n]).alloc (.cells cc 3)).cell 0
    rw [← hfb] at hrow
    refine ⟨by omega, by rw [World.size_alloc, hs1]; omega, a1, hrow, fun i hi => ?_⟩
    have ho2 := (ho.alloc (.cells #[.slice a1 n n] 47)).alloc (.cells cc 3)
    rcases ho.2 with ⟨h1, h2⟩ | ⟨g, cap, cur, h1, _, hg, _⟩
    · omega
    · injection h1 with h1 h2 h3
      subst h1
      have hglt : g < w1.heap.size := (Array.getElem?_eq_some_iff.1 hg).1
      have hcap : cap = n := h3.symm
      subst hcap
      have hc := ho2.cellAt i (by omega)
      have hyi : (cellsF64 ys)[i]? = some (.float .f64 (ys[i]?.getD 0)) := by
        unfold cellsF64
        rw [List.getElem?_map, List.getElem?_eq_getElem (by omega)]; rfl
      rw [hyi] at hc
      refine ⟨g, 0, _, rfl, by omega, by rw [World.size_alloc, hs1]; omega, by rw [Nat.zero_add]; exact hc, ?_⟩
      exact hys i hi
  rw [hs1, ← hfb] at hri
  have HFA := Lib.hid hFA
  have HRI := Lib.hid hri
  have HB0 := Lib.hid hB0
  have hfw : w.heap.size ≤ fb := by omega
  have HSZ : Hid (((w1.alloc (.cells #[.slice a1 n n] 47)).alloc (.cells cc 3)).heap.size = fb + 2) := by
    show _ = _
    rw [World.size_alloc, hs1, hfb]
  rw [← hfb]
  clear hFA hri hri2 hB0 ho hys hyl hb hmk hs1 hbw HL hfb
  generalize (w1.alloc (.cells #[.slice a1 n n] 47)).alloc (.cells cc 3) = w2 at *
  go_loopw [13] (fun iv wr => ∃ i : Nat, i ≤ n ∧ iv = .int .i64 (i : Int) ∧ Hid (RowI wr (fb + 1) n (fillF i)) ∧ Hid (Keep (fun x => x = fb + 1) w2 wr)) (fun iv _ => n - (intOf iv).toNat)
  case atStart => exact ⟨0, Nat.zero_le _, rfl, (show Hid (RowI w2 (fb + 1) n (fillF 0)) from fun j hj => HRI.out j hj), Keep.refl _ _⟩
  case round =>
    obtain ⟨i, hi, rfl, HR, HK⟩ := hrel
    by_cases hlt : i < n
    · obtain ⟨ci, fi⟩ := HR.out i hlt
      have hlt' : (i : Int) < n := by omega
      go_wp2_with fail
      go_roundw
      case rel =>
        refine ⟨i + 1, hlt, by go_num, ?_, HK.out.trans (Keep.setCell (G := fun x => x = fb + 1) wr (p := ⟨fb + 1, i, none⟩) rfl _)⟩
        intro j hj
        have h : _ ∧ _ := HR.out.set hlt i j hj
        simp only at h
        have e : (if j = i then i else fillF i j) = fillF (i + 1) j := by
          unfold fillF
          by_cases e1 : j = i
          · subst e1; rw [if_pos rfl, if_pos (by omega)]
          · by_cases e2 : j < i
            · rw [if_neg e1, if_pos e2, if_pos (by omega)]
            · rw [if_neg e1, if_neg e2, if_neg (by omega)]
        rw [e] at h
        exact h
      case measure => simp [intOf]; omega
    · have e0 : n = i := by omega
      subst e0
      have HR2 : Hid (RowI wr (fb + 1) n id) := by
        intro j hj
        have h := HR.out j hj
        rw [show fillF n j = j from if_pos hj] at h
        exact h
      have HSO := Lib.hid (sort38 fb (fb + 1) n (tkAt cs) id hl (fun _ h => h) wr (HFA.out.keep HK.out) HR2.out)
      have hne : ¬ ((n : Int) < n) := by omega
      clear HR HR2 hn
      go_wp2_with (go_at_call 45; refine HSO.out.mono ?_; rintro e w5 ⟨rfl, f, h1, h2, h3⟩)
      go_ret
      have hk5 := HK.out.trans h3
      refine ⟨fb + 1, f, rfl, h1, h2, HB0.out.trans (hk5.bel (fun k hk => by rw [hk]; omega) (by have := HSZ.out; omega)), by have := hk5.size; have := HSZ.out; omega⟩
end Go.Proofs.YtpjbdejgamajlabDoor

/- choice.Least; the fixed facts of the law. -/
namespace Go.Proofs.YtpjbdejgamajlabDoor
open Go.RowKit

/-- The place of a candidate's load by its requests, by its index. -/
def ckAt (cs : List Cand) (i : Nat) : Int := (cs[i]?.map ck).getD 0
theorem lst_same {f : Nat → Nat} {k : Nat → Int} {n : Nat} (h : ∀ i, i < n → kf (f i) = k i) (hn : 0 < n) : 0 ≤ lstF f n ∧ lstF f n < n ∧ ∀ i, i < n → k (lstF f n).toNat < k i ∨ k (lstF f n).toNat = k i ∧ lstF f n ≤ i := by
  have h1 := lstF_ge f n hn
  have h2 := (lstF_lt f n).1
  refine ⟨h1, h2, fun i hi => ?_⟩
  have h3 := lstF_ok f n hn i hi
  rw [h _ (by omega), h i hi] at h3
  exact h3
/-- The first of the least. -/
def LeastIs (cs : List Cand) (r : Int) : Prop := (cs = [] → r = -1) ∧ (cs ≠ [] → 0 ≤ r ∧ r < cs.length ∧ ∀ i, i < cs.length → ckAt cs r.toNat < ckAt cs i ∨ ckAt cs r.toNat = ckAt cs i ∧ r ≤ i)
set_option maxHeartbeats 2000000 in
set_option maxRecDepth 100000 in
theorem cleast19 (a : Option Addr) (c : Nat) (cs : List Cand) (hl : cs.length ≤ 100000) (hok : ∀ x ∈ cs, Small x) (w : World) (hf : IsCands w a c cs) :
    Calls Tryd.prog 17 #[.slice a cs.length c] w fun e w' => ∃ r, e = .returned (.int .i64 r) ∧ LeastIs cs r ∧ Below w.heap.size w w' := by
  have HL := Lib.hid (loads_count a c cs hl hok w hf)
  clear hf
  generalize hn : cs.length = n at *
  have HN := Lib.hid hn
  clear hn
  go_enter Tryd.func17, Tryd.ntmps17
  go_wp2_with (go_at_call 37; refine HL.out.mono ?_; rintro e w1 ⟨a1, ys, rfl, hyl, hys, ho, hb⟩)
  have hrow : n = 0 ∨ ∃ b o, a1 = some ⟨b, o, none⟩ ∧ ∀ j, j < n → w1.cell? ⟨b, o + j, none⟩ = some (.float .f64 (ys[j]?.getD 0)) := by
    rcases ho.2 with ⟨_, h2⟩ | ⟨g, cap, cur, h1, _⟩
    · exact .inl h2
    · injection h1 with h1 h2 h3
      subst h1
      have hcap : cap = n := h3.symm
      subst hcap
      refine .inr ⟨g, 0, rfl, fun j hj => ?_⟩
      rw [Nat.zero_add, ho.cellAt j (by omega)]
      unfold cellsF64
      rw [List.getElem?_map, List.getElem?_eq_getElem (by omega)]; rfl
  have HLE := Lib.hid (least3 a1 n n (fun j => ys[j]?.getD 0) w1 (by omega) hrow)
  have HLI : Hid (LeastIs cs (lstF (fun j => ys[j]?.getD 0) n)) := by
    have hn := HN.out
    refine ⟨fun h => ?_, fun h => ?_⟩
    · have : n = 0 := by rw [← hn, h]; rfl
      rw [this]; rfl
    · have hp : 0 < n := by rw [← hn]; exact List.length_pos_iff.2 h
      rw [hn]
      exact lst_same (k := ckAt cs) (fun i hi => hys i hi) hp
  have HB := Lib.hid hb
  generalize lstF (fun j => ys[j]?.getD 0) n = r at *
  clear hrow hys ho hb hyl HL
  go_wp2_with (go_at_call 36; refine HLE.out.mono ?_; rintro e w2 ⟨rfl, rfl⟩)
  go_ret
  exact ⟨r, rfl, HLI.out, HB.out⟩
/-- The two fixed candidates. -/
def acs : List Cand := [⟨⟨#[]⟩, 1, 1, 0⟩, ⟨⟨#[]⟩, 3, 2, 0⟩]
theorem acs_small : ∀ x ∈ acs, Small x := by
  intro x hx
  simp only [acs, List.mem_cons, List.not_mem_nil, or_false] at hx
  rcases hx with rfl | rfl <;> exact ⟨by decide, by decide, by decide, by decide⟩
theorem acs_least {r : Int} (h : LeastIs acs r) : r = 1 := by
  obtain ⟨h0, h1, h2⟩ := h.2 (by decide)
  have h3 := h2 1 (by decide)
  have hk : qk 3 3 < qk 2 1 := qk_lt (by decide) (by decide) (by decide) (by decide) (by decide) (by decide) (by decide) (by decide) (by decide)
  have e0 : ckAt acs 0 = (qk 2 1 : Int) := rfl
  have e1 : ckAt acs 1 = (qk 3 3 : Int) := rfl
  have hl : acs.length = 2 := rfl
  rw [hl] at h1
  have hr : r = 0 ∨ r = 1 := by omega
  rcases hr with rfl | rfl
  · exfalso
    rw [show (0 : Int).toNat = 0 from rfl, e0, e1] at h3
    omega
  · rfl
theorem isCands_two (w : World) (T : TypeId) : IsCands (w.alloc (.cells #[.string ⟨#[]⟩, .int .i64 1, .int .i64 1, .float .f64 0, .string ⟨#[]⟩, .int .i64 3, .int .i64 2, .float .f64 0] T)) (some ⟨w.heap.size, 0, none⟩) 2 acs := by
  refine .inr ⟨w.heap.size, 0, rfl, by simp, by decide, fun j e he => ?_⟩
  match j, he with
  | 0, he => simp [acs] at he; subst he; simp
  | 1, he => simp [acs] at he; subst he; simp
  | j + 2, he => simp [acs] at he
end Go.Proofs.YtpjbdejgamajlabDoor

/- Weights under a mask. -/
namespace Go.Proofs.YtpjbdejgamajlabDoor
open Go.RowKit Go.Maps

theorem and_small (x : Int) (m : Nat) (hm : m ≤ 1000000) : 0 ≤ bits .and .i64 x (m : Int) ∧ bits .and .i64 x (m : Int) ≤ m := by
  have h1 : (BitVec.ofInt 64 x &&& BitVec.ofInt 64 (m : Int)).toNat ≤ m := by
    rw [BitVec.toNat_and]
    have : (BitVec.ofInt 64 (m : Int)).toNat = m := by
      rw [BitVec.toNat_ofInt]; omega
    rw [this]
    exact Nat.and_le_right
  have h2 : bits .and .i64 x (m : Int) = IntKind.i64.wrap ((BitVec.ofInt 64 x &&& BitVec.ofInt 64 (m : Int)).toNat : Int) := rfl
  rw [h2]
  generalize (BitVec.ofInt 64 x &&& BitVec.ofInt 64 (m : Int)).toNat = r at *
  simp [IntKind.wrap, IntKind.signed, IntKind.bits]
  omega
end Go.Proofs.YtpjbdejgamajlabDoor

/- The memory of the rotor's laws. -/
namespace Go.Proofs.YtpjbdejgamajlabDoor
open Go.RowKit Go.Maps

/-- The weights under a mask. -/
def mskW (m : Nat) (e : Ent) : Ent := (e.1, 1 + bits .and .i64 e.2 (m : Int))
/-- The first j of them so. -/
def mskE (m : Nat) (es : List Ent) (j : Nat) : List Ent := (es.take j).map (mskW m) ++ es.drop j
theorem mskE_zero (m : Nat) (es : List Ent) : mskE m es 0 = es := by simp [mskE]
theorem mskE_all (m : Nat) (es : List Ent) : mskE m es es.length = es.map (mskW m) := by simp [mskE]
theorem mskE_len (m : Nat) (es : List Ent) (j : Nat) : (mskE m es j).length = es.length := by simp [mskE]; omega
theorem mskE_at (m : Nat) {es : List Ent} {j : Nat} (hj : j < es.length) : (mskE m es j)[j]? = some es[j] := by
  unfold mskE
  rw [List.getElem?_append_right (by simp; omega)]
  simp only [List.length_map, List.length_take, Nat.min_eq_left (Nat.le_of_lt hj), Nat.sub_self]
  simp [hj]
theorem cellsE_set {a b : List Ent} {N : ByteArray} {V : Int} (X : Int) : (cellsE (a ++ (N, V) :: b)).set (a.length * 2 + 1) (.int .i64 X) = cellsE (a ++ (N, X) :: b) := by
  rw [cellsE_append, cellsE_append, List.set_append_right _ _ (by rw [cellsE_length]; omega), cellsE_length, Nat.add_sub_cancel_left]
  rfl
theorem mskE_set (m : Nat) {es : List Ent} {j : Nat} (hj : j < es.length) : (cellsE (mskE m es j)).set (j * 2 + 1) (.int .i64 (1 + bits .and .i64 es[j].2 (m : Int))) = cellsE (mskE m es (j + 1)) := by
  have h1 : mskE m es j = (es.take j).map (mskW m) ++ (es[j].1, es[j].2) :: es.drop (j + 1) := by
    unfold mskE
    rw [List.drop_eq_getElem_cons hj]
  have h2 : mskE m es (j + 1) = (es.take j).map (mskW m) ++ (es[j].1, 1 + bits .and .i64 es[j].2 (m : Int)) :: es.drop (j + 1) := by
    unfold mskE
    rw [List.take_add_one, List.getElem?_eq_getElem hj, Option.toList_some, List.map_append, List.append_assoc]
    rfl
  have h3 := cellsE_set (a := (es.take j).map (mskW m)) (b := es.drop (j + 1)) (N := es[j].1) (V := es[j].2) (1 + bits .and .i64 es[j].2 (m : Int))
  rw [← h1, ← h2] at h3
  rw [show ((es.take j).map (mskW m)).length = j by simp; omega] at h3
  exact h3
/-- The masked entries. -/
def mskL (m : Nat) (es : List Ent) : List Ent := es.map (mskW m)
theorem mskL_weights (m : Nat) (hm : m ≤ 1000) (es : List Ent) : ∀ e ∈ mskL m es, 1 ≤ e.2 ∧ e.2 ≤ 65535 := by
  intro e he
  obtain ⟨x, _, rfl⟩ := List.mem_map.1 he
  have := and_small x.2 m (by omega)
  simp only [mskW]; omega
theorem mskL_apart (m : Nat) {es : List Ent} (h : Apart es) : Apart (mskL m es) := h.map (fun e => 1 + bits .and .i64 e.2 (m : Int))
theorem mskL_step (m : Nat) {es : List Ent} {j : Nat} (hj : j < es.length) : sumW ((mskL m es).take (j + 1)) = sumW ((mskL m es).take j) + (1 + bits .and .i64 es[j].2 (m : Int)) := by
  rw [sumW_step (by unfold mskL; simpa using hj)]
  simp [mskL, mskW]

/-- What a rotor's law holds: the entries at xa, the rotor rb with marks f, the counts c at nb. -/
structure MemS (B rb nb : Nat) (E : List Ent) (xa : Option Addr) (xc : Nat) (v : Option Nat) (n : Nat) (f c : ByteArray → Int) (wr : World) : Prop where
  rot : Rot wr rb v n f
  cm : MapI wr nb n c
  ne : ¬ RG rb v nb
  ents : IsEnts wr xa xc E
  xne : ∀ p, xa = some p → ¬ RG rb v p.block ∧ p.block ≠ nb
  ge : ∀ k, RG rb v k → B ≤ k
  nge : B ≤ nb
section
variable {B rb nb : Nat} {E : List Ent} {xa : Option Addr} {xc : Nat} {v : Option Nat} {n : Nat} {f c : ByteArray → Int} {wr : World}
theorem MemS.below (h : MemS B rb nb E xa xc v n f c wr) {w1 : World} (hb : Below wr.heap.size wr w1) : MemS B rb nb E xa xc v n f c w1 :=
  ⟨h.rot.below hb, h.cm.same (hb.block nb h.cm.lt), h.ne, h.ents.below hb, h.xne, h.ge, h.nge⟩
theorem ents_lt (h : IsEnts wr xa xc E) {p : Addr} (hp : xa = some p) (hE : E ≠ []) : p.block < wr.heap.size := by
  rcases h with h | ⟨bk, o, ha, hlt, _⟩
  · exact absurd h hE
  · rw [ha] at hp; injection hp with hp; rw [← hp]; exact hlt
theorem MemS.pick (h : MemS B rb nb E xa xc v n f c wr) (hE : E ≠ []) (hB : B ≤ wr.heap.size) {m : Nat} (hm : n ≤ m) {f2 : ByteArray → Int} {w1 : World} (hp : PickPost rb v m f2 wr w1) :
    ∃ v2, MemS B rb nb E xa xc v2 m f2 c w1 ∧ Below B wr w1 := by
  obtain ⟨v2, r2, k2, f2⟩ := hp
  have hnl := h.cm.lt
  have hrg : ∀ k, RG rb v2 k → k < wr.heap.size → RG rb v k := by
    rintro k (hk | hk) hlt
    · exact .inl hk
    · rcases f2 with h1 | ⟨b, h1, h2⟩
      · rw [h1] at hk; exact .inr hk
      · rw [h1] at hk; injection hk with hk; omega
  refine ⟨v2, ⟨r2, (h.cm.keep k2 h.ne).mono hm, fun hk => h.ne (hrg nb hk hnl), h.ents.keep k2 (fun p hp => (h.xne p hp).1), fun p hp => ⟨fun hk => (h.xne p hp).1 (hrg _ hk (ents_lt h.ents hp hE)), (h.xne p hp).2⟩, fun k hk => ?_, h.nge⟩, k2.bel h.ge hB⟩
  by_cases hlt : k < wr.heap.size
  · exact h.ge k (hrg k hk hlt)
  · omega
theorem MemS.count (h : MemS B rb nb E xa xc v n f c wr) (hB : B ≤ wr.heap.size) {c2 : ByteArray → Int} {w1 : World} (hm : MapI w1 nb (n + 1) c2) (hg : wr.grownBy w1 (some nb)) : MemS B rb nb E xa xc v (n + 1) f c2 w1 ∧ Below B wr w1 := by
  have hk : Keep (fun k => k = nb) wr w1 := .grown hg (fun k hk => by injection hk with hk; exact hk.symm)
  refine ⟨⟨(h.rot.keep hk (fun k hk e => h.ne (e ▸ hk))).mono (by omega), hm, h.ne, h.ents.keep hk (fun p hp => (h.xne p hp).2), h.xne, h.ge, h.nge⟩, hk.bel (fun k hk => by rw [hk]; exact h.nge) hB⟩
end
theorem Share.cle {E : List Ent} {t : Int} {f c : ByteArray → Int} (h : Share E t f c) {e : Ent} (he : e ∈ E) : c e.1 ≤ t := by
  have hl : ∀ L : List Ent, (∀ x ∈ L, 0 ≤ c x.1) → e ∈ L → c e.1 ≤ (L.map fun x => c x.1).sum := by
    intro L
    induction L with
    | nil => intro _ h; cases h
    | cons x L ih =>
      intro h1 h2
      have h3 := sum_ge0 (fun x => c x.1) L (fun y hy => h1 y (by simp [hy]))
      have h4 := h1 x (by simp)
      simp only [List.map_cons, List.sum_cons]
      rcases List.mem_cons.1 h2 with rfl | h2
      · omega
      · have := ih (fun y hy => h1 y (by simp [hy])) h2
        omega
  rw [← h.sum]
  exact hl E h.pos he
end Go.Proofs.YtpjbdejgamajlabDoor

/- stewardlaw16.Own. -/
namespace Go.Proofs.YtpjbdejgamajlabDoor
open Go.RowKit

theorem infoCand : (Tryd.prog.info? 54).map (fun i => (i.zero, i.size, i.bytes)) = some (some (.agg #[.string ⟨#[]⟩, .int .i64 0, .int .i64 0, .float .f64 0]), 4, 40) := by kernel_rfl
theorem cells_cand (w : World) (n : ByteArray) (v b : Int) (t : Nat) (T : TypeId) : ∀ (k : Nat) u, [Value.string n, .int .i64 v, .int .i64 b, .float .f64 t][k]? = some u → (w.alloc (.cells #[.string n, .int .i64 v, .int .i64 b, .float .f64 t] T)).cell? ((⟨w.heap.size, 0, none⟩ : Addr).add k) = some u := by
  intro k u hu
  rw [Addr.add_mid]
  match k, hu with
  | 0, hu => obtain rfl := Option.some.inj hu; simp
  | 1, hu => obtain rfl := Option.some.inj hu; simp
  | 2, hu => obtain rfl := Option.some.inj hu; simp
  | 3, hu => obtain rfl := Option.some.inj hu; simp
  | k + 4, hu => simp at hu
theorem cand_one (n : ByteArray) (v b : Int) (t : Nat) : ∀ u ∈ [Value.string n, Value.int .i64 v, .int .i64 b, .float .f64 t], u.oneCell' = true := by intro u hu; simp at hu; rcases hu with rfl | rfl | rfl | rfl <;> rfl
theorem cellsC_step {cs : List Cand} {j : Nat} (hj : j < cs.length) : cellsC (cs.take (j + 1)) = cellsC (cs.take j) ++ [.string cs[j].nm, .int .i64 cs[j].w, .int .i64 cs[j].b, .float .f64 cs[j].t] := by
  rw [List.take_add_one, List.getElem?_eq_getElem hj, Option.toList_some, cellsC_append]
  rfl
end Go.Proofs.YtpjbdejgamajlabDoor

/- A slice of floating-point numbers in memory. -/
namespace Go.Proofs.YtpjbdejgamajlabDoor
open Go.RowKit

/-- A slice of floating-point numbers. -/
def IsFlts (w : World) (a : Option Addr) (c : Nat) (xs : List Nat) : Prop :=
  xs = [] ∨ ∃ bk o, a = some ⟨bk, o, none⟩ ∧ bk < w.heap.size ∧ xs.length ≤ c ∧ ∀ (j : Nat) x, xs[j]? = some x → w.cell? ⟨bk, o + j, none⟩ = some (.float .f64 x) ∧ x < 18446744073709551616
theorem IsFlts.below {w w' : World} {a : Option Addr} {c : Nat} {xs : List Nat} (h : IsFlts w a c xs) (hb : Below w.heap.size w w') : IsFlts w' a c xs := by
  rcases h with h | ⟨bk, o, ha, hbk, hl, hc⟩
  · exact .inl h
  · exact .inr ⟨bk, o, ha, Nat.lt_of_lt_of_le hbk hb.size, hl, fun j x hx => by rw [(bcell hb).1 _ _ hbk]; exact hc j x hx⟩
end Go.Proofs.YtpjbdejgamajlabDoor

/- StewardEdges: the candidates; what holds while two loads are compared. -/
namespace Go.Proofs.YtpjbdejgamajlabDoor
open Go.RowKit

open Classical in
/-- What Mean returns. -/
noncomputable def mnF (o s h : Nat) : Nat := if H : o < 18446744073709551616 ∧ s < 18446744073709551616 ∧ h < 18446744073709551616 then Classical.choose (Ed.mean_some o s h H.1 H.2.1 H.2.2) else 0
theorem mnF_is {o s h : Nat} (ho : o < 18446744073709551616) (hs : s < 18446744073709551616) (hh : h < 18446744073709551616) (w : World) : Calls Tryd.prog 19 #[.float .f64 o, .float .f64 s, .float .f64 h] w fun e w' => e = .returned (.float .f64 (mnF o s h)) ∧ w' = w := by
  unfold mnF
  rw [dif_pos ⟨ho, hs, hh⟩]
  exact (Classical.choose_spec (Ed.mean_some o s h ho hs hh)).2 w
/-- A candidate's time. -/
noncomputable def edT (xs ys : List Nat) (h i : Nat) : Nat := if i < ys.length then mnF (xs[i]?.getD 0) (ys[i]?.getD 0) h else xs[i]?.getD 0
noncomputable def edC (xs ys : List Nat) (h n : Nat) : List Cand := (List.range n).map fun i : Nat => ⟨⟨#[]⟩, 1 + (i : Int), (i : Int) * 2, edT xs ys h i⟩
theorem edC_step (xs ys : List Nat) (h n : Nat) : edC xs ys h (n + 1) = edC xs ys h n ++ [⟨⟨#[]⟩, 1 + (n : Int), (n : Int) * 2, edT xs ys h n⟩] := by unfold edC; rw [List.range_succ, List.map_append]; rfl
theorem edC_len (xs ys : List Nat) (h n : Nat) : (edC xs ys h n).length = n := by simp [edC]
theorem edC_small {xs ys : List Nat} {h n : Nat} (hn : n ≤ 12) : ∀ c ∈ edC xs ys h n, Small c := by
  intro c hc
  obtain ⟨i, hi, rfl⟩ := List.mem_map.1 hc
  have := List.mem_range.1 hi
  unfold Small
  simp only
  omega
theorem edC_cells (xs ys : List Nat) (h n : Nat) : cellsC (edC xs ys h (n + 1)) = cellsC (edC xs ys h n) ++ [.string ⟨#[]⟩, .int .i64 (1 + (n : Int)), .int .i64 ((n : Int) * 2), .float .f64 (edT xs ys h n)] := by
  rw [edC_step, cellsC_append]; rfl
theorem infoCandE : (Tryd.prog.info? 54).map (fun i => (i.zero, i.size, i.bytes)) = some (some (.agg #[.string ⟨#[]⟩, .int .i64 0, .int .i64 0, .float .f64 0]), 4, 40) := by kernel_rfl
theorem strEqE (a b : ByteArray) : (a.toList == b.toList) = decide (a = b) := by
  by_cases h : a = b
  · subst h; simp
  · rw [decide_eq_false h]; exact (Lib.bytes_beq_false_iff a b).2 h
/-- What holds while two loads are compared. -/
structure MixE (W0 : World) (k1 k2 : Int) (L : Nat → Bool) (x : Nat → Value) (w : World) : Prop where
  w : ∃ m, w = W0.drewN m
  y1 : L 24 = true → ∃ y, x 24 = .float .f64 y ∧ kf y = k1
  y2 : L 40 = true → ∃ y, x 40 = .float .f64 y ∧ kf y = k2
theorem MixE.start (W0 : World) (k1 k2 : Int) (x : Nat → Value) : MixE W0 k1 k2 (fun _ => false) x W0.drew := ⟨⟨1, rfl⟩, (fun h => by cases h), (fun h => by cases h)⟩
theorem MixE.keep {W0 : World} {k1 k2 : Int} {L : Nat → Bool} {x : Nat → Value} {w : World} (h : MixE W0 k1 k2 L x w) (i : Nat) (h1 : i ≠ 24) (h2 : i ≠ 40) (v : Value) : MixE W0 k1 k2 (setL L i) (updV x i v) w :=
  ⟨h.w, fun e => by
    obtain ⟨y, hy, hk⟩ := h.y1 (by simpa [setL, Ne.symm h1] using e)
    exact ⟨y, by simp [updV, Ne.symm h1, hy], hk⟩, fun e => by
    obtain ⟨y, hy, hk⟩ := h.y2 (by simpa [setL, Ne.symm h2] using e)
    exact ⟨y, by simp [updV, Ne.symm h2, hy], hk⟩⟩
theorem drewN_add (w : World) (m n : Nat) : (w.drewN m).drewN n = w.drewN (m + n) := by
  simp only [World.drewN, Nat.add_assoc]
theorem MixE.ld1 {W0 : World} {k1 k2 : Int} {L : Nat → Bool} {x : Nat → Value} {w : World} (h : MixE W0 k1 k2 L x w) (y n : Nat) (hy : kf y = k1) : MixE W0 k1 k2 (setL L 24) (updV x 24 (.float .f64 y)) (w.drewN n) := by
  obtain ⟨m, hm⟩ := h.w
  refine ⟨⟨m + n, by rw [hm, drewN_add]⟩, fun _ => ⟨y, by simp [updV], hy⟩, fun e => ?_⟩
  obtain ⟨z, hz, hk⟩ := h.y2 (by simpa [setL] using e)
  exact ⟨z, by simp [updV, hz], hk⟩
theorem MixE.ld2 {W0 : World} {k1 k2 : Int} {L : Nat → Bool} {x : Nat → Value} {w : World} (h : MixE W0 k1 k2 L x w) (y n : Nat) (hy : kf y = k2) : MixE W0 k1 k2 (setL L 40) (updV x 40 (.float .f64 y)) (w.drewN n) := by
  obtain ⟨m, hm⟩ := h.w
  refine ⟨⟨m + n, by rw [hm, drewN_add]⟩, fun e => ?_, fun _ => ⟨y, by simp [updV], hy⟩⟩
  obtain ⟨z, hz, hk⟩ := h.y1 (by simpa [setL] using e)
  exact ⟨z, by simp [updV, hz], hk⟩
theorem cmp_ge {y z : Nat} {k1 k2 : Int} (h1 : kf y = k1) (h2 : kf z = k2) (h : k2 ≤ k1) : cmpF y z = cmpK k1 k2 ∧ ¬ cmpK k1 k2 < 0 := by
  refine ⟨by unfold cmpF cmpK; rw [h1, h2], ?_⟩
  rw [cmpK_neg]; omega
def byteI (k : Nat) : Int := ((UInt8.ofNat (97 + k)).toNat : Nat)
theorem wrapU (k : Nat) : IntKind.u8.wrap (97 + (k : Int)) = byteI k := by
  unfold byteI
  rw [IntKind.wrap_u8, UInt8.toNat_ofNat']
  omega
theorem conv_nm (w : World) (k : Nat) : (convert 62 9 (.slice (some ⟨w.heap.size, 0, none⟩) 1 1)).run Tryd.prog (w.alloc (.cells #[.int .u8 (byteI k)] 5)) = .ok (.string (nmI k)) (w.alloc (.cells #[.int .u8 (byteI k)] 5)) :=
  own_stringZ _ w.heap.size _ [UInt8.ofNat (97 + k)] (World.ownsRow_lit w #[.int .u8 (byteI k)] 1 (Nat.le_refl _) (by decide) (by simp))
end Go.Proofs.YtpjbdejgamajlabDoor

