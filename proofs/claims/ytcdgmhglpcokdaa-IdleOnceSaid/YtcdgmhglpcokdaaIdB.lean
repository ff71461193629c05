/- slices.IndexFunc, slices.DeleteFunc at ints, with idle's closure. -/
import Derived.Test.YtcdgmhglpcokdaaIdA
import Derived.Lib.SliceRun
namespace Go.Proofs.Ytcdgmhglpcokdaa
open Go.RowKit Go.Maps

theorem keep_cellI {G : Nat → Prop} {w w' : World} (h : Keep G w w') {b : Nat} (hb : b < w.heap.size) (hg : ¬ G b) (o : Nat) : w'.cell? ⟨b, o, none⟩ = w.cell? ⟨b, o, none⟩ := by
  simp only [World.cell?]; rw [h.block b hb hg]
/-- The first cells of a row are these numbers. -/
def Fst (cs : Array Value) (l : List Int) : Prop := ∀ (k : Nat) (x : Int), l[k]? = some x → cs[k]? = some (Value.int .i64 x)
theorem Fst.at {cs : Array Value} {l : List Int} (h : Fst cs l) {k : Nat} (hk : k < l.length) : cs[k]? = some (Value.int .i64 l[k]) := h k _ (List.getElem?_eq_getElem hk)
theorem Fst.len {cs : Array Value} {l : List Int} (h : Fst cs l) : l.length ≤ cs.size := by
  rcases Nat.lt_or_ge cs.size l.length with h2 | h2
  · have := h.at h2
    rw [Array.getElem?_eq_none (Nat.le_refl _)] at this; cases this
  · exact h2
def forgV (cb : Nat) : Value := .func (.func 45) #[] #[.pointer (some ⟨cb, 0, none⟩)]
theorem forg1 (cb : Nat) (x c : Int) (w : World) (h : w.cell? ⟨cb, 0, none⟩ = some (.int .i64 c)) :
    Calls Try.prog 45 #[.int .i64 x, .pointer (some ⟨cb, 0, none⟩)] w fun e w' => e = .returned (.bool (x == c)) ∧ w' = w := by
  go_enter Try.func45, Try.ntmps45
  go_wp2_with fail
  go_ret
  exact ⟨rfl, rfl⟩
/-- Where the first one is that is c, or -1. -/
def idxI (l : List Int) (c : Int) : Int := match l.findIdx? (fun x => x == c) with
  | some i => (i : Int)
  | none => -1
theorem idxI_no {l : List Int} {c : Int} (h : ∀ x ∈ l, (x == c) = false) : idxI l c = -1 := by
  unfold idxI
  rw [List.findIdx?_eq_none_iff.2 (fun x hx => h x hx)]
theorem idxI_at {l : List Int} {c : Int} {j : Nat} (hj : j < l.length) (h : ∀ x ∈ l.take j, (x == c) = false) (hq : (l[j] == c) = true) : idxI l c = (j : Int) := by
  unfold idxI
  have : l.findIdx? (fun x => x == c) = some j := by
    rw [List.findIdx?_eq_some_iff_getElem]
    refine ⟨hj, hq, fun k hk => ?_⟩
    rw [h l[k] (by rw [List.mem_take_iff_getElem]; exact ⟨k, by omega, rfl⟩)]
    simp
  rw [this]
set_option maxHeartbeats 1000000 in
set_option maxRecDepth 100000 in
theorem iindex (g cap cb : Nat) (c : Int) (l : List Int) (cs : Array Value) (w : World) (hl : l.length ≤ 1000000) (hr : Row w g 3 cs) (hf : Fst cs l) (hc : w.cell? ⟨cb, 0, none⟩ = some (.int .i64 c)) :
    Calls Try.prog 56 #[.slice (some ⟨g, 0, none⟩) l.length cap, forgV cb] w fun e w' => e = .returned (.int .i64 (idxI l c)) ∧ w' = w := by
  have HR := Lib.hid hr
  have HF := Lib.hid hf
  have HC : Hid (∀ x, Calls Try.prog 45 #[.int .i64 x, .pointer (some ⟨cb, 0, none⟩)] w fun e w' => e = .returned (.bool (x == c)) ∧ w' = w) := fun x => forg1 cb x c w hc
  clear hr hf hc
  unfold forgV
  go_enter Try.func56, Try.ntmps56
  go_wp2_with fail
  go_loopw [8] (fun i wr => ∃ j : Nat, j ≤ l.length ∧ i = .int .i64 (j : Int) ∧ Hid (∀ x ∈ l.take j, (x == c) = false) ∧ wr = w) (fun i _ => l.length - (intOf i).toNat)
  case atStart => exact ⟨0, Nat.zero_le _, rfl, fun x hx => by simp at hx, rfl⟩
  case round =>
    obtain ⟨j, hj, rfl, hno, rfl⟩ := hrel
    by_cases hlt : j < l.length
    · have j1 : (j : Int) < (l.length : Int) := by omega
      have x0 : wr.cell? ⟨g, j, none⟩ = some (.int .i64 l[j]) := by rw [HR.out.cell]; exact HF.out.at hlt
      have HNX : Hid ((l[j] == c) = false → ∀ x ∈ l.take (j + 1), (x == c) = false) := fun h x hx => by
        rw [List.take_add_one, List.getElem?_eq_getElem hlt, Option.toList_some, List.mem_append] at hx
        rcases hx with hx | hx
        · exact hno.out x hx
        · simp at hx; rw [hx]; exact h
      have HAT : Hid ((l[j] == c) = true → idxI l c = (j : Int)) := fun h => idxI_at hlt hno.out h
      have HCJ := Lib.hid (HC.out l[j])
      obtain ⟨y, hy⟩ : ∃ y, y = l[j] := ⟨_, rfl⟩
      rw [← hy] at x0 HNX HAT HCJ
      clear hy
      cases hb : (y == c) with
      | false =>
        rw [hb] at HCJ
        have HN2 := Lib.hid (HNX.out hb)
        clear hb HNX HAT
        go_wp2_with fail
        refine HCJ.out.mono ?_
        rintro e w9 ⟨rfl, rfl⟩
        go_wp2_with fail
        go_roundw
        case rel => exact ⟨j + 1, hlt, by go_num, HN2, by simp⟩
        case measure => simp [intOf]; omega
      | true =>
        rw [hb] at HCJ
        have HA2 := Lib.hid (HAT.out hb)
        clear hb HNX HAT
        go_wp2_with fail
        refine HCJ.out.mono ?_
        rintro e w9 ⟨rfl, rfl⟩
        go_wp2_with fail
        go_ret
        exact ⟨by rw [HA2.out]; rfl, rfl⟩
    · obtain rfl : j = l.length := by omega
      have hj0 : ¬ ((l.length : Int) < l.length) := by omega
      have HA2 : Hid (idxI l c = -1) := idxI_no (by have := hno.out; rw [List.take_of_length_le (Nat.le_refl _)] at this; exact this)
      go_wp2_with fail
      go_ret
      exact ⟨by rw [HA2.out]; rfl, rfl⟩
theorem idx_cases (l : List Int) (c : Int) : (idxI l c = -1 ∧ ∀ x ∈ l, (x == c) = false) ∨ ∃ i, ∃ h : i < l.length, idxI l c = (i : Int) ∧ (l[i] == c) = true ∧ ∀ x ∈ l.take i, (x == c) = false := by
  by_cases h : ∀ x ∈ l, (x == c) = false
  · exact .inl ⟨idxI_no h, h⟩
  · right
    have hex : ∃ i, ∃ h : i < l.length, (l[i] == c) = true ∧ ∀ x ∈ l.take i, (x == c) = false := by
      revert h
      induction l with
      | nil => intro h0; exact absurd (fun x hx => by cases hx) h0
      | cons y r ih =>
        intro h0
        by_cases hy : (y == c) = true
        · exact ⟨0, by simp, hy, fun x hx => by simp at hx⟩
        · have hyf : (y == c) = false := by simpa using hy
          obtain ⟨i, hi, h1, h2⟩ := ih (fun h => h0 (fun x hx => by
            rcases List.mem_cons.1 hx with rfl | hx
            · exact hyf
            · exact h x hx))
          refine ⟨i + 1, by simp; omega, by simpa using h1, fun x hx => ?_⟩
          rw [List.take_succ_cons] at hx
          rcases List.mem_cons.1 hx with rfl | hx
          · exact hyf
          · exact h2 x hx
    obtain ⟨i, hi, h1, h2⟩ := hex
    exact ⟨i, hi, idxI_at hi h2 h1, h1, h2⟩
/-- Without c. -/
def without (l : List Int) (c : Int) : List Int := l.filter fun x => !decide (x = c)
theorem without_keep {l : List Int} {c : Int} {j : Nat} (hj : j < l.length) (h : (l[j] == c) = false) : without (l.take (j + 1)) c = without (l.take j) c ++ [l[j]] := by
  unfold without
  rw [List.take_add_one, List.getElem?_eq_getElem hj, Option.toList_some, List.filter_append, List.filter_cons, if_pos (by simpa using h)]; rfl
theorem without_drop {l : List Int} {c : Int} {j : Nat} (hj : j < l.length) (h : (l[j] == c) = true) : without (l.take (j + 1)) c = without (l.take j) c := by
  unfold without
  rw [List.take_add_one, List.getElem?_eq_getElem hj, Option.toList_some, List.filter_append, List.filter_cons, if_neg (by simpa using h)]; simp
theorem without_none {l : List Int} {c : Int} (h : ∀ x ∈ l, (x == c) = false) : without l c = l := List.filter_eq_self.2 (fun x hx => by simpa using h x hx)
theorem without_le (l : List Int) (c : Int) (j : Nat) : (without (l.take j) c).length ≤ j := Nat.le_trans (List.length_filter_le _ _) (List.length_take_le _ _)
theorem row_setCells (g : Nat) (T : TypeId) : ∀ (vs : List Value) (o : Nat) (w : World) (cs : Array Value), Row w g T cs → ∃ cs', Row (w.setCells g o vs) g T cs' ∧ cs'.size = cs.size ∧ ∀ q, q < o → cs'[q]? = cs[q]?
  | [], _, _, cs, h => ⟨cs, h, rfl, fun _ _ => rfl⟩
  | v :: vs, o, w, cs, h => by
    obtain ⟨cs', h1, h2, h3⟩ := row_setCells g T vs (o + 1) (w.setCell ⟨g, o, none⟩ v) _ (h.put o v)
    refine ⟨cs', h1, by simpa using h2, fun q hq => ?_⟩
    rw [h3 q (by omega), Array.getElem?_setIfInBounds_ne (by omega)]
theorem keep_setCells (g : Nat) : ∀ (vs : List Value) (o : Nat) (w : World), Keep (fun k => k = g) w (w.setCells g o vs)
  | [], _, w => Keep.refl _ w
  | v :: vs, o, w => (Keep.setCell (G := fun k => k = g) w (p := ⟨g, o, none⟩) rfl v).trans (keep_setCells g vs (o + 1) (w.setCell ⟨g, o, none⟩ v))
set_option maxHeartbeats 4000000 in
set_option maxRecDepth 100000 in
theorem idelete (g cap cb : Nat) (c : Int) (l : List Int) (cs : Array Value) (w : World) (hl : l.length ≤ 1000000) (hr : Row w g 3 cs) (hsz : cs.size = cap) (hf : Fst cs l) (hc : w.cell? ⟨cb, 0, none⟩ = some (.int .i64 c)) (hcg : cb ≠ g) :
    Calls Try.prog 44 #[.slice (some ⟨g, 0, none⟩) l.length cap, forgV cb] w fun e w' => e = .returned (.slice (some ⟨g, 0, none⟩) (without l c).length cap) ∧ (∃ cs', Row w' g 3 cs' ∧ cs'.size = cap ∧ Fst cs' (without l c)) ∧ Keep (fun k => k = g) w w' := by
  have HIX := Lib.hid (iindex g cap cb c l cs w hl hr hf hc)
  have hlc : l.length ≤ cap := by rw [← hsz]; exact hf.len
  have HR := Lib.hid hr
  have HF := Lib.hid hf
  have HC := Lib.hid hc
  have HSZ := Lib.hid hsz
  have HCG : Hid (cb ≠ g) := hcg
  clear hr hf hc hsz hcg
  rcases idx_cases l c with ⟨hi, hno⟩ | ⟨i, hi, hix, hit, hno⟩
  · rw [hi] at HIX
    have HW := Lib.hid (without_none hno)
    rw [HW.out]
    clear hno hi
    unfold forgV at HIX ⊢
    go_enter Try.func44, Try.ntmps44
    go_wp2_with fail
    refine HIX.out.mono ?_
    rintro e w9 ⟨rfl, rfl⟩
    go_wp2_with fail
    go_ret
    exact ⟨rfl, ⟨cs, HR.out, HSZ.out, HF.out⟩, Keep.refl _ _⟩
  · rw [hix] at HIX
    have HST : Hid (without (l.take (i + 1)) c = l.take i) := by
      show _ = _
      rw [without_drop hi hit, without_none hno]
    have HSL : Hid ((without (l.take (i + 1)) c).length = i) := by
      show _ = _
      rw [HST.out, List.length_take]; omega
    have hi1 : (i : Int) < (l.length : Int) := by omega
    have hin : ((i : Int) == -1) = false := by simp
    clear hno hix hit
    unfold forgV at HIX ⊢
    go_enter Try.func44, Try.ntmps44
    go_wp2_with fail
    refine HIX.out.mono ?_
    rintro e w9 ⟨rfl, rfl⟩
    clear HIX
    go_wp2_with fail
    go_loopw [5, 6] (fun u v wr => ∃ (k j : Nat) (cs' : Array Value), k < j ∧ j ≤ l.length ∧ u = .int .i64 (k : Int) ∧ v = .int .i64 (j : Int) ∧ Hid (Row wr g 3 cs') ∧ Hid (cs'.size = cap) ∧ Hid ((without (l.take j) c).length = k) ∧ Hid (Fst cs' (without (l.take j) c)) ∧ Hid (∀ q (hq : q < l.length), j ≤ q → cs'[q]? = some (.int .i64 l[q])) ∧ Hid (Keep (fun k => k = g) w9 wr)) (fun _ v _ => l.length - (intOf v).toNat)
    case atStart => exact ⟨i, i + 1, cs, by omega, by omega, rfl, by go_num, HR, HSZ, HSL, by rw [HST.out]; exact fun k x h => HF.out k x (by
      rw [List.getElem?_take] at h
      split at h
      · exact h
      · cases h), fun q hq _ => HF.out.at hq, Keep.refl _ _⟩
    case round =>
      obtain ⟨k, j, cs', hkj, hj, rfl, rfl, hR, hZ, hK, hF, hT, hKp⟩ := hrel
      by_cases hlt : j < l.length
      · have j1 : (j : Int) < (l.length : Int) := by omega
        have k1 : (k : Int) < (l.length : Int) := by omega
        have x0 : wr.cell? ⟨g, j, none⟩ = some (.int .i64 l[j]) := by rw [hR.out.cell]; exact hT.out j hlt (Nat.le_refl _)
        obtain ⟨ux, x1⟩ : ∃ u, wr.cell? ⟨g, k, none⟩ = some u := by
          have : k < cs'.size := by have := hZ.out; omega
          exact ⟨cs'[k], by rw [hR.out.cell]; exact Array.getElem?_eq_getElem this⟩
        have x2 := hR.out.free k
        have x3 : wr.cell? ⟨cb, 0, none⟩ = some (.int .i64 c) := by
          have := keep_cellI hKp.out (b := cb) (by
            rcases Nat.lt_or_ge cb w9.heap.size with h | h
            · exact h
            · have := HC.out
              simp only [World.cell?] at this
              rw [Array.getElem?_eq_none h] at this; cases this) HCG.out 0
          rw [this]; exact HC.out
        have HCJ := Lib.hid (forg1 cb l[j] c wr x3)
        have HWK : Hid ((l[j] == c) = false → without (l.take (j + 1)) c = without (l.take j) c ++ [l[j]]) := fun h => without_keep hlt h
        have HWD : Hid ((l[j] == c) = true → without (l.take (j + 1)) c = without (l.take j) c) := fun h => without_drop hlt h
        obtain ⟨y, hy⟩ : ∃ y, y = l[j] := ⟨_, rfl⟩
        rw [← hy] at x0 HCJ HWK HWD
        have HKJ : Hid (k < j) := hkj
        clear hy x3
        cases hb : (y == c) with
        | false =>
          rw [hb] at HCJ
          have HW2 := Lib.hid (HWK.out hb)
          clear hb HWK HWD
          go_wp2_with fail
          refine HCJ.out.mono ?_
          rintro e w8 ⟨rfl, rfl⟩
          go_wp2_with fail
          go_roundw
          case rel =>
            refine ⟨k + 1, j + 1, cs'.setIfInBounds k (.int .i64 y), by omega, hlt, by go_num, by go_num, hR.out.put k _, by simpa [Hid] using hZ.out, ?_, ?_, fun q hq hjq => ?_, hKp.out.trans (Keep.setCell (G := fun k => k = g) _ (p := ⟨g, k, none⟩) rfl _)⟩
            · show _ = _
              rw [HW2.out, List.length_append, hK.out]; rfl
            · intro q x hq
              rw [HW2.out] at hq
              by_cases hqk : q = k
              · subst hqk
                rw [List.getElem?_append_right (by rw [hK.out]; exact Nat.le_refl _), hK.out, Nat.sub_self] at hq
                simp at hq
                subst hq
                rw [Array.getElem?_setIfInBounds_self_of_lt (by have := hZ.out; have := HKJ.out; omega)]
              · rw [Array.getElem?_setIfInBounds_ne (fun e => hqk e.symm)]
                refine hF.out q x ?_
                rcases Nat.lt_or_ge q k with h | h
                · rw [List.getElem?_append_left (by rw [hK.out]; exact h)] at hq; exact hq
                · rw [List.getElem?_eq_none (by rw [List.length_append, hK.out]; simp; omega)] at hq; cases hq
            · have := HKJ.out
              rw [Array.getElem?_setIfInBounds_ne (by omega)]
              exact hT.out q hq (by omega)
          case measure => simp [intOf]; omega
        | true =>
          rw [hb] at HCJ
          have HW2 := Lib.hid (HWD.out hb)
          clear hb HWK HWD
          go_wp2_with fail
          refine HCJ.out.mono ?_
          rintro e w8 ⟨rfl, rfl⟩
          go_wp2_with fail
          go_roundw
          case rel => exact ⟨k, j + 1, cs', by have := HKJ.out; omega, hlt, rfl, by go_num, hR, hZ, by rw [HW2.out]; exact hK, by rw [HW2.out]; exact hF, fun q hq hjq => hT.out q hq (by omega), hKp⟩
          case measure => simp [intOf]; omega
      · obtain rfl : j = l.length := by omega
        have hj0 : ¬ ((l.length : Int) < l.length) := by omega
        have k1 : (k : Int) < (l.length : Int) := by omega
        have htk : l.take l.length = l := List.take_of_length_le (Nat.le_refl _)
        rw [htk] at hK hF
        have hzs : cs'.size = cap := hZ.out
        have hcl := Lib.run_clear_slice (P := Try.prog) wr 30 3 0 (.int .i64 0) Try.underlying30 (fun w => by kernel_rfl) rfl rfl g k (l.length - k) (cap - k) (by omega) (fun q hq => by rw [hR.out.cell, Array.getElem?_eq_getElem (by omega)]; rfl) (fun q _ => hR.out.free _)
        obtain ⟨cs2, r1, r2, r3⟩ := row_setCells g 3 (List.replicate (l.length - k) (.int .i64 0)) k wr cs' hR.out
        have HRR : Hid (Row (wr.setCells g k (List.replicate (l.length - k) (.int .i64 0))) g 3 cs2 ∧ cs2.size = cs'.size ∧ ∀ q, q < k → cs2[q]? = cs'[q]?) := ⟨r1, r2, r3⟩
        have HKS := Lib.hid (hKp.out.trans (keep_setCells g (List.replicate (l.length - k) (.int .i64 0)) k wr))
        have ii : (k : Int) ≤ l.length := by omega
        have ic : (k : Int) ≤ cap := by omega
        have i00 : (0 : Int) ≤ k := by omega
        have hcc : (l.length : Int) ≤ cap := by omega
        clear r1 r2 r3 hT hzs
        go_wp2_with fail
        go_ret
        refine ⟨by rw [hK.out]; rfl, ⟨cs2, HRR.out.1, HRR.out.2.1.trans hZ.out, fun q x hq => ?_⟩, HKS.out⟩
        have hqk : q < k := by have := (List.getElem?_eq_some_iff.1 hq).1; have := hK.out; omega
        rw [HRR.out.2.2 q hqk]
        exact hF.out q x hq
end Go.Proofs.Ytcdgmhglpcokdaa
