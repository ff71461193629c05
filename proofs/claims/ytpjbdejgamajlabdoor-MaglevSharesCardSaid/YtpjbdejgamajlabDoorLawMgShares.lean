/- stewardlaw18.MaglevShares. -/
import Derived.Test.YtpjbdejgamajlabDoorMgU
namespace Go.Proofs.YtpjbdejgamajlabDoor
open Go.RowKit

theorem and255M (x : Int) : ∃ k : Nat, k ≤ 255 ∧ bits .and .i64 x 255 = (k : Int) := by
  have h : (BitVec.ofInt 64 x &&& BitVec.ofInt 64 255).toNat ≤ 255 := by
    rw [BitVec.toNat_and]
    exact Nat.le_trans Nat.and_le_right (by decide)
  refine ⟨(BitVec.ofInt 64 x &&& BitVec.ofInt 64 255).toNat, h, ?_⟩
  show IntKind.i64.wrap (((BitVec.ofInt 64 x &&& BitVec.ofInt 64 255).toNat : Nat) : Int) = _
  exact IntWalk.i64_in _ (by omega)
/-- The first ones' weights are set. -/
def setW (xs : List Ent) (v : Int) : Nat → List Ent
  | 0 => xs
  | j + 1 => (setW xs v j).set j (((setW xs v j)[j]?.map (·.1)).getD ⟨#[]⟩, v)
theorem setW_length (xs : List Ent) (v : Int) : ∀ j, (setW xs v j).length = xs.length
  | 0 => rfl
  | j + 1 => by unfold setW; rw [List.length_set]; exact setW_length xs v j
theorem setW_at (xs : List Ent) (v : Int) : ∀ (j i : Nat), (setW xs v j)[i]? = if i < j then xs[i]?.map (fun e => (e.1, v)) else xs[i]?
  | 0, i => by rw [if_neg (by omega)]; rfl
  | j + 1, i => by
    have h0 := setW_at xs v j j
    rw [if_neg (Nat.lt_irrefl j)] at h0
    unfold setW
    rw [List.getElem?_set, h0, setW_length]
    by_cases e : j = i
    · subst e
      rw [if_pos rfl, if_pos (show j < j + 1 by omega)]
      by_cases h : j < xs.length
      · rw [if_pos h, List.getElem?_eq_getElem h]; rfl
      · rw [if_neg h, List.getElem?_eq_none (by omega)]; rfl
    · rw [if_neg e, setW_at xs v j i]
      by_cases h : i < j
      · rw [if_pos h, if_pos (by omega)]
      · rw [if_neg h, if_neg (by omega)]
theorem setW_full (xs : List Ent) (v : Int) : setW xs v xs.length = xs.map fun e => (e.1, v) := by
  refine List.ext_getElem? fun i => ?_
  rw [setW_at, List.getElem?_map]
  by_cases h : i < xs.length
  · rw [if_pos h]
  · rw [if_neg h, List.getElem?_eq_none (by omega)]; rfl
theorem cellsE_set : ∀ (l : List Ent) (j : Nat) (v : Int), j < l.length → (cellsE l).set (j * 2 + 1) (.int .i64 v) = cellsE (l.set j ((l[j]?.map (·.1)).getD ⟨#[]⟩, v))
  | [], j, v, h => by simp at h
  | e :: l, 0, v, _ => rfl
  | e :: l, j + 1, v, h => by
    have := cellsE_set l j v (by simpa using h)
    rw [show (j + 1) * 2 + 1 = (j * 2 + 1) + 1 + 1 by omega]
    show _ = Value.string e.1 :: .int .i64 e.2 :: cellsE (l.set j (((e :: l)[j + 1]?.map (·.1)).getD ⟨#[]⟩, v))
    rw [List.getElem?_cons_succ, ← this]
    rfl
theorem ownsRow_put {w : World} {base g n c j : Nat} {e : TypeId} {sz : Nat} {xs : List Value} {u : Value} (h : w.ownsRow base e sz (.slice (some ⟨g, 0, none⟩) n c) n xs) (hj : j < xs.length) :
    (w.setCell ⟨g, j, none⟩ u).ownsRow base e sz (.slice (some ⟨g, 0, none⟩) n c) n (xs.set j u) ∧ w.cell? ⟨g, j, none⟩ = xs[j]? ∧ w.frozen? ⟨g, j, none⟩ = false ∧ base ≤ g := by
  obtain ⟨hl, ⟨hx, _⟩ | ⟨g', cap, cur, hx, hb, hg, hcap, hcm, hcs, htk⟩⟩ := h
  · injection hx with h1; cases h1
  · injection hx with h1 h2 h3
    obtain rfl : g = g' := by injection h1 with h1; injection h1
    subst h3
    have hR : Row w g e cur := hg
    have hjn : j < n * sz := by rw [← hl]; exact hj
    refine ⟨⟨by rw [List.length_set]; exact hl, .inr ⟨g, c, cur.setIfInBounds j u, rfl, hb, hR.put j u, hcap, hcm, by rw [Array.size_setIfInBounds]; exact hcs, ?_⟩⟩, ?_, hR.free j, hb⟩
    · rw [Array.toList_setIfInBounds, List.take_set, htk]
    · rw [hR.cell j, ← htk, List.getElem?_take, if_pos hjn, Array.getElem?_toList]
theorem weights_size {es : List Ent} {v : Int} : ∀ e ∈ (fewE es 5).map (fun e => (e.1, v)), e.1.size ≤ 1000 ∧ e.2 = v := by
  intro e he
  obtain ⟨f, hf, rfl⟩ := List.mem_map.1 he
  obtain ⟨g, _, rfl⟩ := List.mem_map.1 hf
  exact ⟨Nat.le_trans (cutE_size g) (by decide), rfl⟩
set_option maxRecDepth 100000 in
set_option maxHeartbeats 4000000 in
theorem lawMaglevShares (s : ByteArray) (a : Option Addr) (c : Nat) (es : List Ent) (hfl : es.length ≤ 9223372036854775807) (wt : Int) (w : World) (hI : Ini w) (hf : IsEnts w a c es) :
    Calls Tryd.prog 3 #[.string s, .slice a es.length c, .int .i64 wt] w fun e w' => e = .returned (.bool true) ∧ Below w.heap.size w w' := by
  have HAW := Lib.hid (awake6 w hI)
  have HI := Lib.hid hI
  have HF := Lib.hid hf
  have HL := Lib.hid hfl
  obtain ⟨kk, hkk, hbt⟩ := and255M wt
  clear hI hf hfl
  go_enter Tryd.func3, Tryd.ntmps3
  go_wp2_with (first
    | (go_at_call 6; refine HAW.out.mono ?_; rintro e w1 ⟨rfl, hB1⟩; have HB1 := Lib.hid hB1; clear hB1)
    | (go_at_call 7; refine (few7 a c es 5 (by decide) HL.out w1 (HF.out.below HB1.out)).mono ?_; rintro e w2 ⟨u, rfl, ho2, hB2⟩; obtain ⟨au, cu, rfl⟩ := own_slice ho2; have HO2 := Lib.hid ho2; have HB2 := Lib.hid (HB1.out.trans (hB2.mono HB1.out.size)); have HBS := Lib.hid HB1.out.size; clear ho2 hB2))
  have hkl : (fewE es 5).length ≤ 5 := by unfold fewE; simp; omega
  have HWS := Lib.hid (weights_size (es := es) (v := 1 + (kk : Int)))
  generalize fewE es 5 = xs at *
  clear HAW HF HL
  go_loopw [22] (fun i wr => ∃ j : Nat, j ≤ xs.length ∧ i = .int .i64 (j : Int) ∧ Hid (wr.ownsRow w1.heap.size 26 2 (.slice au xs.length cu) xs.length (cellsE (setW xs (1 + (kk : Int)) j))) ∧ Hid (Below w.heap.size w wr)) (fun i _ => xs.length - (intOf i).toNat)
  case atStart => exact ⟨0, Nat.zero_le _, rfl, HO2, HB2⟩
  case round =>
    clear HO2 HB2
    obtain ⟨j, hj, rfl, HO, HB⟩ := hrel
    by_cases hlt : j < xs.length
    · obtain ⟨n', hn'⟩ : ∃ n', xs.length = n' + 1 := ⟨xs.length - 1, by omega⟩
      have ho := HO.out
      rw [hn'] at ho
      obtain ⟨g, cap, hg⟩ := ownsRow_succ ho
      obtain ⟨rfl, rfl⟩ : au = some ⟨g, 0, none⟩ ∧ cu = cap := by injection hg with h1 _ h3; exact ⟨h1, h3⟩
      rw [← hn'] at ho
      obtain ⟨p1, p2, p3, p4⟩ := ownsRow_put (j := j * 2 + 1) (u := .int .i64 (1 + (kk : Int))) ho (by rw [cellsE_length, setW_length]; omega)
      rw [cellsE_set _ _ _ (by rw [setW_length]; exact hlt)] at p1
      have HO2 : Hid ((wr.setCell ⟨g, j * 2 + 1, none⟩ (.int .i64 (1 + (kk : Int)))).ownsRow w1.heap.size 26 2 (.slice (some ⟨g, 0, none⟩) xs.length cu) xs.length (cellsE (setW xs (1 + (kk : Int)) (j + 1)))) := p1
      obtain ⟨old, hold⟩ : ∃ old, (cellsE (setW xs (1 + (kk : Int)) j))[j * 2 + 1]? = some old := ⟨_, List.getElem?_eq_getElem (by rw [cellsE_length, setW_length]; omega)⟩
      rw [hold] at p2
      have HB2 := Lib.hid (HB.out.setCell (p := ⟨g, j * 2 + 1, none⟩) (Nat.le_trans HBS.out p4) (.int .i64 (1 + (kk : Int))))
      have j1 : (j : Int) < xs.length := by omega
      clear ho hg hn' p1 hold p4
      go_wp2_with fail
      go_roundw
      case rel => exact ⟨j + 1, hlt, by go_num, HO2, HB2⟩
      case measure => simp [intOf]; omega
    · obtain rfl : j = xs.length := by omega
      have hne : ¬ (xs.length : Int) < xs.length := by omega
      have ho := HO.out
      rw [setW_full] at ho
      have hle : (xs.map fun e => (e.1, 1 + (kk : Int))).length = xs.length := List.length_map ..
      rw [← hle] at ho
      have hE := (isEnts_own ho).2.1
      have HE := Lib.hid hE
      have HW2 : Hid (∀ e ∈ xs.map (fun e => (e.1, 1 + (kk : Int))), e.1.size ≤ 1000 ∧ e.2 = 1 + (kk : Int)) := HWS.out
      rw [← hle]
      generalize xs.map (fun e => (e.1, 1 + (kk : Int))) = ys at *
      have hck := check8 au cu ys (by omega) 503 wr hE
      have hl5 : ys.length ≤ 5 := by omega
      clear ho hE HWS HO hle hkl hj hlt hne
      by_cases hc : chkB ys 503 = true
      case neg =>
        have hc : chkB ys 503 = false := by simpa using hc
        rw [hc] at hck
        have HCK : Hid (Calls Tryd.prog 8 #[.slice au ys.length cu, .int .i64 503] wr fun e w' => e = .returned (.int .i64 1) ∧ Below wr.heap.size wr w') := hck
        clear hck hc
        go_wp2_with (go_at_call 8; refine HCK.out.mono ?_; rintro e w3 ⟨rfl, hB3⟩)
        go_ret
        exact ⟨rfl, HB.out.trans (hB3.mono HB.out.size)⟩
      rw [hc] at hck
      have HCK : Hid (Calls Tryd.prog 8 #[.slice au ys.length cu, .int .i64 503] wr fun e w' => e = .returned (.int .i64 0) ∧ Below wr.heap.size wr w') := hck
      have HVB : Hid (validB ys = true) := by
        show _ = _
        unfold chkB at hc
        rw [Bool.and_eq_true] at hc
        exact hc.2
      clear hck hc
      have HI1 := Lib.hid (HI.out.below (HB.out.mono (Nat.le_refl _)))
      go_wp2_with (first
        | (go_at_call 8; refine HCK.out.mono ?_; rintro e w3 ⟨rfl, hB3⟩; have HI3 := Lib.hid (HI1.out.below hB3); have HE3 := Lib.hid (HE.out.below hB3); have HB3 := Lib.hid (HB.out.trans (hB3.mono HB.out.size)); clear hB3)
        | (go_at_call 10; refine (key17 s w3).mono ?_; generalize (fun i => s.data.toList.getD i 0) = kf; rintro e w4 ⟨rfl, hB4⟩; have HI4 := Lib.hid (HI3.out.below hB4); have HE4 := Lib.hid (HE3.out.below hB4); have HB4 := Lib.hid (HB3.out.trans (hB4.mono HB3.out.size)); clear hB4)
        | (go_at_call 11; refine (own11 au cu ys (by omega) w4 HE4.out).mono ?_; rintro e w5 ⟨a5, c5, rfl, hE5, hB5⟩; have HI5 := Lib.hid (HI4.out.below hB5); have HE5 := Lib.hid hE5; have HB5 := Lib.hid (HB4.out.trans (hB5.mono HB4.out.size)); clear hE5 hB5)
        | (go_at_call 9; refine (build8 kf ys (by omega) (fun e he => (HW2.out e he).1) 503 (by omega) prime503 (by omega) HVB.out a5 c5 w5 HI5.out HE5.out).mono ?_; rintro e w6 ⟨tb, own, es', rfl, hp, _, ha, ht, hB6⟩; have HPM := Lib.hid hp; have HAS := Lib.hid ha; have HTA := Lib.hid ht; have HB6 := Lib.hid (HB5.out.trans (hB6.mono HB5.out.size)); clear hp ha ht hB6))
      have hvw : ∀ e ∈ es', okW e = true := fun e he => by
        have h1 := HVB.out
        unfold validB at h1
        rw [Bool.and_eq_true, List.all_eq_true] at h1
        exact h1.1 e ((HPM.out.mem_iff).1 he)
      have hlen : (es'.map (·.1)).length = ys.length := by rw [List.length_map]; exact HPM.out.length_eq
      have hle' : es'.length = ys.length := HPM.out.length_eq
      have hok := HAS.out.ok prime503 hvw
      have hsh := shares16 tb 503 (by omega) (es'.map (·.1)) (by omega) own (by rw [hlen, ← hle']; exact hok) w6 HTA.out
      rw [hlen] at hsh
      have HSH := Lib.hid hsh
      obtain ⟨d, hd, hfair⟩ : ∃ d, d ≤ 503 ∧ ∀ i, i < ys.length → d ≤ shN own i 503 ∧ shN own i 503 ≤ d + 1 := by
        by_cases he : es' = []
        · exact ⟨0, by omega, fun i hi => by rw [← hle', he] at hi; simp at hi⟩
        · obtain ⟨d, h1, h2⟩ := HAS.out.fair (v := 1 + (kk : Int)) he prime503 hvw (fun e hm => (HW2.out e ((HPM.out.mem_iff).1 hm)).2)
          exact ⟨d, h1, fun i hi => h2 i (by omega)⟩
      have hsum : ys.length ≠ 0 → sumN own 503 ys.length = 503 := fun h0 => by
        have he : es' ≠ [] := by intro e; rw [e] at hle'; simp at hle'; omega
        have := sumN_full (own := own) (n := ys.length) 503 (fun q hq => by have := HAS.out.full he prime503 hvw q hq; omega)
        exact this
      have HFA := Lib.hid hfair
      have HSU := Lib.hid hsum
      clear hvw hok hsh hfair hsum hle' hlen HAS HPM HW2 HVB HTA
      go_wp2_with (go_at_call 12; refine HSH.out.mono ?_; rintro e w7 ⟨sb, rfl, hR, hB7⟩; have HR := Lib.hid hR; have HB7 := Lib.hid (HB6.out.trans (hB7.mono HB6.out.size)); clear hR hB7)
      go_loopw [11, 12, 13, 53] (fun al le mo i wr => ∃ (j : Nat) (L M : Int), j ≤ ys.length ∧ al = .int .i64 (sumN own 503 j : Nat) ∧ le = .int .i64 L ∧ mo = .int .i64 M ∧ i = .int .i64 (j : Int) ∧ wr = w7 ∧ (d : Int) ≤ L ∧ L ≤ 503 ∧ 0 ≤ M ∧ M ≤ (d : Int) + 1) (fun _ _ _ i _ => ys.length - (intOf i).toNat)
      case atStart => exact ⟨0, 503, 0, Nat.zero_le _, rfl, rfl, rfl, rfl, rfl, by omega, by omega, by omega, by omega⟩
      case round =>
        obtain ⟨j, L, M, hj, rfl, rfl, rfl, rfl, rfl, hL1, hL2, hM1, hM2⟩ := hrel
        by_cases hlt : j < ys.length
        · obtain ⟨f1, f2⟩ := HFA.out j hlt
          have gc : wr.cell? ⟨sb, j, none⟩ = some (.int .i64 (shN own j 503 : Nat)) := by rw [HR.out.cell j, List.getElem?_toArray, shV_at hlt]
          have hs1 := sumN_le (own := own) (m := 503) j
          have hs2 : sumN own 503 (j + 1) = sumN own 503 j + shN own j 503 := rfl
          have j1 : (j : Int) < ys.length := by omega
          have HS2 := Lib.hid hs2
          clear hs2
          generalize shN own j 503 = z at *
          generalize sumN own 503 j = sm at *
          have hw := wrapI ((sm : Int) + (z : Int)) (by omega) (by omega)
          clear HFA
          go_wp2_with fail
          go_roundw
          case rel => exact ⟨j + 1, min L z, max M z, hlt, by rw [HS2.out]; go_num, rfl, rfl, by go_num, trivial, by omega, by omega, by omega, by omega⟩
          case measure => simp [intOf]; omega
        · obtain rfl : j = ys.length := by omega
          have hne : ¬ (ys.length : Int) < ys.length := by omega
          by_cases h0 : ys.length = 0
          · have hz : sumN own 503 ys.length = 0 := by rw [h0]; rfl
            rw [hz]
            clear HSU hz
            go_wp2_with fail
            go_ret
            exact ⟨rfl, HB7.out⟩
          · have hz := HSU.out h0
            rw [hz]
            clear HSU hz
            have h1 : (((ys.length : Nat) : Int) == 0) = false := by rw [beq_eq_false_iff_ne]; omega
            have h2 : M - L ≤ 1 := by omega
            have hw := wrapI (M - L) (by omega) (by omega)
            go_wp2_with fail
            go_ret
            exact ⟨rfl, HB7.out⟩
end Go.Proofs.YtpjbdejgamajlabDoor
