/- rotor.Pick. -/
import Derived.Test.YtcmjcpgfnkhnoaaRoD
namespace Go.Proofs.Ytcmjcpgfnkhnoaa
open Go.RowKit Go.Maps

theorem Rot.drewN {w : World} {rb n : Nat} {v : Option Nat} {f : ByteArray → Int} (h : Rot w rb v n f) (m : Nat) : Rot (w.drewN m) rb v n f := by
  refine ⟨h.1.drewN m, ?_⟩
  rcases h.2 with h1 | ⟨bm, h1, h2, h3⟩
  · exact .inl h1
  · exact .inr ⟨bm, h1, h2, h3.same rfl⟩
theorem add27 (rb : Nat) (v : Option Nat) (n : Nat) (f : ByteArray → Int) (s : ByteArray) (hs : s.size ≤ maxLen) (k c : Int) (hc : f s + k = c) (hk1 : -9223372036854775808 ≤ c) (hk2 : c ≤ 9223372036854775807) (hn : n < maxLen) (w : World) (h : Rot w rb v n f) :
    Calls Try.prog 27 #[.pointer (some ⟨rb, 0, none⟩), .string s, .int .i64 k] w fun e w' => e = .returned (.tuple #[]) ∧ AddPost rb v (n + 1) (upd f s c) w w' := by
  obtain ⟨h1, ⟨rfl, rfl⟩ | ⟨bm, rfl, hne, hm⟩⟩ := h
  · have hkc : k = c := by simpa using hc
    subst hkc
    by_cases h0 : k = 0
    · subst h0
      refine (add27_n0 rb s hs w h1).mono ?_
      rintro e w' ⟨rfl, rfl⟩
      refine ⟨rfl, none, ⟨h1, .inl ⟨rfl, ?_⟩⟩, Keep.refl _ _, .inl rfl⟩
      exact upd_id (fun _ => 0) s
    · refine (add27_nk rb s hs k hk1 hk2 h0 w h1).mono ?_
      rintro e w' ⟨rfl, v', hr, hk, hf⟩
      exact ⟨rfl, v', hr.mono (by omega), hk, hf⟩
  · exact add27_s rb bm n f s hs k c hc hk1 hk2 hn w h1 hne hm
theorem addAll_bound {E : List Ent} (hA : Apart E) (hw : ∀ e ∈ E, 1 ≤ e.2 ∧ e.2 ≤ 65535) (f : ByteArray → Int) (s : ByteArray) : f s ≤ addAll f E s ∧ addAll f E s ≤ f s + 65535 := by
  cases h : hasE E s
  · rw [addAll_other E f s h]; omega
  · obtain ⟨e, he, rfl⟩ := hasE_mem.1 h
    rw [addAll_mem E f hA e he]
    have := hw e he
    omega
theorem sumW_bound : ∀ (E : List Ent), (∀ e ∈ E, 1 ≤ e.2 ∧ e.2 ≤ 65535) → (E.length : Int) ≤ sumW E ∧ sumW E ≤ 65535 * E.length
  | [], _ => by simp [sumW]
  | e :: E, h => by
    have h1 := h e (by simp)
    have h2 := sumW_bound E (fun x hx => h x (by simp [hx]))
    simp only [sumW, List.map_cons, List.sum_cons, List.length_cons] at h2 ⊢
    omega
theorem Apart.take {E : List Ent} (h : Apart E) (j : Nat) : Apart (E.take j) := List.Pairwise.sublist (List.take_sublist j E) h
theorem count26s (a : Option Addr) (c : Nat) (es : List Ent) (hl : es.length ≤ 1000000) (hsz : ∀ e ∈ es, e.1.size ≤ maxLen) (w : World) (hf : IsEnts w a c es) :
    Calls Try.prog 26 #[.slice a es.length c] w fun e w' => ∃ a' c', e = .returned (.slice a' (cnt es).length c') ∧ IsEnts w' a' c' (cnt es) ∧ (∀ p, a' = some p → w.heap.size ≤ p.block ∧ p.block < w'.heap.size) ∧ Below w.heap.size w w' := by
  refine (count26 a c es hl hsz w hf).mono ?_
  rintro e w' ⟨u, rfl, ho, hb⟩
  obtain ⟨a', c', rfl⟩ := own_slice ho
  obtain ⟨_, h1, h2⟩ := isEnts_own ho
  exact ⟨a', c', rfl, h1, h2, hb⟩
/-- What the loop holds. -/
structure PickS (w1 : World) (rb : Nat) (v : Option Nat) (n : Nat) (f : ByteArray → Int) (E : List Ent) (j : Nat) (v' : Option Nat) (wr : World) : Prop where
  rot : Rot wr rb v' (n + j) (addAll f (E.take j))
  keep : Keep (RG rb v) w1 wr
  fresh : Fresh w1 v v'
/-- What Pick leaves. -/
def PickPost (rb : Nat) (v : Option Nat) (n : Nat) (f : ByteArray → Int) (w w' : World) : Prop := ∃ v', Rot w' rb v' n f ∧ Keep (RG rb v) w w' ∧ Fresh w v v'
theorem pickS_step {w1 wr w3 : World} {rb : Nat} {v v' v3 : Option Nat} {n j : Nat} {f F2 : ByteArray → Int} {E : List Ent} {o : Obj} (hst : addAll f (E.take (j + 1)) = F2) (hk : Keep (RG rb v) w1 wr) (hf : Fresh w1 v v') (hr : Rot w3 rb v3 (n + j + 1) F2) (hk3 : Keep (RG rb v') (wr.alloc o) w3) (hf3 : Fresh (wr.alloc o) v' v3) (m : Nat) :
    PickS w1 rb v n f E (j + 1) v3 (w3.drewN m) := by
  have hf4 : Fresh wr v' v3 := by
    rcases hf3 with h | ⟨b, h, h'⟩
    · exact .inl h
    · exact .inr ⟨b, h, by rw [World.size_alloc] at h'; omega⟩
  obtain ⟨k4, f4⟩ := fresh_keep hk hf ((Keep.alloc wr o).trans hk3) hf4
  exact ⟨by rw [hst]; exact hr.drewN m, k4.trans (Keep.drewN _ _), f4⟩
theorem ent_rows {w wr : World} {G : Nat → Prop} {bk o : Nat} {E : List Ent} (hk : Keep G w wr) (hb : bk < w.heap.size) (hg : ¬ G bk) (hcell : ∀ (j : Nat) e, E[j]? = some e → w.cell? ⟨bk, o + j * 2, none⟩ = some (.string e.1) ∧ w.cell? ⟨bk, o + j * 2 + 1, none⟩ = some (.int .i64 e.2)) {j : Nat} (hj : j < E.length) :
    wr.cell? ⟨bk, o + j * 2, none⟩ = some (.string (nm E j)) ∧ wr.cell? ⟨bk, o + j * 2 + 1, none⟩ = some (.int .i64 E[j].2) := by
  rw [keep_cell hk hb hg, keep_cell hk hb hg, nm_eq hj]
  exact hcell j E[j] (by simp [hj])
set_option maxHeartbeats 4000000 in
set_option maxRecDepth 100000 in
theorem pick15_nil (a : Option Addr) (c : Nat) (p : Value) (w : World) :
    Calls Try.prog 15 #[p, .slice a 0 c] w fun e w' => e = .returned (.tuple #[.string ⟨#[]⟩, .bool false]) ∧ w' = w := by
  go_enter Try.func15, Try.ntmps15
  go_wp2_with fail
  go_ret2
  exact ⟨rfl, rfl⟩
set_option maxHeartbeats 4000000 in
set_option maxRecDepth 100000 in
theorem pick15 (rb : Nat) (v : Option Nat) (n : Nat) (f : ByteArray → Int) (M : Int) (hM : M ≤ 1000000000000000) (hf : ∀ s, -M ≤ f s ∧ f s ≤ M) (a : Option Addr) (c : Nat) (es : List Ent) (hne : es ≠ []) (hl : es.length ≤ 1000) (hsz : ∀ e ∈ es, e.1.size ≤ maxLen) (hn : n ≤ 1000000000) (w : World) (hr : Rot w rb v n f) (he : IsEnts w a c es) :
    Calls Try.prog 15 #[.pointer (some ⟨rb, 0, none⟩), .slice a es.length c] w fun e w' => e = .returned (.tuple #[.string (turn f (cnt es)), .bool true]) ∧ PickPost rb v (n + es.length + 1) (after f (cnt es)) w w' := by
  have hcnt := count26s a c es (by omega) hsz w he
  have hlen0 : 0 < es.length := List.length_pos_iff.2 hne
  have hA := cnt_apart es
  have hW : ∀ e ∈ cnt es, 1 ≤ e.2 ∧ e.2 ≤ 65535 := by
    intro e h
    unfold cnt at h
    obtain ⟨x, _, rfl⟩ := List.mem_map.1 h
    exact lim_one _
  have hZ : ∀ e ∈ cnt es, e.1.size ≤ maxLen := by
    intro e h
    unfold cnt at h
    obtain ⟨x, hx, rfl⟩ := List.mem_map.1 h
    exact hsz x (once_sub hx)
  have hpos : 0 < (cnt es).length := by
    unfold cnt; rw [List.length_map]
    exact List.length_pos_iff.2 (once_ne hne)
  have hle := cnt_len es
  have HCN := Lib.hid hcnt
  have HR := Lib.hid hr
  generalize cnt es = E at *
  clear hcnt hr he
  have HA := Lib.hid hA
  have HW := Lib.hid hW
  have HZ := Lib.hid hZ
  have HF := Lib.hid hf
  clear hA hW hZ hf hsz
  go_enter Try.func15, Try.ntmps15
  go_wp2_with (go_at_call 26; refine HCN.out.mono ?_; rintro e w1 ⟨a1, k1, rfl, ho, hblk, hb⟩)
  have HO := Lib.hid ho
  have HK := Lib.hid hblk
  have HB := Lib.hid hb
  have HR1 := Lib.hid (HR.out.below hb)
  clear ho hblk hb HCN
  go_loopw [7, 8, 19] (fun g s i wr => ∃ j : Nat, j ≤ E.length ∧ i = .int .i64 (j : Int) ∧ g = .int .i64 (great f E j : Int) ∧ s = .int .i64 (sumW (E.take j)) ∧ ∃ v', PickS w1 rb v n f E j v' wr) (fun _ _ i _ => E.length - (intOf i).toNat)
  case atStart => exact ⟨0, Nat.zero_le _, rfl, rfl, rfl, v, HR1.out, Keep.refl _ _, .inl rfl⟩
  case round =>
    obtain ⟨j, hj, rfl, rfl, rfl, v', HS⟩ := hrel
    obtain h0 | ⟨bk, o, rfl, hbk, hc, hcell⟩ := HO.out
    · subst h0; simp at hpos
    have hgb : ¬ RG rb v bk := by
      intro h
      have h1 := (HK.out _ rfl).1
      have h2 := HR.out.glt h
      simp only at h1
      omega
    by_cases hlt : j < E.length
    · obtain ⟨c1, c2⟩ := ent_rows HS.keep hbk hgb hcell hlt
      have hgl : great f E j < E.length := by rcases great_lt f E j with h | h <;> omega
      obtain ⟨d1, d2⟩ := ent_rows HS.keep hbk hgb hcell hgl
      have hgb2 : ¬ RG rb v' bk := by
        rintro (h | h)
        · exact hgb (.inl h)
        · rcases HS.fresh with h1 | ⟨b', h1, h2⟩
          · rw [h1] at h; exact hgb (.inr h)
          · rw [h1] at h; injection h with h; omega
      have hstep := addAll_step f hlt
      have hsum := sumW_step hlt
      have hgs : great f E (j + 1) = if addAll f (E.take (j + 1)) (nm E (great f E j)) < addAll f (E.take (j + 1)) (nm E j) then j else great f E j := rfl
      have hsN : (nm E j).size ≤ maxLen := by rw [nm_eq hlt]; exact HZ.out _ (List.getElem_mem hlt)
      have hsG : (nm E (great f E j)).size ≤ maxLen := by rw [nm_eq hgl]; exact HZ.out _ (List.getElem_mem hgl)
      have hw := HW.out _ (List.getElem_mem hlt)
      have hWt : ∀ e ∈ E.take j, 1 ≤ e.2 ∧ e.2 ≤ 65535 := fun e he => HW.out e (List.mem_of_mem_take he)
      have hb1 := addAll_bound (HA.out.take j) hWt f (nm E j)
      have hb2 := sumW_bound (E.take j) hWt
      have hb3 : (E.take j).length ≤ 1000 := by simp; omega
      have hb4 := HF.out (nm E j)
      rw [← nm_eq hlt] at hstep
      obtain ⟨W, hWe⟩ : ∃ W, W = E[j].2 := ⟨_, rfl⟩
      rw [← hWe] at hstep hsum hw c2
      obtain ⟨N, hN⟩ : ∃ N, N = nm E j := ⟨_, rfl⟩
      rw [← hN] at hstep hsN c1 hgs hb1 hb4
      obtain ⟨G, hG⟩ : ∃ G, G = nm E (great f E j) := ⟨_, rfl⟩
      rw [← hG] at hsG d1 hgs
      obtain ⟨F, hFe⟩ : ∃ F, F = addAll f (E.take j) := ⟨_, rfl⟩
      have hrot := HS.rot
      rw [← hFe] at hstep hb1 hrot
      obtain ⟨S, hSe⟩ : ∃ S, S = sumW (E.take j) := ⟨_, rfl⟩
      rw [← hSe] at hsum hb2 ⊢
      have hS1 : 0 ≤ S := by omega
      have hS2 : S ≤ 65535000 := by omega
      obtain ⟨g, hge⟩ : ∃ g, g = great f E j := ⟨_, rfl⟩
      rw [← hge] at hgs hgl d1 ⊢
      have j1 : (j : Int) < E.length := by omega
      have HRA := hrot.below (below_alloc wr (.cells #[.string N, .int .i64 W] 57))
      have HADD := Lib.hid (add27 rb v' (n + j) F N hsN W (F N + W) rfl (by omega) (by omega) (by unfold maxLen; omega) _ HRA)
      have hrlt : ∀ k, RG rb v' k → k < wr.heap.size := fun k hk => hrot.glt hk
      have HKP := Lib.hid HS.keep
      have HFR := Lib.hid HS.fresh
      have HST := Lib.hid hstep
      have HSU := Lib.hid hsum
      have HGS := Lib.hid hgs
      clear HRA hrot hstep hsum hgs hb1 hb2 hb3 hb4 hWt hWe hN hG hFe hSe hge HS hcell d2
      go_wp2_with (go_at_call 27; refine HADD.out.mono ?_; rintro e w3 ⟨rfl, hp⟩)
      obtain ⟨v3, r3, k3, f3⟩ := hp
      have e1 : w3.cell? ⟨wr.heap.size, 0, none⟩ = some (.string N) := ((Row.new wr 57 #[.string N, .int .i64 W]).keep k3 (fun h => by have := hrlt _ h; omega)).cell 0
      have hbkr : bk < wr.heap.size := Nat.lt_of_lt_of_le hbk HKP.out.size
      have e2 : w3.cell? ⟨bk, o + g * 2, none⟩ = some (.string G) := by
        rw [keep_cell k3 (by rw [World.size_alloc]; omega) hgb2, (bcell (below_alloc wr _)).1 _ _ hbkr]; exact d1
      have HR3 := Lib.hid r3
      have HK3 := Lib.hid k3
      have HF3 := Lib.hid f3
      have g1 : (g : Int) < E.length := by omega
      clear r3 k3 f3 HADD d1 c1 c2
      obtain ⟨F2, hF2⟩ : ∃ F2, F2 = upd F N (F N + W) := ⟨_, rfl⟩
      have HST2 : Hid (addAll f (E.take (j + 1)) = F2) := by rw [hF2]; exact HST.out
      rw [← hF2] at HR3
      have HGS2 : Hid (great f E (j + 1) = if F2 G < F2 N then j else g) := by have := HGS.out; rw [HST2.out] at this; exact this
      clear hF2 HGS HST
      by_cases hgt : F2 G < F2 N
      · have HG2 : Hid (great f E (j + 1) = j) := by have := HGS2.out; rw [if_pos hgt] at this; exact this
        clear HGS2
        go_quiet ((go_at_call 11; exact Calls.quiet_of_same (mark11 rb _ v3 F2 _ (by assumption) _ (HR3.out.drewN _))))
        go_wp2_with fail
        go_roundw
        case rel => exact ⟨j + 1, hlt, by go_num, by rw [HG2.out], by rw [HSU.out], v3, pickS_step HST2.out HKP.out HFR.out HR3.out HK3.out HF3.out nq⟩
        case measure => simp [intOf]; omega
      · have HG2 : Hid (great f E (j + 1) = g) := by have := HGS2.out; rw [if_neg hgt] at this; exact this
        clear HGS2
        go_quiet ((go_at_call 11; exact Calls.quiet_of_same (mark11 rb _ v3 F2 _ (by assumption) _ (HR3.out.drewN _))))
        go_wp2_with fail
        go_roundw
        case rel => exact ⟨j + 1, hlt, by go_num, by rw [HG2.out], by rw [HSU.out], v3, pickS_step HST2.out HKP.out HFR.out HR3.out HK3.out HF3.out nq⟩
        case measure => simp [intOf]; omega
    · obtain rfl : E.length = j := by omega
      have hgl : great f E E.length < E.length := by rcases great_lt f E E.length with h | h <;> omega
      obtain ⟨d1, d2⟩ := ent_rows HS.keep hbk hgb hcell hgl
      have hne' : ¬ ((E.length : Int) < E.length) := by omega
      have hsG : (nm E (great f E E.length)).size ≤ maxLen := by rw [nm_eq hgl]; exact HZ.out _ (List.getElem_mem hgl)
      have hb1 := addAll_bound HA.out HW.out f (nm E (great f E E.length))
      have hb2 := sumW_bound E HW.out
      have hb4 := HF.out (nm E (great f E E.length))
      have hrot := HS.rot
      rw [List.take_of_length_le (Nat.le_refl _)] at hrot ⊢
      have hturn : turn f E = nm E (great f E E.length) := rfl
      have hafter : after f E = upd (addAll f E) (turn f E) (addAll f E (turn f E) + -sumW E) := rfl
      rw [← hturn] at hsG hb1 hb4 d1
      obtain ⟨g, hge⟩ : ∃ g, g = great f E E.length := ⟨_, rfl⟩
      rw [← hge] at hgl d1 ⊢
      obtain ⟨G, hG⟩ : ∃ G, G = turn f E := ⟨_, rfl⟩
      have HGT : Hid (G = turn f E) := hG
      rw [← hG] at hsG hb1 hb4 d1 hafter
      obtain ⟨S, hSe⟩ : ∃ S, S = sumW E := ⟨_, rfl⟩
      rw [← hSe] at hb2 hafter ⊢
      have hS1 : 0 ≤ S := by omega
      have hS2 : S ≤ 65535000 := by omega
      have hadd := add27 rb v' (n + E.length) (addAll f E) G hsG (-S) (addAll f E G + -S) rfl (by omega) (by omega) (by unfold maxLen; omega) _ hrot
      rw [← hafter] at hadd
      have HADD := Lib.hid hadd
      have HKP := Lib.hid HS.keep
      have HFR := Lib.hid HS.fresh
      have g1 : (g : Int) < E.length := by omega
      clear hadd hafter hturn hb1 hb2 hb4 hrot HS hcell d2 hge hG hSe
      go_wp2_with (go_at_call 27; refine HADD.out.mono ?_; rintro e w3 ⟨rfl, hp⟩)
      obtain ⟨v3, r3, k3, f3⟩ := hp
      obtain ⟨k4, f4⟩ := fresh_keep HKP.out HFR.out k3 f3
      go_ret2
      refine ⟨by rw [← HGT.out]; rfl, v3, r3.mono (by omega), (Keep.of_below HB.out).trans k4, ?_⟩
      rcases f4 with h | ⟨b', h, h'⟩
      · exact .inl h
      · exact .inr ⟨b', h, Nat.le_trans HB.out.size h'⟩
end Go.Proofs.Ytcmjcpgfnkhnoaa
