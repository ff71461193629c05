/- ring.Build (written by genrgd.py). -/
import Derived.Test.YtklfpnnnoaaiaabGreatDoorG09
namespace Go.Proofs.YtklfpnnnoaaiaabGreatDoor
open Go.RowKit Go.Shelf Go.Lib Go.Sort

theorem infoPt : (Tryz.prog.info? 75).map (fun i => (i.zero, i.size, i.bytes)) = some (some (.agg #[.int .u64 0, .string ⟨#[]⟩]), 2, 24) := by kernel_rfl
theorem ownB_keepR {w w' : World} {base : Nat} {e : TypeId} {n m : Nat} {v : Value} {xs : List Value} (h : w.ownsRow base e n v m xs) (hb : Below w.heap.size w w') : w'.ownsRow base e n v m xs := by
  obtain ⟨hl, h0 | ⟨g, cap, cur, rfl, hbg, hg, r⟩⟩ := h
  · exact ⟨hl, .inl h0⟩
  · exact ⟨hl, .inr ⟨g, cap, cur, rfl, hbg, (hb.block g (Array.getElem?_eq_some_iff.1 hg).1).trans hg, r⟩⟩
theorem own_zeroR {w : World} {base : Nat} {e : TypeId} {n m : Nat} {v : Value} {xs : List Value} (h : w.ownsRow base e n v m xs) : w.ownsRow 0 e n v m xs := by
  obtain ⟨hl, h0 | ⟨g, cap, cur, rfl, hg, r⟩⟩ := h
  · exact ⟨hl, .inl h0⟩
  · exact ⟨hl, .inr ⟨g, cap, cur, rfl, Nat.zero_le _, r⟩⟩
theorem wrapR (z : Int) (h1 : -9223372036854775808 ≤ z) (h2 : z < 9223372036854775808) : IntKind.i64.wrap z = z := by
  simp [IntKind.wrap, IntKind.signed, IntKind.bits]; omega
theorem srtP_nil : srtP [] = [] := by simp [srtP]
theorem Row.ne {w : World} {g g' : Nat} {t t' : TypeId} {cs cs' : Array Value} (h : Row w g t cs) (h' : Row w g' t' cs') (ht : t ≠ t') : g ≠ g' := by
  rintro rfl
  unfold Row at h h'
  rw [h] at h'
  injection h' with h'
  injection h' with _ h2
  exact ht h2
theorem own_farR {w : World} {base : Nat} {e : TypeId} {n m : Nat} {v : Value} {xs : List Value} (h : w.ownsRow base e n v m xs) {b o : Nat} (hne : v.ownBlock ≠ some b) (u : Value) : (w.setCell ⟨b, o, none⟩ u).ownsRow base e n v m xs := by
  obtain ⟨hl, h0 | ⟨g, cap, cur, rfl, hbg, hg, r⟩⟩ := h
  · exact ⟨hl, .inl h0⟩
  · refine ⟨hl, .inr ⟨g, cap, cur, rfl, hbg, ?_, r⟩⟩
    rw [Below.heap_setCell w ⟨b, o, none⟩ u g (fun e => hne (by rw [← (show g = b from e)]; rfl))]
    exact hg
/-- What is there while a point is appended. -/
structure RpS (W : World) (rb eb kb : Nat) (k : Nat → UInt8) (m : Nat) (v : Value) (n : Nat) (xs : List Value) (N : ByteArray) (V : Int) (p1 : Nat) (L : Nat → Bool) (x : Nat → Value) (w : World) : Prop where
  bel : Below W.heap.size W w
  row : Row w rb 72 #[v, .int .i64 (n : Nat)]
  box : Row w eb 73 #[.string N, .int .i64 V]
  key : Row w kb 25 #[.int .u8 (k 0).toNat, .int .u8 (k 1).toNat, .int .u8 (k 2).toNat, .int .u8 (k 3).toNat, .int .u8 (k 4).toNat, .int .u8 (k 5).toNat, .int .u8 (k 6).toNat, .int .u8 (k 7).toNat, .int .u8 (k 8).toNat, .int .u8 (k 9).toNat, .int .u8 (k 10).toNat, .int .u8 (k 11).toNat, .int .u8 (k 12).toNat, .int .u8 (k 13).toNat, .int .u8 (k 14).toNat, .int .u8 (k 15).toNat]
  z10 : L 10 = false → w.ownsRow W.heap.size 75 2 v m xs
  z9 : L 9 = true → L 10 = false → ∃ g, x 9 = .slice (some ⟨g, 0, none⟩) 1 1 ∧ Row w g 75 #[.int .u64 (p1 : Nat), .string N]
  z11 : L 10 = true → w.ownsRow W.heap.size 75 2 (x 10) (m + 1) (xs ++ [.int .u64 (p1 : Nat), .string N])
section
variable {W : World} {rb eb kb : Nat} {k : Nat → UInt8} {m : Nat} {v : Value} {n : Nat} {xs : List Value} {N : ByteArray} {V : Int} {p1 : Nat} {L : Nat → Bool} {x : Nat → Value} {w w' : World}
theorem RpS.below (h : RpS W rb eb kb k m v n xs N V p1 L x w) (hb : Below w.heap.size w w') : RpS W rb eb kb k m v n xs N V p1 L x w' :=
  ⟨h.bel.trans (hb.mono h.bel.size), h.row.below hb, h.box.below hb, h.key.below hb, fun e => ownB_keepR (h.z10 e) hb, fun e e2 => by obtain ⟨g, h1, h2⟩ := h.z9 e e2; exact ⟨g, h1, h2.below hb⟩, fun e => ownB_keepR (h.z11 e) hb⟩
theorem RpS.next (h : RpS W rb eb kb k m v n xs N V p1 L x w) (i : Nat) (u : Value) (h9 : i ≠ 9) (h10 : i ≠ 10) : RpS W rb eb kb k m v n xs N V p1 (setL L i) (updV x i u) w := by
  have e9 : setL L i 9 = L 9 := by simp [setL, Ne.symm h9]
  have e10 : setL L i 10 = L 10 := by simp [setL, Ne.symm h10]
  have x9 : updV x i u 9 = x 9 := by simp [updV, Ne.symm h9]
  have x10 : updV x i u 10 = x 10 := by simp [updV, Ne.symm h10]
  exact ⟨h.bel, h.row, h.box, h.key, by rw [e10]; exact h.z10, by rw [e9, x9, e10]; exact h.z9, by rw [e10, x10]; exact h.z11⟩
theorem RpS.put (h : RpS W rb eb kb k m v n xs N V p1 L x w) : RpS W rb eb kb k m v n xs N V p1 (setL L 9) (updV x 9 (.slice (some ⟨w.heap.size, 0, none⟩) 1 1)) (w.alloc (.cells #[.int .u64 (p1 : Nat), .string N] 75)) := by
  have h' := h.below (below_alloc w (.cells #[.int .u64 (p1 : Nat), .string N] 75))
  have e10 : setL L 9 10 = L 10 := by simp [setL]
  have x10 : updV x 9 (.slice (some ⟨w.heap.size, 0, none⟩) 1 1) 10 = x 10 := by simp [updV]
  exact ⟨h'.bel, h'.row, h'.box, h'.key, by rw [e10]; exact h'.z10, fun _ _ => ⟨w.heap.size, by simp [updV], Row.new w _ _⟩, by rw [e10, x10]; exact h'.z11⟩
theorem RpS.app (h : RpS W rb eb kb k m v n xs N V p1 L x w) {v' : Value} (ho : w'.ownsRow W.heap.size 75 2 v' (m + 1) (xs ++ [.int .u64 (p1 : Nat), .string N])) (hg : w.grownBy w' v.ownBlock) (hl : L 10 = false) : RpS W rb eb kb k m v n xs N V p1 (setL L 10) (updV x 10 v') w' := by
  have hz := h.z10 hl
  have hn : ∀ {g : Nat} {t : TypeId} {cs : Array Value}, Row w g t cs → 75 ≠ t → v.ownBlock ≠ some g := fun hr hne => own_ne (own_zeroR hz) hr hne
  refine ⟨h.bel.grown hg h.bel.size (fun y e => (hz.lt y e).1), h.row.grown hg (hn h.row (by decide)), h.box.grown hg (hn h.box (by decide)), h.key.grown hg (hn h.key (by decide)), fun e => by simp [setL] at e, fun _ e => by simp [setL] at e, fun _ => by simpa [updV] using ho⟩
end
theorem cnt_le {p W G : Nat} (hp : 1 ≤ p) (hW : W ≤ G) : cntP p W G ≤ p := by
  unfold cntP
  have : p * W / G ≤ p := by
    rcases Nat.eq_zero_or_pos G with h | h
    · subst h; simp
    · exact Nat.div_le_of_le_mul (by rw [Nat.mul_comm G p]; exact Nat.mul_le_mul_left p hW)
  omega
theorem gmE_ge : ∀ {l : List Ent} {e : Ent}, e ∈ l → e.2 ≤ gmE l
  | x :: l, e, h => by
    show e.2 ≤ max x.2 (gmE l)
    rcases List.mem_cons.1 h with rfl | h
    · omega
    · have := gmE_ge h; omega
theorem gmE_le {B : Int} (hB : 0 ≤ B) : ∀ {l : List Ent}, (∀ e ∈ l, e.2 ≤ B) → gmE l ≤ B
  | [], _ => hB
  | x :: l, h => by
    show max x.2 (gmE l) ≤ B
    have h1 := h x (by simp)
    have h2 := gmE_le hB (l := l) (fun e he => h e (by simp [he]))
    omega
set_option maxRecDepth 100000 in
set_option maxHeartbeats 4000000 in
theorem ringBuild27_bad (k : Nat → UInt8) (es : List Ent) (hl : es.length ≤ 6) (hz : ∀ e ∈ es, e.1.size ≤ 1000) (hv : validB es = false) (per : Int) (a : Option Addr) (c : Nat) (w : World) (hf : IsEnts w a c es) :
    Calls Tryz.prog 13 #[keyVal k, .slice a es.length c, .int .i64 per] w fun e w' => e = .returned (.tuple #[.pointer none, .int .i64 1]) ∧ Below w.heap.size w w' := by
  have hb0 := below_alloc w (.cells #[.int .u8 (k 0).toNat, .int .u8 (k 1).toNat, .int .u8 (k 2).toNat, .int .u8 (k 3).toNat, .int .u8 (k 4).toNat, .int .u8 (k 5).toNat, .int .u8 (k 6).toNat, .int .u8 (k 7).toNat, .int .u8 (k 8).toNat, .int .u8 (k 9).toNat, .int .u8 (k 10).toNat, .int .u8 (k 11).toNat, .int .u8 (k 12).toNat, .int .u8 (k 13).toNat, .int .u8 (k 14).toNat, .int .u8 (k 15).toNat] 25)
  have HF := Lib.hid (hf.below hb0)
  have HB0 := Lib.hid hb0
  have HD := Lib.hid (fun W hE => distinct48 a c es (by omega) (fun e he => by have := hz e he; unfold maxLen; omega) W hE)
  have HP := Lib.hid (fun W hE => permitted49 a c es (by omega) W hE)
  have k1 : ¬ ((1024 : Int) < es.length) := by omega
  unfold keyVal
  clear hb0 hf
  by_cases ha : Apart es
  · have HA : Hid (decide (Apart es) = true) := decide_eq_true ha
    have HO : Hid (es.all okW = false) := by
      unfold validB at hv
      rw [decide_eq_true ha, Bool.and_true] at hv
      exact hv
    rw [HA.out] at HD
    rw [HO.out] at HP
    clear HA HO hv ha
    go_enter Tryz.func13, Tryz.ntmps13
    go_wp2_with (first
      | (go_at_call 29; refine (HD.out _ HF.out).mono ?_; rintro e w1 ⟨rfl, hB1⟩; have HF1 := Lib.hid (HF.out.below hB1); have HB1 := Lib.hid (HB0.out.trans (hB1.mono HB0.out.size)); clear hB1)
      | (go_at_call 30; refine (HP.out _ HF1.out).mono ?_; rintro e w2 ⟨rfl, hB2⟩; have HB2 := Lib.hid (HB1.out.trans (hB2.mono HB1.out.size)); clear hB2))
    go_ret2
    exact ⟨rfl, HB2.out⟩
  · have HA : Hid (decide (Apart es) = false) := decide_eq_false ha
    rw [HA.out] at HD
    clear HA hv ha HP
    go_enter Tryz.func13, Tryz.ntmps13
    go_wp2_with (go_at_call 29; refine (HD.out _ HF.out).mono ?_; rintro e w1 ⟨rfl, hB1⟩; have HB1 := Lib.hid (HB0.out.trans (hB1.mono HB0.out.size)); clear hB1)
    go_ret2
    exact ⟨rfl, HB1.out⟩
set_option maxRecDepth 100000 in
set_option maxHeartbeats 8000000 in
theorem ringBuild27 (k : Nat → UInt8) (es : List Ent) (hl : es.length ≤ 6) (hz : ∀ e ∈ es, e.1.size ≤ 1000) (hv : validB es = true) (per : Int) (p : Nat) (hper : min (max per 1) 256 = (p : Int)) (a : Option Addr) (c : Nat) (w : World) (hI : Ini w) (hpw : Pow w) (hf : IsEnts w a c es) :
    Calls Tryz.prog 13 #[keyVal k, .slice a es.length c, .int .i64 per] w fun e w' => ∃ rb, e = .returned (.tuple #[.pointer (some ⟨rb, 0, none⟩), .int .i64 0]) ∧ RingAt w' rb (srtP (ptsL k p (gmE es).toNat es)) es.length ∧ Below w.heap.size w w' := by
  obtain ⟨i0, hi0, hz0, hz1, hz2⟩ := info_parts infoPt
  have hok : ∀ e ∈ es, okW e = true := by
    unfold validB at hv
    rw [Bool.and_eq_true] at hv
    exact fun e he => List.all_eq_true.1 hv.1 e he
  have hrange : ∀ e ∈ es, 1 ≤ e.2 ∧ e.2 ≤ 65535 := fun e he => by have := hok e he; unfold okW at this; simpa using this
  have hap : Apart es := by
    unfold validB at hv
    rw [Bool.and_eq_true] at hv
    exact of_decide_eq_true hv.2
  have hb0 := below_alloc w (.cells #[.int .u8 (k 0).toNat, .int .u8 (k 1).toNat, .int .u8 (k 2).toNat, .int .u8 (k 3).toNat, .int .u8 (k 4).toNat, .int .u8 (k 5).toNat, .int .u8 (k 6).toNat, .int .u8 (k 7).toNat, .int .u8 (k 8).toNat, .int .u8 (k 9).toNat, .int .u8 (k 10).toNat, .int .u8 (k 11).toNat, .int .u8 (k 12).toNat, .int .u8 (k 13).toNat, .int .u8 (k 14).toNat, .int .u8 (k 15).toNat] 25)
  have HF := Lib.hid hf
  have HI := Lib.hid hI
  have HPW := Lib.hid hpw
  have HB0 := Lib.hid hb0
  have HKR := Lib.hid (Row.new w 25 #[.int .u8 (k 0).toNat, .int .u8 (k 1).toNat, .int .u8 (k 2).toNat, .int .u8 (k 3).toNat, .int .u8 (k 4).toNat, .int .u8 (k 5).toNat, .int .u8 (k 6).toNat, .int .u8 (k 7).toNat, .int .u8 (k 8).toNat, .int .u8 (k 9).toNat, .int .u8 (k 10).toNat, .int .u8 (k 11).toNat, .int .u8 (k 12).toNat, .int .u8 (k 13).toNat, .int .u8 (k 14).toNat, .int .u8 (k 15).toNat])
  have hd := fun W hE => distinct48 a c es (by omega) (fun e he => by have := hz e he; unfold maxLen; omega) W hE
  rw [decide_eq_true hap] at hd
  have HD := Lib.hid hd
  have hp4 := fun W hE => permitted49 a c es (by omega) W hE
  rw [List.all_eq_true.2 hok] at hp4
  have HP := Lib.hid hp4
  have HGW := Lib.hid (fun W hE => greatest50 a c es (by omega) W hE)
  have HRG := Lib.hid hrange
  have HZ := Lib.hid hz
  have hp1 : 1 ≤ p ∧ p ≤ 256 := by omega
  have hG65 : gmE es ≤ 65535 := gmE_le (by decide) fun e he => (hrange e he).2
  have hG0 := gmE_nonneg es
  have HGG := Lib.hid (fun e (he : e ∈ es) => gmE_ge he)
  obtain ⟨G, hG⟩ : ∃ G : Nat, gmE es = (G : Int) := ⟨(gmE es).toNat, by omega⟩
  rw [hG] at HGW HGG hG65
  rw [hG, Int.toNat_natCast]
  have k1 : ¬ ((1024 : Int) < es.length) := by omega
  clear hb0 hf hI hpw hd hp4 hok hrange hap hv hz hG hG0
  unfold keyVal
  go_enter Tryz.func13, Tryz.ntmps13
  go_upto_region 1 with fail
  generalize w.alloc (.cells #[.int .u8 (k 0).toNat, .int .u8 (k 1).toNat, .int .u8 (k 2).toNat, .int .u8 (k 3).toNat, .int .u8 (k 4).toNat, .int .u8 (k 5).toNat, .int .u8 (k 6).toNat, .int .u8 (k 7).toNat, .int .u8 (k 8).toNat, .int .u8 (k 9).toNat, .int .u8 (k 10).toNat, .int .u8 (k 11).toNat, .int .u8 (k 12).toNat, .int .u8 (k 13).toNat, .int .u8 (k 14).toNat, .int .u8 (k 15).toNat] 25) = w0 at *
  have HF0 := Lib.hid (HF.out.below HB0.out)
  go_upto_region 5 with (first
    | (go_at_call 29; refine (HD.out _ HF0.out).mono ?_; rintro e w1 ⟨rfl, hB1⟩; have HF1 := Lib.hid (HF0.out.below hB1); have HK1 := Lib.hid (HKR.out.below hB1); have HB1 := Lib.hid (HB0.out.trans (hB1.mono HB0.out.size)); clear hB1)
    | (go_at_call 30; refine (HP.out _ HF1.out).mono ?_; rintro e w2 ⟨rfl, hB2⟩; have HF2 := Lib.hid (HF1.out.below hB2); have HK2 := Lib.hid (HK1.out.below hB2); have HB2 := Lib.hid (HB1.out.trans (hB2.mono HB1.out.size)); clear hB2)
    | (go_at_call 31; refine (HGW.out _ HF2.out).mono ?_; rintro e w3 ⟨rfl, hB3⟩; have HF3 := Lib.hid (HF2.out.below hB3); have HK3 := Lib.hid (HK2.out.below hB3); have HB3 := Lib.hid (HB2.out.trans (hB3.mono HB2.out.size)); clear hB3))
  have HR4 := Lib.hid (Row.new w3 72 #[.slice none 0 0, .int .i64 (es.length : Nat)])
  have HK4 := Lib.hid (HK3.out.alloc (.cells #[.slice none 0 0, .int .i64 (es.length : Nat)] 72))
  have HB4 := Lib.hid (HB3.out.alloc HB3.out.size (.cells #[.slice none 0 0, .int .i64 (es.length : Nat)] 72))
  clear HF0 HF1 HF2 HF3 HK1 HK2 HK3 HB1 HB2 HD HP HGW HKR HB0
  have HKBL : Hid (w.heap.size ≤ w3.heap.size) := HB3.out.size
  go_upto_region 7 with fail
  generalize hrb : w3.heap.size = rb at *
  clear hrb
  generalize w3.alloc (.cells #[.slice none 0 0, .int .i64 (es.length : Nat)] 72) = w4 at *
  have HN4 : Hid (w4.ownsRow w.heap.size 75 2 (.slice none 0 0) (ptsL k p G (es.take 0)).length (cellsP (ptsL k p G (es.take 0)))) := World.ownsRow_nil _ _ _ _
  go_loopw [37] (fun i wr => ∃ (j : Nat) (v : Value), j ≤ es.length ∧ i = .int .i64 (j : Int) ∧ Hid (Row wr rb 72 #[v, .int .i64 (es.length : Nat)]) ∧ Hid (Row wr w.heap.size 25 #[.int .u8 (k 0).toNat, .int .u8 (k 1).toNat, .int .u8 (k 2).toNat, .int .u8 (k 3).toNat, .int .u8 (k 4).toNat, .int .u8 (k 5).toNat, .int .u8 (k 6).toNat, .int .u8 (k 7).toNat, .int .u8 (k 8).toNat, .int .u8 (k 9).toNat, .int .u8 (k 10).toNat, .int .u8 (k 11).toNat, .int .u8 (k 12).toNat, .int .u8 (k 13).toNat, .int .u8 (k 14).toNat, .int .u8 (k 15).toNat]) ∧ Hid (wr.ownsRow w.heap.size 75 2 v (ptsL k p G (es.take j)).length (cellsP (ptsL k p G (es.take j)))) ∧ Hid (Below w.heap.size w wr)) (fun i _ => es.length - (intOf i).toNat)
  case atStart => exact ⟨0, _, Nat.zero_le _, rfl, HR4, HK4, HN4, HB4⟩
  case round =>
    clear HR4 HK4 HB4 HN4
    obtain ⟨j, v, hj, rfl, HR, HK, HO, HB⟩ := hrel
    by_cases hlt : j < es.length
    · obtain h0 | ⟨bk, o, rfl, hbk, hc, hcell⟩ := HF.out.below HB.out
      · subst h0; simp at hlt
      obtain ⟨c1, c2⟩ := hcell j es[j] (by simp [hlt])
      have hrg := HRG.out es[j] (List.getElem_mem hlt)
      have hgg := HGG.out es[j] (List.getElem_mem hlt)
      have hzz := HZ.out es[j] (List.getElem_mem hlt)
      have HST := Lib.hid (ptsL_step (k := k) (p := p) (G := G) hlt)
      have HTL : Hid (∀ i, i ≤ cntP p es[j].2.toNat G → (ptsL k p G (es.take j) ++ (ptsE k p G es[j]).take i).length ≤ 2000) := fun i hi => by
        have h1 := ptsL_le (k := k) (p := p) (G := G) (es := es.take j) (fun e he => by
          have h2 := HRG.out e (List.mem_of_mem_take he)
          have h3 := HGG.out e (List.mem_of_mem_take he)
          have := cnt_le (p := p) (W := e.2.toNat) (G := G) hp1.1 (by omega)
          omega)
        have h4 := cnt_le (p := p) (W := es[j].2.toNat) (G := G) hp1.1 (by omega)
        rw [List.length_append, List.length_take, ptsE_len]
        rw [List.length_take] at h1
        omega
      have HES : Hid (∀ i, i < cntP p (es[j]).2.toNat G → (ptsE k p G es[j]).take (i + 1) = (ptsE k p G es[j]).take i ++ [(ptV k (es[j]).1 i, (es[j]).1)]) := fun i h => ptsE_step h
      have hcl := cnt_le (p := p) (W := es[j].2.toNat) (G := G) hp1.1 (by omega)
      have HEL := Lib.hid (ptsE_len k p G es[j])
      have j1 : (j : Int) < es.length := by omega
      generalize es[j] = e at *
      obtain ⟨N, V⟩ := e
      simp only at c1 c2 hrg hgg hzz HES hcl HTL HEL
      obtain ⟨U, rfl⟩ : ∃ U : Nat, V = (U : Int) := ⟨V.toNat, by omega⟩
      rw [Int.toNat_natCast] at HES hcl HTL HEL
      have HRa := Lib.hid (HR.out.alloc (.cells #[.string N, .int .i64 (U : Nat)] 73))
      have HKa := Lib.hid (HK.out.alloc (.cells #[.string N, .int .i64 (U : Nat)] 73))
      have HOa := Lib.hid (HO.out.alloc (.cells #[.string N, .int .i64 (U : Nat)] 73))
      have HBa := Lib.hid (HB.out.alloc HB.out.size (.cells #[.string N, .int .i64 (U : Nat)] 73))
      have HXa := Lib.hid (Row.new wr 73 #[.string N, .int .i64 (U : Nat)])
      have hpu : p * U ≤ 256 * 65535 := Nat.mul_le_mul hp1.2 (by omega)
      have hmul : (p : Int) * (U : Int) = ((p * U : Nat) : Int) := by simp
      have hwm := wrapR ((p * U : Nat) : Int) (by omega) (by omega)
      have hql : p * U / G ≤ p * U := Nat.div_le_self _ _
      have hquo : ((p * U : Nat) : Int).tdiv (G : Int) = ((p * U / G : Nat) : Int) := by rw [Int.tdiv_eq_ediv_of_nonneg (by omega)]; rfl
      have hmx : max ((p * U / G : Nat) : Int) 1 = ((cntP p U G : Nat) : Int) := by unfold cntP; omega
      have hG1 : ¬ (G : Int) = 0 := by omega
      have hG2 : ¬ G = 0 := by omega
      generalize p * U / G = q9 at hql hquo hmx
      have hwq := wrapR (q9 : Int) (by omega) (by omega)
      generalize p * U = pu at *
      clear hcell HR HK HO HB hbk
      go_upto_region 9 with fail
      clear c1 c2
      generalize wr.heap.size = eb at *
      generalize wr.alloc (.cells #[.string N, .int .i64 (U : Nat)] 73) = wa at *
      have d1 : wa.cell? ⟨eb, 1, none⟩ = some (.int .i64 (U : Nat)) := by rw [HXa.out.cell]; rfl
      have HN0 : Hid (wa.ownsRow w.heap.size 75 2 v (ptsL k p G (es.take j) ++ (ptsE k p G (N, (U : Int))).take 0).length (cellsP (ptsL k p G (es.take j) ++ (ptsE k p G (N, (U : Int))).take 0))) := by
        rw [List.take_zero, List.append_nil]; exact HOa
      clear HOa
      go_wp2_with fail
      clear d1 hmul hwm hquo hmx hwq hql hpu
      have HCL := Lib.hid hcl
      generalize hcn : cntP p U G = cn at *
      have HCN := Lib.hid hcn
      clear hcn
      generalize ptsL k p G (es.take j) = ps0 at *
      go_loopw [48] (fun i wr => ∃ (i' : Nat) (v : Value), i' ≤ cn ∧ i = .int .i64 (i' : Int) ∧ Hid (Row wr rb 72 #[v, .int .i64 (es.length : Nat)]) ∧ Hid (Row wr w.heap.size 25 #[.int .u8 (k 0).toNat, .int .u8 (k 1).toNat, .int .u8 (k 2).toNat, .int .u8 (k 3).toNat, .int .u8 (k 4).toNat, .int .u8 (k 5).toNat, .int .u8 (k 6).toNat, .int .u8 (k 7).toNat, .int .u8 (k 8).toNat, .int .u8 (k 9).toNat, .int .u8 (k 10).toNat, .int .u8 (k 11).toNat, .int .u8 (k 12).toNat, .int .u8 (k 13).toNat, .int .u8 (k 14).toNat, .int .u8 (k 15).toNat]) ∧ Hid (Row wr eb 73 #[.string N, .int .i64 (U : Nat)]) ∧ Hid (wr.ownsRow w.heap.size 75 2 v (ps0 ++ (ptsE k p G (N, (U : Int))).take i').length (cellsP (ps0 ++ (ptsE k p G (N, (U : Int))).take i'))) ∧ Hid (Below w.heap.size w wr)) (fun i _ => cn - (intOf i).toNat)
      case atStart => exact ⟨0, _, Nat.zero_le _, rfl, HRa, HKa, HXa, HN0, HBa⟩
      case round =>
        clear HRa HKa HXa HN0 HBa
        rename_i wr0
        obtain ⟨i, v, hi, rfl, HR, HK, HX, HO, HB⟩ := hrel
        by_cases hlt2 : i < cn
        · have HSTE := Lib.hid (HES.out i hlt2)
          have HTLE := Lib.hid (HTL.out i (by omega))
          have i1 : (i : Int) < cn := by omega
          have HPT := Lib.hid (fun W hI hP => point51 k N (U : Int) (by omega) i (by omega) W hI hP)
          generalize ptV k N i = p1 at *
          have HMM : Hid ((ps0 ++ (ptsE k p G (N, (U : Int))).take (i + 1)) = (ps0 ++ (ptsE k p G (N, (U : Int))).take i) ++ [(p1, N)]) := by
            show _ = _
            rw [HSTE.out, List.append_assoc]
          have hml := HTLE.out
          generalize ps0 ++ (ptsE k p G (N, (U : Int))).take i = ps at *
          generalize hmm : ps.length = mm at *
          generalize hxs : cellsP ps = xs at *
          have HMX := Lib.hid (And.intro hmm hxs)
          have HMV : Hid (∃ V : Int, V = (U : Int)) := ⟨_, rfl⟩
          obtain ⟨V, hV⟩ := HMV.out
          rw [← hV] at HX HPT ⊢
          have HVE := Lib.hid hV
          clear hmm hxs HMV hV
          go_wp2_with fail
          refine region_mixt 11 [some (.pointer (some ⟨rb, 0, none⟩)), some (.pointer (some ⟨rb, 0, none⟩)), some (.pointer (some ⟨rb, 0, none⟩)), some (.pointer (some ⟨rb, 0, none⟩)), some (v), some (.agg #[.string N, .int .i64 V]), some (.agg #[.int .u8 (k 0).toNat, .int .u8 (k 1).toNat, .int .u8 (k 2).toNat, .int .u8 (k 3).toNat, .int .u8 (k 4).toNat, .int .u8 (k 5).toNat, .int .u8 (k 6).toNat, .int .u8 (k 7).toNat, .int .u8 (k 8).toNat, .int .u8 (k 9).toNat, .int .u8 (k 10).toNat, .int .u8 (k 11).toNat, .int .u8 (k 12).toNat, .int .u8 (k 13).toNat, .int .u8 (k 14).toNat, .int .u8 (k 15).toNat]), some (.int .i64 (i : Nat)), some (.agg #[.int .u64 (p1 : Nat), .string N]), none, none]
            [[false, false, false, false, false, false, false, false, false, false, false], [false, false, false, false, false, false, false, false, false, false, false], [false, true, false, false, false, false, false, false, false, false, false], [false, false, true, false, false, false, false, false, false, false, false], [false, false, false, true, false, false, false, false, false, false, false], [false, false, false, false, false, false, false, false, false, false, false], [false, false, false, false, false, false, false, false, false, false, false], [false, false, false, false, false, false, false, false, false, false, false], [false, false, false, false, false, true, true, true, false, false, false], [false, false, false, false, false, false, false, false, true, false, false], [false, false, false, false, true, false, false, false, true, true, false]]
            (fun LL xx w9 => RpS w rb eb w.heap.size k mm v es.length xs N V p1 LL xx w9)
            (by kernel_rfl) (by kernel_rfl) (by kernel_rfl) (by kernel_rfl) (by kernel_rfl) (by decide) ?_ ?_ ?_
          · intro x
            exact ⟨HB.out.drew, HR.out.drew, HX.out.drew, HK.out.drew, fun _ => ownB_keepR HO.out ((Below.refl _ _).drew), (fun h => by cases h), (fun h => by cases h)⟩
          · simp only [List.take_succ_cons, List.take_zero]
            refine ⟨?_, ?_, ?_, ?_, ?_, ?_, ?_, ?_, ?_, ?_, ?_, trivial⟩
            all_goals
              intro L x w9 hS hl hp K9 hK9
              have hs : RpS w rb eb w.heap.size k mm v es.length xs N V p1 L x w9 := hS
              clear hS
              replace hK9 := hK9.out
              simp only [actMix, pickV, List.tail_cons, List.headD_cons, Act.put, List.setIfInBounds_toArray, List.set_cons_zero, List.set_cons_succ] at hK9 ⊢
            · clear hp
              go_simp
              with_reducible refine hK9 _ ?_
              exact hs.next 0 _ (by decide) (by decide)
            · clear hp
              go_simp
              with_reducible refine hK9 _ ?_
              exact hs.next 1 _ (by decide) (by decide)
            · clear hp
              go_simp
              with_reducible refine hK9 _ ?_
              exact hs.next 2 _ (by decide) (by decide)
            · clear hp
              go_simp
              with_reducible refine hK9 _ ?_
              exact hs.next 3 _ (by decide) (by decide)
            · have r0 : w9.cell? ⟨rb, 0, none⟩ = some v := by rw [hs.row.cell]; rfl
              clear hp
              go_simp
              with_reducible refine hK9 _ ?_
              exact hs.next 4 _ (by decide) (by decide)
            · have r0 : w9.cell? ⟨eb, 0, none⟩ = some (.string N) := by rw [hs.box.cell]; rfl
              have r1 : w9.cell? ⟨eb, 1, none⟩ = some (.int .i64 V) := by rw [hs.box.cell]; rfl
              clear hp
              go_simp
              with_reducible refine hK9 _ ?_
              exact hs.next 5 _ (by decide) (by decide)
            · have hkk := isKey_rowC hs.key
              clear hp
              rw [if_pos (by rfl)]
              refine wp_load_mid 25 _ rfl w.heap.size 0 rfl [.int .u8 (k 0).toNat, .int .u8 (k 1).toNat, .int .u8 (k 2).toNat, .int .u8 (k 3).toNat, .int .u8 (k 4).toNat, .int .u8 (k 5).toNat, .int .u8 (k 6).toNat, .int .u8 (k 7).toNat, .int .u8 (k 8).toNat, .int .u8 (k 9).toNat, .int .u8 (k 10).toNat, .int .u8 (k 11).toNat, .int .u8 (k 12).toNat, .int .u8 (k 13).toNat, .int .u8 (k 14).toNat, .int .u8 (k 15).toNat] _ (key_range hkk) Tryz.underlying25 rfl (by kernel_rfl) ?_
              simp only [Act.put, List.setIfInBounds_toArray, List.set_cons_zero, List.set_cons_succ]
              with_reducible refine hK9 _ ?_
              exact hs.next 6 _ (by decide) (by decide)
            · clear hp
              go_simp
              with_reducible refine hK9 _ ?_
              exact hs.next 7 _ (by decide) (by decide)
            · clear hp
              go_simp
              refine (HPT.out w9 (HI.out.below hs.bel) (HPW.out.below hs.bel)).mono ?_
              rintro e w8 ⟨rfl, hB8⟩
              go_simp
              with_reducible refine hK9 _ ?_
              exact (hs.below hB8).next 8 _ (by decide) (by decide)
            · clear hp
              go_simp
              with_reducible refine hK9 _ _ ?_
              exact hs.put
            · obtain ⟨g8, hx8, hr8⟩ := hs.z9 (allL_mem hp 9 (by decide +kernel)) hl
              have ho := hs.z10 hl
              have src : ∀ (q : Nat) u, [Value.int .u64 (p1 : Nat), .string N][q]? = some u → w9.cell? ((⟨g8, 0, none⟩ : Addr).add q) = some u := fun q u hu => by
                rw [Addr.add_mid, Nat.zero_add, hr8.cell, List.getElem?_toArray]
                exact hu
              clear hp
              rw [hx8] at hK9 ⊢
              refine wp_append_own _ _ _ 70 rfl w.heap.size 75 i0 (.agg #[.int .u64 0, .string ⟨#[]⟩]) 2 24 Tryz.underlying70 hi0 hz0 hz1 hz2 rfl (by decide) _ _ _ rfl ho ⟨g8, 0, none⟩ 1 1 [.int .u64 (p1 : Nat), .string N] rfl rfl src (by intro u hu; simp at hu; rcases hu with rfl | rfl <;> rfl) (by unfold maxLen; omega) (by omega) hs.bel.size ?_
              intro v' w1 hown1 hgrow _
              simp only [Act.put, List.setIfInBounds_toArray, List.set_cons_zero, List.set_cons_succ]
              with_reducible refine hK9 _ _ ?_
              exact hs.app hown1 hgrow hl
          intro L x w9 hS hL
          have hs : RpS w rb eb w.heap.size k mm v es.length xs N V p1 L x w9 := hS
          have hown := hs.z11 (hL 10 (by decide))
          simp only [actMix, pickV, List.tail_cons, List.headD_cons, Act.put, List.setIfInBounds_toArray, List.set_cons_zero, List.set_cons_succ, List.replicate_succ, List.replicate_zero, List.drop_succ_cons, List.drop_zero, List.take_succ_cons, List.take_zero]
          generalize x 9 = xa
          generalize x 10 = v' at *
          have r0 : w9.cell? ⟨rb, 0, none⟩ = some v := by rw [hs.row.cell]; rfl
          have f0 : w9.frozen? ⟨rb, 0, none⟩ = false := hs.row.free 0
          have HR2 : Hid (Row (w9.setCell ⟨rb, 0, none⟩ v') rb 72 #[v', .int .i64 (es.length : Nat)]) := hs.row.put 0 v'
          have HK2 := Lib.hid (hs.key.far (p := ⟨rb, 0, none⟩) (hs.key.ne hs.row (by decide)) v')
          have HX2 := Lib.hid (hs.box.far (p := ⟨rb, 0, none⟩) (hs.box.ne hs.row (by decide)) v')
          have HO2 : Hid ((w9.setCell ⟨rb, 0, none⟩ v').ownsRow w.heap.size 75 2 v' (mm + 1) (xs ++ [.int .u64 (p1 : Nat), .string N])) := own_farR hown (own_ne (own_zeroR hown) hs.row (by decide)) v'
          have HB2 := Lib.hid (hs.bel.setCell (p := ⟨rb, 0, none⟩) HKBL.out v')
          obtain ⟨g', cap', hv'⟩ := ownsRow_succ hown
          clear hS hs hL hown HR HK HX HO HB
          rw [hv'] at HR2 HK2 HX2 HO2 HB2 ⊢
          clear hv'
          go_wp2_with fail
          go_roundw
          case rel =>
            refine ⟨i + 1, _, hlt2, by go_num, HR2, HK2, HX2, ?_, HB2⟩
            show World.ownsRow _ _ _ _ _ _ _
            rw [HVE.out, HMM.out, List.length_append, cellsP_append, HMX.out.1, HMX.out.2]
            exact HO2.out
          case measure => simp [intOf]; omega
        · obtain rfl : i = cn := by omega
          have hne : ¬ (i : Int) < i := by omega
          have HN9 : Hid (wr.ownsRow w.heap.size 75 2 v (ptsL k p G (es.take (j + 1))).length (cellsP (ptsL k p G (es.take (j + 1))))) := by
            have := HO.out
            rw [List.take_of_length_le (by rw [HEL.out]; exact Nat.le_refl _)] at this
            show World.ownsRow _ _ _ _ _ _ _
            rw [HST.out]; exact this
          go_wp2_with fail
          go_roundw
          case rel => exact ⟨j + 1, v, hlt, by go_num, HR, HK, HN9, HB⟩
          case measure => simp [intOf]; omega
    · obtain rfl : j = es.length := by omega
      have hne : ¬ (es.length : Int) < es.length := by omega
      have ho := HO.out
      rw [List.take_length] at ho
      have HLE : Hid ((ptsL k p G es).length ≤ 2000) := by
        have h1 := ptsL_le (k := k) (p := p) (G := G) (es := es) (fun e he => by
          have h2 := HRG.out e he
          have h3 := HGG.out e he
          have := cnt_le (p := p) (W := e.2.toNat) (G := G) hp1.1 (by omega)
          omega)
        show _ ≤ _
        omega
      have r0 : wr.cell? ⟨rb, 0, none⟩ = some v := by rw [HR.out.cell]; rfl
      have HR1 : Hid (wr.cell? ⟨rb, 1, none⟩ = some (.int .i64 (es.length : Nat))) := by show _ = _; rw [HR.out.cell]; rfl
      by_cases h0 : (ptsL k p G es).length = 0
      · obtain ⟨a9, c9, hv9⟩ := own_slice ho
        subst hv9
        rw [h0] at r0
        have HR0 := Lib.hid r0
        have HSN := Lib.hid (fun f W => sort52_none a9 c9 f W)
        have HPE : Hid (ptsL k p G es = []) := List.eq_nil_of_length_eq_zero h0
        clear ho h0
        go_wp2_with (go_at_call 33; refine (HSN.out _ _).mono ?_; rintro e w9 ⟨rfl, rfl⟩)
        go_ret2
        refine ⟨rb, rfl, ⟨HR.out.lt, a9, c9, ?_, HR1.out, .inl ?_⟩, HB.out⟩
        · rw [HPE.out, srtP_nil]; exact HR0.out
        · rw [HPE.out, srtP_nil]
      · obtain ⟨n9, hn9⟩ : ∃ n9, (ptsL k p G es).length = n9 + 1 := ⟨(ptsL k p G es).length - 1, by omega⟩
        have ho2 := ho
        rw [hn9] at ho2
        obtain ⟨g, cap, hg⟩ := ownsRow_succ ho2
        rw [← hn9] at hg
        subst hg
        have HSO := Lib.hid (sort52 w.heap.size g cap (ptsL k p G es) (by have := HLE.out; omega) wr ho)
        have HGB : Hid (w.heap.size ≤ g) := (ho.lt g rfl).1
        have HGN : Hid (rb ≠ g) := fun e => own_ne (own_zeroR ho) HR.out (by decide) (by rw [e]; rfl)
        have hln : (srtP (ptsL k p G es)).length = (ptsL k p G es).length := (srtP_perm _).length_eq
        have HLN := Lib.hid hln
        have HR0 := Lib.hid r0
        clear ho ho2 hn9 h0 hln
        go_wp2_with (go_at_call 33; refine HSO.out.mono ?_; rintro e w9 ⟨rfl, hp9, hk9⟩; have HP9 := Lib.hid hp9; have HK9 := Lib.hid hk9; clear hp9 hk9)
        go_ret2
        refine ⟨rb, rfl, ⟨Nat.lt_of_lt_of_le HR.out.lt HK9.out.size, some ⟨g, 0, none⟩, cap, ?_, ?_, HP9.out⟩, HB.out.trans (HK9.out.bel (fun y hy => by rw [hy]; exact HGB.out) HB.out.size)⟩
        · rw [keep_cell HK9.out HR.out.lt (fun e => HGN.out e), HLN.out]; exact HR0.out
        · rw [keep_cell HK9.out HR.out.lt (fun e => HGN.out e)]; exact HR1.out
end Go.Proofs.YtklfpnnnoaaiaabGreatDoor

