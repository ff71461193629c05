/- The walk of the statement SiphashParts. -/
import Derived.Test.YtpmkcmkohobmfaaDoorLawKeys
import Derived.Test.YtpmkcmkohobmfaaDoorFew
namespace Go.Proofs.YtpmkcmkohobmfaaDoor
open Go.RowKit

theorem flat_take (ys : List ByteArray) (j : Nat) (h : j < ys.length) : flat (ys.take (j + 1)) = flat (ys.take j) ++ ys[j].data.toList := by
  unfold flat
  rw [List.take_succ_eq_append_getElem h, List.map_append, List.flatten_append]
  simp
theorem fewS_size (xs : List ByteArray) (n m : Nat) : ∀ y ∈ fewS xs n m, y.size ≤ m := by
  intro y hy
  simp only [fewS, List.mem_map] at hy
  obtain ⟨s, _, rfl⟩ := hy
  exact cutS_size s m
theorem fewS_length (xs : List ByteArray) (n m : Nat) : (fewS xs n m).length ≤ n := by simp [fewS]; omega

/-- What every world of the last statement holds. -/
structure HeldP (k : Nat → UInt8) (a : Option Addr) (c : Nat) (ys : List ByteArray) (B : Nat) (w0 w : World) : Prop where
  key : IsKey w B k
  ini : Ini w
  strs : IsStrs w a c ys
  lt : B < w.heap.size
  bel : Below w0.heap.size w0 w
  le : w0.heap.size ≤ B
section
variable {k : Nat → UInt8} {a : Option Addr} {c : Nat} {ys : List ByteArray} {B : Nat} {w0 w : World}
theorem HeldP.below {w' : World} (h : HeldP k a c ys B w0 w) (hb : Below w.heap.size w w') : HeldP k a c ys B w0 w' :=
  ⟨h.key.below hb h.lt, h.ini.below hb, h.strs.below hb, Nat.lt_of_lt_of_le h.lt hb.size, h.bel.trans (hb.mono (Nat.le_trans h.le (Nat.le_of_lt h.lt))), h.le⟩
theorem HeldP.alloc (h : HeldP k a c ys B w0 w) (o : Obj) : HeldP k a c ys B w0 (w.alloc o) := h.below ((Below.refl _ _).alloc (Nat.le_refl _) _)
theorem HeldP.drew (h : HeldP k a c ys B w0 w) : HeldP k a c ys B w0 w.drew := h.below (Below.refl _ _).drew
theorem HeldP.S (h : HeldP k a c ys B w0 w) : w.rangeAt B 0 (keyCells k) ∧ HeldP k a c ys B w0 w := ⟨(key_facts h.key).1, h⟩
theorem callL (h : HeldP k a c ys B w0 w) (hn : ys.length ≤ 140737488355328) (hl : (flat ys).length ≤ 140737488355328) :
    Calls Tryd.prog 12 #[.agg (keyCells k).toArray, .slice a ys.length c] w fun e w' => e = .returned (.int .u64 (sip k (flat ys))) ∧ HeldP k a c ys B w0 w' ∧ Below w.heap.size w w' :=
  (sum12 k a c ys w h.ini h.strs hn hl).mono fun _ _ ⟨he, hb⟩ => ⟨he, h.below hb, hb⟩
theorem callOne (h : HeldP k a c ys B w0 w) (s : ByteArray) (l : List UInt8) (bk : Nat) (hc : w.cell? ⟨bk, 0, none⟩ = some (.string s)) (hl : s.data.toList = l) (hs : s.size ≤ 140737488355328) :
    Calls Tryd.prog 12 #[.agg (keyCells k).toArray, .slice (some ⟨bk, 0, none⟩) 1 1] w fun e w' => e = .returned (.int .u64 (sip k l)) ∧ HeldP k a c ys B w0 w' ∧ Below w.heap.size w w' := by
  have hf : flat [s] = l := by rw [← hl]; simp [flat]
  have := sum12 k (some ⟨bk, 0, none⟩) 1 [s] w h.ini
    (.inr ⟨bk, 0, rfl, World.block_lt_of_cell? w _ hc, by simp, fun j x hx => by
      match j, hx with
      | 0, hx => obtain rfl : s = x := Option.some.inj hx; exact hc
      | j + 1, hx => simp at hx⟩) (by simp) (by rw [hf, ← hl, ← Lib.size_eq]; exact hs)
  rw [hf] at this
  exact this.mono fun _ _ ⟨he, hb⟩ => ⟨he, h.below hb, hb⟩
theorem callNil (h : HeldP k a c ys B w0 w) :
    Calls Tryd.prog 12 #[.agg (keyCells k).toArray, .slice none 0 0] w fun e w' => e = .returned (.int .u64 (sip k [])) ∧ HeldP k a c ys B w0 w' ∧ Below w.heap.size w w' :=
  (sum12 k none 0 [] w h.ini (.inl rfl) (by simp) (by simp [flat])).mono fun _ _ ⟨he, hb⟩ => ⟨he, h.below hb, hb⟩
end

set_option maxHeartbeats 2000000 in
theorem law4 (k : Nat → UInt8) (a : Option Addr) (c : Nat) (xs : List ByteArray) (hlen : xs.length ≤ 9223372036854775807) (w : World) (hi : Ini w) (hx : IsStrs w a c xs) :
    Calls Tryd.prog 4 #[keyVal k, .slice a xs.length c] w fun e w' => e = .returned (.bool true) ∧ Below w.heap.size w w' := by
  unfold keyVal
  have HI := Lib.hid hi
  have HX := Lib.hid hx
  clear hi hx
  go_enter Tryd.func4, Tryd.ntmps4
  go_wp2_with fail
  generalize hW : World.alloc w _ = W
  have hk : IsKey W w.heap.size k := by
    subst hW
    intro i hi
    have h16 : i = 0 ∨ i = 1 ∨ i = 2 ∨ i = 3 ∨ i = 4 ∨ i = 5 ∨ i = 6 ∨ i = 7 ∨ i = 8 ∨ i = 9 ∨ i = 10 ∨ i = 11 ∨ i = 12 ∨ i = 13 ∨ i = 14 ∨ i = 15 := by omega
    rcases h16 with rfl | rfl | rfl | rfl | rfl | rfl | rfl | rfl | rfl | rfl | rfl | rfl | rfl | rfl | rfl | rfl <;> simp
  have hb : Below w.heap.size w W := by subst hW; exact ((Below.refl _ _).alloc (Nat.le_refl _) _)
  have hz : w.heap.size < W.heap.size := by subst hW; simp
  clear hW
  refine (awake10 W (HI.out.below hb)).mono ?_
  rintro e w1 ⟨rfl, hb1⟩
  have HK1 := Lib.hid (hk.below hb1 hz)
  have HI1 := Lib.hid ((HI.out.below hb).below hb1)
  have HX1 := Lib.hid ((HX.out.below hb).below hb1)
  have hbel1 : Below w.heap.size w w1 := hb.trans (hb1.mono (Nat.le_of_lt hz))
  have hz1 := Nat.lt_of_lt_of_le hz hb1.size
  clear hk hb hz hb1 HI HX
  generalize (Value.agg #[.int .u8 (k 0).toNat, .int .u8 (k 1).toNat, .int .u8 (k 2).toNat, .int .u8 (k 3).toNat, .int .u8 (k 4).toNat, .int .u8 (k 5).toNat, .int .u8 (k 6).toNat, .int .u8 (k 7).toNat, .int .u8 (k 8).toNat, .int .u8 (k 9).toNat, .int .u8 (k 10).toNat, .int .u8 (k 11).toNat, .int .u8 (k 12).toNat, .int .u8 (k 13).toNat, .int .u8 (k 14).toNat, .int .u8 (k 15).toNat]) = kv
  go_wp2_with fail
  refine (few14 a c xs 12 40 (by decide) hlen w1 HX1.out).mono ?_
  rintro e w2 ⟨a2, c2, rfl, hx2, hb2⟩
  have hys := fewS_size xs 12 40
  have hyl := fewS_length xs 12 40
  generalize fewS xs 12 40 = ys at *
  have HK2 := Lib.hid (HK1.out.below hb2 hz1)
  have HI2 := Lib.hid (HI1.out.below hb2)
  have hbel2 : Below w.heap.size w w2 := hbel1.trans (hb2.mono (Nat.le_of_lt hz1))
  have hz2 := Nat.lt_of_lt_of_le hz1 hb2.size
  have HX2 := Lib.hid hx2
  have HYS := Lib.hid hys
  clear hb2 hbel1 hz1 HK1 HI1 HX1 hx2 hys
  go_wp2_with fail
  go_loop [5, 7, 15] (fun sv _ i => ∃ (j : Nat) (t : ByteArray), j ≤ ys.length ∧ i = .int .i64 (j : Int) ∧ sv = .string t ∧ t.size ≤ 40 * j ∧ Hid (t.data.toList = flat (ys.take j))) (fun _ _ i => ys.length - (intOf i).toNat)
  case atStart => exact ⟨0, ⟨#[]⟩, by omega, rfl, rfl, by decide, rfl⟩
  case round =>
    obtain ⟨j, t, hj, rfl, rfl, hts, ht⟩ := hrel
    by_cases hlt : j < ys.length
    · obtain h0 | ⟨bk, o, rfl, hbk, hc, hcell⟩ := HX2.out
      · subst h0; simp at hlt
      · have cj := hcell j ys[j] (by simp [hlt])
        have hyj := HYS.out ys[j] (List.getElem_mem hlt)
        have HF := Lib.hid (flat_take ys j hlt)
        clear hcell
        generalize ys[j] = y at *
        go_wp2_with fail
        go_round
        case rel =>
          refine ⟨j + 1, t ++ y, hlt, by go_num, rfl, ?_, ?_⟩
          · simp; omega
          · show (t ++ y).data.toList = _
            rw [HF.out, ← ht.out]; simp
        case measure => simp [intOf]; omega
    · obtain rfl : j = ys.length := by omega
      rw [List.take_length] at ht
      have hk2 := HK2.out
      have k0 := hk2 0 (by decide)
      have k1 := hk2 1 (by decide)
      have k2 := hk2 2 (by decide)
      have k3 := hk2 3 (by decide)
      have k4 := hk2 4 (by decide)
      have k5 := hk2 5 (by decide)
      have k6 := hk2 6 (by decide)
      have k7 := hk2 7 (by decide)
      have k8 := hk2 8 (by decide)
      have k9 := hk2 9 (by decide)
      have k10 := hk2 10 (by decide)
      have k11 := hk2 11 (by decide)
      have k12 := hk2 12 (by decide)
      have k13 := hk2 13 (by decide)
      have k14 := hk2 14 (by decide)
      have k15 := hk2 15 (by decide)
      clear hk2
      go_wp2_with fail
      generalize (Value.agg #[.int .u8 (k 0).toNat, .int .u8 (k 1).toNat, .int .u8 (k 2).toNat, .int .u8 (k 3).toNat, .int .u8 (k 4).toNat, .int .u8 (k 5).toNat, .int .u8 (k 6).toNat, .int .u8 (k 7).toNat, .int .u8 (k 8).toNat, .int .u8 (k 9).toNat, .int .u8 (k 10).toNat, .int .u8 (k 11).toNat, .int .u8 (k 12).toNat, .int .u8 (k 13).toNat, .int .u8 (k 14).toNat, .int .u8 (k 15).toNat]) = kv2
      clear k0 k1 k2 k3 k4 k5 k6 k7 k8 k9 k10 k11 k12 k13 k14 k15
      generalize hW : World.alloc w2 _ = W
      have hbW : Below w2.heap.size w2 W := by subst hW; exact (Below.refl _ _).alloc (Nat.le_refl _) _
      have hh : HeldP k a2 c2 ys w2.heap.size w W := by
        refine ⟨?_, HI2.out.below hbW, HX2.out.below hbW, by subst hW; simp, hbel2.trans (hbW.mono hbel2.size), hbel2.size⟩
        subst hW
        intro i hi
        have h16 : i = 0 ∨ i = 1 ∨ i = 2 ∨ i = 3 ∨ i = 4 ∨ i = 5 ∨ i = 6 ∨ i = 7 ∨ i = 8 ∨ i = 9 ∨ i = 10 ∨ i = 11 ∨ i = 12 ∨ i = 13 ∨ i = 14 ∨ i = 15 := by omega
        rcases h16 with rfl | rfl | rfl | rfl | rfl | rfl | rfl | rfl | rfl | rfl | rfl | rfl | rfl | rfl | rfl | rfl <;> simp
      have hsz : t.size ≤ 480 := by omega
      have hfl : (flat ys).length ≤ 140737488355328 := by rw [← ht.out, ← Lib.size_eq]; omega
      have hyn : ys.length ≤ 140737488355328 := by omega
      have HFL := Lib.hid hfl
      clear hW hbW hfl HK2 HI2 HX2 HYS hbel2 hz2 hts
      have hu26 := under26
      have hs26 := size26 k
      generalize w2.heap.size = B at *
      have hh0 := hh.drew
      refine wp_region_held_drew (S := fun w' => HeldP k a2 c2 ys B w w') (by kernel_rfl) hh0 (fun _ => ?_)
      refine wpAnyH_take (i := 0) (oi := _) (v := .agg (keyCells k).toArray) rfl (by kernel_rfl) (by kernel_rfl) (by kernel_rfl) (fun _ _ _ h => h) (yieldsIf_load_mid (by rfl) 26 _ rfl B 0 rfl (keyCells k) _ (fun w' h => (key_facts h.key).1) hu26 rfl hs26) hh0 ?_
      refine wpAnyH_take (i := 1) (oi := _) (v := .slice a2 ys.length c2) rfl (by kernel_rfl) (by kernel_rfl) (by kernel_rfl) (fun _ _ _ h => h) (Or.inl ⟨by rfl, fun w' h => by go_simp⟩) hh0 ?_
      refine wpAnyH_take (i := 3) (oi := _) (v := .agg (keyCells k).toArray) rfl (by kernel_rfl) (by kernel_rfl) (by kernel_rfl) (fun _ _ _ h => h) (yieldsIf_load_mid (by rfl) 26 _ rfl B 0 rfl (keyCells k) _ (fun w' h => (key_facts h.key).1) hu26 rfl hs26) hh0 ?_
      refine wpAnyH_take (i := 4) (oi := _) (v := .string t) rfl (by kernel_rfl) (by kernel_rfl) (by kernel_rfl) (fun _ _ _ h => h) (Or.inl ⟨by rfl, fun w' h => by go_simp⟩) hh0 ?_
      try simp only [Act.put, List.setIfInBounds_toArray]
      refine wpAnyH_ready (rs := [2, 5]) (by kernel_rfl) (by simp) ?_
      refine AllReadyH.cons (o := _) rfl (fun K hK => ?_) ?_
      · go_simp
        refine (callL hh0 hyn HFL.out).mono ?_
        rintro e w3 ⟨rfl, hh3, hb3⟩
        refine hK.out _ _ hh3 (fun _ => ?_)
        clear hK K
        try simp only [Act.put, List.setIfInBounds_toArray]
        refine wpAnyH_ready (rs := [5]) (by kernel_rfl) (by simp) ?_
        refine AllReadyH.cons (o := _) rfl (fun K hK => ?_) AllReadyH.nil
        go_simp
        refine hK.out _ _ (hh3.alloc _) (fun _ => ?_)
        clear hK K
        try simp only [Act.put, List.setIfInBounds_toArray]
        refine wpAnyH_ready (rs := [6]) (by kernel_rfl) (by simp) ?_
        refine AllReadyH.cons (o := _) rfl (fun K hK => ?_) AllReadyH.nil
        go_simp
        refine (callOne (hh3.alloc _) t (flat ys) _ (by simp) ht.out (by omega)).mono ?_
        rintro e w4 ⟨rfl, hh4, hb4⟩
        refine hK.out _ _ hh4 (fun _ => ?_)
        clear hK K
        try simp only [Act.put, List.setIfInBounds_toArray]
        refine wpAnyH_take (i := 7) (oi := _) (v := .bool true) rfl (by kernel_rfl) (by kernel_rfl) (by kernel_rfl) (fun _ _ _ h => h) (Or.inl ⟨by rfl, fun w' h => by go_simp⟩) hh4 ?_
        refine wpAnyH_take (i := 8) (oi := _) (v := .bool true) rfl (by kernel_rfl) (by kernel_rfl) (by kernel_rfl) (fun _ _ _ h => h) (Or.inl ⟨by rfl, fun w' h => by go_simp⟩) hh4 ?_
        refine wpAnyH_take (i := 9) (oi := _) (v := .agg (keyCells k).toArray) rfl (by kernel_rfl) (by kernel_rfl) (by kernel_rfl) (fun _ _ _ h => h) (yieldsIf_load_mid (by rfl) 26 _ rfl B 0 rfl (keyCells k) _ (fun w' h => (key_facts h.key).1) hu26 rfl hs26) hh4 ?_
        refine wpAnyH_take (i := 11) (oi := _) (v := .agg (keyCells k).toArray) rfl (by kernel_rfl) (by kernel_rfl) (by kernel_rfl) (fun _ _ _ h => h) (yieldsIf_load_mid (by rfl) 26 _ rfl B 0 rfl (keyCells k) _ (fun w' h => (key_facts h.key).1) hu26 rfl hs26) hh4 ?_
        try simp only [Act.put, List.setIfInBounds_toArray]
        refine wpAnyH_ready (rs := [10, 12]) (by kernel_rfl) (by simp) ?_
        refine AllReadyH.cons (o := _) rfl (fun K hK => ?_) ?_
        · go_simp
          refine (callNil hh4).mono ?_
          rintro e w5 ⟨rfl, hh5, hb5⟩
          refine hK.out _ _ hh5 (fun _ => ?_)
          clear hK K
          try simp only [Act.put, List.setIfInBounds_toArray]
          refine wpAnyH_ready (rs := [12]) (by kernel_rfl) (by simp) ?_
          refine AllReadyH.cons (o := _) rfl (fun K hK => ?_) AllReadyH.nil
          go_simp
          refine hK.out _ _ (hh5.alloc _) (fun _ => ?_)
          clear hK K
          try simp only [Act.put, List.setIfInBounds_toArray]
          refine wpAnyH_ready (rs := [13]) (by kernel_rfl) (by simp) ?_
          refine AllReadyH.cons (o := _) rfl (fun K hK => ?_) AllReadyH.nil
          go_simp
          refine (callOne (hh5.alloc _) ⟨#[]⟩ [] _ (by simp) rfl (by decide)).mono ?_
          rintro e w6 ⟨rfl, hh6, hb6⟩
          refine hK.out _ _ hh6 (fun _ => ?_)
          clear hK K
          try simp only [Act.put, List.setIfInBounds_toArray]
          refine wpAnyH_take (i := 14) (oi := _) (v := .bool true) rfl (by kernel_rfl) (by kernel_rfl) (by kernel_rfl) (fun _ _ _ h => h) (Or.inl ⟨by rfl, fun w' h => by go_simp⟩) hh6 ?_
          try simp only [Act.put, List.setIfInBounds_toArray]
          refine wpAnyH_ready (rs := [15]) (by kernel_rfl) (by simp) ?_
          refine AllReadyH.cons (o := _) rfl (fun K hK => ?_) AllReadyH.nil
          go_simp
          refine hK.out _ _ hh6 (fun _ => ?_)
          clear hK K
          try simp only [Act.put, List.setIfInBounds_toArray]
          refine wpAnyH_ready (rs := [16]) (by kernel_rfl) (by simp) ?_
          refine AllReadyH.cons (o := _) rfl (fun K hK => ?_) AllReadyH.nil
          go_simp
          refine hK.out _ _ hh6 (fun _ => ?_)
          clear hK K
          try simp only [Act.put, List.setIfInBounds_toArray]
          refine wpAnyH_done (by kernel_rfl) ?_ _
          go_wp2_with fail
          go_ret
          exact ⟨rfl, hh6.bel⟩
        · refine AllReadyH.cons (o := _) rfl (fun K hK => ?_) AllReadyH.nil
          go_simp
          refine hK.out _ _ (hh4.alloc _) (fun _ => ?_)
          clear hK K
          try simp only [Act.put, List.setIfInBounds_toArray]
          refine wpAnyH_ready (rs := [10]) (by kernel_rfl) (by simp) ?_
          refine AllReadyH.cons (o := _) rfl (fun K hK => ?_) AllReadyH.nil
          go_simp
          refine (callNil (hh4.alloc _)).mono ?_
          rintro e w5 ⟨rfl, hh5, hb5⟩
          refine hK.out _ _ hh5 (fun _ => ?_)
          clear hK K
          try simp only [Act.put, List.setIfInBounds_toArray]
          refine wpAnyH_ready (rs := [13]) (by kernel_rfl) (by simp) ?_
          refine AllReadyH.cons (o := _) rfl (fun K hK => ?_) AllReadyH.nil
          go_simp
          refine (callOne hh5 ⟨#[]⟩ [] _ ((Below.cell hb5 (by simp)).trans (by simp [go_sem])) rfl (by decide)).mono ?_
          rintro e w6 ⟨rfl, hh6, hb6⟩
          refine hK.out _ _ hh6 (fun _ => ?_)
          clear hK K
          try simp only [Act.put, List.setIfInBounds_toArray]
          refine wpAnyH_take (i := 14) (oi := _) (v := .bool true) rfl (by kernel_rfl) (by kernel_rfl) (by kernel_rfl) (fun _ _ _ h => h) (Or.inl ⟨by rfl, fun w' h => by go_simp⟩) hh6 ?_
          try simp only [Act.put, List.setIfInBounds_toArray]
          refine wpAnyH_ready (rs := [15]) (by kernel_rfl) (by simp) ?_
          refine AllReadyH.cons (o := _) rfl (fun K hK => ?_) AllReadyH.nil
          go_simp
          refine hK.out _ _ hh6 (fun _ => ?_)
          clear hK K
          try simp only [Act.put, List.setIfInBounds_toArray]
          refine wpAnyH_ready (rs := [16]) (by kernel_rfl) (by simp) ?_
          refine AllReadyH.cons (o := _) rfl (fun K hK => ?_) AllReadyH.nil
          go_simp
          refine hK.out _ _ hh6 (fun _ => ?_)
          clear hK K
          try simp only [Act.put, List.setIfInBounds_toArray]
          refine wpAnyH_done (by kernel_rfl) ?_ _
          go_wp2_with fail
          go_ret
          exact ⟨rfl, hh6.bel⟩
      · refine AllReadyH.cons (o := _) rfl (fun K hK => ?_) AllReadyH.nil
        go_simp
        refine hK.out _ _ (hh0.alloc _) (fun _ => ?_)
        clear hK K
        try simp only [Act.put, List.setIfInBounds_toArray]
        refine wpAnyH_ready (rs := [2]) (by kernel_rfl) (by simp) ?_
        refine AllReadyH.cons (o := _) rfl (fun K hK => ?_) AllReadyH.nil
        go_simp
        refine (callL (hh0.alloc _) hyn HFL.out).mono ?_
        rintro e w3 ⟨rfl, hh3, hb3⟩
        refine hK.out _ _ hh3 (fun _ => ?_)
        clear hK K
        try simp only [Act.put, List.setIfInBounds_toArray]
        refine wpAnyH_ready (rs := [6]) (by kernel_rfl) (by simp) ?_
        refine AllReadyH.cons (o := _) rfl (fun K hK => ?_) AllReadyH.nil
        go_simp
        refine (callOne hh3 t (flat ys) _ ((Below.cell hb3 (by simp)).trans (by simp [go_sem])) ht.out (by omega)).mono ?_
        rintro e w4 ⟨rfl, hh4, hb4⟩
        refine hK.out _ _ hh4 (fun _ => ?_)
        clear hK K
        try simp only [Act.put, List.setIfInBounds_toArray]
        refine wpAnyH_take (i := 7) (oi := _) (v := .bool true) rfl (by kernel_rfl) (by kernel_rfl) (by kernel_rfl) (fun _ _ _ h => h) (Or.inl ⟨by rfl, fun w' h => by go_simp⟩) hh4 ?_
        refine wpAnyH_take (i := 8) (oi := _) (v := .bool true) rfl (by kernel_rfl) (by kernel_rfl) (by kernel_rfl) (fun _ _ _ h => h) (Or.inl ⟨by rfl, fun w' h => by go_simp⟩) hh4 ?_
        refine wpAnyH_take (i := 9) (oi := _) (v := .agg (keyCells k).toArray) rfl (by kernel_rfl) (by kernel_rfl) (by kernel_rfl) (fun _ _ _ h => h) (yieldsIf_load_mid (by rfl) 26 _ rfl B 0 rfl (keyCells k) _ (fun w' h => (key_facts h.key).1) hu26 rfl hs26) hh4 ?_
        refine wpAnyH_take (i := 11) (oi := _) (v := .agg (keyCells k).toArray) rfl (by kernel_rfl) (by kernel_rfl) (by kernel_rfl) (fun _ _ _ h => h) (yieldsIf_load_mid (by rfl) 26 _ rfl B 0 rfl (keyCells k) _ (fun w' h => (key_facts h.key).1) hu26 rfl hs26) hh4 ?_
        try simp only [Act.put, List.setIfInBounds_toArray]
        refine wpAnyH_ready (rs := [10, 12]) (by kernel_rfl) (by simp) ?_
        refine AllReadyH.cons (o := _) rfl (fun K hK => ?_) ?_
        · go_simp
          refine (callNil hh4).mono ?_
          rintro e w5 ⟨rfl, hh5, hb5⟩
          refine hK.out _ _ hh5 (fun _ => ?_)
          clear hK K
          try simp only [Act.put, List.setIfInBounds_toArray]
          refine wpAnyH_ready (rs := [12]) (by kernel_rfl) (by simp) ?_
          refine AllReadyH.cons (o := _) rfl (fun K hK => ?_) AllReadyH.nil
          go_simp
          refine hK.out _ _ (hh5.alloc _) (fun _ => ?_)
          clear hK K
          try simp only [Act.put, List.setIfInBounds_toArray]
          refine wpAnyH_ready (rs := [13]) (by kernel_rfl) (by simp) ?_
          refine AllReadyH.cons (o := _) rfl (fun K hK => ?_) AllReadyH.nil
          go_simp
          refine (callOne (hh5.alloc _) ⟨#[]⟩ [] _ (by simp) rfl (by decide)).mono ?_
          rintro e w6 ⟨rfl, hh6, hb6⟩
          refine hK.out _ _ hh6 (fun _ => ?_)
          clear hK K
          try simp only [Act.put, List.setIfInBounds_toArray]
          refine wpAnyH_take (i := 14) (oi := _) (v := .bool true) rfl (by kernel_rfl) (by kernel_rfl) (by kernel_rfl) (fun _ _ _ h => h) (Or.inl ⟨by rfl, fun w' h => by go_simp⟩) hh6 ?_
          try simp only [Act.put, List.setIfInBounds_toArray]
          refine wpAnyH_ready (rs := [15]) (by kernel_rfl) (by simp) ?_
          refine AllReadyH.cons (o := _) rfl (fun K hK => ?_) AllReadyH.nil
          go_simp
          refine hK.out _ _ hh6 (fun _ => ?_)
          clear hK K
          try simp only [Act.put, List.setIfInBounds_toArray]
          refine wpAnyH_ready (rs := [16]) (by kernel_rfl) (by simp) ?_
          refine AllReadyH.cons (o := _) rfl (fun K hK => ?_) AllReadyH.nil
          go_simp
          refine hK.out _ _ hh6 (fun _ => ?_)
          clear hK K
          try simp only [Act.put, List.setIfInBounds_toArray]
          refine wpAnyH_done (by kernel_rfl) ?_ _
          go_wp2_with fail
          go_ret
          exact ⟨rfl, hh6.bel⟩
        · refine AllReadyH.cons (o := _) rfl (fun K hK => ?_) AllReadyH.nil
          go_simp
          refine hK.out _ _ (hh4.alloc _) (fun _ => ?_)
          clear hK K
          try simp only [Act.put, List.setIfInBounds_toArray]
          refine wpAnyH_ready (rs := [10]) (by kernel_rfl) (by simp) ?_
          refine AllReadyH.cons (o := _) rfl (fun K hK => ?_) AllReadyH.nil
          go_simp
          refine (callNil (hh4.alloc _)).mono ?_
          rintro e w5 ⟨rfl, hh5, hb5⟩
          refine hK.out _ _ hh5 (fun _ => ?_)
          clear hK K
          try simp only [Act.put, List.setIfInBounds_toArray]
          refine wpAnyH_ready (rs := [13]) (by kernel_rfl) (by simp) ?_
          refine AllReadyH.cons (o := _) rfl (fun K hK => ?_) AllReadyH.nil
          go_simp
          refine (callOne hh5 ⟨#[]⟩ [] _ ((Below.cell hb5 (by simp)).trans (by simp [go_sem])) rfl (by decide)).mono ?_
          rintro e w6 ⟨rfl, hh6, hb6⟩
          refine hK.out _ _ hh6 (fun _ => ?_)
          clear hK K
          try simp only [Act.put, List.setIfInBounds_toArray]
          refine wpAnyH_take (i := 14) (oi := _) (v := .bool true) rfl (by kernel_rfl) (by kernel_rfl) (by kernel_rfl) (fun _ _ _ h => h) (Or.inl ⟨by rfl, fun w' h => by go_simp⟩) hh6 ?_
          try simp only [Act.put, List.setIfInBounds_toArray]
          refine wpAnyH_ready (rs := [15]) (by kernel_rfl) (by simp) ?_
          refine AllReadyH.cons (o := _) rfl (fun K hK => ?_) AllReadyH.nil
          go_simp
          refine hK.out _ _ hh6 (fun _ => ?_)
          clear hK K
          try simp only [Act.put, List.setIfInBounds_toArray]
          refine wpAnyH_ready (rs := [16]) (by kernel_rfl) (by simp) ?_
          refine AllReadyH.cons (o := _) rfl (fun K hK => ?_) AllReadyH.nil
          go_simp
          refine hK.out _ _ hh6 (fun _ => ?_)
          clear hK K
          try simp only [Act.put, List.setIfInBounds_toArray]
          refine wpAnyH_done (by kernel_rfl) ?_ _
          go_wp2_with fail
          go_ret
          exact ⟨rfl, hh6.bel⟩
end Go.Proofs.YtpmkcmkohobmfaaDoor
