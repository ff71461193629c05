/- BLAKE2s, the reference: block. -/
import Derived.Test.YtllmlngfmcbaaaaGreatDoorROrd
import Derived.Test.YtllmlngfmcbaaaaGreatDoorRefW
namespace Go.Proofs.YtllmlngfmcbaaaaGreatDoor
open Go.RowKit

theorem ownsRow_below {w w' : World} {base size n : Nat} {e : TypeId} {v : Value} {xs : List Value} (h : w.ownsRow base e size v n xs) (hb : Below w.heap.size w w') : w'.ownsRow base e size v n xs := by
  obtain ⟨hl, h | ⟨g, cap, cur, hv, hB, hg, rest⟩⟩ := h
  · exact ⟨hl, .inl h⟩
  · exact ⟨hl, .inr ⟨g, cap, cur, hv, hB, by rw [hb.block g (Array.getElem?_eq_some_iff.1 hg).1]; exact hg, rest⟩⟩
theorem wordsCells_snoc (n : Nat) (f : Nat → Int) : wordsCells n f ++ [.int .u32 (f n)] = wordsCells (n + 1) f := by
  simp [wordsCells, List.range_succ]
theorem start16 (q : Nat → Int) : wordsCells 8 q ++ wordsCells 8 iv = wordsCells 16 (fill q 8) := by rfl
theorem word_at (l : List UInt8) (hl : l.length = 64) (k : Nat) (hk : k < 16) : leW ((l.drop (4 * k)).take 4) % 4294967296 = wordsOf l k := by
  have hp : pad64 l = l := by
    unfold pad64
    apply List.ext_getElem
    · simp [hl]
    · intro i h1 h2
      simp [List.getD, h2]
  unfold wordsOf
  rw [hp]
  have h0 := leW_nonneg ((l.drop (4 * k)).take 4)
  have h1 := leW_lt ((l.drop (4 * k)).take 4)
  have h2 : ((l.drop (4 * k)).take 4).length = 4 := by rw [List.length_take, List.length_drop]; omega
  rw [h2] at h1
  omega
/-- So many mixings of the columns. -/
def half1 (f g : Nat → Int) (s : Nat → Nat) : Nat → Nat → Int
  | 0 => f
  | k + 1 => mixF (half1 f g s k) k (4 + k) (8 + k) (12 + k) (g (s (2 * k))) (g (s (2 * k + 1)))
/-- So many mixings of the diagonals. -/
def half2 (f g : Nat → Int) (s : Nat → Nat) : Nat → Nat → Int
  | 0 => f
  | k + 1 => mixF (half2 f g s k) k (4 + (k + 1) % 4) (8 + (k + 2) % 4) (12 + (k + 3) % 4) (g (s (8 + 2 * k))) (g (s (9 + 2 * k)))
theorem halves (f g : Nat → Int) (s : Nat → Nat) : half2 (half1 f g s 4) g s 4 = rowF f g s := rfl
theorem SW.drew {n : Nat} {w : World} {v : Value} {f : Nat → Int} (h : SW n w v f) : SW n w.drew v f := h
theorem xor_u32 (a b : Int) : bits .xor .u32 a b = ((BitVec.ofInt 32 a ^^^ BitVec.ofInt 32 b).toNat : Int) := by
  show IntKind.u32.wrap (((BitVec.ofInt 32 a ^^^ BitVec.ofInt 32 b).toNat : Nat) : Int) = _
  have := (BitVec.ofInt 32 a ^^^ BitVec.ofInt 32 b).isLt
  rw [IntKind.wrap_u32']
  omega
theorem x32_assoc (a b c : Int) : x32 (x32 a b) c = x32 a (x32 b c) := by
  unfold x32
  rw [xor_u32, xor_u32, xor_u32, xor_u32, BitVec.ofInt_natCast, BitVec.ofInt_natCast, BitVec.ofNat_toNat, BitVec.ofNat_toNat, BitVec.setWidth_eq, BitVec.setWidth_eq, BitVec.xor_assoc]
theorem not14 (q : Nat → Int) : x32 IntKind.u32.max (fill q 8 14) = 4294967295 - fill q 8 14 := by
  have : fill q 8 14 = iv 6 := rfl
  rw [this]
  decide +kernel

set_option maxRecDepth 100000 in
set_option maxHeartbeats 20000000 in
theorem rblock31 (hv : Value) (q : Nat → Int) (b : ByteArray) (hb64 : b.size = 64) (t : Int) (ht0 : 0 ≤ t) (ht1 : t < 4611686018427387904) (last : Bool) (w : World) (h : SW 8 w hv q) :
    Calls Tryz.prog 75 #[hv, .string b, .int .i64 t, .bool last] w fun e w' => ∃ v, e = .returned v ∧ SW 8 w' v (procF q (wordsOf b.data.toList) t last) ∧ Below w.heap.size w w' := by
  obtain ⟨i0, hi, hz0, hz1, hz2⟩ := info_parts info42
  have H0 := Lib.hid h
  have HB64 := Lib.hid hb64
  obtain ⟨l, hl⟩ : ∃ l, l = b.data.toList := ⟨_, rfl⟩
  have hll : l.length = 64 := by rw [hl, ← Lib.size_eq]; exact hb64
  have HL := Lib.hid hl
  have HLL := Lib.hid hll
  have hbs : (b.size : Int) ≤ 64 := by omega
  have hbs' : (64 : Int) ≤ b.size := by omega
  clear h hb64 hl hll
  go_enter Tryz.func75, Tryz.ntmps75
  go_wp2_with fail
  go_loopw [9, 10] (fun v i wr => ∃ k : Nat, k ≤ 16 ∧ i = .int .i64 ((4 * k : Nat) : Int) ∧ wr.ownsRow w.heap.size 88 1 v k (wordsCells k (wordsOf l)) ∧ Below w.heap.size w wr)
    (fun _ i _ => 64 - (intOf i).toNat)
  case atStart => exact ⟨0, by decide, rfl, World.ownsRow_made w #[] 0 (Nat.le_refl _) (Nat.zero_le _) rfl, below_alloc _ _⟩
  case round =>
    obtain ⟨k, hk, rfl, hown, hb⟩ := hrel
    have hsz := hb.size
    by_cases hlt : k < 16
    · obtain ⟨d, hd⟩ : ∃ d, d = 4 * k := ⟨_, rfl⟩
      rw [← hd]
      have he : b.extract d (d + 4) = ⟨((l.drop d).take 4).toArray⟩ := by
        rw [extract_list', show d + 4 - d = 4 by omega, HL.out]
      have hw := word_at l HLL.out k hlt
      rw [← hd] at hw
      have HW := Lib.hid hw
      have j1 : (d : Int) + 4 ≤ b.size := by omega
      have j2 : (0 : Int) ≤ (d : Int) + 4 := by omega
      have j3 : ((d : Int) + 4).toNat = d + 4 := by omega
      have j4 : IntKind.i64.wrap ((d : Int) + 4) = (d : Int) + 4 := IntWalk.i64_in _ (by omega)
      have j5 : (d : Int) < 64 := by omega
      have j6 : decide ((d : Int) < 64) = true := by simp; omega
      have j7 : (d : Int) ≤ (d : Int) + 4 := by omega
      have HD := Lib.hid hd
      clear hw hd
      go_wp2_with (first
        | (go_at_call 95; refine (calls_flop (word31 _ (by simp; omega) _)).mono ?_; rintro e w' ⟨rfl, rfl⟩)
        | (at_builtin; refine wpList_append_own _ rfl _ _ 100 rfl w.heap.size 88 i0 (.int .u32 0) 1 4 Tryz.underlying100 hi hz0 hz1 hz2 rfl (by decide) _ _ _ rfl (hown.alloc _) ⟨wr.heap.size, 0, none⟩ 1 1 [.int .u32 (leW ((l.drop d).take 4) % 4294967296)] rfl rfl ?c1 ?c2 ?c3 ?c4 ?c5 ?_))
      case c1 => intro i u hu; match i, hu with
        | 0, hu => obtain rfl : Value.int .u32 (leW ((l.drop d).take 4) % 4294967296) = u := Option.some.inj hu; rw [Addr.add_mid]; simp
        | i + 1, hu => simp at hu
      case c2 => intro u hu; simp at hu; subst hu; rfl
      case c3 => unfold maxLen; omega
      case c4 => omega
      case c5 => simp; omega
      intro v' w1 hown' hgrow _
      rw [HW.out, wordsCells_snoc] at hown'
      have hb1 : Below w.heap.size w w1 := by
        refine (hb.alloc hsz (.cells #[.int .u32 (leW ((l.drop d).take 4) % 4294967296)] 88)).grown hgrow (by simp; omega) (fun k hk => (hown.lt k hk).1)
      clear hown hgrow hsz hb he j1 j2 j3 j4 j6 j7
      go_wp2_with fail
      go_roundw
      case rel => exact ⟨k + 1, by omega, by have := HD.out; rw [show 4 * (k + 1) = d + 4 by omega]; go_num, hown', hb1⟩
      case measure => have := HD.out; simp [intOf]; omega
    · obtain rfl : k = 16 := by omega
      obtain ⟨⟨gm, capm, rfl, hgm, hcapm, hM⟩, _⟩ := sw_of_row (by decide) rfl hown
      have M : Hid (SW 16 wr (.slice (some ⟨gm, 0, none⟩) 16 capm) (wordsOf l)) := ⟨gm, capm, rfl, hgm, hcapm, hM⟩
      clear hown hgm hcapm hM
      have H : Hid (SW 8 wr hv q) := H0.out.below hb
      clear hlt hk hbs hbs'
      obtain ⟨g0, cap0, rfl, hg0, hcap0, hw0⟩ := H.out
      have hrow : ∀ (T : TypeId) j u, (wordsCells 8 q)[j]? = some u → (wr.alloc (.cells #[] T)).cell? ((⟨g0, 0, none⟩ : Addr).add j) = some u := fun T j u hu => by
        rw [Addr.add_mid]
        exact wordsCells_range (hw0.below (below_alloc _ _) hg0) j u hu
      have HR := Lib.hid hrow
      have hlen := wordsCells_length 8 q
      have hone : ∀ u ∈ wordsCells 8 q, u.oneCell' = true := fun u hu => by
        have := wordsCells_one 8 q
        rw [Array.all_eq_true_iff_forall_mem] at this
        exact this u (by simpa using hu)
      clear hw0 hrow hg0
      go_wp2_with (at_builtin; refine wpList_append_own _ rfl _ _ 100 rfl wr.heap.size 88 i0 (.int .u32 0) 1 4 Tryz.underlying100 hi hz0 hz1 hz2 rfl (by decide) _ _ _ rfl (World.ownsRow_made wr #[] 0 (Nat.le_refl _) (Nat.zero_le _) rfl) ⟨g0, 0, none⟩ 8 cap0 (wordsCells 8 q) rfl hlen (HR.out _) hone (by unfold maxLen; omega) (by omega) (by simp) ?_)
      intro v1 w1 hown1 hgrow1 _
      have hb1 : Below wr.heap.size wr w1 := ((Below.refl wr.heap.size wr).alloc (Nat.le_refl _) (.cells #[] 88)).grown hgrow1 (by simp) (fun k hk => by simp [Value.ownBlock] at hk; omega)
      clear hgrow1 HR hlen hone
      go_wp2_with fail
      refine (rfirst30 w1).mono ?_
      rintro e w2 ⟨rfl, hiv, hb2, hzf⟩
      have hown2 := ownsRow_below hown1 hb2
      have hbw2 : Below wr.heap.size wr w2 := hb1.trans (hb2.mono hb1.size)
      have hrow : ∀ j u, (wordsCells 8 iv)[j]? = some u → w2.cell? ((⟨w1.heap.size, 0, none⟩ : Addr).add j) = some u := fun j u hu => by
        rw [Addr.add_mid]
        exact wordsCells_range hiv j u hu
      have HR := Lib.hid hrow
      have hlen := wordsCells_length 8 iv
      have hone : ∀ u ∈ wordsCells 8 iv, u.oneCell' = true := fun u hu => by
        have := wordsCells_one 8 iv
        rw [Array.all_eq_true_iff_forall_mem] at this
        exact this u (by simpa using hu)
      have hsz2 := hbw2.size
      clear hrow hiv hown1 hb1 hb2
      go_wp2_with (at_builtin; refine wpList_append_own _ rfl _ _ 100 rfl wr.heap.size 88 i0 (.int .u32 0) 1 4 Tryz.underlying100 hi hz0 hz1 hz2 rfl (by decide) _ _ _ rfl hown2 ⟨w1.heap.size, 0, none⟩ 8 8 (wordsCells 8 iv) rfl hlen HR.out hone (by unfold maxLen; omega) (by omega) hsz2 ?_)
      intro v2 w3 hown3 hgrow3 _
      have hrow16 : w3.ownsRow wr.heap.size 88 1 v2 (8 + 8) (wordsCells 16 (fill q 8)) := by rw [← start16]; exact hown3
      have hlt2 := fun k hk => (hown2.lt k hk).1
      obtain ⟨⟨g, cap, rfl, hg, hcap, hw3⟩, hB⟩ := sw_of_row (n := 16) (by decide) rfl hrow16
      have hBg : wr.heap.size ≤ g := hB g rfl
      have hb3 : Below wr.heap.size wr w3 := hbw2.grown hgrow3 hsz2 hlt2
      have hone2 := hbw2
      clear hown3 hown2 hgrow3 hrow16 hlt2 hB hbw2 hsz2 HR hlen hone hone2 hzf
      generalize w1.heap.size = b36
      have V := Lib.hid hw3
      have k1 := (V.out 12 (by decide)).1
      have k2 := (V.out 12 (by decide)).2
      have k3 := (V.out 13 (by decide)).1
      have k4 := (V.out 13 (by decide)).2
      have k5 := (V.out 14 (by decide)).1
      have k6 := (V.out 14 (by decide)).2
      have t1 : IntKind.u32.wrap (t.tmod 4294967296) = t % 4294967296 := by rw [Int.tmod_eq_emod_of_nonneg ht0, IntKind.wrap_u32']; omega
      clear hw3
      cases last
      · go_wp2_with fail
        generalize hW : World.setCell _ _ _ = w4
        have hV : Words 16 w4 g (mixStart q t false) := by subst hW; exact (V.out.put 12 _).put 13 _
        have hon : Only g w3 w4 := by subst hW; exact ((Only.refl _ _).put _ _).put _ _
        have V4 := Lib.hid hV
        have Z4 : wr.heap.size ≤ w4.heap.size := by rw [hon.size]; exact hb3.size
        have hb4 : Below wr.heap.size wr w4 := hon.below hb3 hBg
        have hg4 : g < w4.heap.size := Nat.lt_of_lt_of_eq hg hon.size.symm
        clear hW hV k1 k2 k3 k4 k5 k6 hon V hg hb3 t1
        refine (rorders43 w4).mono ?_
        rintro e w5 ⟨vo, rfl, hO, hb5⟩
        obtain ⟨go, capo, rfl, hgo, hOr⟩ := hO
        have hb6 : Below wr.heap.size wr w5 := hb4.trans (hb5.mono Z4)
        have V5 : Hid (SW 16 w5 (.slice (some ⟨g, 0, none⟩) 16 cap) (mixStart q t false)) := ⟨g, cap, rfl, Nat.lt_of_lt_of_le hg4 hb5.size, hcap, V4.out.below hb5 hg4⟩
        have O5 : Hid (Ord w5 (.slice (some ⟨go, 0, none⟩) 10 capo)) := ⟨go, capo, rfl, hgo, hOr⟩
        have M5 : Hid (SW 16 w5 (.slice (some ⟨gm, 0, none⟩) 16 capm) (wordsOf l)) := M.out.below hb6
        have H5 : Hid (SW 8 w5 (.slice (some ⟨g0, 0, none⟩) 8 cap0) q) := H.out.below hb6
        have L5 : Below w.heap.size w w5 := hb.trans (hb6.mono hb.size)
        clear hb4 hb5 hb6 hgo hOr V4 M H hb Z4 hg4 hBg hcap
        go_wp2_with fail
        go_loopw [11, 13, 14, 15, 65] (fun v _ _ _ i wr => ∃ r : Nat, r ≤ 10 ∧ i = .int .i64 (r : Int) ∧ Hid (SW 16 wr v (rows (mixStart q t false) (wordsOf l) r)) ∧ Hid (Ord wr (.slice (some ⟨go, 0, none⟩) 10 capo)) ∧ Hid (SW 16 wr (.slice (some ⟨gm, 0, none⟩) 16 capm) (wordsOf l)) ∧ Hid (SW 8 wr (.slice (some ⟨g0, 0, none⟩) 8 cap0) q) ∧ Below w.heap.size w wr)
          (fun _ _ _ _ i _ => 10 - (intOf i).toNat)
        case atStart => exact ⟨0, by decide, rfl, V5, O5, M5, H5, L5⟩
        case round =>
          clear V5 O5 M5 H5 L5
          obtain ⟨r, hr, rfl, V, O, M, H, hb⟩ := hrel
          by_cases hlt : r < 10
          · obtain ⟨f, hf⟩ : ∃ f, f = rows (mixStart q t false) (wordsOf l) r := ⟨_, rfl⟩
            rw [← hf] at V
            have hf' : rows (mixStart q t false) (wordsOf l) (r + 1) = half2 (half1 f (wordsOf l) (perm r) 4) (wordsOf l) (perm r) 4 := by rw [hf, halves]; rfl
            have HF := Lib.hid hf'
            clear hf hf'
            obtain ⟨go', capo', ego, hgo, hOr⟩ := O.out
            obtain ⟨rfl, rfl⟩ : go = go' ∧ capo = capo' := by simpa using ego
            obtain ⟨gr, hr1, hr2, hr3⟩ := hOr r hlt
            have S : Hid (∀ i, i < 16 → wr.cell? ⟨gr, i, none⟩ = some (.int .i64 (perm r i : Nat))) := hr3
            clear hOr hr3 ego hgo
            have d2 : (r : Int) < 10 := by omega
            go_wp2_with fail
            obtain ⟨wo, rfl⟩ : ∃ wo : World, wo = wr := ⟨_, rfl⟩
            go_loopw [11, 14] (fun v i wq => ∃ j : Nat, j ≤ 4 ∧ i = .int .i64 (j : Int) ∧ Hid (SW 16 wq v (half1 f (wordsOf l) (perm r) j)) ∧ Below wo.heap.size wo wq)
              (fun _ i _ => 4 - (intOf i).toNat)
            case atStart => exact ⟨0, by decide, rfl, V, Below.refl _ _⟩
            case round =>
              clear V
              obtain ⟨j, hj, rfl, V, hbq⟩ := hrel
              by_cases hlj : j < 4
              · have MS : Hid (∀ i, i < 16 → wr.cell? ⟨gr, i, none⟩ = some (.int .i64 (perm r i : Nat))) := fun i hi => by rw [(bcell hbq).1 _ _ hr2]; exact S.out i hi
                obtain ⟨gv, capv, rfl, hgv, hcapv, hwv⟩ := V.out
                obtain ⟨gm', capm', em, hgm, hcapm, hwm⟩ := M.out.below hbq
                obtain ⟨rfl, rfl⟩ : gm = gm' ∧ capm = capm' := by simpa using em
                have WM := Lib.hid hwm
                clear hwv hwm em hgm hgv hcapv hcapm
                have w0 : IntKind.i64.wrap 0 = 0 := by decide
                have w1 : IntKind.i64.wrap 1 = 1 := by decide
                have w2 : IntKind.i64.wrap 2 = 2 := by decide
                have w3 : IntKind.i64.wrap 3 = 3 := by decide
                have w4 : IntKind.i64.wrap 4 = 4 := by decide
                have w5 : IntKind.i64.wrap 5 = 5 := by decide
                have w6 : IntKind.i64.wrap 6 = 6 := by decide
                have w7 : IntKind.i64.wrap 7 = 7 := by decide
                have w8 : IntKind.i64.wrap 8 = 8 := by decide
                have w9 : IntKind.i64.wrap 9 = 9 := by decide
                have w10 : IntKind.i64.wrap 10 = 10 := by decide
                have w11 : IntKind.i64.wrap 11 = 11 := by decide
                have w12 : IntKind.i64.wrap 12 = 12 := by decide
                have w13 : IntKind.i64.wrap 13 = 13 := by decide
                have w14 : IntKind.i64.wrap 14 = 14 := by decide
                have w15 : IntKind.i64.wrap 15 = 15 := by decide
                have t1 : (1 : Int).tmod 4 = 1 := by decide
                have t2 : (2 : Int).tmod 4 = 2 := by decide
                have t3 : (3 : Int).tmod 4 = 3 := by decide
                have t4 : (4 : Int).tmod 4 = 0 := by decide
                have t5 : (5 : Int).tmod 4 = 1 := by decide
                have t6 : (6 : Int).tmod 4 = 2 := by decide
                have hj4 : j = 0 ∨ j = 1 ∨ j = 2 ∨ j = 3 := by omega
                rcases hj4 with rfl | rfl | rfl | rfl
                · have s1 := MS.out 0 (by decide)
                  have s2 := MS.out 1 (by decide)
                  have p1 : (perm r 0 : Nat) < (16 : Int) := by have := perm_lt r hlt 0 (by decide); omega
                  have p2 : (perm r 1 : Nat) < (16 : Int) := by have := perm_lt r hlt 1 (by decide); omega
                  have m1 := (WM.out (perm r 0) (by omega)).1
                  have m2 := (WM.out (perm r 1) (by omega)).1
                  go_wp2_with fail
                  refine region_tail 25 (by kernel_rfl) (by kernel_rfl) ?_
                  simp only [List.take_succ_cons, List.take_zero, List.drop_succ_cons, List.drop_zero]
                  repeat still_step
                  refine still_tail_nil ?_
                  go_wp2_with fail
                  refine (rmixBody _ rfl (.slice (some ⟨gv, 0, none⟩) 16 capv) _ 0 4 8 12 _ _ (by decide) (by decide) (by decide) (by decide) _ V.out.drew).mono ?_
                  rintro e w9 ⟨v9, rfl, hv9, hb9⟩
                  have hbel : Below wo.heap.size wo w9 := hbq.drew.trans (hb9.mono hbq.size)
                  clear s1 s2 p1 p2 m1 m2 V MS WM hbq hb9
                  go_wp2_with fail
                  go_roundw
                  case rel => exact ⟨1, by decide, by go_num, hv9, hbel⟩
                  case measure => simp [intOf]
                · have s1 := MS.out 2 (by decide)
                  have s2 := MS.out 3 (by decide)
                  have p1 : (perm r 2 : Nat) < (16 : Int) := by have := perm_lt r hlt 2 (by decide); omega
                  have p2 : (perm r 3 : Nat) < (16 : Int) := by have := perm_lt r hlt 3 (by decide); omega
                  have m1 := (WM.out (perm r 2) (by omega)).1
                  have m2 := (WM.out (perm r 3) (by omega)).1
                  go_wp2_with fail
                  refine region_tail 25 (by kernel_rfl) (by kernel_rfl) ?_
                  simp only [List.take_succ_cons, List.take_zero, List.drop_succ_cons, List.drop_zero]
                  repeat still_step
                  refine still_tail_nil ?_
                  go_wp2_with fail
                  refine (rmixBody _ rfl (.slice (some ⟨gv, 0, none⟩) 16 capv) _ 1 5 9 13 _ _ (by decide) (by decide) (by decide) (by decide) _ V.out.drew).mono ?_
                  rintro e w9 ⟨v9, rfl, hv9, hb9⟩
                  have hbel : Below wo.heap.size wo w9 := hbq.drew.trans (hb9.mono hbq.size)
                  clear s1 s2 p1 p2 m1 m2 V MS WM hbq hb9
                  go_wp2_with fail
                  go_roundw
                  case rel => exact ⟨2, by decide, by go_num, hv9, hbel⟩
                  case measure => simp [intOf]
                · have s1 := MS.out 4 (by decide)
                  have s2 := MS.out 5 (by decide)
                  have p1 : (perm r 4 : Nat) < (16 : Int) := by have := perm_lt r hlt 4 (by decide); omega
                  have p2 : (perm r 5 : Nat) < (16 : Int) := by have := perm_lt r hlt 5 (by decide); omega
                  have m1 := (WM.out (perm r 4) (by omega)).1
                  have m2 := (WM.out (perm r 5) (by omega)).1
                  go_wp2_with fail
                  refine region_tail 25 (by kernel_rfl) (by kernel_rfl) ?_
                  simp only [List.take_succ_cons, List.take_zero, List.drop_succ_cons, List.drop_zero]
                  repeat still_step
                  refine still_tail_nil ?_
                  go_wp2_with fail
                  refine (rmixBody _ rfl (.slice (some ⟨gv, 0, none⟩) 16 capv) _ 2 6 10 14 _ _ (by decide) (by decide) (by decide) (by decide) _ V.out.drew).mono ?_
                  rintro e w9 ⟨v9, rfl, hv9, hb9⟩
                  have hbel : Below wo.heap.size wo w9 := hbq.drew.trans (hb9.mono hbq.size)
                  clear s1 s2 p1 p2 m1 m2 V MS WM hbq hb9
                  go_wp2_with fail
                  go_roundw
                  case rel => exact ⟨3, by decide, by go_num, hv9, hbel⟩
                  case measure => simp [intOf]
                · have s1 := MS.out 6 (by decide)
                  have s2 := MS.out 7 (by decide)
                  have p1 : (perm r 6 : Nat) < (16 : Int) := by have := perm_lt r hlt 6 (by decide); omega
                  have p2 : (perm r 7 : Nat) < (16 : Int) := by have := perm_lt r hlt 7 (by decide); omega
                  have m1 := (WM.out (perm r 6) (by omega)).1
                  have m2 := (WM.out (perm r 7) (by omega)).1
                  go_wp2_with fail
                  refine region_tail 25 (by kernel_rfl) (by kernel_rfl) ?_
                  simp only [List.take_succ_cons, List.take_zero, List.drop_succ_cons, List.drop_zero]
                  repeat still_step
                  refine still_tail_nil ?_
                  go_wp2_with fail
                  refine (rmixBody _ rfl (.slice (some ⟨gv, 0, none⟩) 16 capv) _ 3 7 11 15 _ _ (by decide) (by decide) (by decide) (by decide) _ V.out.drew).mono ?_
                  rintro e w9 ⟨v9, rfl, hv9, hb9⟩
                  have hbel : Below wo.heap.size wo w9 := hbq.drew.trans (hb9.mono hbq.size)
                  clear s1 s2 p1 p2 m1 m2 V MS WM hbq hb9
                  go_wp2_with fail
                  go_roundw
                  case rel => exact ⟨4, by decide, by go_num, hv9, hbel⟩
                  case measure => simp [intOf]
              · obtain rfl : j = 4 := by omega
                clear hlj hj
                obtain ⟨f2, hf2⟩ : ∃ f2, f2 = half1 f (wordsOf l) (perm r) 4 := ⟨_, rfl⟩
                rw [← hf2] at V
                have HF2 := Lib.hid hf2
                clear hf2
                go_wp2_with fail
                simp only [show ((4 : Nat) : Int) = 4 from rfl]
                obtain ⟨wi, hwi⟩ : ∃ wi : World, wi = wr := ⟨_, rfl⟩
                have V6 := V
                have hbq6 := hbq
                clear V hbq
                subst hwi
                go_loopw [11, 15] (fun v i wq => ∃ j : Nat, j ≤ 4 ∧ i = .int .i64 (j : Int) ∧ Hid (SW 16 wq v (half2 f2 (wordsOf l) (perm r) j)) ∧ Below wo.heap.size wo wq)
                  (fun _ i _ => 4 - (intOf i).toNat)
                case atStart => exact ⟨0, by decide, rfl, V6, hbq6⟩
                case round =>
                  clear V6 hbq6
                  obtain ⟨j, hj, rfl, V, hbq⟩ := hrel
                  by_cases hlj : j < 4
                  · have MS : Hid (∀ i, i < 16 → wr.cell? ⟨gr, i, none⟩ = some (.int .i64 (perm r i : Nat))) := fun i hi => by rw [(bcell hbq).1 _ _ hr2]; exact S.out i hi
                    obtain ⟨gv, capv, rfl, hgv, hcapv, hwv⟩ := V.out
                    obtain ⟨gm', capm', em, hgm, hcapm, hwm⟩ := M.out.below hbq
                    obtain ⟨rfl, rfl⟩ : gm = gm' ∧ capm = capm' := by simpa using em
                    have WM := Lib.hid hwm
                    clear hwv hwm em hgm hgv hcapv hcapm
                    have w0 : IntKind.i64.wrap 0 = 0 := by decide
                    have w1 : IntKind.i64.wrap 1 = 1 := by decide
                    have w2 : IntKind.i64.wrap 2 = 2 := by decide
                    have w3 : IntKind.i64.wrap 3 = 3 := by decide
                    have w4 : IntKind.i64.wrap 4 = 4 := by decide
                    have w5 : IntKind.i64.wrap 5 = 5 := by decide
                    have w6 : IntKind.i64.wrap 6 = 6 := by decide
                    have w7 : IntKind.i64.wrap 7 = 7 := by decide
                    have w8 : IntKind.i64.wrap 8 = 8 := by decide
                    have w9 : IntKind.i64.wrap 9 = 9 := by decide
                    have w10 : IntKind.i64.wrap 10 = 10 := by decide
                    have w11 : IntKind.i64.wrap 11 = 11 := by decide
                    have w12 : IntKind.i64.wrap 12 = 12 := by decide
                    have w13 : IntKind.i64.wrap 13 = 13 := by decide
                    have w14 : IntKind.i64.wrap 14 = 14 := by decide
                    have w15 : IntKind.i64.wrap 15 = 15 := by decide
                    have w16 : IntKind.i64.wrap 16 = 16 := by decide
                    have w17 : IntKind.i64.wrap 17 = 17 := by decide
                    have t1 : (1 : Int).tmod 4 = 1 := by decide
                    have t2 : (2 : Int).tmod 4 = 2 := by decide
                    have t3 : (3 : Int).tmod 4 = 3 := by decide
                    have t4 : (4 : Int).tmod 4 = 0 := by decide
                    have t5 : (5 : Int).tmod 4 = 1 := by decide
                    have t6 : (6 : Int).tmod 4 = 2 := by decide
                    have hj4 : j = 0 ∨ j = 1 ∨ j = 2 ∨ j = 3 := by omega
                    rcases hj4 with rfl | rfl | rfl | rfl
                    · have s1 := MS.out 8 (by decide)
                      have s2 := MS.out 9 (by decide)
                      have p1 : (perm r 8 : Nat) < (16 : Int) := by have := perm_lt r hlt 8 (by decide); omega
                      have p2 : (perm r 9 : Nat) < (16 : Int) := by have := perm_lt r hlt 9 (by decide); omega
                      have m1 := (WM.out (perm r 8) (by omega)).1
                      have m2 := (WM.out (perm r 9) (by omega)).1
                      go_wp2_with fail
                      refine region_tail 32 (by kernel_rfl) (by kernel_rfl) ?_
                      simp only [List.take_succ_cons, List.take_zero, List.drop_succ_cons, List.drop_zero]
                      repeat still_step
                      refine still_tail_nil ?_
                      go_wp2_with fail
                      refine (rmixBody _ rfl (.slice (some ⟨gv, 0, none⟩) 16 capv) _ 0 5 10 15 _ _ (by decide) (by decide) (by decide) (by decide) _ V.out.drew).mono ?_
                      rintro e w9 ⟨v9, rfl, hv9, hb9⟩
                      have hbel : Below wo.heap.size wo w9 := hbq.drew.trans (hb9.mono hbq.size)
                      clear s1 s2 p1 p2 m1 m2 V MS WM hbq hb9
                      go_wp2_with fail
                      go_roundw
                      case rel => exact ⟨1, by decide, by go_num, hv9, hbel⟩
                      case measure => simp [intOf]
                    · have s1 := MS.out 10 (by decide)
                      have s2 := MS.out 11 (by decide)
                      have p1 : (perm r 10 : Nat) < (16 : Int) := by have := perm_lt r hlt 10 (by decide); omega
                      have p2 : (perm r 11 : Nat) < (16 : Int) := by have := perm_lt r hlt 11 (by decide); omega
                      have m1 := (WM.out (perm r 10) (by omega)).1
                      have m2 := (WM.out (perm r 11) (by omega)).1
                      go_wp2_with fail
                      refine region_tail 32 (by kernel_rfl) (by kernel_rfl) ?_
                      simp only [List.take_succ_cons, List.take_zero, List.drop_succ_cons, List.drop_zero]
                      repeat still_step
                      refine still_tail_nil ?_
                      go_wp2_with fail
                      refine (rmixBody _ rfl (.slice (some ⟨gv, 0, none⟩) 16 capv) _ 1 6 11 12 _ _ (by decide) (by decide) (by decide) (by decide) _ V.out.drew).mono ?_
                      rintro e w9 ⟨v9, rfl, hv9, hb9⟩
                      have hbel : Below wo.heap.size wo w9 := hbq.drew.trans (hb9.mono hbq.size)
                      clear s1 s2 p1 p2 m1 m2 V MS WM hbq hb9
                      go_wp2_with fail
                      go_roundw
                      case rel => exact ⟨2, by decide, by go_num, hv9, hbel⟩
                      case measure => simp [intOf]
                    · have s1 := MS.out 12 (by decide)
                      have s2 := MS.out 13 (by decide)
                      have p1 : (perm r 12 : Nat) < (16 : Int) := by have := perm_lt r hlt 12 (by decide); omega
                      have p2 : (perm r 13 : Nat) < (16 : Int) := by have := perm_lt r hlt 13 (by decide); omega
                      have m1 := (WM.out (perm r 12) (by omega)).1
                      have m2 := (WM.out (perm r 13) (by omega)).1
                      go_wp2_with fail
                      refine region_tail 32 (by kernel_rfl) (by kernel_rfl) ?_
                      simp only [List.take_succ_cons, List.take_zero, List.drop_succ_cons, List.drop_zero]
                      repeat still_step
                      refine still_tail_nil ?_
                      go_wp2_with fail
                      refine (rmixBody _ rfl (.slice (some ⟨gv, 0, none⟩) 16 capv) _ 2 7 8 13 _ _ (by decide) (by decide) (by decide) (by decide) _ V.out.drew).mono ?_
                      rintro e w9 ⟨v9, rfl, hv9, hb9⟩
                      have hbel : Below wo.heap.size wo w9 := hbq.drew.trans (hb9.mono hbq.size)
                      clear s1 s2 p1 p2 m1 m2 V MS WM hbq hb9
                      go_wp2_with fail
                      go_roundw
                      case rel => exact ⟨3, by decide, by go_num, hv9, hbel⟩
                      case measure => simp [intOf]
                    · have s1 := MS.out 14 (by decide)
                      have s2 := MS.out 15 (by decide)
                      have p1 : (perm r 14 : Nat) < (16 : Int) := by have := perm_lt r hlt 14 (by decide); omega
                      have p2 : (perm r 15 : Nat) < (16 : Int) := by have := perm_lt r hlt 15 (by decide); omega
                      have m1 := (WM.out (perm r 14) (by omega)).1
                      have m2 := (WM.out (perm r 15) (by omega)).1
                      go_wp2_with fail
                      refine region_tail 32 (by kernel_rfl) (by kernel_rfl) ?_
                      simp only [List.take_succ_cons, List.take_zero, List.drop_succ_cons, List.drop_zero]
                      repeat still_step
                      refine still_tail_nil ?_
                      go_wp2_with fail
                      refine (rmixBody _ rfl (.slice (some ⟨gv, 0, none⟩) 16 capv) _ 3 4 9 14 _ _ (by decide) (by decide) (by decide) (by decide) _ V.out.drew).mono ?_
                      rintro e w9 ⟨v9, rfl, hv9, hb9⟩
                      have hbel : Below wo.heap.size wo w9 := hbq.drew.trans (hb9.mono hbq.size)
                      clear s1 s2 p1 p2 m1 m2 V MS WM hbq hb9
                      go_wp2_with fail
                      go_roundw
                      case rel => exact ⟨4, by decide, by go_num, hv9, hbel⟩
                      case measure => simp [intOf]
                  · obtain rfl : j = 4 := by omega
                    clear hlj hj
                    have V9 : Hid (SW 16 wr u11 (rows (mixStart q t false) (wordsOf l) (r + 1))) := by rw [HF.out, ← HF2.out]; exact V
                    clear V HF HF2
                    go_wp2_with fail
                    go_roundw
                    case rel => exact ⟨r + 1, by omega, by go_num, V9, O.out.below hbq, M.out.below hbq, H.out.below hbq, hb.trans (hbq.mono hb.size)⟩
                    case measure => simp [intOf]; omega
          · obtain rfl : r = 10 := by omega
            clear hlt hr
            obtain ⟨f, hf⟩ : ∃ f, f = rows (mixStart q t false) (wordsOf l) 10 := ⟨_, rfl⟩
            rw [← hf] at V
            have hfp : ∀ i, x32 (x32 (q i) (f i)) (f (8 + i)) = procF q (wordsOf l) t false i := fun i => by unfold procF; rw [x32_assoc, hf]
            have HFP := Lib.hid hfp
            clear hf hfp
            obtain ⟨gv, capv, rfl, hgv, hcapv, hwv⟩ := V.out
            obtain ⟨gh, caph, eh, hgh, hcaph, hwh⟩ := H.out
            obtain ⟨rfl, rfl⟩ : g0 = gh ∧ cap0 = caph := by simpa using eh
            have WV := Lib.hid hwv
            have WH := Lib.hid hwh
            clear V H O M hwv hwh eh
            go_wp2_with fail
            generalize (Value.int .i64 ((10 : Nat) : Int)) = v10
            obtain ⟨wo, hwo⟩ : ∃ wo : World, wo = wr := ⟨_, rfl⟩
            have hbo := hb
            clear hb
            subst hwo
            have hso := hbo.size
            go_loopw [16, 17, 140] (fun v _ i wq => ∃ k : Nat, k ≤ 8 ∧ i = .int .i64 (k : Int) ∧ wq.ownsRow wo.heap.size 88 1 v k (wordsCells k (procF q (wordsOf l) t false)) ∧ Below wo.heap.size wo wq)
              (fun _ _ i _ => 8 - (intOf i).toNat)
            case atStart => exact ⟨0, by decide, rfl, World.ownsRow_made wo #[] 0 (Nat.le_refl _) (Nat.zero_le _) rfl, below_alloc _ _⟩
            case round =>
              obtain ⟨k, hk, rfl, hown, hbq⟩ := hrel
              have hsz := hbq.size
              by_cases hlt : k < 8
              · have m1 := ((WH.out.below hbq hgh) k hlt).1
                have m2 := ((WV.out.below hbq hgv) k (by omega)).1
                have m3 := ((WV.out.below hbq hgv) (8 + k) (by omega)).1
                have j1 : (k : Int) < 8 := by omega
                have j2 : (k : Int) < 16 := by omega
                have j3 : IntKind.i64.wrap ((k : Int) + 8) = (k : Int) + 8 := IntWalk.i64_in _ (by omega)
                have j4 : ((k : Int) + 8).toNat = 8 + k := by omega
                have j5 : (k : Int) + 8 < 16 := by omega
                have j6 : (0 : Int) ≤ (k : Int) + 8 := by omega
                have j7 : decide ((k : Int) < 8) = true := by simp; omega
                go_wp2_with fail
                have hfp := HFP.out k
                refine region_mixt 18 [some (u16), some (.slice (some ⟨g0, 0, none⟩) 8 cap0), some (.int .i64 (k : Int)), some (.pointer (some ⟨g0, k, none⟩)), some (.int .u32 (q k)), some (.slice (some ⟨gv, 0, none⟩) 16 capv), some (.int .i64 (k : Int)), some (.pointer (some ⟨gv, k, none⟩)), some (.int .u32 (f k)), some (.int .u32 (bits .xor .u32 (q k) (f k))), some (.slice (some ⟨gv, 0, none⟩) 16 capv), some (.int .i64 (k : Int)), some (.int .i64 ((k : Int) + 8)), some (.pointer (some ⟨gv, 8 + k, none⟩)), some (.int .u32 (f (8 + k))), some (.int .u32 (procF q (wordsOf l) t false k)), none, none]
                  [[false, false, false, false, false, false, false, false, false, false, false, false, false, false, false, false, false, false], [false, false, false, false, false, false, false, false, false, false, false, false, false, false, false, false, false, false], [false, false, false, false, false, false, false, false, false, false, false, false, false, false, false, false, false, false], [false, true, true, false, false, false, false, false, false, false, false, false, false, false, false, false, false, false], [false, false, false, true, false, false, false, false, false, false, false, false, false, false, false, false, false, false], [false, false, false, false, false, false, false, false, false, false, false, false, false, false, false, false, false, false], [false, false, false, false, false, false, false, false, false, false, false, false, false, false, false, false, false, false], [false, false, false, false, false, true, true, false, false, false, false, false, false, false, false, false, false, false], [false, false, false, false, false, false, false, true, false, false, false, false, false, false, false, false, false, false], [false, false, false, false, true, false, false, false, true, false, false, false, false, false, false, false, false, false], [false, false, false, false, false, false, false, false, false, false, false, false, false, false, false, false, false, false], [false, false, false, false, false, false, false, false, false, false, false, false, false, false, false, false, false, false], [false, false, false, false, false, false, false, false, false, false, false, true, false, false, false, false, false, false], [false, false, false, false, false, false, false, false, false, false, true, false, true, false, false, false, false, false], [false, false, false, false, false, false, false, false, false, false, false, false, false, true, false, false, false, false], [false, false, false, false, false, false, false, false, false, true, false, false, false, false, true, false, false, false], [false, false, false, false, false, false, false, false, false, false, false, false, false, false, false, true, false, false], [true, false, false, false, false, false, false, false, false, false, false, false, false, false, false, false, true, false]]
                  (fun L x w1 => Below wo.heap.size wo w1 ∧ (L 17 = false → w1.ownsRow wo.heap.size 88 1 u16 k (wordsCells k (procF q (wordsOf l) t false))) ∧ (L 16 = true → L 17 = false → ∃ b, x 16 = .slice (some ⟨b, 0, none⟩) 1 1 ∧ w1.cell? ⟨b, 0, none⟩ = some (.int .u32 (procF q (wordsOf l) t false k))) ∧ (L 17 = true → L 16 = true ∧ w1.ownsRow wo.heap.size 88 1 (x 17) (k + 1) (wordsCells (k + 1) (procF q (wordsOf l) t false))))
                  (by kernel_rfl) (by kernel_rfl) (by kernel_rfl) (by kernel_rfl) (by kernel_rfl) (by decide) ?_ ?_ ?_
                · intro _
                  exact ⟨hbq.drew, fun _ => hown, fun h _ => (by cases h), fun h => (by cases h)⟩
                · simp only [List.take_succ_cons, List.take_zero]
                  refine ⟨?_, ?_, ?_, ?_, ?_, ?_, ?_, ?_, ?_, ?_, ?_, ?_, ?_, ?_, ?_, ?_, ?_, ?_, trivial⟩
                  all_goals
                    intro L x w9 hS hl hp K hK
                    have c1 := hS.1
                    have c2 := hS.2.1
                    have c3 := hS.2.2.1
                    have c4 := hS.2.2.2
                    have m1 := ((WH.out.below c1 hgh) k hlt).1
                    have m2 := ((WV.out.below c1 hgv) k (by omega)).1
                    have m3 := ((WV.out.below c1 hgv) (8 + k) (by omega)).1
                    clear hS hown hbq
                    replace hK := hK.out
                    simp only [actMix, pickV, List.tail_cons, List.headD_cons, Act.put, List.setIfInBounds_toArray, List.set_cons_zero, List.set_cons_succ] at hK ⊢
                  iterate 15
                    · clear hp
                      go_simp
                      with_reducible refine hK _ ?_
                      exact ⟨c1, fun h => c2 (by simpa [setL] using h), fun h h' => (by simpa [updV] using c3 (by simpa [setL] using h) (by simpa [setL] using h')), fun h => (by simpa [updV, setL] using c4 (by simpa [setL] using h))⟩
                  · clear hp
                    unfold x32 at hfp
                    go_simp
                    with_reducible refine hK _ ?_
                    exact ⟨c1, fun h => c2 (by simpa [setL] using h), fun h h' => (by simpa [updV] using c3 (by simpa [setL] using h) (by simpa [setL] using h')), fun h => (by simpa [updV, setL] using c4 (by simpa [setL] using h))⟩
                  · have h17 : L 17 = false := by
                      cases h : L 17 with
                      | false => rfl
                      | true => have := (c4 h).1; rw [hl] at this; cases this
                    have c2' := c2 h17
                    have hs9 := c1.size
                    clear hp c2 c3 c4 m1 m2 m3
                    go_simp
                    with_reducible refine hK _ _ ?_
                    refine ⟨c1.alloc hs9 _, fun _ => c2'.alloc _, fun _ _ => ⟨w9.heap.size, by simp [updV], by simp⟩, fun h => ?_⟩
                    simp [setL, h17] at h
                  · have h16 : L 16 = true := allL_mem hp 16 (by decide +kernel)
                    have c2' := c2 hl
                    obtain ⟨b9, hx9, hc9⟩ := c3 h16 hl
                    have hs9 := c1.size
                    clear hp c2 c3 c4 m1 m2 m3
                    rw [hx9] at hK ⊢
                    rw [if_pos (by rfl)]
                    refine wp_append_own _ _ _ 100 rfl wo.heap.size 88 i0 (.int .u32 0) 1 4 Tryz.underlying100 hi hz0 hz1 hz2 rfl (by decide) _ _ _ rfl c2' ⟨b9, 0, none⟩ 1 1 [.int .u32 (procF q (wordsOf l) t false k)] rfl rfl ?_ ?_ ?_ ?_ hs9 ?_
                    · intro i u hu
                      match i, hu with
                      | 0, hu => obtain rfl : Value.int .u32 (procF q (wordsOf l) t false k) = u := Option.some.inj hu; rw [Addr.add_mid]; exact hc9
                      | i + 1, hu => simp at hu
                    · intro u hu; simp at hu; subst hu; rfl
                    · unfold maxLen; omega
                    · omega
                    intro v' w1 hown1 hgrow _
                    rw [wordsCells_snoc] at hown1
                    have hb1 : Below wo.heap.size wo w1 := c1.grown hgrow hs9 (fun k hk => (c2'.lt k hk).1)
                    simp only [Act.put, List.setIfInBounds_toArray, List.set_cons_zero, List.set_cons_succ]
                    with_reducible refine hK _ _ ?_
                    refine ⟨hb1, fun h => ?_, fun _ h => ?_, fun _ => ⟨by simp [setL, h16], by simpa [updV] using hown1⟩⟩
                    · simp [setL] at h
                    · simp [setL] at h
                intro L x w9 hS hL
                have c1 := hS.1
                have c4 := (hS.2.2.2 (hL 17 (by decide))).2
                have hb1 := c1
                have hown1 := c4
                clear hS hL hown hbq m1 m2 m3 j3 j4 hfp
                simp only [actMix, pickV, List.tail_cons, List.headD_cons, Act.put, List.setIfInBounds_toArray, List.set_cons_zero, List.set_cons_succ, List.replicate_succ, List.replicate_zero, List.drop_succ_cons, List.drop_zero, List.take_succ_cons, List.take_zero]
                go_wp2_with fail
                go_roundw
                case rel => exact ⟨k + 1, by omega, by go_num, hown1, hb1⟩
                case measure => simp [intOf]; omega
              · obtain rfl : k = 8 := by omega
                obtain ⟨hsw, _⟩ := sw_of_row (by decide) rfl hown
                have hbel := hbo.trans (hbq.mono hso)
                have HSW := Lib.hid hsw
                clear hown hsw hbq
                go_wp2_with fail
                go_ret
                exact ⟨_, rfl, by rw [← HL.out]; exact HSW.out, hbel⟩
      · go_wp2_with fail
        generalize hW : World.setCell _ _ _ = w4
        have h14 : (4294967295 - fill q 8 14) % 4294967296 = x32 IntKind.u32.max (fill q 8 14) := by
          show (4294967295 - iv 6) % 4294967296 = x32 IntKind.u32.max (iv 6)
          decide +kernel
        have hV : Words 16 w4 g (mixStart q t true) := by
          have hm : mixStart q t true = upd (upd (upd (fill q 8) 12 (x32 (fill q 8 12) (t % 4294967296))) 13 (x32 (fill q 8 13) (t / 4294967296))) 14 ((4294967295 - fill q 8 14) % 4294967296) := by rw [h14]; rfl
          rw [hm]
          subst hW
          exact ((V.out.put 12 _).put 13 _).put 14 _
        have hon : Only g w3 w4 := by subst hW; exact (((Only.refl _ _).put _ _).put _ _).put _ _
        have V4 := Lib.hid hV
        have Z4 : wr.heap.size ≤ w4.heap.size := by rw [hon.size]; exact hb3.size
        have hb4 : Below wr.heap.size wr w4 := hon.below hb3 hBg
        have hg4 : g < w4.heap.size := Nat.lt_of_lt_of_eq hg hon.size.symm
        clear hW hV k1 k2 k3 k4 k5 k6 hon V hg hb3 t1
        refine (rorders43 w4).mono ?_
        rintro e w5 ⟨vo, rfl, hO, hb5⟩
        obtain ⟨go, capo, rfl, hgo, hOr⟩ := hO
        have hb6 : Below wr.heap.size wr w5 := hb4.trans (hb5.mono Z4)
        have V5 : Hid (SW 16 w5 (.slice (some ⟨g, 0, none⟩) 16 cap) (mixStart q t true)) := ⟨g, cap, rfl, Nat.lt_of_lt_of_le hg4 hb5.size, hcap, V4.out.below hb5 hg4⟩
        have O5 : Hid (Ord w5 (.slice (some ⟨go, 0, none⟩) 10 capo)) := ⟨go, capo, rfl, hgo, hOr⟩
        have M5 : Hid (SW 16 w5 (.slice (some ⟨gm, 0, none⟩) 16 capm) (wordsOf l)) := M.out.below hb6
        have H5 : Hid (SW 8 w5 (.slice (some ⟨g0, 0, none⟩) 8 cap0) q) := H.out.below hb6
        have L5 : Below w.heap.size w w5 := hb.trans (hb6.mono hb.size)
        clear hb4 hb5 hb6 hgo hOr V4 M H hb Z4 hg4 hBg hcap
        go_wp2_with fail
        go_loopw [11, 13, 14, 15, 65] (fun v _ _ _ i wr => ∃ r : Nat, r ≤ 10 ∧ i = .int .i64 (r : Int) ∧ Hid (SW 16 wr v (rows (mixStart q t true) (wordsOf l) r)) ∧ Hid (Ord wr (.slice (some ⟨go, 0, none⟩) 10 capo)) ∧ Hid (SW 16 wr (.slice (some ⟨gm, 0, none⟩) 16 capm) (wordsOf l)) ∧ Hid (SW 8 wr (.slice (some ⟨g0, 0, none⟩) 8 cap0) q) ∧ Below w.heap.size w wr)
          (fun _ _ _ _ i _ => 10 - (intOf i).toNat)
        case atStart => exact ⟨0, by decide, rfl, V5, O5, M5, H5, L5⟩
        case round =>
          clear V5 O5 M5 H5 L5
          obtain ⟨r, hr, rfl, V, O, M, H, hb⟩ := hrel
          by_cases hlt : r < 10
          · obtain ⟨f, hf⟩ : ∃ f, f = rows (mixStart q t true) (wordsOf l) r := ⟨_, rfl⟩
            rw [← hf] at V
            have hf' : rows (mixStart q t true) (wordsOf l) (r + 1) = half2 (half1 f (wordsOf l) (perm r) 4) (wordsOf l) (perm r) 4 := by rw [hf, halves]; rfl
            have HF := Lib.hid hf'
            clear hf hf'
            obtain ⟨go', capo', ego, hgo, hOr⟩ := O.out
            obtain ⟨rfl, rfl⟩ : go = go' ∧ capo = capo' := by simpa using ego
            obtain ⟨gr, hr1, hr2, hr3⟩ := hOr r hlt
            have S : Hid (∀ i, i < 16 → wr.cell? ⟨gr, i, none⟩ = some (.int .i64 (perm r i : Nat))) := hr3
            clear hOr hr3 ego hgo
            have d2 : (r : Int) < 10 := by omega
            go_wp2_with fail
            obtain ⟨wo, rfl⟩ : ∃ wo : World, wo = wr := ⟨_, rfl⟩
            go_loopw [11, 14] (fun v i wq => ∃ j : Nat, j ≤ 4 ∧ i = .int .i64 (j : Int) ∧ Hid (SW 16 wq v (half1 f (wordsOf l) (perm r) j)) ∧ Below wo.heap.size wo wq)
              (fun _ i _ => 4 - (intOf i).toNat)
            case atStart => exact ⟨0, by decide, rfl, V, Below.refl _ _⟩
            case round =>
              clear V
              obtain ⟨j, hj, rfl, V, hbq⟩ := hrel
              by_cases hlj : j < 4
              · have MS : Hid (∀ i, i < 16 → wr.cell? ⟨gr, i, none⟩ = some (.int .i64 (perm r i : Nat))) := fun i hi => by rw [(bcell hbq).1 _ _ hr2]; exact S.out i hi
                obtain ⟨gv, capv, rfl, hgv, hcapv, hwv⟩ := V.out
                obtain ⟨gm', capm', em, hgm, hcapm, hwm⟩ := M.out.below hbq
                obtain ⟨rfl, rfl⟩ : gm = gm' ∧ capm = capm' := by simpa using em
                have WM := Lib.hid hwm
                clear hwv hwm em hgm hgv hcapv hcapm
                have w0 : IntKind.i64.wrap 0 = 0 := by decide
                have w1 : IntKind.i64.wrap 1 = 1 := by decide
                have w2 : IntKind.i64.wrap 2 = 2 := by decide
                have w3 : IntKind.i64.wrap 3 = 3 := by decide
                have w4 : IntKind.i64.wrap 4 = 4 := by decide
                have w5 : IntKind.i64.wrap 5 = 5 := by decide
                have w6 : IntKind.i64.wrap 6 = 6 := by decide
                have w7 : IntKind.i64.wrap 7 = 7 := by decide
                have w8 : IntKind.i64.wrap 8 = 8 := by decide
                have w9 : IntKind.i64.wrap 9 = 9 := by decide
                have w10 : IntKind.i64.wrap 10 = 10 := by decide
                have w11 : IntKind.i64.wrap 11 = 11 := by decide
                have w12 : IntKind.i64.wrap 12 = 12 := by decide
                have w13 : IntKind.i64.wrap 13 = 13 := by decide
                have w14 : IntKind.i64.wrap 14 = 14 := by decide
                have w15 : IntKind.i64.wrap 15 = 15 := by decide
                have t1 : (1 : Int).tmod 4 = 1 := by decide
                have t2 : (2 : Int).tmod 4 = 2 := by decide
                have t3 : (3 : Int).tmod 4 = 3 := by decide
                have t4 : (4 : Int).tmod 4 = 0 := by decide
                have t5 : (5 : Int).tmod 4 = 1 := by decide
                have t6 : (6 : Int).tmod 4 = 2 := by decide
                have hj4 : j = 0 ∨ j = 1 ∨ j = 2 ∨ j = 3 := by omega
                rcases hj4 with rfl | rfl | rfl | rfl
                · have s1 := MS.out 0 (by decide)
                  have s2 := MS.out 1 (by decide)
                  have p1 : (perm r 0 : Nat) < (16 : Int) := by have := perm_lt r hlt 0 (by decide); omega
                  have p2 : (perm r 1 : Nat) < (16 : Int) := by have := perm_lt r hlt 1 (by decide); omega
                  have m1 := (WM.out (perm r 0) (by omega)).1
                  have m2 := (WM.out (perm r 1) (by omega)).1
                  go_wp2_with fail
                  refine region_tail 25 (by kernel_rfl) (by kernel_rfl) ?_
                  simp only [List.take_succ_cons, List.take_zero, List.drop_succ_cons, List.drop_zero]
                  repeat still_step
                  refine still_tail_nil ?_
                  go_wp2_with fail
                  refine (rmixBody _ rfl (.slice (some ⟨gv, 0, none⟩) 16 capv) _ 0 4 8 12 _ _ (by decide) (by decide) (by decide) (by decide) _ V.out.drew).mono ?_
                  rintro e w9 ⟨v9, rfl, hv9, hb9⟩
                  have hbel : Below wo.heap.size wo w9 := hbq.drew.trans (hb9.mono hbq.size)
                  clear s1 s2 p1 p2 m1 m2 V MS WM hbq hb9
                  go_wp2_with fail
                  go_roundw
                  case rel => exact ⟨1, by decide, by go_num, hv9, hbel⟩
                  case measure => simp [intOf]
                · have s1 := MS.out 2 (by decide)
                  have s2 := MS.out 3 (by decide)
                  have p1 : (perm r 2 : Nat) < (16 : Int) := by have := perm_lt r hlt 2 (by decide); omega
                  have p2 : (perm r 3 : Nat) < (16 : Int) := by have := perm_lt r hlt 3 (by decide); omega
                  have m1 := (WM.out (perm r 2) (by omega)).1
                  have m2 := (WM.out (perm r 3) (by omega)).1
                  go_wp2_with fail
                  refine region_tail 25 (by kernel_rfl) (by kernel_rfl) ?_
                  simp only [List.take_succ_cons, List.take_zero, List.drop_succ_cons, List.drop_zero]
                  repeat still_step
                  refine still_tail_nil ?_
                  go_wp2_with fail
                  refine (rmixBody _ rfl (.slice (some ⟨gv, 0, none⟩) 16 capv) _ 1 5 9 13 _ _ (by decide) (by decide) (by decide) (by decide) _ V.out.drew).mono ?_
                  rintro e w9 ⟨v9, rfl, hv9, hb9⟩
                  have hbel : Below wo.heap.size wo w9 := hbq.drew.trans (hb9.mono hbq.size)
                  clear s1 s2 p1 p2 m1 m2 V MS WM hbq hb9
                  go_wp2_with fail
                  go_roundw
                  case rel => exact ⟨2, by decide, by go_num, hv9, hbel⟩
                  case measure => simp [intOf]
                · have s1 := MS.out 4 (by decide)
                  have s2 := MS.out 5 (by decide)
                  have p1 : (perm r 4 : Nat) < (16 : Int) := by have := perm_lt r hlt 4 (by decide); omega
                  have p2 : (perm r 5 : Nat) < (16 : Int) := by have := perm_lt r hlt 5 (by decide); omega
                  have m1 := (WM.out (perm r 4) (by omega)).1
                  have m2 := (WM.out (perm r 5) (by omega)).1
                  go_wp2_with fail
                  refine region_tail 25 (by kernel_rfl) (by kernel_rfl) ?_
                  simp only [List.take_succ_cons, List.take_zero, List.drop_succ_cons, List.drop_zero]
                  repeat still_step
                  refine still_tail_nil ?_
                  go_wp2_with fail
                  refine (rmixBody _ rfl (.slice (some ⟨gv, 0, none⟩) 16 capv) _ 2 6 10 14 _ _ (by decide) (by decide) (by decide) (by decide) _ V.out.drew).mono ?_
                  rintro e w9 ⟨v9, rfl, hv9, hb9⟩
                  have hbel : Below wo.heap.size wo w9 := hbq.drew.trans (hb9.mono hbq.size)
                  clear s1 s2 p1 p2 m1 m2 V MS WM hbq hb9
                  go_wp2_with fail
                  go_roundw
                  case rel => exact ⟨3, by decide, by go_num, hv9, hbel⟩
                  case measure => simp [intOf]
                · have s1 := MS.out 6 (by decide)
                  have s2 := MS.out 7 (by decide)
                  have p1 : (perm r 6 : Nat) < (16 : Int) := by have := perm_lt r hlt 6 (by decide); omega
                  have p2 : (perm r 7 : Nat) < (16 : Int) := by have := perm_lt r hlt 7 (by decide); omega
                  have m1 := (WM.out (perm r 6) (by omega)).1
                  have m2 := (WM.out (perm r 7) (by omega)).1
                  go_wp2_with fail
                  refine region_tail 25 (by kernel_rfl) (by kernel_rfl) ?_
                  simp only [List.take_succ_cons, List.take_zero, List.drop_succ_cons, List.drop_zero]
                  repeat still_step
                  refine still_tail_nil ?_
                  go_wp2_with fail
                  refine (rmixBody _ rfl (.slice (some ⟨gv, 0, none⟩) 16 capv) _ 3 7 11 15 _ _ (by decide) (by decide) (by decide) (by decide) _ V.out.drew).mono ?_
                  rintro e w9 ⟨v9, rfl, hv9, hb9⟩
                  have hbel : Below wo.heap.size wo w9 := hbq.drew.trans (hb9.mono hbq.size)
                  clear s1 s2 p1 p2 m1 m2 V MS WM hbq hb9
                  go_wp2_with fail
                  go_roundw
                  case rel => exact ⟨4, by decide, by go_num, hv9, hbel⟩
                  case measure => simp [intOf]
              · obtain rfl : j = 4 := by omega
                clear hlj hj
                obtain ⟨f2, hf2⟩ : ∃ f2, f2 = half1 f (wordsOf l) (perm r) 4 := ⟨_, rfl⟩
                rw [← hf2] at V
                have HF2 := Lib.hid hf2
                clear hf2
                go_wp2_with fail
                simp only [show ((4 : Nat) : Int) = 4 from rfl]
                obtain ⟨wi, hwi⟩ : ∃ wi : World, wi = wr := ⟨_, rfl⟩
                have V6 := V
                have hbq6 := hbq
                clear V hbq
                subst hwi
                go_loopw [11, 15] (fun v i wq => ∃ j : Nat, j ≤ 4 ∧ i = .int .i64 (j : Int) ∧ Hid (SW 16 wq v (half2 f2 (wordsOf l) (perm r) j)) ∧ Below wo.heap.size wo wq)
                  (fun _ i _ => 4 - (intOf i).toNat)
                case atStart => exact ⟨0, by decide, rfl, V6, hbq6⟩
                case round =>
                  clear V6 hbq6
                  obtain ⟨j, hj, rfl, V, hbq⟩ := hrel
                  by_cases hlj : j < 4
                  · have MS : Hid (∀ i, i < 16 → wr.cell? ⟨gr, i, none⟩ = some (.int .i64 (perm r i : Nat))) := fun i hi => by rw [(bcell hbq).1 _ _ hr2]; exact S.out i hi
                    obtain ⟨gv, capv, rfl, hgv, hcapv, hwv⟩ := V.out
                    obtain ⟨gm', capm', em, hgm, hcapm, hwm⟩ := M.out.below hbq
                    obtain ⟨rfl, rfl⟩ : gm = gm' ∧ capm = capm' := by simpa using em
                    have WM := Lib.hid hwm
                    clear hwv hwm em hgm hgv hcapv hcapm
                    have w0 : IntKind.i64.wrap 0 = 0 := by decide
                    have w1 : IntKind.i64.wrap 1 = 1 := by decide
                    have w2 : IntKind.i64.wrap 2 = 2 := by decide
                    have w3 : IntKind.i64.wrap 3 = 3 := by decide
                    have w4 : IntKind.i64.wrap 4 = 4 := by decide
                    have w5 : IntKind.i64.wrap 5 = 5 := by decide
                    have w6 : IntKind.i64.wrap 6 = 6 := by decide
                    have w7 : IntKind.i64.wrap 7 = 7 := by decide
                    have w8 : IntKind.i64.wrap 8 = 8 := by decide
                    have w9 : IntKind.i64.wrap 9 = 9 := by decide
                    have w10 : IntKind.i64.wrap 10 = 10 := by decide
                    have w11 : IntKind.i64.wrap 11 = 11 := by decide
                    have w12 : IntKind.i64.wrap 12 = 12 := by decide
                    have w13 : IntKind.i64.wrap 13 = 13 := by decide
                    have w14 : IntKind.i64.wrap 14 = 14 := by decide
                    have w15 : IntKind.i64.wrap 15 = 15 := by decide
                    have w16 : IntKind.i64.wrap 16 = 16 := by decide
                    have w17 : IntKind.i64.wrap 17 = 17 := by decide
                    have t1 : (1 : Int).tmod 4 = 1 := by decide
                    have t2 : (2 : Int).tmod 4 = 2 := by decide
                    have t3 : (3 : Int).tmod 4 = 3 := by decide
                    have t4 : (4 : Int).tmod 4 = 0 := by decide
                    have t5 : (5 : Int).tmod 4 = 1 := by decide
                    have t6 : (6 : Int).tmod 4 = 2 := by decide
                    have hj4 : j = 0 ∨ j = 1 ∨ j = 2 ∨ j = 3 := by omega
                    rcases hj4 with rfl | rfl | rfl | rfl
                    · have s1 := MS.out 8 (by decide)
                      have s2 := MS.out 9 (by decide)
                      have p1 : (perm r 8 : Nat) < (16 : Int) := by have := perm_lt r hlt 8 (by decide); omega
                      have p2 : (perm r 9 : Nat) < (16 : Int) := by have := perm_lt r hlt 9 (by decide); omega
                      have m1 := (WM.out (perm r 8) (by omega)).1
                      have m2 := (WM.out (perm r 9) (by omega)).1
                      go_wp2_with fail
                      refine region_tail 32 (by kernel_rfl) (by kernel_rfl) ?_
                      simp only [List.take_succ_cons, List.take_zero, List.drop_succ_cons, List.drop_zero]
                      repeat still_step
                      refine still_tail_nil ?_
                      go_wp2_with fail
                      refine (rmixBody _ rfl (.slice (some ⟨gv, 0, none⟩) 16 capv) _ 0 5 10 15 _ _ (by decide) (by decide) (by decide) (by decide) _ V.out.drew).mono ?_
                      rintro e w9 ⟨v9, rfl, hv9, hb9⟩
                      have hbel : Below wo.heap.size wo w9 := hbq.drew.trans (hb9.mono hbq.size)
                      clear s1 s2 p1 p2 m1 m2 V MS WM hbq hb9
                      go_wp2_with fail
                      go_roundw
                      case rel => exact ⟨1, by decide, by go_num, hv9, hbel⟩
                      case measure => simp [intOf]
                    · have s1 := MS.out 10 (by decide)
                      have s2 := MS.out 11 (by decide)
                      have p1 : (perm r 10 : Nat) < (16 : Int) := by have := perm_lt r hlt 10 (by decide); omega
                      have p2 : (perm r 11 : Nat) < (16 : Int) := by have := perm_lt r hlt 11 (by decide); omega
                      have m1 := (WM.out (perm r 10) (by omega)).1
                      have m2 := (WM.out (perm r 11) (by omega)).1
                      go_wp2_with fail
                      refine region_tail 32 (by kernel_rfl) (by kernel_rfl) ?_
                      simp only [List.take_succ_cons, List.take_zero, List.drop_succ_cons, List.drop_zero]
                      repeat still_step
                      refine still_tail_nil ?_
                      go_wp2_with fail
                      refine (rmixBody _ rfl (.slice (some ⟨gv, 0, none⟩) 16 capv) _ 1 6 11 12 _ _ (by decide) (by decide) (by decide) (by decide) _ V.out.drew).mono ?_
                      rintro e w9 ⟨v9, rfl, hv9, hb9⟩
                      have hbel : Below wo.heap.size wo w9 := hbq.drew.trans (hb9.mono hbq.size)
                      clear s1 s2 p1 p2 m1 m2 V MS WM hbq hb9
                      go_wp2_with fail
                      go_roundw
                      case rel => exact ⟨2, by decide, by go_num, hv9, hbel⟩
                      case measure => simp [intOf]
                    · have s1 := MS.out 12 (by decide)
                      have s2 := MS.out 13 (by decide)
                      have p1 : (perm r 12 : Nat) < (16 : Int) := by have := perm_lt r hlt 12 (by decide); omega
                      have p2 : (perm r 13 : Nat) < (16 : Int) := by have := perm_lt r hlt 13 (by decide); omega
                      have m1 := (WM.out (perm r 12) (by omega)).1
                      have m2 := (WM.out (perm r 13) (by omega)).1
                      go_wp2_with fail
                      refine region_tail 32 (by kernel_rfl) (by kernel_rfl) ?_
                      simp only [List.take_succ_cons, List.take_zero, List.drop_succ_cons, List.drop_zero]
                      repeat still_step
                      refine still_tail_nil ?_
                      go_wp2_with fail
                      refine (rmixBody _ rfl (.slice (some ⟨gv, 0, none⟩) 16 capv) _ 2 7 8 13 _ _ (by decide) (by decide) (by decide) (by decide) _ V.out.drew).mono ?_
                      rintro e w9 ⟨v9, rfl, hv9, hb9⟩
                      have hbel : Below wo.heap.size wo w9 := hbq.drew.trans (hb9.mono hbq.size)
                      clear s1 s2 p1 p2 m1 m2 V MS WM hbq hb9
                      go_wp2_with fail
                      go_roundw
                      case rel => exact ⟨3, by decide, by go_num, hv9, hbel⟩
                      case measure => simp [intOf]
                    · have s1 := MS.out 14 (by decide)
                      have s2 := MS.out 15 (by decide)
                      have p1 : (perm r 14 : Nat) < (16 : Int) := by have := perm_lt r hlt 14 (by decide); omega
                      have p2 : (perm r 15 : Nat) < (16 : Int) := by have := perm_lt r hlt 15 (by decide); omega
                      have m1 := (WM.out (perm r 14) (by omega)).1
                      have m2 := (WM.out (perm r 15) (by omega)).1
                      go_wp2_with fail
                      refine region_tail 32 (by kernel_rfl) (by kernel_rfl) ?_
                      simp only [List.take_succ_cons, List.take_zero, List.drop_succ_cons, List.drop_zero]
                      repeat still_step
                      refine still_tail_nil ?_
                      go_wp2_with fail
                      refine (rmixBody _ rfl (.slice (some ⟨gv, 0, none⟩) 16 capv) _ 3 4 9 14 _ _ (by decide) (by decide) (by decide) (by decide) _ V.out.drew).mono ?_
                      rintro e w9 ⟨v9, rfl, hv9, hb9⟩
                      have hbel : Below wo.heap.size wo w9 := hbq.drew.trans (hb9.mono hbq.size)
                      clear s1 s2 p1 p2 m1 m2 V MS WM hbq hb9
                      go_wp2_with fail
                      go_roundw
                      case rel => exact ⟨4, by decide, by go_num, hv9, hbel⟩
                      case measure => simp [intOf]
                  · obtain rfl : j = 4 := by omega
                    clear hlj hj
                    have V9 : Hid (SW 16 wr u11 (rows (mixStart q t true) (wordsOf l) (r + 1))) := by rw [HF.out, ← HF2.out]; exact V
                    clear V HF HF2
                    go_wp2_with fail
                    go_roundw
                    case rel => exact ⟨r + 1, by omega, by go_num, V9, O.out.below hbq, M.out.below hbq, H.out.below hbq, hb.trans (hbq.mono hb.size)⟩
                    case measure => simp [intOf]; omega
          · obtain rfl : r = 10 := by omega
            clear hlt hr
            obtain ⟨f, hf⟩ : ∃ f, f = rows (mixStart q t true) (wordsOf l) 10 := ⟨_, rfl⟩
            rw [← hf] at V
            have hfp : ∀ i, x32 (x32 (q i) (f i)) (f (8 + i)) = procF q (wordsOf l) t true i := fun i => by unfold procF; rw [x32_assoc, hf]
            have HFP := Lib.hid hfp
            clear hf hfp
            obtain ⟨gv, capv, rfl, hgv, hcapv, hwv⟩ := V.out
            obtain ⟨gh, caph, eh, hgh, hcaph, hwh⟩ := H.out
            obtain ⟨rfl, rfl⟩ : g0 = gh ∧ cap0 = caph := by simpa using eh
            have WV := Lib.hid hwv
            have WH := Lib.hid hwh
            clear V H O M hwv hwh eh
            go_wp2_with fail
            generalize (Value.int .i64 ((10 : Nat) : Int)) = v10
            obtain ⟨wo, hwo⟩ : ∃ wo : World, wo = wr := ⟨_, rfl⟩
            have hbo := hb
            clear hb
            subst hwo
            have hso := hbo.size
            go_loopw [16, 17, 140] (fun v _ i wq => ∃ k : Nat, k ≤ 8 ∧ i = .int .i64 (k : Int) ∧ wq.ownsRow wo.heap.size 88 1 v k (wordsCells k (procF q (wordsOf l) t true)) ∧ Below wo.heap.size wo wq)
              (fun _ _ i _ => 8 - (intOf i).toNat)
            case atStart => exact ⟨0, by decide, rfl, World.ownsRow_made wo #[] 0 (Nat.le_refl _) (Nat.zero_le _) rfl, below_alloc _ _⟩
            case round =>
              obtain ⟨k, hk, rfl, hown, hbq⟩ := hrel
              have hsz := hbq.size
              by_cases hlt : k < 8
              · have m1 := ((WH.out.below hbq hgh) k hlt).1
                have m2 := ((WV.out.below hbq hgv) k (by omega)).1
                have m3 := ((WV.out.below hbq hgv) (8 + k) (by omega)).1
                have j1 : (k : Int) < 8 := by omega
                have j2 : (k : Int) < 16 := by omega
                have j3 : IntKind.i64.wrap ((k : Int) + 8) = (k : Int) + 8 := IntWalk.i64_in _ (by omega)
                have j4 : ((k : Int) + 8).toNat = 8 + k := by omega
                have j5 : (k : Int) + 8 < 16 := by omega
                have j6 : (0 : Int) ≤ (k : Int) + 8 := by omega
                have j7 : decide ((k : Int) < 8) = true := by simp; omega
                go_wp2_with fail
                have hfp := HFP.out k
                refine region_mixt 18 [some (u16), some (.slice (some ⟨g0, 0, none⟩) 8 cap0), some (.int .i64 (k : Int)), some (.pointer (some ⟨g0, k, none⟩)), some (.int .u32 (q k)), some (.slice (some ⟨gv, 0, none⟩) 16 capv), some (.int .i64 (k : Int)), some (.pointer (some ⟨gv, k, none⟩)), some (.int .u32 (f k)), some (.int .u32 (bits .xor .u32 (q k) (f k))), some (.slice (some ⟨gv, 0, none⟩) 16 capv), some (.int .i64 (k : Int)), some (.int .i64 ((k : Int) + 8)), some (.pointer (some ⟨gv, 8 + k, none⟩)), some (.int .u32 (f (8 + k))), some (.int .u32 (procF q (wordsOf l) t true k)), none, none]
                  [[false, false, false, false, false, false, false, false, false, false, false, false, false, false, false, false, false, false], [false, false, false, false, false, false, false, false, false, false, false, false, false, false, false, false, false, false], [false, false, false, false, false, false, false, false, false, false, false, false, false, false, false, false, false, false], [false, true, true, false, false, false, false, false, false, false, false, false, false, false, false, false, false, false], [false, false, false, true, false, false, false, false, false, false, false, false, false, false, false, false, false, false], [false, false, false, false, false, false, false, false, false, false, false, false, false, false, false, false, false, false], [false, false, false, false, false, false, false, false, false, false, false, false, false, false, false, false, false, false], [false, false, false, false, false, true, true, false, false, false, false, false, false, false, false, false, false, false], [false, false, false, false, false, false, false, true, false, false, false, false, false, false, false, false, false, false], [false, false, false, false, true, false, false, false, true, false, false, false, false, false, false, false, false, false], [false, false, false, false, false, false, false, false, false, false, false, false, false, false, false, false, false, false], [false, false, false, false, false, false, false, false, false, false, false, false, false, false, false, false, false, false], [false, false, false, false, false, false, false, false, false, false, false, true, false, false, false, false, false, false], [false, false, false, false, false, false, false, false, false, false, true, false, true, false, false, false, false, false], [false, false, false, false, false, false, false, false, false, false, false, false, false, true, false, false, false, false], [false, false, false, false, false, false, false, false, false, true, false, false, false, false, true, false, false, false], [false, false, false, false, false, false, false, false, false, false, false, false, false, false, false, true, false, false], [true, false, false, false, false, false, false, false, false, false, false, false, false, false, false, false, true, false]]
                  (fun L x w1 => Below wo.heap.size wo w1 ∧ (L 17 = false → w1.ownsRow wo.heap.size 88 1 u16 k (wordsCells k (procF q (wordsOf l) t true))) ∧ (L 16 = true → L 17 = false → ∃ b, x 16 = .slice (some ⟨b, 0, none⟩) 1 1 ∧ w1.cell? ⟨b, 0, none⟩ = some (.int .u32 (procF q (wordsOf l) t true k))) ∧ (L 17 = true → L 16 = true ∧ w1.ownsRow wo.heap.size 88 1 (x 17) (k + 1) (wordsCells (k + 1) (procF q (wordsOf l) t true))))
                  (by kernel_rfl) (by kernel_rfl) (by kernel_rfl) (by kernel_rfl) (by kernel_rfl) (by decide) ?_ ?_ ?_
                · intro _
                  exact ⟨hbq.drew, fun _ => hown, fun h _ => (by cases h), fun h => (by cases h)⟩
                · simp only [List.take_succ_cons, List.take_zero]
                  refine ⟨?_, ?_, ?_, ?_, ?_, ?_, ?_, ?_, ?_, ?_, ?_, ?_, ?_, ?_, ?_, ?_, ?_, ?_, trivial⟩
                  all_goals
                    intro L x w9 hS hl hp K hK
                    have c1 := hS.1
                    have c2 := hS.2.1
                    have c3 := hS.2.2.1
                    have c4 := hS.2.2.2
                    have m1 := ((WH.out.below c1 hgh) k hlt).1
                    have m2 := ((WV.out.below c1 hgv) k (by omega)).1
                    have m3 := ((WV.out.below c1 hgv) (8 + k) (by omega)).1
                    clear hS hown hbq
                    replace hK := hK.out
                    simp only [actMix, pickV, List.tail_cons, List.headD_cons, Act.put, List.setIfInBounds_toArray, List.set_cons_zero, List.set_cons_succ] at hK ⊢
                  iterate 15
                    · clear hp
                      go_simp
                      with_reducible refine hK _ ?_
                      exact ⟨c1, fun h => c2 (by simpa [setL] using h), fun h h' => (by simpa [updV] using c3 (by simpa [setL] using h) (by simpa [setL] using h')), fun h => (by simpa [updV, setL] using c4 (by simpa [setL] using h))⟩
                  · clear hp
                    unfold x32 at hfp
                    go_simp
                    with_reducible refine hK _ ?_
                    exact ⟨c1, fun h => c2 (by simpa [setL] using h), fun h h' => (by simpa [updV] using c3 (by simpa [setL] using h) (by simpa [setL] using h')), fun h => (by simpa [updV, setL] using c4 (by simpa [setL] using h))⟩
                  · have h17 : L 17 = false := by
                      cases h : L 17 with
                      | false => rfl
                      | true => have := (c4 h).1; rw [hl] at this; cases this
                    have c2' := c2 h17
                    have hs9 := c1.size
                    clear hp c2 c3 c4 m1 m2 m3
                    go_simp
                    with_reducible refine hK _ _ ?_
                    refine ⟨c1.alloc hs9 _, fun _ => c2'.alloc _, fun _ _ => ⟨w9.heap.size, by simp [updV], by simp⟩, fun h => ?_⟩
                    simp [setL, h17] at h
                  · have h16 : L 16 = true := allL_mem hp 16 (by decide +kernel)
                    have c2' := c2 hl
                    obtain ⟨b9, hx9, hc9⟩ := c3 h16 hl
                    have hs9 := c1.size
                    clear hp c2 c3 c4 m1 m2 m3
                    rw [hx9] at hK ⊢
                    rw [if_pos (by rfl)]
                    refine wp_append_own _ _ _ 100 rfl wo.heap.size 88 i0 (.int .u32 0) 1 4 Tryz.underlying100 hi hz0 hz1 hz2 rfl (by decide) _ _ _ rfl c2' ⟨b9, 0, none⟩ 1 1 [.int .u32 (procF q (wordsOf l) t true k)] rfl rfl ?_ ?_ ?_ ?_ hs9 ?_
                    · intro i u hu
                      match i, hu with
                      | 0, hu => obtain rfl : Value.int .u32 (procF q (wordsOf l) t true k) = u := Option.some.inj hu; rw [Addr.add_mid]; exact hc9
                      | i + 1, hu => simp at hu
                    · intro u hu; simp at hu; subst hu; rfl
                    · unfold maxLen; omega
                    · omega
                    intro v' w1 hown1 hgrow _
                    rw [wordsCells_snoc] at hown1
                    have hb1 : Below wo.heap.size wo w1 := c1.grown hgrow hs9 (fun k hk => (c2'.lt k hk).1)
                    simp only [Act.put, List.setIfInBounds_toArray, List.set_cons_zero, List.set_cons_succ]
                    with_reducible refine hK _ _ ?_
                    refine ⟨hb1, fun h => ?_, fun _ h => ?_, fun _ => ⟨by simp [setL, h16], by simpa [updV] using hown1⟩⟩
                    · simp [setL] at h
                    · simp [setL] at h
                intro L x w9 hS hL
                have c1 := hS.1
                have c4 := (hS.2.2.2 (hL 17 (by decide))).2
                have hb1 := c1
                have hown1 := c4
                clear hS hL hown hbq m1 m2 m3 j3 j4 hfp
                simp only [actMix, pickV, List.tail_cons, List.headD_cons, Act.put, List.setIfInBounds_toArray, List.set_cons_zero, List.set_cons_succ, List.replicate_succ, List.replicate_zero, List.drop_succ_cons, List.drop_zero, List.take_succ_cons, List.take_zero]
                go_wp2_with fail
                go_roundw
                case rel => exact ⟨k + 1, by omega, by go_num, hown1, hb1⟩
                case measure => simp [intOf]; omega
              · obtain rfl : k = 8 := by omega
                obtain ⟨hsw, _⟩ := sw_of_row (by decide) rfl hown
                have hbel := hbo.trans (hbq.mono hso)
                have HSW := Lib.hid hsw
                clear hown hsw hbq
                go_wp2_with fail
                go_ret
                exact ⟨_, rfl, by rw [← HL.out]; exact HSW.out, hbel⟩
end Go.Proofs.YtllmlngfmcbaaaaGreatDoor
