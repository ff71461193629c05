/- Packed: RgC, TabsR, RgM, RgD, RgE, RgI, RgP. -/
import Derived.Lib.AppendIntMem
import Derived.Stop.LaidErr
import Derived.Stop.RegionWithIn
import Derived.RegionIn
import Derived.Test.YtlcpkplipfcdaaaDoorG00
import Derived.Test.YtlcpkplipfcdaaaDoorG01
import Derived.Test.YtlcpkplipfcdaaaDoorG03
import Derived.Test.YtlcpkplipfcdaaaDoorShelfC
/- ring: the point of an entry (written by genrgc.py). -/
namespace Go.Proofs.YtlcpkplipfcdaaaDoor
open Go.RowKit

/-- The table of the powers of ten. -/
def Pow (w : World) : Prop := Lib.TabIs Tryd.prog w "internal/strconv.uint64pow10" .u64 Lib.pow10Tab
theorem gPow : Tryd.prog.globalNamed "internal/strconv.uint64pow10" = some 2 := by kernel_rfl
theorem Pow.below {w w' : World} (h : Pow w) (hb : Below w.heap.size w w') : Pow w' := by
  unfold Pow Lib.TabIs World.var? at h ⊢
  rw [gPow] at h ⊢
  simp only [Option.bind_some] at h ⊢
  cases ho : w.heap[2]? with
  | none => rw [ho] at h; cases h
  | some o =>
    have hlt := (Array.getElem?_eq_some_iff.1 ho).1
    rw [hb.block _ hlt]
    exact h
/-- A number's decimal digits. -/
def digB (i : Nat) : ByteArray := ⟨(Lib.decDigits i).toArray⟩
theorem digits71 (i : Nat) (hi : i < 1000000) (w : World) (hw : Pow w) :
    Calls Tryd.prog 71 #[.int .i64 (i : Nat)] w fun e w' => e = .returned (.string (digB i)) ∧ Below w.heap.size w w' := by
  have HF : Hid (Calls Tryd.prog 91 #[.int .i64 (i : Int)] w fun e w' => e = .returned (.string (digB i)) ∧ Below w.heap.size w w') := by
    refine (Tryd.strconv_Itoa (i : Int) (by omega) (by omega) w hw).mono ?_
    rintro e w' ⟨rfl, k, os, rfl⟩
    refine ⟨?_, Lib.below_grow _ w (Nat.le_refl _) k os⟩
    rw [Lib.itoa_nonneg]; rfl
  have hm : max (i : Int) 0 = (i : Int) := by omega
  go_enter Tryd.func71, Tryd.ntmps71
  go_wp2_with fail
  refine HF.out.mono ?_
  rintro e w1 ⟨rfl, hb⟩
  go_wp2_with fail
  go_ret
  exact ⟨rfl, hb⟩
def sepB : ByteArray := ⟨#[35]⟩
/-- The value of an entry's point. -/
def ptV (k : Nat → UInt8) (N : ByteArray) (i : Nat) : Nat := hashN k (N.data.toList ++ sepB.data.toList ++ (digB i).data.toList)
theorem flat_three (a b c : ByteArray) : flat [a, b, c] = a.data.toList ++ b.data.toList ++ c.data.toList := by simp [flat]
theorem three_strs (w : World) (a b c : ByteArray) (T : TypeId) : IsStrs (w.alloc (.cells #[.string a, .string b, .string c] T)) (some ⟨w.heap.size, 0, none⟩) 3 [a, b, c] := by
  refine .inr ⟨w.heap.size, 0, rfl, by simp, by simp, fun j x hx => ?_⟩
  rw [Nat.zero_add]
  match j, hx with
  | 0, hx => obtain rfl : a = x := by simpa using hx
             simp
  | 1, hx => obtain rfl : b = x := by simpa using hx
             simp
  | 2, hx => obtain rfl : c = x := by simpa using hx
             simp
  | j + 3, hx => simp at hx
theorem decDigits_len : ∀ (f n : Nat), n < 10 ^ (f + 1) → (Lib.decDigits n).length ≤ f + 1
  | 0, n, h => by rw [Lib.decDigits_one (by omega)]; simp
  | f + 1, n, h => by
    by_cases h10 : n < 10
    · rw [Lib.decDigits_one h10]; simp
    · rw [Lib.decDigits, dif_neg h10, List.length_append]
      have := decDigits_len f (n / 10) (by rw [Nat.div_lt_iff_lt_mul (by decide)]; rw [Nat.pow_succ] at h; exact h)
      simp; omega
/-- What is there while a point is reckoned. -/
structure PoS (W : World) (N D : ByteArray) (L : Nat → Bool) (x : Nat → Value) (w : World) : Prop where
  bel : Below W.heap.size W w
  z5 : L 5 = true → ∃ g, x 5 = .slice (some ⟨g, 0, none⟩) 3 3 ∧ IsStrs w (some ⟨g, 0, none⟩) 3 [N, sepB, D]
section
variable {W : World} {N D : ByteArray} {L : Nat → Bool} {x : Nat → Value} {w w' : World}
theorem PoS.below (h : PoS W N D L x w) (hb : Below w.heap.size w w') : PoS W N D L x w' :=
  ⟨h.bel.trans (hb.mono h.bel.size), fun e => by obtain ⟨g, h1, h2⟩ := h.z5 e; exact ⟨g, h1, h2.below hb⟩⟩
theorem PoS.next (h : PoS W N D L x w) (i : Nat) (u : Value) (h5 : i ≠ 5) : PoS W N D (setL L i) (updV x i u) w :=
  ⟨h.bel, fun e => by
    obtain ⟨g, h1, h2⟩ := h.z5 (by simpa [setL, Ne.symm h5] using e)
    exact ⟨g, by simp [updV, Ne.symm h5, h1], h2⟩⟩
theorem PoS.put (h : PoS W N D L x w) : PoS W N D (setL L 5) (updV x 5 (.slice (some ⟨w.heap.size, 0, none⟩) 3 3)) (w.alloc (.cells #[.string N, .string sepB, .string D] 9)) :=
  ⟨h.bel.trans ((below_alloc w _).mono h.bel.size), fun _ => ⟨w.heap.size, by simp [updV], three_strs w N sepB D _⟩⟩
end
theorem isKey_rowC {w : World} {b : Nat} {T : TypeId} {k : Nat → UInt8} (h : Row w b T #[.int .u8 (k 0).toNat, .int .u8 (k 1).toNat, .int .u8 (k 2).toNat, .int .u8 (k 3).toNat, .int .u8 (k 4).toNat, .int .u8 (k 5).toNat, .int .u8 (k 6).toNat, .int .u8 (k 7).toNat, .int .u8 (k 8).toNat, .int .u8 (k 9).toNat, .int .u8 (k 10).toNat, .int .u8 (k 11).toNat, .int .u8 (k 12).toNat, .int .u8 (k 13).toNat, .int .u8 (k 14).toNat, .int .u8 (k 15).toNat]) : IsKey w b k := by
  intro i hi
  have h16 : i = 0 ∨ i = 1 ∨ i = 2 ∨ i = 3 ∨ i = 4 ∨ i = 5 ∨ i = 6 ∨ i = 7 ∨ i = 8 ∨ i = 9 ∨ i = 10 ∨ i = 11 ∨ i = 12 ∨ i = 13 ∨ i = 14 ∨ i = 15 := by omega
  rw [h.cell i]
  rcases h16 with rfl | rfl | rfl | rfl | rfl | rfl | rfl | rfl | rfl | rfl | rfl | rfl | rfl | rfl | rfl | rfl <;> rfl
set_option maxRecDepth 100000 in
set_option maxHeartbeats 4000000 in
theorem point51 (k : Nat → UInt8) (N : ByteArray) (V : Int) (hN : N.size ≤ 1000000) (i : Nat) (hi9 : i < 1000000) (w : World) (hi : Ini w) (hpw : Pow w) :
    Calls Tryd.prog 51 #[.agg #[.string N, .int .i64 V], keyVal k, .int .i64 (i : Nat)] w fun e w' => e = .returned (.agg #[.int .u64 (ptV k N i : Nat), .string N]) ∧ Below w.heap.size w w' := by
  have hs1 := hashN_is k (N.data.toList ++ sepB.data.toList ++ (digB i).data.toList)
  have hdl : (digB i).data.toList.length ≤ 10 := by
    have h2 := decDigits_len 6 i (by omega)
    have h3 : (digB i).data.toList = Lib.decDigits i := rfl
    rw [h3]; omega
  have hS1 : ∀ (g : Nat) (W : World), Ini W → IsStrs W (some ⟨g, 0, none⟩) 3 [N, sepB, digB i] → Calls Tryd.prog 61 #[keyVal k, .slice (some ⟨g, 0, none⟩) 3 3] W fun e w' => e = .returned (.int .u64 (ptV k N i : Nat)) ∧ Below W.heap.size W w' := fun g W hI hx => by
    have := sum12 k _ 3 [N, sepB, digB i] W hI hx (by simp) (by rw [flat_three]; have := Lib.size_eq N; simp only [List.length_append]; have h4 : sepB.data.toList.length = 1 := rfl; omega)
    rw [flat_three, hs1.1] at this
    exact this
  have HSM := Lib.hid hS1
  clear hS1 hs1 hdl
  generalize ptV k N i = p1 at *
  unfold keyVal at *
  have r1 := Row.new w 92 #[.string N, .int .i64 V]
  have r2 := Row.new (w.alloc (.cells #[.string N, .int .i64 V] 92)) 26 #[.int .u8 (k 0).toNat, .int .u8 (k 1).toNat, .int .u8 (k 2).toNat, .int .u8 (k 3).toNat, .int .u8 (k 4).toNat, .int .u8 (k 5).toNat, .int .u8 (k 6).toNat, .int .u8 (k 7).toNat, .int .u8 (k 8).toNat, .int .u8 (k 9).toNat, .int .u8 (k 10).toNat, .int .u8 (k 11).toNat, .int .u8 (k 12).toNat, .int .u8 (k 13).toNat, .int .u8 (k 14).toNat, .int .u8 (k 15).toNat]
  have r3 := Row.new ((w.alloc (.cells #[.string N, .int .i64 V] 92)).alloc (.cells #[.int .u8 (k 0).toNat, .int .u8 (k 1).toNat, .int .u8 (k 2).toNat, .int .u8 (k 3).toNat, .int .u8 (k 4).toNat, .int .u8 (k 5).toNat, .int .u8 (k 6).toNat, .int .u8 (k 7).toNat, .int .u8 (k 8).toNat, .int .u8 (k 9).toNat, .int .u8 (k 10).toNat, .int .u8 (k 11).toNat, .int .u8 (k 12).toNat, .int .u8 (k 13).toNat, .int .u8 (k 14).toNat, .int .u8 (k 15).toNat] 26)) 99 #[.int .u64 0, .string ⟨#[]⟩]
  have hb0 : Below w.heap.size w (((w.alloc (.cells #[.string N, .int .i64 V] 92)).alloc (.cells #[.int .u8 (k 0).toNat, .int .u8 (k 1).toNat, .int .u8 (k 2).toNat, .int .u8 (k 3).toNat, .int .u8 (k 4).toNat, .int .u8 (k 5).toNat, .int .u8 (k 6).toNat, .int .u8 (k 7).toNat, .int .u8 (k 8).toNat, .int .u8 (k 9).toNat, .int .u8 (k 10).toNat, .int .u8 (k 11).toNat, .int .u8 (k 12).toNat, .int .u8 (k 13).toNat, .int .u8 (k 14).toNat, .int .u8 (k 15).toNat] 26)).alloc (.cells #[.int .u64 0, .string ⟨#[]⟩] 99)) := (((Below.refl _ _).alloc (Nat.le_refl _) _).alloc (by simp) _).alloc (by simp; omega) _
  rw [World.size_alloc] at r2
  rw [World.size_alloc, World.size_alloc] at r3
  replace r1 := (r1.alloc (.cells #[.int .u8 (k 0).toNat, .int .u8 (k 1).toNat, .int .u8 (k 2).toNat, .int .u8 (k 3).toNat, .int .u8 (k 4).toNat, .int .u8 (k 5).toNat, .int .u8 (k 6).toNat, .int .u8 (k 7).toNat, .int .u8 (k 8).toNat, .int .u8 (k 9).toNat, .int .u8 (k 10).toNat, .int .u8 (k 11).toNat, .int .u8 (k 12).toNat, .int .u8 (k 13).toNat, .int .u8 (k 14).toNat, .int .u8 (k 15).toNat] 26)).alloc (.cells #[.int .u64 0, .string ⟨#[]⟩] 99)
  replace r2 := r2.alloc (.cells #[.int .u64 0, .string ⟨#[]⟩] 99)
  obtain ⟨B, hB⟩ : ∃ B, B = w.heap.size := ⟨_, rfl⟩
  have HBE : Hid (B = w.heap.size) := hB
  rw [← hB] at r1 r2 r3 hb0
  go_enter Tryd.func51, Tryd.ntmps51
  go_upto_region 1 with fail
  rw [← hB]
  clear hB
  generalize ((w.alloc (.cells #[.string N, .int .i64 V] 92)).alloc (.cells #[.int .u8 (k 0).toNat, .int .u8 (k 1).toNat, .int .u8 (k 2).toNat, .int .u8 (k 3).toNat, .int .u8 (k 4).toNat, .int .u8 (k 5).toNat, .int .u8 (k 6).toNat, .int .u8 (k 7).toNat, .int .u8 (k 8).toNat, .int .u8 (k 9).toNat, .int .u8 (k 10).toNat, .int .u8 (k 11).toNat, .int .u8 (k 12).toNat, .int .u8 (k 13).toNat, .int .u8 (k 14).toNat, .int .u8 (k 15).toNat] 26)).alloc (.cells #[.int .u64 0, .string ⟨#[]⟩] 99) = W3 at *
  have HB3 := Lib.hid hb0
  have hbw : Below w.heap.size w W3 := by rw [← HBE.out]; exact hb0
  have HI3 := Lib.hid (hi.below hbw)
  have HPW := Lib.hid (hpw.below hbw)
  clear hb0 hbw hi hpw
  have hk1 : IsKey W3 (B + 1) k := isKey_rowC r2
  have hlt1 := r1.lt
  have hlt2 := r2.lt
  have hlt3 := r3.lt
  have e0 : W3.cell? ⟨B, 0, none⟩ = some (.string N) := by rw [r1.cell]; rfl
  have R3 := Lib.hid r3
  have HK1 := Lib.hid hk1
  clear r1 r2 r3 hk1
  refine region_mixt 10 [some (.agg #[.int .u8 (k 0).toNat, .int .u8 (k 1).toNat, .int .u8 (k 2).toNat, .int .u8 (k 3).toNat, .int .u8 (k 4).toNat, .int .u8 (k 5).toNat, .int .u8 (k 6).toNat, .int .u8 (k 7).toNat, .int .u8 (k 8).toNat, .int .u8 (k 9).toNat, .int .u8 (k 10).toNat, .int .u8 (k 11).toNat, .int .u8 (k 12).toNat, .int .u8 (k 13).toNat, .int .u8 (k 14).toNat, .int .u8 (k 15).toNat]), some (.pointer (some ⟨B, 0, none⟩)), some (.string N), some (.int .i64 (i : Nat)), some (.string (digB i)), none, some (.int .u64 (p1 : Nat)), some (.pointer (some ⟨B, 0, none⟩)), some (.string N), some (.agg #[.int .u64 (p1 : Nat), .string N])]
    [[false, false, false, false, false, false, false, false, false, false], [false, false, false, false, false, false, false, false, false, false], [false, true, false, false, false, false, false, false, false, false], [false, false, false, false, false, false, false, false, false, false], [false, false, false, true, false, false, false, false, false, false], [false, false, true, false, true, false, false, false, false, false], [true, false, false, false, true, true, false, false, false, false], [false, false, false, false, false, false, false, false, false, false], [false, false, false, false, false, false, false, true, false, false], [false, false, false, false, false, false, true, false, true, false]]
    (fun LL xx w9 => PoS W3 N (digB i) LL xx w9)
    (by kernel_rfl) (by kernel_rfl) (by kernel_rfl) (by kernel_rfl) (by kernel_rfl) (by decide) ?_ ?_ ?_
  · intro x
    exact ⟨⟨rfl, rfl, rfl, Nat.le_refl _, fun _ _ => rfl⟩, (fun h => by cases h)⟩
  · simp only [List.take_succ_cons, List.take_zero]
    refine ⟨?_, ?_, ?_, ?_, ?_, ?_, ?_, ?_, ?_, ?_, trivial⟩
    all_goals
      intro L x w9 hS hl hp K9 hK9
      have hs : PoS W3 N (digB i) L x w9 := hS
      clear hS
      replace hK9 := hK9.out
      simp only [actMix, pickV, List.tail_cons, List.headD_cons, Act.put, List.setIfInBounds_toArray, List.set_cons_zero, List.set_cons_succ] at hK9 ⊢
    · have hkk := HK1.out.below hs.bel hlt2
      clear hp
      rw [if_pos (by rfl)]
      refine wp_load_mid 26 _ rfl (B + 1) 0 rfl [.int .u8 (k 0).toNat, .int .u8 (k 1).toNat, .int .u8 (k 2).toNat, .int .u8 (k 3).toNat, .int .u8 (k 4).toNat, .int .u8 (k 5).toNat, .int .u8 (k 6).toNat, .int .u8 (k 7).toNat, .int .u8 (k 8).toNat, .int .u8 (k 9).toNat, .int .u8 (k 10).toNat, .int .u8 (k 11).toNat, .int .u8 (k 12).toNat, .int .u8 (k 13).toNat, .int .u8 (k 14).toNat, .int .u8 (k 15).toNat] _ (key_range hkk) Tryd.underlying26 rfl (by kernel_rfl) ?_
      simp only [Act.put, List.setIfInBounds_toArray, List.set_cons_zero, List.set_cons_succ]
      with_reducible refine hK9 _ ?_
      exact hs.next 0 _ (by decide)
    · clear hp
      go_simp
      with_reducible refine hK9 _ ?_
      exact hs.next 1 _ (by decide)
    · have q1 : w9.cell? ⟨B, 0, none⟩ = some (.string N) := by rw [(bcell hs.bel).1 _ _ hlt1]; exact e0
      clear hp
      go_simp
      with_reducible refine hK9 _ ?_
      exact hs.next 2 _ (by decide)
    · clear hp
      go_simp
      with_reducible refine hK9 _ ?_
      exact hs.next 3 _ (by decide)
    · clear hp
      go_simp
      refine (digits71 i hi9 w9 (HPW.out.below hs.bel)).mono ?_
      rintro e w8 ⟨rfl, hB8⟩
      go_simp
      with_reducible refine hK9 _ ?_
      exact (hs.below hB8).next 4 _ (by decide)
    · clear hp
      go_simp
      with_reducible refine hK9 _ _ ?_
      exact hs.put
    · obtain ⟨g8, hx8, hr8⟩ := hs.z5 (allL_mem hp 5 (by decide +kernel))
      clear hp
      rw [hx8] at hK9 ⊢
      go_simp
      refine (HSM.out g8 w9 (HI3.out.below hs.bel) hr8).mono ?_
      rintro e w8 ⟨rfl, hB8⟩
      go_simp
      with_reducible refine hK9 _ ?_
      exact (hs.below hB8).next 6 _ (by decide)
    · clear hp
      go_simp
      with_reducible refine hK9 _ ?_
      exact hs.next 7 _ (by decide)
    · have q1 : w9.cell? ⟨B, 0, none⟩ = some (.string N) := by rw [(bcell hs.bel).1 _ _ hlt1]; exact e0
      clear hp
      go_simp
      with_reducible refine hK9 _ ?_
      exact hs.next 8 _ (by decide)
    · clear hp
      go_simp
      with_reducible refine hK9 _ ?_
      exact hs.next 9 _ (by decide)
  intro L x w9 hS hL
  have hs : PoS W3 N (digB i) L x w9 := hS
  have R9 := R3.out.below hs.bel
  have HB9 : Hid (Below w.heap.size w w9) := by
    show Below _ _ _
    rw [← HBE.out]
    exact HB3.out.trans (hs.bel.mono (by have := HB3.out.size; omega))
  simp only [actMix, pickV, List.tail_cons, List.headD_cons, Act.put, List.setIfInBounds_toArray, List.set_cons_zero, List.set_cons_succ, List.replicate_succ, List.replicate_zero, List.drop_succ_cons, List.drop_zero, List.take_succ_cons, List.take_zero]
  generalize x 5 = xa
  have RF := (R9.put 0 (.int .u64 (p1 : Nat))).put 1 (.string N)
  have f0 := R9.free 0
  have f1 := R9.free 1
  have c0 : w9.cell? ⟨B + 1 + 1, 0, none⟩ = some (.int .u64 0) := by rw [R9.cell]; rfl
  have c1 : w9.cell? ⟨B + 1 + 1, 1, none⟩ = some (.string ⟨#[]⟩) := by rw [R9.cell]; rfl
  have D0 : Hid (((w9.setCell ⟨B + 1 + 1, 0, none⟩ (.int .u64 (p1 : Nat))).setCell ⟨B + 1 + 1, 1, none⟩ (.string N)).cell? ⟨B + 1 + 1, 0, none⟩ = some (.int .u64 (p1 : Nat))) := by show _ = _; rw [RF.cell]; rfl
  have D1 : Hid (((w9.setCell ⟨B + 1 + 1, 0, none⟩ (.int .u64 (p1 : Nat))).setCell ⟨B + 1 + 1, 1, none⟩ (.string N)).cell? ⟨B + 1 + 1, 1, none⟩ = some (.string N)) := by show _ = _; rw [RF.cell]; rfl
  have HBF : Hid (Below w.heap.size w ((w9.setCell ⟨B + 1 + 1, 0, none⟩ (.int .u64 (p1 : Nat))).setCell ⟨B + 1 + 1, 1, none⟩ (.string N))) := by
    have hle : w.heap.size ≤ B + 1 + 1 := by rw [HBE.out]; omega
    exact (HB9.out.setCell (p := ⟨B + 1 + 1, 0, none⟩) hle _).setCell (p := ⟨B + 1 + 1, 1, none⟩) hle _
  clear hS hs hL R9 RF R3 HK1 HI3 HPW HSM e0 HB3
  go_wp2_with fail
  refine bodyPost_ret (v := .agg #[.int .u64 (p1 : Nat), .string N]) ?_ rfl ⟨rfl, HBF.out⟩
  simp [results, Tryd.results51, go_sem, D0.out, D1.out]
end Go.Proofs.YtlcpkplipfcdaaaDoor

/- What a row of the ring says of its tables: names. -/
namespace Go.Proofs.YtlcpkplipfcdaaaDoor
open Go.RowKit

/-- What is known of the tables. -/
def RgTabs (W : World) : Prop := Ini W ∧ Pow W
end Go.Proofs.YtlcpkplipfcdaaaDoor

/- ring: points as lists and in memory. -/
namespace Go.Proofs.YtlcpkplipfcdaaaDoor
open Go.RowKit Go.Shelf Go.Lib Go.Sort

/-- How many points an entry has. -/
def cntP (p W G : Nat) : Nat := max (p * W / G) 1
/-- An entry's points; all points, by entries. -/
def ptsE (k : Nat → UInt8) (p G : Nat) (e : Ent) : List Pt := (List.range (cntP p e.2.toNat G)).map fun i => (ptV k e.1 i, e.1)
def ptsL (k : Nat → UInt8) (p G : Nat) (es : List Ent) : List Pt := es.flatMap (ptsE k p G)
def cellsP (ps : List Pt) : List Value := ps.flatMap encP
theorem cellsP_append (a b : List Pt) : cellsP (a ++ b) = cellsP a ++ cellsP b := by simp only [cellsP, List.flatMap_append]
theorem cellsP_length : ∀ ps : List Pt, (cellsP ps).length = ps.length * 2
  | [] => rfl
  | p :: ps => by
    have := cellsP_length ps
    show (encP p ++ cellsP ps).length = _
    rw [List.length_append, this, List.length_cons]
    show 2 + _ = _
    omega
theorem cellsP_at : ∀ (ps : List Pt) (j : Nat) (p : Pt), ps[j]? = some p → (cellsP ps)[j * 2]? = some (.int .u64 (p.1 : Nat)) ∧ (cellsP ps)[j * 2 + 1]? = some (.string p.2)
  | [], j, p, h => by cases j <;> cases h
  | x :: ps, 0, p, h => by
    simp at h; subst h
    exact ⟨rfl, rfl⟩
  | x :: ps, j + 1, p, h => by
    have := cellsP_at ps j p (by simpa using h)
    rw [show (j + 1) * 2 = j * 2 + 1 + 1 by omega]
    exact this
theorem ptsL_step {k : Nat → UInt8} {p G : Nat} {es : List Ent} {j : Nat} (hj : j < es.length) : ptsL k p G (es.take (j + 1)) = ptsL k p G (es.take j) ++ ptsE k p G es[j] := by
  unfold ptsL
  rw [List.take_succ_eq_append_getElem hj, List.flatMap_append]
  simp
theorem ptsE_len (k : Nat → UInt8) (p G : Nat) (e : Ent) : (ptsE k p G e).length = cntP p e.2.toNat G := by simp [ptsE]
theorem ptsE_step {k : Nat → UInt8} {p G : Nat} {e : Ent} {i : Nat} (hi : i < cntP p e.2.toNat G) : (ptsE k p G e).take (i + 1) = (ptsE k p G e).take i ++ [(ptV k e.1 i, e.1)] := by
  have h : i < (ptsE k p G e).length := by rw [ptsE_len]; exact hi
  rw [List.take_succ_eq_append_getElem h]
  congr 2
  simp [ptsE]
theorem ptsL_le {k : Nat → UInt8} {p G : Nat} : ∀ {es : List Ent}, (∀ e ∈ es, cntP p e.2.toNat G ≤ 256) → (ptsL k p G es).length ≤ es.length * 256
  | [], _ => Nat.zero_le _
  | e :: es, h => by
    have h1 := h e (by simp)
    have ih := ptsL_le (k := k) (es := es) (fun x hx => h x (by simp [hx]))
    show (ptsE k p G e ++ ptsL k p G es).length ≤ _
    rw [List.length_append, ptsE_len, List.length_cons]
    omega
/-- All points in their order. -/
def srtP (ps : List Pt) : List Pt := ps.mergeSort fun x y => !(ltOf cmpP) y x
/-- Points in memory. -/
def PtsAt (w : World) (a : Option Addr) (c : Nat) (ps : List Pt) : Prop :=
  ps = [] ∨ ∃ bk o, a = some ⟨bk, o, none⟩ ∧ bk < w.heap.size ∧ ps.length ≤ c ∧ ∀ (j : Nat) p, ps[j]? = some p → w.cell? ⟨bk, o + j * 2, none⟩ = some (.int .u64 (p.1 : Nat)) ∧ w.cell? ⟨bk, o + j * 2 + 1, none⟩ = some (.string p.2)
theorem PtsAt.below {w w' : World} {a : Option Addr} {c : Nat} {ps : List Pt} (h : PtsAt w a c ps) (hb : Below w.heap.size w w') : PtsAt w' a c ps := by
  obtain h | ⟨bk, o, ha, hlt, hc, hcell⟩ := h
  · exact .inl h
  · obtain ⟨b1, _⟩ := bcell hb
    exact .inr ⟨bk, o, ha, Nat.lt_of_lt_of_le hlt hb.size, hc, fun j p hp => by rw [b1 _ _ hlt, b1 _ _ hlt]; exact hcell j p hp⟩
/-- A ring in memory. -/
def RingAt (w : World) (rb : Nat) (ps : List Pt) (n : Nat) : Prop :=
  rb < w.heap.size ∧ ∃ a c, w.cell? ⟨rb, 0, none⟩ = some (.slice a ps.length c) ∧ w.cell? ⟨rb, 1, none⟩ = some (.int .i64 (n : Nat)) ∧ PtsAt w a c ps
theorem RingAt.below {w w' : World} {rb n : Nat} {ps : List Pt} (h : RingAt w rb ps n) (hb : Below w.heap.size w w') : RingAt w' rb ps n := by
  obtain ⟨h1, a, c, h2, h3, h4⟩ := h
  obtain ⟨b1, _⟩ := bcell hb
  exact ⟨Nat.lt_of_lt_of_le h1 hb.size, a, c, by rw [b1 _ _ h1]; exact h2, by rw [b1 _ _ h1]; exact h3, h4.below hb⟩
theorem keep_sortK {w : World} {g q : Nat} (d : Array Pt) (os : Array Obj) : Keep (fun y => y = g) w (sortWorldK encP 2 w g 0 q d os) := by
  have hs : (putRowK encP 2 (Go.Sort.ahead w q) g 0 d).heap.size = w.heap.size := by simp [putRowK, putRow, mapBlock, Go.Sort.ahead]
  refine ⟨rfl, rfl, rfl, ?_, fun k hk hn => ?_⟩
  · unfold sortWorldK
    rw [Go.Sort.size_grow, hs]
    omega
  · unfold sortWorldK
    rw [heap_grow_old _ _ (by rw [hs]; exact hk)]
    show (w.heap.modify g _)[k]? = _
    rw [Array.getElem?_modify, if_neg (fun e => hn e.symm)]
theorem holds_pts {base g c : Nat} {T : TypeId} {ps : List Pt} {w : World} (h : w.ownsRow base T 2 (.slice (some ⟨g, 0, none⟩) ps.length c) ps.length (cellsP ps)) : HoldsK encP 2 w g 0 ps.toArray := by
  intro t ht
  rw [size_flatK, List.size_toArray] at ht
  have hcl := cellsP_length ps
  rw [get_flatK _ _ _ _ (by simpa using ht), Nat.zero_add]
  refine ⟨?_, h.frozenAt t⟩
  have hi : t / 2 < ps.length := by omega
  have hd : ps.toArray[t / 2]! = ps[t / 2] := by simp [hi]
  obtain ⟨c1, c2⟩ := cellsP_at ps (t / 2) ps[t / 2] (by simp [hi])
  rw [h.cellAt t (by omega), hd]
  rcases Nat.mod_two_eq_zero_or_one t with e | e
  · rw [show (cellsP ps)[t]? = (cellsP ps)[t / 2 * 2]? by congr 1; omega, c1, e]; rfl
  · rw [show (cellsP ps)[t]? = (cellsP ps)[t / 2 * 2 + 1]? by congr 1; omega, c2, e]; rfl
theorem pts_holds {g c : Nat} {d : Array Pt} {w : World} (h : HoldsK encP 2 w g 0 d) (hg : g < w.heap.size) (hc : d.size ≤ c) : PtsAt w (some ⟨g, 0, none⟩) c d.toList := by
  refine .inr ⟨g, 0, rfl, hg, by simpa using hc, fun j e he => ?_⟩
  have hj : j < d.size := by
    rcases Nat.lt_or_ge j d.size with h | h
    · exact h
    · rw [List.getElem?_eq_none (by simpa using h)] at he; cases he
  have hd : d[j]! = e := by
    rw [getElem!_pos d j hj]
    simpa [hj] using he
  have c1 := (h.cell (i := j) (c := 0) hj (by decide)).1
  have c2 := (h.cell (i := j) (c := 1) hj (by decide)).1
  rw [hd] at c1 c2
  exact ⟨c1, c2⟩
theorem srtP_perm (ps : List Pt) : (srtP ps).Perm ps := List.mergeSort_perm _ _
set_option maxHeartbeats 1000000 in
/-- slices.SortFunc of points. -/
theorem sort52 (base g c : Nat) (ps : List Pt) (hps : ps.length ≤ 100000) (w : World) (hown : w.ownsRow base 99 2 (.slice (some ⟨g, 0, none⟩) ps.length c) ps.length (cellsP ps)) :
    Calls Tryd.prog 52 #[.slice (some ⟨g, 0, none⟩) ps.length c, .func (.func 53) #[] #[]] w fun e w' => e = .returned (.tuple #[]) ∧ PtsAt w' (some ⟨g, 0, none⟩) c (srtP ps) ∧ Keep (fun y => y = g) w w' := by
  have eg : ∀ args w, (callFunc 53 args).run Tryd.prog w = .ok (.enter 53 args) w := enters_of Tryd.func53 (by kernel_rfl) rfl
  have hH := holds_pts hown
  have hg : g < w.heap.size ∧ ps.length ≤ c := by
    obtain ⟨hl, ⟨hx, _⟩ | ⟨g', cap, cur, hx, hb, hg, hcap, _⟩⟩ := hown
    · injection hx with h1; cases h1
    · injection hx with h1 h2 h3
      obtain rfl : g = g' := by injection h1 with h1; injection h1
      exact ⟨(Array.getElem?_eq_some_iff.1 hg).1, by omega⟩
  have hcon := AnyQ.slices_SortFunc_total Tryd.sortPt 2 Tryd.isAgg99 Tryd.sizeOf99 encP (fun _ => rfl) (fun x v hv => by simp [encP] at hv; rcases hv with rfl | rfl <;> rfl) cmpP swoP 53 #[] g 0 c ps.toArray w eg (cmpLaysP g 0 _ w) hH hg.1 (by simp; omega)
    (fun x y h1 h2 => by rw [ltP, decide_eq_false_iff_not] at h1 h2; exact ltPt_tri x y h1 h2)
  rw [List.size_toArray] at hcon
  refine Calls.mono hcon ?_
  rintro e w' ⟨he, n, os, rfl⟩
  have hsz : (ps.mergeSort fun x y => !(ltOf cmpP) y x).toArray.size = ps.length := by simp
  refine ⟨he, pts_holds (holdsK_sortWorldK_c encP 2 w g 0 ps.toArray _ n os hH hg.1 (by simp)) ?_ (by rw [hsz]; exact hg.2), keep_sortK _ _⟩
  exact Nat.lt_of_lt_of_le hg.1 (keep_sortK (w := w) (g := g) (q := n) _ os).size
theorem sort52_none (a : Option Addr) (c : Nat) (f : Value) (w : World) :
    Calls Tryd.prog 52 #[.slice a 0 c, f] w fun e w' => e = .returned (.tuple #[]) ∧ w' = w :=
  AnyF.slices_SortFunc_none Tryd.sortPt a c f w
end Go.Proofs.YtlcpkplipfcdaaaDoor

/- ring.Build (written by genrgd.py). -/
namespace Go.Proofs.YtlcpkplipfcdaaaDoor
open Go.RowKit Go.Shelf Go.Lib Go.Sort

theorem infoPt : (Tryd.prog.info? 99).map (fun i => (i.zero, i.size, i.bytes)) = some (some (.agg #[.int .u64 0, .string ⟨#[]⟩]), 2, 24) := by kernel_rfl
theorem ownB_keepR {w w' : World} {base : Nat} {e : TypeId} {n m : Nat} {v : Value} {xs : List Value} (h : w.ownsRow base e n v m xs) (hb : Below w.heap.size w w') : w'.ownsRow base e n v m xs := by
  obtain ⟨hl, h0 | ⟨g, cap, cur, rfl, hbg, hg, r⟩⟩ := h
  · exact ⟨hl, .inl h0⟩
  · exact ⟨hl, .inr ⟨g, cap, cur, rfl, hbg, (hb.block g (Array.getElem?_eq_some_iff.1 hg).1).trans hg, r⟩⟩
theorem own_zeroR {w : World} {base : Nat} {e : TypeId} {n m : Nat} {v : Value} {xs : List Value} (h : w.ownsRow base e n v m xs) : w.ownsRow 0 e n v m xs := by
  obtain ⟨hl, h0 | ⟨g, cap, cur, rfl, hg, r⟩⟩ := h
  · exact ⟨hl, .inl h0⟩
  · exact ⟨hl, .inr ⟨g, cap, cur, rfl, Nat.zero_le _, r⟩⟩
theorem wrapR (z : Int) (h1 : -9223372036854775808 ≤ z) (h2 : z < 9223372036854775808) : IntKind.i64.wrap z = z := by
  simp [IntKind.wrap, IntKind.signed, IntKind.bits]; omega
theorem srtP_nil : srtP [] = [] := by simp [srtP]
theorem Row.ne {w : World} {g g' : Nat} {t t' : TypeId} {cs cs' : Array Value} (h : Row w g t cs) (h' : Row w g' t' cs') (ht : t ≠ t') : g ≠ g' := by
  rintro rfl
  unfold Row at h h'
  rw [h] at h'
  injection h' with h'
  injection h' with _ h2
  exact ht h2
theorem own_farR {w : World} {base : Nat} {e : TypeId} {n m : Nat} {v : Value} {xs : List Value} (h : w.ownsRow base e n v m xs) {b o : Nat} (hne : v.ownBlock ≠ some b) (u : Value) : (w.setCell ⟨b, o, none⟩ u).ownsRow base e n v m xs := by
  obtain ⟨hl, h0 | ⟨g, cap, cur, rfl, hbg, hg, r⟩⟩ := h
  · exact ⟨hl, .inl h0⟩
  · refine ⟨hl, .inr ⟨g, cap, cur, rfl, hbg, ?_, r⟩⟩
    rw [Below.heap_setCell w ⟨b, o, none⟩ u g (fun e => hne (by rw [← (show g = b from e)]; rfl))]
    exact hg
/-- What is there while a point is appended. -/
structure RpS (W : World) (rb eb kb : Nat) (k : Nat → UInt8) (m : Nat) (v : Value) (n : Nat) (xs : List Value) (N : ByteArray) (V : Int) (p1 : Nat) (L : Nat → Bool) (x : Nat → Value) (w : World) : Prop where
  bel : Below W.heap.size W w
  row : Row w rb 97 #[v, .int .i64 (n : Nat)]
  box : Row w eb 92 #[.string N, .int .i64 V]
  key : Row w kb 26 #[.int .u8 (k 0).toNat, .int .u8 (k 1).toNat, .int .u8 (k 2).toNat, .int .u8 (k 3).toNat, .int .u8 (k 4).toNat, .int .u8 (k 5).toNat, .int .u8 (k 6).toNat, .int .u8 (k 7).toNat, .int .u8 (k 8).toNat, .int .u8 (k 9).toNat, .int .u8 (k 10).toNat, .int .u8 (k 11).toNat, .int .u8 (k 12).toNat, .int .u8 (k 13).toNat, .int .u8 (k 14).toNat, .int .u8 (k 15).toNat]
  z10 : L 10 = false → w.ownsRow W.heap.size 99 2 v m xs
  z9 : L 9 = true → L 10 = false → ∃ g, x 9 = .slice (some ⟨g, 0, none⟩) 1 1 ∧ Row w g 99 #[.int .u64 (p1 : Nat), .string N]
  z11 : L 10 = true → w.ownsRow W.heap.size 99 2 (x 10) (m + 1) (xs ++ [.int .u64 (p1 : Nat), .string N])
section
variable {W : World} {rb eb kb : Nat} {k : Nat → UInt8} {m : Nat} {v : Value} {n : Nat} {xs : List Value} {N : ByteArray} {V : Int} {p1 : Nat} {L : Nat → Bool} {x : Nat → Value} {w w' : World}
theorem RpS.below (h : RpS W rb eb kb k m v n xs N V p1 L x w) (hb : Below w.heap.size w w') : RpS W rb eb kb k m v n xs N V p1 L x w' :=
  ⟨h.bel.trans (hb.mono h.bel.size), h.row.below hb, h.box.below hb, h.key.below hb, fun e => ownB_keepR (h.z10 e) hb, fun e e2 => by obtain ⟨g, h1, h2⟩ := h.z9 e e2; exact ⟨g, h1, h2.below hb⟩, fun e => ownB_keepR (h.z11 e) hb⟩
theorem RpS.next (h : RpS W rb eb kb k m v n xs N V p1 L x w) (i : Nat) (u : Value) (h9 : i ≠ 9) (h10 : i ≠ 10) : RpS W rb eb kb k m v n xs N V p1 (setL L i) (updV x i u) w := by
  have e9 : setL L i 9 = L 9 := by simp [setL, Ne.symm h9]
  have e10 : setL L i 10 = L 10 := by simp [setL, Ne.symm h10]
  have x9 : updV x i u 9 = x 9 := by simp [updV, Ne.symm h9]
  have x10 : updV x i u 10 = x 10 := by simp [updV, Ne.symm h10]
  exact ⟨h.bel, h.row, h.box, h.key, by rw [e10]; exact h.z10, by rw [e9, x9, e10]; exact h.z9, by rw [e10, x10]; exact h.z11⟩
theorem RpS.put (h : RpS W rb eb kb k m v n xs N V p1 L x w) : RpS W rb eb kb k m v n xs N V p1 (setL L 9) (updV x 9 (.slice (some ⟨w.heap.size, 0, none⟩) 1 1)) (w.alloc (.cells #[.int .u64 (p1 : Nat), .string N] 99)) := by
  have h' := h.below (below_alloc w (.cells #[.int .u64 (p1 : Nat), .string N] 99))
  have e10 : setL L 9 10 = L 10 := by simp [setL]
  have x10 : updV x 9 (.slice (some ⟨w.heap.size, 0, none⟩) 1 1) 10 = x 10 := by simp [updV]
  exact ⟨h'.bel, h'.row, h'.box, h'.key, by rw [e10]; exact h'.z10, fun _ _ => ⟨w.heap.size, by simp [updV], Row.new w _ _⟩, by rw [e10, x10]; exact h'.z11⟩
theorem RpS.app (h : RpS W rb eb kb k m v n xs N V p1 L x w) {v' : Value} (ho : w'.ownsRow W.heap.size 99 2 v' (m + 1) (xs ++ [.int .u64 (p1 : Nat), .string N])) (hg : w.grownBy w' v.ownBlock) (hl : L 10 = false) : RpS W rb eb kb k m v n xs N V p1 (setL L 10) (updV x 10 v') w' := by
  have hz := h.z10 hl
  have hn : ∀ {g : Nat} {t : TypeId} {cs : Array Value}, Row w g t cs → 99 ≠ t → v.ownBlock ≠ some g := fun hr hne => own_ne (own_zeroR hz) hr hne
  refine ⟨h.bel.grown hg h.bel.size (fun y e => (hz.lt y e).1), h.row.grown hg (hn h.row (by decide)), h.box.grown hg (hn h.box (by decide)), h.key.grown hg (hn h.key (by decide)), fun e => by simp [setL] at e, fun _ e => by simp [setL] at e, fun _ => by simpa [updV] using ho⟩
end
theorem cnt_le {p W G : Nat} (hp : 1 ≤ p) (hW : W ≤ G) : cntP p W G ≤ p := by
  unfold cntP
  have : p * W / G ≤ p := by
    rcases Nat.eq_zero_or_pos G with h | h
    · subst h; simp
    · exact Nat.div_le_of_le_mul (by rw [Nat.mul_comm G p]; exact Nat.mul_le_mul_left p hW)
  omega
theorem gmE_ge : ∀ {l : List Ent} {e : Ent}, e ∈ l → e.2 ≤ gmE l
  | x :: l, e, h => by
    show e.2 ≤ max x.2 (gmE l)
    rcases List.mem_cons.1 h with rfl | h
    · omega
    · have := gmE_ge h; omega
theorem gmE_le {B : Int} (hB : 0 ≤ B) : ∀ {l : List Ent}, (∀ e ∈ l, e.2 ≤ B) → gmE l ≤ B
  | [], _ => hB
  | x :: l, h => by
    show max x.2 (gmE l) ≤ B
    have h1 := h x (by simp)
    have h2 := gmE_le hB (l := l) (fun e he => h e (by simp [he]))
    omega
set_option maxRecDepth 100000 in
set_option maxHeartbeats 4000000 in
theorem ringBuild27_bad (k : Nat → UInt8) (es : List Ent) (hl : es.length ≤ 6) (hz : ∀ e ∈ es, e.1.size ≤ 1000) (hv : validB es = false) (per : Int) (a : Option Addr) (c : Nat) (w : World) (hf : IsEnts w a c es) :
    Calls Tryd.prog 27 #[keyVal k, .slice a es.length c, .int .i64 per] w fun e w' => e = .returned (.tuple #[.pointer none, .int .i64 1]) ∧ Below w.heap.size w w' := by
  have hb0 := below_alloc w (.cells #[.int .u8 (k 0).toNat, .int .u8 (k 1).toNat, .int .u8 (k 2).toNat, .int .u8 (k 3).toNat, .int .u8 (k 4).toNat, .int .u8 (k 5).toNat, .int .u8 (k 6).toNat, .int .u8 (k 7).toNat, .int .u8 (k 8).toNat, .int .u8 (k 9).toNat, .int .u8 (k 10).toNat, .int .u8 (k 11).toNat, .int .u8 (k 12).toNat, .int .u8 (k 13).toNat, .int .u8 (k 14).toNat, .int .u8 (k 15).toNat] 26)
  have HF := Lib.hid (hf.below hb0)
  have HB0 := Lib.hid hb0
  have HD := Lib.hid (fun W hE => distinct48 a c es (by omega) (fun e he => by have := hz e he; unfold maxLen; omega) W hE)
  have HP := Lib.hid (fun W hE => permitted49 a c es (by omega) W hE)
  have k1 : ¬ ((1024 : Int) < es.length) := by omega
  unfold keyVal
  clear hb0 hf
  by_cases ha : Apart es
  · have HA : Hid (decide (Apart es) = true) := decide_eq_true ha
    have HO : Hid (es.all okW = false) := by
      unfold validB at hv
      rw [decide_eq_true ha, Bool.and_true] at hv
      exact hv
    rw [HA.out] at HD
    rw [HO.out] at HP
    clear HA HO hv ha
    go_enter Tryd.func27, Tryd.ntmps27
    go_wp2_with (first
      | (go_at_call 48; refine (HD.out _ HF.out).mono ?_; rintro e w1 ⟨rfl, hB1⟩; have HF1 := Lib.hid (HF.out.below hB1); have HB1 := Lib.hid (HB0.out.trans (hB1.mono HB0.out.size)); clear hB1)
      | (go_at_call 49; refine (HP.out _ HF1.out).mono ?_; rintro e w2 ⟨rfl, hB2⟩; have HB2 := Lib.hid (HB1.out.trans (hB2.mono HB1.out.size)); clear hB2))
    go_ret2
    exact ⟨rfl, HB2.out⟩
  · have HA : Hid (decide (Apart es) = false) := decide_eq_false ha
    rw [HA.out] at HD
    clear HA hv ha HP
    go_enter Tryd.func27, Tryd.ntmps27
    go_wp2_with (go_at_call 48; refine (HD.out _ HF.out).mono ?_; rintro e w1 ⟨rfl, hB1⟩; have HB1 := Lib.hid (HB0.out.trans (hB1.mono HB0.out.size)); clear hB1)
    go_ret2
    exact ⟨rfl, HB1.out⟩
set_option maxRecDepth 100000 in
set_option maxHeartbeats 8000000 in
theorem ringBuild27 (k : Nat → UInt8) (es : List Ent) (hl : es.length ≤ 6) (hz : ∀ e ∈ es, e.1.size ≤ 1000) (hv : validB es = true) (per : Int) (p : Nat) (hper : min (max per 1) 256 = (p : Int)) (a : Option Addr) (c : Nat) (w : World) (hI : Ini w) (hpw : Pow w) (hf : IsEnts w a c es) :
    Calls Tryd.prog 27 #[keyVal k, .slice a es.length c, .int .i64 per] w fun e w' => ∃ rb, e = .returned (.tuple #[.pointer (some ⟨rb, 0, none⟩), .int .i64 0]) ∧ RingAt w' rb (srtP (ptsL k p (gmE es).toNat es)) es.length ∧ Below w.heap.size w w' := by
  obtain ⟨i0, hi0, hz0, hz1, hz2⟩ := info_parts infoPt
  have hok : ∀ e ∈ es, okW e = true := by
    unfold validB at hv
    rw [Bool.and_eq_true] at hv
    exact fun e he => List.all_eq_true.1 hv.1 e he
  have hrange : ∀ e ∈ es, 1 ≤ e.2 ∧ e.2 ≤ 65535 := fun e he => by have := hok e he; unfold okW at this; simpa using this
  have hap : Apart es := by
    unfold validB at hv
    rw [Bool.and_eq_true] at hv
    exact of_decide_eq_true hv.2
  have hb0 := below_alloc w (.cells #[.int .u8 (k 0).toNat, .int .u8 (k 1).toNat, .int .u8 (k 2).toNat, .int .u8 (k 3).toNat, .int .u8 (k 4).toNat, .int .u8 (k 5).toNat, .int .u8 (k 6).toNat, .int .u8 (k 7).toNat, .int .u8 (k 8).toNat, .int .u8 (k 9).toNat, .int .u8 (k 10).toNat, .int .u8 (k 11).toNat, .int .u8 (k 12).toNat, .int .u8 (k 13).toNat, .int .u8 (k 14).toNat, .int .u8 (k 15).toNat] 26)
  have HF := Lib.hid hf
  have HI := Lib.hid hI
  have HPW := Lib.hid hpw
  have HB0 := Lib.hid hb0
  have HKR := Lib.hid (Row.new w 26 #[.int .u8 (k 0).toNat, .int .u8 (k 1).toNat, .int .u8 (k 2).toNat, .int .u8 (k 3).toNat, .int .u8 (k 4).toNat, .int .u8 (k 5).toNat, .int .u8 (k 6).toNat, .int .u8 (k 7).toNat, .int .u8 (k 8).toNat, .int .u8 (k 9).toNat, .int .u8 (k 10).toNat, .int .u8 (k 11).toNat, .int .u8 (k 12).toNat, .int .u8 (k 13).toNat, .int .u8 (k 14).toNat, .int .u8 (k 15).toNat])
  have hd := fun W hE => distinct48 a c es (by omega) (fun e he => by have := hz e he; unfold maxLen; omega) W hE
  rw [decide_eq_true hap] at hd
  have HD := Lib.hid hd
  have hp4 := fun W hE => permitted49 a c es (by omega) W hE
  rw [List.all_eq_true.2 hok] at hp4
  have HP := Lib.hid hp4
  have HGW := Lib.hid (fun W hE => greatest50 a c es (by omega) W hE)
  have HRG := Lib.hid hrange
  have HZ := Lib.hid hz
  have hp1 : 1 ≤ p ∧ p ≤ 256 := by omega
  have hG65 : gmE es ≤ 65535 := gmE_le (by decide) fun e he => (hrange e he).2
  have hG0 := gmE_nonneg es
  have HGG := Lib.hid (fun e (he : e ∈ es) => gmE_ge he)
  obtain ⟨G, hG⟩ : ∃ G : Nat, gmE es = (G : Int) := ⟨(gmE es).toNat, by omega⟩
  rw [hG] at HGW HGG hG65
  rw [hG, Int.toNat_natCast]
  have k1 : ¬ ((1024 : Int) < es.length) := by omega
  clear hb0 hf hI hpw hd hp4 hok hrange hap hv hz hG hG0
  unfold keyVal
  go_enter Tryd.func27, Tryd.ntmps27
  go_upto_region 1 with fail
  generalize w.alloc (.cells #[.int .u8 (k 0).toNat, .int .u8 (k 1).toNat, .int .u8 (k 2).toNat, .int .u8 (k 3).toNat, .int .u8 (k 4).toNat, .int .u8 (k 5).toNat, .int .u8 (k 6).toNat, .int .u8 (k 7).toNat, .int .u8 (k 8).toNat, .int .u8 (k 9).toNat, .int .u8 (k 10).toNat, .int .u8 (k 11).toNat, .int .u8 (k 12).toNat, .int .u8 (k 13).toNat, .int .u8 (k 14).toNat, .int .u8 (k 15).toNat] 26) = w0 at *
  have HF0 := Lib.hid (HF.out.below HB0.out)
  go_upto_region 5 with (first
    | (go_at_call 48; refine (HD.out _ HF0.out).mono ?_; rintro e w1 ⟨rfl, hB1⟩; have HF1 := Lib.hid (HF0.out.below hB1); have HK1 := Lib.hid (HKR.out.below hB1); have HB1 := Lib.hid (HB0.out.trans (hB1.mono HB0.out.size)); clear hB1)
    | (go_at_call 49; refine (HP.out _ HF1.out).mono ?_; rintro e w2 ⟨rfl, hB2⟩; have HF2 := Lib.hid (HF1.out.below hB2); have HK2 := Lib.hid (HK1.out.below hB2); have HB2 := Lib.hid (HB1.out.trans (hB2.mono HB1.out.size)); clear hB2)
    | (go_at_call 50; refine (HGW.out _ HF2.out).mono ?_; rintro e w3 ⟨rfl, hB3⟩; have HF3 := Lib.hid (HF2.out.below hB3); have HK3 := Lib.hid (HK2.out.below hB3); have HB3 := Lib.hid (HB2.out.trans (hB3.mono HB2.out.size)); clear hB3))
  have HR4 := Lib.hid (Row.new w3 97 #[.slice none 0 0, .int .i64 (es.length : Nat)])
  have HK4 := Lib.hid (HK3.out.alloc (.cells #[.slice none 0 0, .int .i64 (es.length : Nat)] 97))
  have HB4 := Lib.hid (HB3.out.alloc HB3.out.size (.cells #[.slice none 0 0, .int .i64 (es.length : Nat)] 97))
  clear HF0 HF1 HF2 HF3 HK1 HK2 HK3 HB1 HB2 HD HP HGW HKR HB0
  have HKBL : Hid (w.heap.size ≤ w3.heap.size) := HB3.out.size
  go_upto_region 7 with fail
  generalize hrb : w3.heap.size = rb at *
  clear hrb
  generalize w3.alloc (.cells #[.slice none 0 0, .int .i64 (es.length : Nat)] 97) = w4 at *
  have HN4 : Hid (w4.ownsRow w.heap.size 99 2 (.slice none 0 0) (ptsL k p G (es.take 0)).length (cellsP (ptsL k p G (es.take 0)))) := World.ownsRow_nil _ _ _ _
  go_loopw [37] (fun i wr => ∃ (j : Nat) (v : Value), j ≤ es.length ∧ i = .int .i64 (j : Int) ∧ Hid (Row wr rb 97 #[v, .int .i64 (es.length : Nat)]) ∧ Hid (Row wr w.heap.size 26 #[.int .u8 (k 0).toNat, .int .u8 (k 1).toNat, .int .u8 (k 2).toNat, .int .u8 (k 3).toNat, .int .u8 (k 4).toNat, .int .u8 (k 5).toNat, .int .u8 (k 6).toNat, .int .u8 (k 7).toNat, .int .u8 (k 8).toNat, .int .u8 (k 9).toNat, .int .u8 (k 10).toNat, .int .u8 (k 11).toNat, .int .u8 (k 12).toNat, .int .u8 (k 13).toNat, .int .u8 (k 14).toNat, .int .u8 (k 15).toNat]) ∧ Hid (wr.ownsRow w.heap.size 99 2 v (ptsL k p G (es.take j)).length (cellsP (ptsL k p G (es.take j)))) ∧ Hid (Below w.heap.size w wr)) (fun i _ => es.length - (intOf i).toNat)
  case atStart => exact ⟨0, _, Nat.zero_le _, rfl, HR4, HK4, HN4, HB4⟩
  case round =>
    clear HR4 HK4 HB4 HN4
    obtain ⟨j, v, hj, rfl, HR, HK, HO, HB⟩ := hrel
    by_cases hlt : j < es.length
    · obtain h0 | ⟨bk, o, rfl, hbk, hc, hcell⟩ := HF.out.below HB.out
      · subst h0; simp at hlt
      obtain ⟨c1, c2⟩ := hcell j es[j] (by simp [hlt])
      have hrg := HRG.out es[j] (List.getElem_mem hlt)
      have hgg := HGG.out es[j] (List.getElem_mem hlt)
      have hzz := HZ.out es[j] (List.getElem_mem hlt)
      have HST := Lib.hid (ptsL_step (k := k) (p := p) (G := G) hlt)
      have HTL : Hid (∀ i, i ≤ cntP p es[j].2.toNat G → (ptsL k p G (es.take j) ++ (ptsE k p G es[j]).take i).length ≤ 2000) := fun i hi => by
        have h1 := ptsL_le (k := k) (p := p) (G := G) (es := es.take j) (fun e he => by
          have h2 := HRG.out e (List.mem_of_mem_take he)
          have h3 := HGG.out e (List.mem_of_mem_take he)
          have := cnt_le (p := p) (W := e.2.toNat) (G := G) hp1.1 (by omega)
          omega)
        have h4 := cnt_le (p := p) (W := es[j].2.toNat) (G := G) hp1.1 (by omega)
        rw [List.length_append, List.length_take, ptsE_len]
        rw [List.length_take] at h1
        omega
      have HES : Hid (∀ i, i < cntP p (es[j]).2.toNat G → (ptsE k p G es[j]).take (i + 1) = (ptsE k p G es[j]).take i ++ [(ptV k (es[j]).1 i, (es[j]).1)]) := fun i h => ptsE_step h
      have hcl := cnt_le (p := p) (W := es[j].2.toNat) (G := G) hp1.1 (by omega)
      have HEL := Lib.hid (ptsE_len k p G es[j])
      have j1 : (j : Int) < es.length := by omega
      generalize es[j] = e at *
      obtain ⟨N, V⟩ := e
      simp only at c1 c2 hrg hgg hzz HES hcl HTL HEL
      obtain ⟨U, rfl⟩ : ∃ U : Nat, V = (U : Int) := ⟨V.toNat, by omega⟩
      rw [Int.toNat_natCast] at HES hcl HTL HEL
      have HRa := Lib.hid (HR.out.alloc (.cells #[.string N, .int .i64 (U : Nat)] 92))
      have HKa := Lib.hid (HK.out.alloc (.cells #[.string N, .int .i64 (U : Nat)] 92))
      have HOa := Lib.hid (HO.out.alloc (.cells #[.string N, .int .i64 (U : Nat)] 92))
      have HBa := Lib.hid (HB.out.alloc HB.out.size (.cells #[.string N, .int .i64 (U : Nat)] 92))
      have HXa := Lib.hid (Row.new wr 92 #[.string N, .int .i64 (U : Nat)])
      have hpu : p * U ≤ 256 * 65535 := Nat.mul_le_mul hp1.2 (by omega)
      have hmul : (p : Int) * (U : Int) = ((p * U : Nat) : Int) := by simp
      have hwm := wrapR ((p * U : Nat) : Int) (by omega) (by omega)
      have hql : p * U / G ≤ p * U := Nat.div_le_self _ _
      have hquo : ((p * U : Nat) : Int).tdiv (G : Int) = ((p * U / G : Nat) : Int) := by rw [Int.tdiv_eq_ediv_of_nonneg (by omega)]; rfl
      have hmx : max ((p * U / G : Nat) : Int) 1 = ((cntP p U G : Nat) : Int) := by unfold cntP; omega
      have hG1 : ¬ (G : Int) = 0 := by omega
      have hG2 : ¬ G = 0 := by omega
      generalize p * U / G = q9 at hql hquo hmx
      have hwq := wrapR (q9 : Int) (by omega) (by omega)
      generalize p * U = pu at *
      clear hcell HR HK HO HB hbk
      go_upto_region 9 with fail
      clear c1 c2
      generalize wr.heap.size = eb at *
      generalize wr.alloc (.cells #[.string N, .int .i64 (U : Nat)] 92) = wa at *
      have d1 : wa.cell? ⟨eb, 1, none⟩ = some (.int .i64 (U : Nat)) := by rw [HXa.out.cell]; rfl
      have HN0 : Hid (wa.ownsRow w.heap.size 99 2 v (ptsL k p G (es.take j) ++ (ptsE k p G (N, (U : Int))).take 0).length (cellsP (ptsL k p G (es.take j) ++ (ptsE k p G (N, (U : Int))).take 0))) := by
        rw [List.take_zero, List.append_nil]; exact HOa
      clear HOa
      go_wp2_with fail
      clear d1 hmul hwm hquo hmx hwq hql hpu
      have HCL := Lib.hid hcl
      generalize hcn : cntP p U G = cn at *
      have HCN := Lib.hid hcn
      clear hcn
      generalize ptsL k p G (es.take j) = ps0 at *
      go_loopw [48] (fun i wr => ∃ (i' : Nat) (v : Value), i' ≤ cn ∧ i = .int .i64 (i' : Int) ∧ Hid (Row wr rb 97 #[v, .int .i64 (es.length : Nat)]) ∧ Hid (Row wr w.heap.size 26 #[.int .u8 (k 0).toNat, .int .u8 (k 1).toNat, .int .u8 (k 2).toNat, .int .u8 (k 3).toNat, .int .u8 (k 4).toNat, .int .u8 (k 5).toNat, .int .u8 (k 6).toNat, .int .u8 (k 7).toNat, .int .u8 (k 8).toNat, .int .u8 (k 9).toNat, .int .u8 (k 10).toNat, .int .u8 (k 11).toNat, .int .u8 (k 12).toNat, .int .u8 (k 13).toNat, .int .u8 (k 14).toNat, .int .u8 (k 15).toNat]) ∧ Hid (Row wr eb 92 #[.string N, .int .i64 (U : Nat)]) ∧ Hid (wr.ownsRow w.heap.size 99 2 v (ps0 ++ (ptsE k p G (N, (U : Int))).take i').length (cellsP (ps0 ++ (ptsE k p G (N, (U : Int))).take i'))) ∧ Hid (Below w.heap.size w wr)) (fun i _ => cn - (intOf i).toNat)
      case atStart => exact ⟨0, _, Nat.zero_le _, rfl, HRa, HKa, HXa, HN0, HBa⟩
      case round =>
        clear HRa HKa HXa HN0 HBa
        rename_i wr0
        obtain ⟨i, v, hi, rfl, HR, HK, HX, HO, HB⟩ := hrel
        by_cases hlt2 : i < cn
        · have HSTE := Lib.hid (HES.out i hlt2)
          have HTLE := Lib.hid (HTL.out i (by omega))
          have i1 : (i : Int) < cn := by omega
          have HPT := Lib.hid (fun W hI hP => point51 k N (U : Int) (by omega) i (by omega) W hI hP)
          generalize ptV k N i = p1 at *
          have HMM : Hid ((ps0 ++ (ptsE k p G (N, (U : Int))).take (i + 1)) = (ps0 ++ (ptsE k p G (N, (U : Int))).take i) ++ [(p1, N)]) := by
            show _ = _
            rw [HSTE.out, List.append_assoc]
          have hml := HTLE.out
          generalize ps0 ++ (ptsE k p G (N, (U : Int))).take i = ps at *
          generalize hmm : ps.length = mm at *
          generalize hxs : cellsP ps = xs at *
          have HMX := Lib.hid (And.intro hmm hxs)
          have HMV : Hid (∃ V : Int, V = (U : Int)) := ⟨_, rfl⟩
          obtain ⟨V, hV⟩ := HMV.out
          rw [← hV] at HX HPT ⊢
          have HVE := Lib.hid hV
          clear hmm hxs HMV hV
          go_wp2_with fail
          refine region_mixt 11 [some (.pointer (some ⟨rb, 0, none⟩)), some (.pointer (some ⟨rb, 0, none⟩)), some (.pointer (some ⟨rb, 0, none⟩)), some (.pointer (some ⟨rb, 0, none⟩)), some (v), some (.agg #[.string N, .int .i64 V]), some (.agg #[.int .u8 (k 0).toNat, .int .u8 (k 1).toNat, .int .u8 (k 2).toNat, .int .u8 (k 3).toNat, .int .u8 (k 4).toNat, .int .u8 (k 5).toNat, .int .u8 (k 6).toNat, .int .u8 (k 7).toNat, .int .u8 (k 8).toNat, .int .u8 (k 9).toNat, .int .u8 (k 10).toNat, .int .u8 (k 11).toNat, .int .u8 (k 12).toNat, .int .u8 (k 13).toNat, .int .u8 (k 14).toNat, .int .u8 (k 15).toNat]), some (.int .i64 (i : Nat)), some (.agg #[.int .u64 (p1 : Nat), .string N]), none, none]
            [[false, false, false, false, false, false, false, false, false, false, false], [false, false, false, false, false, false, false, false, false, false, false], [false, true, false, false, false, false, false, false, false, false, false], [false, false, true, false, false, false, false, false, false, false, false], [false, false, false, true, false, false, false, false, false, false, false], [false, false, false, false, false, false, false, false, false, false, false], [false, false, false, false, false, false, false, false, false, false, false], [false, false, false, false, false, false, false, false, false, false, false], [false, false, false, false, false, true, true, true, false, false, false], [false, false, false, false, false, false, false, false, true, false, false], [false, false, false, false, true, false, false, false, true, true, false]]
            (fun LL xx w9 => RpS w rb eb w.heap.size k mm v es.length xs N V p1 LL xx w9)
            (by kernel_rfl) (by kernel_rfl) (by kernel_rfl) (by kernel_rfl) (by kernel_rfl) (by decide) ?_ ?_ ?_
          · intro x
            exact ⟨HB.out.drew, HR.out.drew, HX.out.drew, HK.out.drew, fun _ => ownB_keepR HO.out ((Below.refl _ _).drew), (fun h => by cases h), (fun h => by cases h)⟩
          · simp only [List.take_succ_cons, List.take_zero]
            refine ⟨?_, ?_, ?_, ?_, ?_, ?_, ?_, ?_, ?_, ?_, ?_, trivial⟩
            all_goals
              intro L x w9 hS hl hp K9 hK9
              have hs : RpS w rb eb w.heap.size k mm v es.length xs N V p1 L x w9 := hS
              clear hS
              replace hK9 := hK9.out
              simp only [actMix, pickV, List.tail_cons, List.headD_cons, Act.put, List.setIfInBounds_toArray, List.set_cons_zero, List.set_cons_succ] at hK9 ⊢
            · clear hp
              go_simp
              with_reducible refine hK9 _ ?_
              exact hs.next 0 _ (by decide) (by decide)
            · clear hp
              go_simp
              with_reducible refine hK9 _ ?_
              exact hs.next 1 _ (by decide) (by decide)
            · clear hp
              go_simp
              with_reducible refine hK9 _ ?_
              exact hs.next 2 _ (by decide) (by decide)
            · clear hp
              go_simp
              with_reducible refine hK9 _ ?_
              exact hs.next 3 _ (by decide) (by decide)
            · have r0 : w9.cell? ⟨rb, 0, none⟩ = some v := by rw [hs.row.cell]; rfl
              clear hp
              go_simp
              with_reducible refine hK9 _ ?_
              exact hs.next 4 _ (by decide) (by decide)
            · have r0 : w9.cell? ⟨eb, 0, none⟩ = some (.string N) := by rw [hs.box.cell]; rfl
              have r1 : w9.cell? ⟨eb, 1, none⟩ = some (.int .i64 V) := by rw [hs.box.cell]; rfl
              clear hp
              go_simp
              with_reducible refine hK9 _ ?_
              exact hs.next 5 _ (by decide) (by decide)
            · have hkk := isKey_rowC hs.key
              clear hp
              rw [if_pos (by rfl)]
              refine wp_load_mid 26 _ rfl w.heap.size 0 rfl [.int .u8 (k 0).toNat, .int .u8 (k 1).toNat, .int .u8 (k 2).toNat, .int .u8 (k 3).toNat, .int .u8 (k 4).toNat, .int .u8 (k 5).toNat, .int .u8 (k 6).toNat, .int .u8 (k 7).toNat, .int .u8 (k 8).toNat, .int .u8 (k 9).toNat, .int .u8 (k 10).toNat, .int .u8 (k 11).toNat, .int .u8 (k 12).toNat, .int .u8 (k 13).toNat, .int .u8 (k 14).toNat, .int .u8 (k 15).toNat] _ (key_range hkk) Tryd.underlying26 rfl (by kernel_rfl) ?_
              simp only [Act.put, List.setIfInBounds_toArray, List.set_cons_zero, List.set_cons_succ]
              with_reducible refine hK9 _ ?_
              exact hs.next 6 _ (by decide) (by decide)
            · clear hp
              go_simp
              with_reducible refine hK9 _ ?_
              exact hs.next 7 _ (by decide) (by decide)
            · clear hp
              go_simp
              refine (HPT.out w9 (HI.out.below hs.bel) (HPW.out.below hs.bel)).mono ?_
              rintro e w8 ⟨rfl, hB8⟩
              go_simp
              with_reducible refine hK9 _ ?_
              exact (hs.below hB8).next 8 _ (by decide) (by decide)
            · clear hp
              go_simp
              with_reducible refine hK9 _ _ ?_
              exact hs.put
            · obtain ⟨g8, hx8, hr8⟩ := hs.z9 (allL_mem hp 9 (by decide +kernel)) hl
              have ho := hs.z10 hl
              have src : ∀ (q : Nat) u, [Value.int .u64 (p1 : Nat), .string N][q]? = some u → w9.cell? ((⟨g8, 0, none⟩ : Addr).add q) = some u := fun q u hu => by
                rw [Addr.add_mid, Nat.zero_add, hr8.cell, List.getElem?_toArray]
                exact hu
              clear hp
              rw [hx8] at hK9 ⊢
              refine wp_append_own _ _ _ 95 rfl w.heap.size 99 i0 (.agg #[.int .u64 0, .string ⟨#[]⟩]) 2 24 Tryd.underlying95 hi0 hz0 hz1 hz2 rfl (by decide) _ _ _ rfl ho ⟨g8, 0, none⟩ 1 1 [.int .u64 (p1 : Nat), .string N] rfl rfl src (by intro u hu; simp at hu; rcases hu with rfl | rfl <;> rfl) (by unfold maxLen; omega) (by omega) hs.bel.size ?_
              intro v' w1 hown1 hgrow _
              simp only [Act.put, List.setIfInBounds_toArray, List.set_cons_zero, List.set_cons_succ]
              with_reducible refine hK9 _ _ ?_
              exact hs.app hown1 hgrow hl
          intro L x w9 hS hL
          have hs : RpS w rb eb w.heap.size k mm v es.length xs N V p1 L x w9 := hS
          have hown := hs.z11 (hL 10 (by decide))
          simp only [actMix, pickV, List.tail_cons, List.headD_cons, Act.put, List.setIfInBounds_toArray, List.set_cons_zero, List.set_cons_succ, List.replicate_succ, List.replicate_zero, List.drop_succ_cons, List.drop_zero, List.take_succ_cons, List.take_zero]
          generalize x 9 = xa
          generalize x 10 = v' at *
          have r0 : w9.cell? ⟨rb, 0, none⟩ = some v := by rw [hs.row.cell]; rfl
          have f0 : w9.frozen? ⟨rb, 0, none⟩ = false := hs.row.free 0
          have HR2 : Hid (Row (w9.setCell ⟨rb, 0, none⟩ v') rb 97 #[v', .int .i64 (es.length : Nat)]) := hs.row.put 0 v'
          have HK2 := Lib.hid (hs.key.far (p := ⟨rb, 0, none⟩) (hs.key.ne hs.row (by decide)) v')
          have HX2 := Lib.hid (hs.box.far (p := ⟨rb, 0, none⟩) (hs.box.ne hs.row (by decide)) v')
          have HO2 : Hid ((w9.setCell ⟨rb, 0, none⟩ v').ownsRow w.heap.size 99 2 v' (mm + 1) (xs ++ [.int .u64 (p1 : Nat), .string N])) := own_farR hown (own_ne (own_zeroR hown) hs.row (by decide)) v'
          have HB2 := Lib.hid (hs.bel.setCell (p := ⟨rb, 0, none⟩) HKBL.out v')
          obtain ⟨g', cap', hv'⟩ := ownsRow_succ hown
          clear hS hs hL hown HR HK HX HO HB
          rw [hv'] at HR2 HK2 HX2 HO2 HB2 ⊢
          clear hv'
          go_wp2_with fail
          go_roundw
          case rel =>
            refine ⟨i + 1, _, hlt2, by go_num, HR2, HK2, HX2, ?_, HB2⟩
            show World.ownsRow _ _ _ _ _ _ _
            rw [HVE.out, HMM.out, List.length_append, cellsP_append, HMX.out.1, HMX.out.2]
            exact HO2.out
          case measure => simp [intOf]; omega
        · obtain rfl : i = cn := by omega
          have hne : ¬ (i : Int) < i := by omega
          have HN9 : Hid (wr.ownsRow w.heap.size 99 2 v (ptsL k p G (es.take (j + 1))).length (cellsP (ptsL k p G (es.take (j + 1))))) := by
            have := HO.out
            rw [List.take_of_length_le (by rw [HEL.out]; exact Nat.le_refl _)] at this
            show World.ownsRow _ _ _ _ _ _ _
            rw [HST.out]; exact this
          go_wp2_with fail
          go_roundw
          case rel => exact ⟨j + 1, v, hlt, by go_num, HR, HK, HN9, HB⟩
          case measure => simp [intOf]; omega
    · obtain rfl : j = es.length := by omega
      have hne : ¬ (es.length : Int) < es.length := by omega
      have ho := HO.out
      rw [List.take_length] at ho
      have HLE : Hid ((ptsL k p G es).length ≤ 2000) := by
        have h1 := ptsL_le (k := k) (p := p) (G := G) (es := es) (fun e he => by
          have h2 := HRG.out e he
          have h3 := HGG.out e he
          have := cnt_le (p := p) (W := e.2.toNat) (G := G) hp1.1 (by omega)
          omega)
        show _ ≤ _
        omega
      have r0 : wr.cell? ⟨rb, 0, none⟩ = some v := by rw [HR.out.cell]; rfl
      have HR1 : Hid (wr.cell? ⟨rb, 1, none⟩ = some (.int .i64 (es.length : Nat))) := by show _ = _; rw [HR.out.cell]; rfl
      by_cases h0 : (ptsL k p G es).length = 0
      · obtain ⟨a9, c9, hv9⟩ := own_slice ho
        subst hv9
        rw [h0] at r0
        have HR0 := Lib.hid r0
        have HSN := Lib.hid (fun f W => sort52_none a9 c9 f W)
        have HPE : Hid (ptsL k p G es = []) := List.eq_nil_of_length_eq_zero h0
        clear ho h0
        go_wp2_with (go_at_call 52; refine (HSN.out _ _).mono ?_; rintro e w9 ⟨rfl, rfl⟩)
        go_ret2
        refine ⟨rb, rfl, ⟨HR.out.lt, a9, c9, ?_, HR1.out, .inl ?_⟩, HB.out⟩
        · rw [HPE.out, srtP_nil]; exact HR0.out
        · rw [HPE.out, srtP_nil]
      · obtain ⟨n9, hn9⟩ : ∃ n9, (ptsL k p G es).length = n9 + 1 := ⟨(ptsL k p G es).length - 1, by omega⟩
        have ho2 := ho
        rw [hn9] at ho2
        obtain ⟨g, cap, hg⟩ := ownsRow_succ ho2
        rw [← hn9] at hg
        subst hg
        have HSO := Lib.hid (sort52 w.heap.size g cap (ptsL k p G es) (by have := HLE.out; omega) wr ho)
        have HGB : Hid (w.heap.size ≤ g) := (ho.lt g rfl).1
        have HGN : Hid (rb ≠ g) := fun e => own_ne (own_zeroR ho) HR.out (by decide) (by rw [e]; rfl)
        have hln : (srtP (ptsL k p G es)).length = (ptsL k p G es).length := (srtP_perm _).length_eq
        have HLN := Lib.hid hln
        have HR0 := Lib.hid r0
        clear ho ho2 hn9 h0 hln
        go_wp2_with (go_at_call 52; refine HSO.out.mono ?_; rintro e w9 ⟨rfl, hp9, hk9⟩; have HP9 := Lib.hid hp9; have HK9 := Lib.hid hk9; clear hp9 hk9)
        go_ret2
        refine ⟨rb, rfl, ⟨Nat.lt_of_lt_of_le HR.out.lt HK9.out.size, some ⟨g, 0, none⟩, cap, ?_, ?_, HP9.out⟩, HB.out.trans (HK9.out.bel (fun y hy => by rw [hy]; exact HGB.out) HB.out.size)⟩
        · rw [keep_cell HK9.out HR.out.lt (fun e => HGN.out e), HLN.out]; exact HR0.out
        · rw [keep_cell HK9.out HR.out.lt (fun e => HGN.out e)]; exact HR1.out
end Go.Proofs.YtlcpkplipfcdaaaDoor

/- ring: slices.BinarySearchFunc of points. -/
namespace Go.Proofs.YtlcpkplipfcdaaaDoor
open Go.RowKit

/-- The first point of a number or more. -/
structure LowAt (ps : List Pt) (x st : Nat) : Prop where
  le : st ≤ ps.length
  lo : ∀ i p, ps[i]? = some p → i < st → p.1 < x
  hi : ∀ i p, ps[i]? = some p → st ≤ i → x ≤ p.1
/-- The points rise. -/
def Rise (ps : List Pt) : Prop := ∀ (i j : Nat) (p q : Pt), ps[i]? = some p → ps[j]? = some q → i ≤ j → p.1 ≤ q.1
theorem compareVB (a : Nat) (N : ByteArray) (b : Nat) (w : World) : Calls Tryd.prog 75 #[.agg #[.int .u64 (a : Nat), .string N], .int .u64 (b : Nat)] w fun e w' => e = .returned (.int .i64 (cmpU a b)) ∧ Below w.heap.size w w' :=
  (compareV a N b w).mono fun _ _ ⟨h1, os, h2⟩ => ⟨h1, by rw [h2]; exact below_growR w os⟩
set_option maxRecDepth 100000 in
set_option maxHeartbeats 2000000 in
theorem bsearch77 (a : Option Addr) (c : Nat) (ps : List Pt) (hl : ps.length ≤ 100000) (hr : Rise ps) (x : Nat) (w : World) (hp : PtsAt w a c ps) :
    Calls Tryd.prog 77 #[.slice a ps.length c, .int .u64 (x : Nat), .func (.func 75) #[] #[]] w fun e w' => ∃ (st : Nat) (b : Bool), e = .returned (.tuple #[.int .i64 (st : Nat), .bool b]) ∧ LowAt ps x st ∧ Below w.heap.size w w' := by
  have HP := Lib.hid hp
  have HR := Lib.hid hr
  clear hp hr
  go_enter Tryd.func77, Tryd.ntmps77
  go_wp2_with fail
  go_loopw [9, 10] (fun iv jv wr => ∃ i j : Nat, i ≤ j ∧ j ≤ ps.length ∧ iv = .int .i64 (i : Nat) ∧ jv = .int .i64 (j : Nat) ∧ Hid (∀ q p, ps[q]? = some p → q < i → p.1 < x) ∧ Hid (∀ q p, ps[q]? = some p → j ≤ q → x ≤ p.1) ∧ Hid (Below w.heap.size w wr)) (fun iv jv _ => (intOf jv).toNat - (intOf iv).toNat)
  case atStart => exact ⟨0, ps.length, Nat.zero_le _, Nat.le_refl _, rfl, rfl, (fun q p _ h => absurd h (by omega)), (fun q p h h2 => by rw [List.getElem?_eq_none h2] at h; cases h), Below.refl _ _⟩
  case round =>
    obtain ⟨i, j, hij, hjl, rfl, rfl, HL, HH, HB⟩ := hrel
    by_cases hlt : i < j
    · obtain h0 | ⟨bk, o, rfl, hbk, hc, hcell⟩ := HP.out.below HB.out
      · subst h0; simp at hjl; omega
      obtain ⟨m, hm⟩ : ∃ m, m = (i + j) / 2 := ⟨_, rfl⟩
      have hml : m < ps.length := by omega
      obtain ⟨c1, c2⟩ := hcell m ps[m] (by simp [hml])
      have HPM : Hid (ps[m]? = some ps[m]) := by show _ = _; simp [hml]
      generalize ps[m] = p at *
      obtain ⟨v, N⟩ := p
      simp only at c1 c2
      have i1 : (i : Int) < j := by omega
      have hw1 := wrapR ((i : Int) + (j : Int)) (by omega) (by omega)
      have hcm := fun W => compareVB v N x W
      clear hcell
      go_upto_region 5 with fail
      rw [show ((i : Int) + (j : Int)) / 2 = (m : Int) by omega]
      have m1 : (m : Int) < ps.length := by omega
      have HMM := Lib.hid hm
      have hw2 := wrapR ((m : Int) + 1) (by omega) (by omega)
      have HCM := Lib.hid hcm
      clear hm hw1 hcm
      by_cases hv : v < x
      · have hcv : cmpU v x = -1 := if_pos hv
        rw [hcv] at HCM
        clear hcv
        go_wp2_with (go_at_call 75; refine (HCM.out _).mono ?_; rintro e w9 ⟨rfl, hb9⟩; have HB9 := Lib.hid (HB.out.trans (hb9.mono HB.out.size)); clear hb9)
        go_roundw
        case rel => exact ⟨m + 1, j, by have := HMM.out; omega, hjl, by go_num, rfl, (fun q p' h1 h2 => Nat.lt_of_le_of_lt (HR.out q m p' _ h1 HPM.out (by omega)) hv), HH, HB9⟩
        case measure => have := HMM.out; simp [intOf]; omega
      · have hcv : ¬ cmpU v x < 0 := by unfold cmpU; rw [if_neg hv]; split <;> decide
        generalize cmpU v x = cv at *
        go_wp2_with (go_at_call 75; refine (HCM.out _).mono ?_; rintro e w9 ⟨rfl, hb9⟩; have HB9 := Lib.hid (HB.out.trans (hb9.mono HB.out.size)); clear hb9)
        go_roundw
        case rel => exact ⟨i, m, by have := HMM.out; omega, by omega, rfl, rfl, HL, (fun q p' h1 h2 => Nat.le_trans (Nat.le_of_not_lt hv) (HR.out m q _ p' HPM.out h1 h2)), HB9⟩
        case measure => have := HMM.out; simp [intOf]; omega
    · obtain rfl : i = j := by omega
      have hne : ¬ (i : Int) < i := by omega
      have HLA : Hid (LowAt ps x i) := ⟨hjl, HL.out, HH.out⟩
      by_cases hin : i < ps.length
      · obtain h0 | ⟨bk, o, rfl, hbk, hc, hcell⟩ := HP.out.below HB.out
        · subst h0; simp at hin
        obtain ⟨c1, c2⟩ := hcell i ps[i] (by simp [hin])
        generalize ps[i] = p at *
        obtain ⟨v, N⟩ := p
        simp only at c1 c2
        have i1 : (i : Int) < ps.length := by omega
        have HCM := Lib.hid (fun W => compareVB v N x W)
        generalize cmpU v x = cv at *
        clear hcell
        go_wp2_with (go_at_call 75; refine (HCM.out _).mono ?_; rintro e w9 ⟨rfl, hb9⟩; have HB9 := Lib.hid (HB.out.trans (hb9.mono HB.out.size)); clear hb9)
        go_ret2
        exact ⟨i, _, rfl, HLA.out, HB9.out⟩
      · have i1 : ¬ (i : Int) < ps.length := by omega
        go_wp2_with fail
        go_ret2
        exact ⟨i, .inl rfl, HLA.out, HB.out⟩
end Go.Proofs.YtlcpkplipfcdaaaDoor

/- ring: the iterator of (*Ring).around. -/
namespace Go.Proofs.YtlcpkplipfcdaaaDoor
open Go.RowKit Go.Shelf

attribute [local go_sem] Oper.semAt_some

theorem grownR {W W' : World} (h : Below W.heap.size W W') : W.grownBy W' none := ⟨h.os, h.tape, h.output, h.size, fun k hk _ => h.block k hk⟩
/-- All points, from one on. -/
def arL (ps : List Pt) (st : Nat) : List Pt := (List.range ps.length).map fun i => ps.getD ((st + i) % ps.length) (0, ⟨#[]⟩)
theorem arL_len (ps : List Pt) (st : Nat) : (arL ps st).length = ps.length := by simp [arL]
theorem arL_take {ps : List Pt} {st k : Nat} (hk : k < ps.length) : (arL ps st).take k ++ [ps.getD ((st + k) % ps.length) (0, ⟨#[]⟩)] = (arL ps st).take (k + 1) := by
  have h : k < (arL ps st).length := by rw [arL_len]; exact hk
  rw [List.take_succ_eq_append_getElem h]
  congr 2
  simp [arL]
/-- What a round that goes on keeps: what lay below n0, and the box B1. -/
structure KpR (n0 B1 : Nat) (W W' : World) : Prop where
  bel : Below n0 W W'
  box : W'.heap[B1]? = W.heap[B1]?
theorem KpR.trans {n0 B1 : Nat} {A B C : World} (h : KpR n0 B1 A B) (k : KpR n0 B1 B C) : KpR n0 B1 A C := ⟨h.bel.trans k.bel, k.box.trans h.box⟩
theorem KpR.of_below {n0 B1 : Nat} {W W' : World} (h : Below W.heap.size W W') (h0 : n0 ≤ W.heap.size) (h1 : B1 < W.heap.size) : KpR n0 B1 W W' := ⟨h.mono h0, h.block B1 h1⟩
def ptVal (p : Pt) : Value := .agg #[.int .u64 (p.1 : Nat), .string p.2]
set_option maxRecDepth 100000 in
set_option maxHeartbeats 4000000 in
theorem around1_in (n : Nat) (hn : 1 ≤ n) (l B1 B2 rb nn : Nat) (ps : List Pt) (hl : ps.length ≤ 100000) (hr : Rise ps) (x : Nat) (w0 : World) (hRg : RingAt w0 rb ps nn) (J Jx : List Pt → World → Prop)
    (hY : ∀ pre p W, J pre W → pre.length < ps.length → YieldAt Fence.wide (n - 1) Tryd.prog l #[ptVal p] W fun e W' =>
      (e = .returned (.bool true) ∧ J (pre ++ [p]) W' ∧ KpR w0.heap.size B1 W W') ∨ (e = .returned (.bool false) ∧ Jx (pre ++ [p]) W'))
    (W : World) (hW : Below w0.heap.size w0 W) (hJ : AbidesFrom W.heap.size J) (hB1 : W.cell? ⟨B1, 0, none⟩ = some (.pointer (some ⟨rb, 0, none⟩))) (hB2 : W.cell? ⟨B2, 0, none⟩ = some (.int .u64 (x : Nat))) (hb1 : B1 < W.heap.size) (h0 : J [] W) :
    CallsIn Fence.wide n Tryd.prog 76 #[.func (.yield l) #[] #[], .pointer (some ⟨B1, 0, none⟩), .pointer (some ⟨B2, 0, none⟩)] W fun e W' => (∃ v, e = .returned v) ∧
      ∃ st, LowAt ps x st ∧ (J (arL ps st) W' ∨ ∃ k, k ≤ ps.length ∧ Jx ((arL ps st).take k) W') := by
  refine callsIn_of_wp Tryd.func76 rfl trivial ?_ rfl
  simp only [Tryd.ntmps76, List.size_toArray, List.length_cons, List.length_nil, Nat.reduceAdd, Nat.reduceSub, Array.replicate_succ, Array.replicate_zero, List.push_toArray, List.append_toArray, List.nil_append, List.cons_append]
  obtain ⟨q1, a, c, q2, q3, q4⟩ := hRg
  have r0 : W.cell? ⟨rb, 0, none⟩ = some (.slice a ps.length c) := (hW.cell (p := ⟨rb, 0, none⟩) q1).trans q2
  have HRC : Hid (∀ V, Below w0.heap.size W V → V.cell? ⟨rb, 0, none⟩ = some (.slice a ps.length c)) := fun V h => (h.cell (p := ⟨rb, 0, none⟩) q1).trans r0
  have HPT : Hid (PtsAt w0 a c ps) := q4
  have HWB := Lib.hid hW
  have HJ := Lib.hid hJ
  have HY := Lib.hid hY
  have HBS : Hid (∀ V, Below W.heap.size W V → Calls Tryd.prog 77 #[.slice a ps.length c, .int .u64 (x : Nat), .func (.func 75) #[] #[]] V fun e w' => ∃ (st : Nat) (b : Bool), e = .returned (.tuple #[.int .i64 (st : Nat), .bool b]) ∧ LowAt ps x st ∧ Below V.heap.size V w') := fun V h => bsearch77 a c ps hl hr x V (q4.below (hW.trans (h.mono hW.size)))
  clear hY hr q2 q3 q4 hJ
  have hmx : Tryd.prog.follows .mixedOrders = true := by kernel_rfl
  gi_wp2_with fail
  gi_region_with (first | (refine ⟨trivial, (callsIn_wide.2 (HBS.out _ ?_)).mono ?_⟩; exact (Below.refl _ _).drew; rintro e V1 ⟨st, b, rfl, hLA, hbV⟩))
  all_goals
    have HLA := Lib.hid hLA
    have hbw : Below W.heap.size W V1 := ((Below.refl _ _).drew).trans hbV
    have HBW := Lib.hid hbw
    have HJ0 := Lib.hid (HJ.out [] W V1 none h0 (grownR hbw) (fun r e => by cases e))
    have s1 := HRC.out V1 (hbw.mono HWB.out.size)
    have t1 : V1.cell? ⟨B1, 0, none⟩ = some (.pointer (some ⟨rb, 0, none⟩)) := (hbw.cell (p := ⟨B1, 0, none⟩) hb1).trans hB1
    have T1 := Lib.hid t1
    clear hLA hbV hbw
    gi_wp2_with fail
    clear s1 t1
    gi_loopw [21] (fun i wr => ∃ k : Nat, k ≤ ps.length ∧ i = .int .i64 k ∧ Hid (J ((arL ps st).take k) wr) ∧ Hid (KpR w0.heap.size B1 V1 wr)) (fun i _ => ps.length - (intOf i).toNat)
    case atStart => exact ⟨0, Nat.zero_le _, rfl, HJ0, ⟨Below.refl _ _, rfl⟩⟩
    case round =>
      clear HJ0
      obtain ⟨k, hk, rfl, HJk, HK⟩ := hrel
      by_cases hlt : k < ps.length
      · have hbb : Below w0.heap.size w0 wr := (HWB.out.trans (HBW.out.mono HWB.out.size)).trans HK.out.bel
        obtain h9 | ⟨bk, o, rfl, hbk, hcc, hcell⟩ := HPT.out.below hbb
        · subst h9; simp at hlt
        have hmlt : (st + k) % ps.length < ps.length := Nat.mod_lt _ (by omega)
        have hst := HLA.out.le
        have hgd : ps.getD ((st + k) % ps.length) (0, ⟨#[]⟩) = ps[(st + k) % ps.length] := by rw [List.getD_eq_getElem?_getD, List.getElem?_eq_getElem hmlt]; rfl
        obtain ⟨c1, c2⟩ := hcell _ ps[(st + k) % ps.length] (List.getElem?_eq_getElem hmlt)
        have HTK := Lib.hid (arL_take (ps := ps) (st := st) hlt)
        rw [hgd] at HTK
        have ht : (((st + k : Nat) : Int)).tmod (ps.length : Int) = (((st + k) % ps.length : Nat) : Int) := by rw [Int.tmod_eq_emod_of_nonneg (by omega)]; rfl
        have hw1 := wrapR ((st : Int) + (k : Int)) (by omega) (by omega)
        rw [show ((st + k : Nat) : Int) = (st : Int) + (k : Int) by omega] at ht
        generalize hp : ps[(st + k) % ps.length] = p at *
        generalize (st + k) % ps.length = m at *
        obtain ⟨v, N⟩ := p
        simp only at c1 c2
        have m1 : (m : Int) < ps.length := by omega
        have k1 : (k : Int) < ps.length := by omega
        have z1 : ¬ (ps.length : Int) = 0 := by omega
        have z2 : ¬ ps.length = 0 := by omega
        have hw2 := wrapR (m : Int) (by omega) (by omega)
        have HJd := Lib.hid (HJ.out _ _ _ none HJk.out (grownR ((Below.refl wr.heap.size wr).drew)) (fun r e => by cases e))
        obtain ⟨fn, tmps, assign, body, hy, hR⟩ := HY.out _ (v, N) wr.drew HJd.out (by rw [List.length_take, arL_len]; omega)
        dsimp only [ptVal] at hy
        have s1 : wr.cell? ⟨rb, 0, none⟩ = some (.slice (some ⟨bk, o, none⟩) ps.length c) := (HK.out.bel.cell (p := ⟨rb, 0, none⟩) q1).trans (HRC.out V1 (HBW.out.mono HWB.out.size))
        have t1 : wr.cell? ⟨B1, 0, none⟩ = some (.pointer (some ⟨rb, 0, none⟩)) := (World.cell?_of_block (w := V1) HK.out.box).trans T1.out
        have hR2 := hR.mono (R' := fun e W' => ∃ q : Bool, e = .returned (.bool q) ∧ ((q = true ∧ J ((arL ps st).take k ++ [(v, N)]) W' ∧ KpR w0.heap.size B1 wr.drew W') ∨ (q = false ∧ Jx ((arL ps st).take k ++ [(v, N)]) W'))) (by
          rintro e W' (⟨h1, h2, h3⟩ | ⟨h1, h2⟩)
          · exact ⟨true, h1, .inl ⟨rfl, h2, h3⟩⟩
          · exact ⟨false, h1, .inr ⟨rfl, h2⟩⟩)
        have HHR := Lib.hid hR2
        clear hcell hgd hp hR hR2 hst hbb
        gi_wp2_with fail
        gi_region_with (first
          | (refine HHR.out.mono ?_; rintro e W3 ⟨q, rfl, hE⟩)
          | (refine ⟨(fun h => by cases h), HHR.out.mono ?_⟩; rintro e W3 ⟨q, rfl, hE⟩))
        all_goals
          rcases hE with ⟨rfl, hJ3, hk3⟩ | ⟨rfl, hJx3⟩
          · have HJ3 := Lib.hid hJ3
            have HK3 : Hid (KpR w0.heap.size B1 V1 W3) := HK.out.trans ⟨⟨hk3.bel.os, hk3.bel.tape, hk3.bel.output, hk3.bel.size, hk3.bel.block⟩, hk3.box⟩
            clear hJ3 hk3
            gi_wp2
            go_roundw
            case rel => exact ⟨k + 1, by omega, by simp, by rw [← HTK.out]; exact HJ3, HK3⟩
            case measure => simp [intOf]; omega
          · have HX3 := Lib.hid hJx3
            clear hJx3
            gi_wp2
            refine bodyPost_ret (results_none rfl _ _ _) rfl ?_
            exact ⟨⟨_, rfl⟩, st, HLA.out, .inr ⟨k + 1, by omega, by rw [← HTK.out]; exact HX3.out⟩⟩
      · obtain rfl : k = ps.length := by omega
        have hne : ¬ ((ps.length : Int) < ps.length) := by omega
        have hJe := HJk.out
        rw [List.take_of_length_le (by rw [arL_len]; exact Nat.le_refl _)] at hJe
        have HJe := Lib.hid hJe
        clear hJe
        gi_wp2
        go_end0
        exact ⟨⟨_, rfl⟩, st, HLA.out, .inl HJe.out⟩
end Go.Proofs.YtlcpkplipfcdaaaDoor

/- ring: around, Pick. -/
namespace Go.Proofs.YtlcpkplipfcdaaaDoor
open Go.RowKit Go.Shelf

attribute [local go_sem] Oper.semAt_some

/-- (*Ring).around: the ring and the number are boxed; the function value captures the boxes. -/
theorem around55 (p : Option Addr) (x : Nat) (n : Nat) (w : World) :
    CallsIn Fence.wide n Tryd.prog 55 #[.pointer p, .int .u64 (x : Nat)] w fun e w' => e = .returned (.func (.func 76) #[] #[.pointer (some ⟨w.heap.size, 0, none⟩), .pointer (some ⟨w.heap.size + 1, 0, none⟩)]) ∧ w' = (w.alloc (.cells #[.pointer p] 54)).alloc (.cells #[.int .u64 (x : Nat)] 41) := by
  refine callsIn_of_wp Tryd.func55 rfl trivial ?_ rfl
  simp only [Tryd.ntmps55, List.size_toArray, List.length_cons, List.length_nil, Nat.reduceAdd, Nat.reduceSub, Array.replicate_succ, Array.replicate_zero, List.push_toArray, List.append_toArray, List.nil_append, List.cons_append]
  gi_wp2
  go_ret
  exact ⟨rfl, rfl⟩
theorem around_stops (n : Nat) (hn : 1 ≤ n) (B1 B2 rb nn : Nat) (ps : List Pt) (hl : ps.length ≤ 100000) (hr : Rise ps) (x : Nat) (w0 : World) (hRg : RingAt w0 rb ps nn) (w : World) (hw : Below w0.heap.size w0 w) (hb1 : B1 < w.heap.size) (hb2 : B2 < w.heap.size)
    (hB1 : w.cell? ⟨B1, 0, none⟩ = some (.pointer (some ⟨rb, 0, none⟩))) (hB2 : w.cell? ⟨B2, 0, none⟩ = some (.int .u64 (x : Nat))) :
    SeqStopsK Fence.wide n Tryd.prog 76 #[.pointer (some ⟨B1, 0, none⟩), .pointer (some ⟨B2, 0, none⟩)] (fun p : Pt => #[ptVal p]) (KpR w0.heap.size B1) (fun ys => ∃ st, LowAt ps x st ∧ ys = arL ps st) (fun pre => ∃ st k, LowAt ps x st ∧ k ≤ ps.length ∧ pre = (arL ps st).take k) ps.length w := fun l J Jx W hW hJ _ hY h0 => by
  refine (around1_in n hn l B1 B2 rb nn ps hl hr x w0 hRg J Jx hY W (hw.trans (hW.mono hw.size)) hJ ((hW.cell (p := ⟨B1, 0, none⟩) hb1).trans hB1) ((hW.cell (p := ⟨B2, 0, none⟩) hb2).trans hB2) (Nat.lt_of_lt_of_le hb1 hW.size) h0).mono ?_
  rintro e W' ⟨he, st, hst, hj | ⟨k, hk, hj⟩⟩
  · exact ⟨he, .inl ⟨_, ⟨st, hst, rfl⟩, hj⟩⟩
  · exact ⟨he, .inr ⟨_, ⟨st, k, hst, hk, rfl⟩, hj⟩⟩
theorem kpR_b {n0 B1 : Nat} {w : World} (hn : n0 ≤ w.heap.size) (hb : B1 < w.heap.size) (W : World) (l : Nat) (o o' : Obj) (hl : w.heap.size ≤ l) (h : W.heap[l]? = some o) (hc : o.isCells = false) (hk : o.isWalk = false) : KpR n0 B1 W (W.putObj l o') := by
  refine ⟨belowK_b hn W l o o' hl h hc hk, ?_⟩
  exact (grownBy_putObj' W l o').block B1 (by have := (Array.getElem?_eq_some_iff.1 h).1; omega) (by intro e; injection e with e; omega)
/-- The name for a number. -/
def pickP (ps : List Pt) (st : Nat) : ByteArray := ((arL ps st).head?.map (·.2)).getD ⟨#[]⟩
set_option maxRecDepth 100000 in
set_option maxHeartbeats 4000000 in
theorem pick34_in (n : Nat) (hn : 3 ≤ n) (rb nn : Nat) (ps : List Pt) (hl : ps.length ≤ 100000) (hr : Rise ps) (x : Nat) (w : World) (hRg : RingAt w rb ps nn) :
    CallsIn Fence.wide n Tryd.prog 34 #[.pointer (some ⟨rb, 0, none⟩), .int .u64 (x : Nat)] w fun e w' => ∃ st, LowAt ps x st ∧ e = .returned (.string (pickP ps st)) ∧ Below w.heap.size w w' := by
  have h1 : 1 ≤ n := by omega
  refine callsIn_of_wp_marks Tryd.func34 rfl trivial ?_ rfl
  simp only [Tryd.ntmps34, List.size_toArray, List.length_cons, List.length_nil, Nat.reduceAdd, Nat.reduceSub, Array.replicate_succ, Array.replicate_zero, List.push_toArray, List.append_toArray, List.nil_append, List.cons_append]
  gi_wp2_with fail
  refine ⟨trivial, (around55 _ _ _ _).mono ?_⟩
  rintro e w' ⟨rfl, rfl⟩
  gi_wp2_with fail
  have bR := Boxed.new w 9 (.string ⟨#[]⟩)
  have bA := Boxed.new (w.alloc (.cells #[.string ⟨#[]⟩] 9)) 54 (.pointer (some ⟨rb, 0, none⟩))
  have bB := Boxed.new ((w.alloc (.cells #[.string ⟨#[]⟩] 9)).alloc (.cells #[.pointer (some ⟨rb, 0, none⟩)] 54)) 41 (.int .u64 (x : Nat))
  rw [World.size_alloc] at bA
  rw [World.size_alloc, World.size_alloc] at bB
  have hB0 : Below w.heap.size w (((w.alloc (.cells #[.string ⟨#[]⟩] 9)).alloc (.cells #[.pointer (some ⟨rb, 0, none⟩)] 54)).alloc (.cells #[.int .u64 (x : Nat)] 41)) := (((Below.refl _ w).alloc (Nat.le_refl _) _).alloc (by simp) _).alloc (by simp; omega) _
  have bR3 := (bR.alloc (.cells #[.pointer (some ⟨rb, 0, none⟩)] 54)).alloc (.cells #[.int .u64 (x : Nat)] 41)
  have bA3 := bA.alloc (.cells #[.int .u64 (x : Nat)] 41)
  refine wpIn_rangeFunc_ownH rfl h1 (gf := 76) (lb := #[.pointer (some ⟨w.heap.size + 1, 0, none⟩), .pointer (some ⟨w.heap.size + 1 + 1, 0, none⟩)]) rfl trivial (enters_of Tryd.func76 (by kernel_rfl) rfl)
    (around_stops (n - 1) (by omega) (w.heap.size + 1) (w.heap.size + 1 + 1) rb nn ps hl hr x w hRg _ hB0 (by simp) (by simp) bA3.cell bB.cell) KpR.trans (kpR_b (by simp; omega) (by simp)) (Below.refl _ _) (fun _ => rfl)
    (fun pre W => (pre = [] ∧ Boxed W w.heap.size 9 (.string ⟨#[]⟩) ∧ Boxed W (w.heap.size + 1) 54 (.pointer (some ⟨rb, 0, none⟩))) ∧ Below w.heap.size w W)
    (fun c pre W => (c = .ret ∧ ∃ p : Pt, pre = [p] ∧ Boxed W w.heap.size 9 (.string p.2)) ∧ Below w.heap.size w W)
    (OwnFrom.and (Own.from (fun s A B row hs hg hr => ⟨hs.1, (boxed_own (β := Unit) w.heap.size 9 (fun _ => .string ⟨#[]⟩)) () A B row hs.2.1 hg hr, (boxed_own (β := Unit) (w.heap.size + 1) 54 (fun _ => .pointer (some ⟨rb, 0, none⟩))) () A B row hs.2.2 hg hr⟩) _) (ownFrom_below (Nat.le_refl _) (by simp; omega)))
    (fun c => OwnFrom.and (Own.from (fun s A B row hs hg hr => by obtain ⟨hc, p, e1, e2⟩ := hs; exact ⟨hc, p, e1, (boxed_own (β := Unit) w.heap.size 9 (fun _ => .string p.2)) () A B row e2 hg hr⟩) _) (ownFrom_below (Nat.le_refl _) (by simp; omega)))
    ⟨⟨rfl, bR3, bA3⟩, hB0⟩
    (fun p a' W => ∃ Bx, w.heap.size < Bx ∧ W.heap[Bx]? = some (.cells #[.int .u64 (p.1 : Nat), .string p.2] 99 (0, 0)) ∧ a' = { tmps := #[.pointer (some ⟨rb, 0, none⟩), .int .u64 (x : Nat), undef, undef, .pointer (some ⟨w.heap.size, 0, none⟩), .pointer (some ⟨Bx, 0, none⟩), .pointer (some ⟨rb, 0, none⟩), .int .u64 (x : Nat), .func (.func 76) #[] #[.pointer (some ⟨w.heap.size + 1, 0, none⟩), .pointer (some ⟨w.heap.size + 1 + 1, 0, none⟩)], ptVal p, undef, undef], defers := [] })
    (fun p a' => fun s A B row hs hg hr => by
      obtain ⟨Bx, h1, h2, h3⟩ := hs
      exact ⟨Bx, h1, (cells_own (β := Unit) Bx _ _).from _ () A B row h2 hg hr, h3⟩) ?assign ?body ?done ?stop
  case assign =>
    rintro l pre ⟨v, N⟩ W K ⟨⟨hp, hbx, hba⟩, hB⟩ hK
    dsimp only [ptVal]
    gi_wp2
    exact hK _ _ ((KeepsOthers.alloc _ _).from _) (KpR.of_below (below_alloc W _) hB.size hba.lt) ⟨⟨hp, hbx.alloc _, hba.alloc _⟩, hB.alloc hB.size _⟩ ⟨W.heap.size, hbx.lt, heap_alloc_new W _, rfl⟩
  case body =>
    rintro l pre ⟨v, N⟩ a' W hl2 ⟨r, hr2⟩ ⟨⟨rfl, hbx, hba⟩, hB⟩ ⟨Bx, hBx, hbX, rfl⟩ hlt
    have cx1 : W.cell? ⟨Bx, 1, none⟩ = some (.string N) := by rw [cell_of_row W Bx 1 _ _ _ hbX]; rfl
    have hvc := hbx.cell
    have hvf := hbx.frozen
    gi_wp2
    exact ⟨(KeepsOthers.setCell _ _ _).from _, ⟨rfl, v, N, rfl, hbx.set _⟩, hB.setCell (p := ⟨w.heap.size, 0, none⟩) (Nat.le_refl _) _⟩
  case done =>
    rintro D ys W hD ⟨st, hst, rfl⟩ ⟨⟨hne, hbx, hba⟩, hB⟩ hK
    have hvc := hbx.cell
    have hvf := hbx.frozen
    gi_wp2
    have hK' := (KeepsOthers.setCell W ⟨w.heap.size, 0, none⟩ (.string ⟨#[]⟩)).same D _ hK rfl
    refine ⟨by simp, .inl ⟨_, _, rfl, run_takeDeferred hK', ?_⟩⟩
    have hc5 := cell_kept (World.cell?_setCell_same' W ⟨w.heap.size, 0, none⟩ (.string ⟨#[]⟩) (by rw [hvc]; rfl)) (grownBy_putObj' _ D (.deferred none)) (fun r e => by cases e; exact ⟨_, hK', rfl⟩)
    have hpk : pickP ps st = ⟨#[]⟩ := by unfold pickP; rw [hne]; rfl
    refine ⟨.string ⟨#[]⟩, ?_, st, hst, by rw [hpk], (hB.setCell (p := ⟨w.heap.size, 0, none⟩) (Nat.le_refl _) _).trans (belowK_b (w := w) (Nat.le_refl _) _ D _ _ (by simp at hD; omega) hK' rfl rfl)⟩
    simp [results, Tryd.f34, go_sem, hc5]
  case stop =>
    rintro D c pre W hD ⟨st, k, hst, hk, rfl⟩ ⟨⟨rfl, p, e1, hbx⟩, hB⟩ hK
    have hpk : pickP ps st = p.2 := by
      unfold pickP
      cases h : arL ps st with
      | nil => rw [h] at e1; simp at e1
      | cons y l =>
        rw [h] at e1
        cases k with
        | zero => simp at e1
        | succ k => rw [List.take_succ_cons] at e1; injection e1 with e2 e3; rw [e2]; rfl
    have hvc := hbx.cell
    clear e1
    gi_wp2
    refine ⟨by simp, .inl ⟨_, _, rfl, run_takeDeferred hK, ?_⟩⟩
    have hc5 := cell_kept hvc (grownBy_putObj' _ D (.deferred none)) (fun r e => by cases e; exact ⟨_, hK, rfl⟩)
    refine ⟨.string p.2, ?_, st, hst, by rw [hpk], hB.trans (belowK_b (w := w) (Nat.le_refl _) _ D _ _ (by simp at hD; omega) hK rfl rfl)⟩
    simp [results, Tryd.f34, go_sem, hc5]
theorem pick34 (rb nn : Nat) (ps : List Pt) (hl : ps.length ≤ 100000) (hr : Rise ps) (x : Nat) (w : World) (hRg : RingAt w rb ps nn) :
    Calls Tryd.prog 34 #[.pointer (some ⟨rb, 0, none⟩), .int .u64 (x : Nat)] w fun e w' => ∃ st, LowAt ps x st ∧ e = .returned (.string (pickP ps st)) ∧ Below w.heap.size w w' := callsIn_wide.1 (pick34_in 3 (by decide) rb nn ps hl hr x w hRg)
end Go.Proofs.YtlcpkplipfcdaaaDoor

