/- Packed: RgC, TabsR, PqM, MgM, MgF, PqL, MgP, MgN. -/
import Derived.Lib.AppendIntMem
import Derived.Stop.LaidErr
import Derived.IntWalk
import Derived.OwnWalk
import Derived.Deep.MidRow
import Derived.Laws.AppendOwn
import Derived.Laws.MakeOwn
import Derived.Laws.CopyOwn
import Derived.Deep.Cut
import Derived.Test.YtklfpnnnoaaiaabGreatDoorG00
import Derived.Test.YtklfpnnnoaaiaabGreatDoorG01
import Derived.Test.YtklfpnnnoaaiaabGreatDoorG03
import Derived.Test.YtklfpnnnoaaiaabGreatDoorShelfC
/- ring: the point of an entry (written by genrgc.py). -/
namespace Go.Proofs.YtklfpnnnoaaiaabGreatDoor
open Go.RowKit

/-- The table of the powers of ten. -/
def Pow (w : World) : Prop := Lib.TabIs Tryz.prog w "internal/strconv.uint64pow10" .u64 Lib.pow10Tab
theorem gPow : Tryz.prog.globalNamed "internal/strconv.uint64pow10" = some 2 := by kernel_rfl
theorem Pow.below {w w' : World} (h : Pow w) (hb : Below w.heap.size w w') : Pow w' := by
  unfold Pow Lib.TabIs World.var? at h ⊢
  rw [gPow] at h ⊢
  simp only [Option.bind_some] at h ⊢
  cases ho : w.heap[2]? with
  | none => rw [ho] at h; cases h
  | some o =>
    have hlt := (Array.getElem?_eq_some_iff.1 ho).1
    rw [hb.block _ hlt]
    exact h
/-- A number's decimal digits. -/
def digB (i : Nat) : ByteArray := ⟨(Lib.decDigits i).toArray⟩
theorem digits71 (i : Nat) (hi : i < 1000000) (w : World) (hw : Pow w) :
    Calls Tryz.prog 48 #[.int .i64 (i : Nat)] w fun e w' => e = .returned (.string (digB i)) ∧ Below w.heap.size w w' := by
  have HF : Hid (Calls Tryz.prog 67 #[.int .i64 (i : Int)] w fun e w' => e = .returned (.string (digB i)) ∧ Below w.heap.size w w') := by
    refine (Tryz.strconv_Itoa (i : Int) (by omega) (by omega) w hw).mono ?_
    rintro e w' ⟨rfl, k, os, rfl⟩
    refine ⟨?_, Lib.below_grow _ w (Nat.le_refl _) k os⟩
    rw [Lib.itoa_nonneg]; rfl
  have hm : max (i : Int) 0 = (i : Int) := by omega
  go_enter Tryz.func48, Tryz.ntmps48
  go_wp2_with fail
  refine HF.out.mono ?_
  rintro e w1 ⟨rfl, hb⟩
  go_wp2_with fail
  go_ret
  exact ⟨rfl, hb⟩
def sepB : ByteArray := ⟨#[35]⟩
/-- The value of an entry's point. -/
def ptV (k : Nat → UInt8) (N : ByteArray) (i : Nat) : Nat := hashN k (N.data.toList ++ sepB.data.toList ++ (digB i).data.toList)
theorem flat_three (a b c : ByteArray) : flat [a, b, c] = a.data.toList ++ b.data.toList ++ c.data.toList := by simp [flat]
theorem three_strs (w : World) (a b c : ByteArray) (T : TypeId) : IsStrs (w.alloc (.cells #[.string a, .string b, .string c] T)) (some ⟨w.heap.size, 0, none⟩) 3 [a, b, c] := by
  refine .inr ⟨w.heap.size, 0, rfl, by simp, by simp, fun j x hx => ?_⟩
  rw [Nat.zero_add]
  match j, hx with
  | 0, hx => obtain rfl : a = x := by simpa using hx
             simp
  | 1, hx => obtain rfl : b = x := by simpa using hx
             simp
  | 2, hx => obtain rfl : c = x := by simpa using hx
             simp
  | j + 3, hx => simp at hx
theorem decDigits_len : ∀ (f n : Nat), n < 10 ^ (f + 1) → (Lib.decDigits n).length ≤ f + 1
  | 0, n, h => by rw [Lib.decDigits_one (by omega)]; simp
  | f + 1, n, h => by
    by_cases h10 : n < 10
    · rw [Lib.decDigits_one h10]; simp
    · rw [Lib.decDigits, dif_neg h10, List.length_append]
      have := decDigits_len f (n / 10) (by rw [Nat.div_lt_iff_lt_mul (by decide)]; rw [Nat.pow_succ] at h; exact h)
      simp; omega
/-- What is there while a point is reckoned. -/
structure PoS (W : World) (N D : ByteArray) (L : Nat → Bool) (x : Nat → Value) (w : World) : Prop where
  bel : Below W.heap.size W w
  z5 : L 5 = true → ∃ g, x 5 = .slice (some ⟨g, 0, none⟩) 3 3 ∧ IsStrs w (some ⟨g, 0, none⟩) 3 [N, sepB, D]
section
variable {W : World} {N D : ByteArray} {L : Nat → Bool} {x : Nat → Value} {w w' : World}
theorem PoS.below (h : PoS W N D L x w) (hb : Below w.heap.size w w') : PoS W N D L x w' :=
  ⟨h.bel.trans (hb.mono h.bel.size), fun e => by obtain ⟨g, h1, h2⟩ := h.z5 e; exact ⟨g, h1, h2.below hb⟩⟩
theorem PoS.next (h : PoS W N D L x w) (i : Nat) (u : Value) (h5 : i ≠ 5) : PoS W N D (setL L i) (updV x i u) w :=
  ⟨h.bel, fun e => by
    obtain ⟨g, h1, h2⟩ := h.z5 (by simpa [setL, Ne.symm h5] using e)
    exact ⟨g, by simp [updV, Ne.symm h5, h1], h2⟩⟩
theorem PoS.put (h : PoS W N D L x w) : PoS W N D (setL L 5) (updV x 5 (.slice (some ⟨w.heap.size, 0, none⟩) 3 3)) (w.alloc (.cells #[.string N, .string sepB, .string D] 9)) :=
  ⟨h.bel.trans ((below_alloc w _).mono h.bel.size), fun _ => ⟨w.heap.size, by simp [updV], three_strs w N sepB D _⟩⟩
end
theorem isKey_rowC {w : World} {b : Nat} {T : TypeId} {k : Nat → UInt8} (h : Row w b T #[.int .u8 (k 0).toNat, .int .u8 (k 1).toNat, .int .u8 (k 2).toNat, .int .u8 (k 3).toNat, .int .u8 (k 4).toNat, .int .u8 (k 5).toNat, .int .u8 (k 6).toNat, .int .u8 (k 7).toNat, .int .u8 (k 8).toNat, .int .u8 (k 9).toNat, .int .u8 (k 10).toNat, .int .u8 (k 11).toNat, .int .u8 (k 12).toNat, .int .u8 (k 13).toNat, .int .u8 (k 14).toNat, .int .u8 (k 15).toNat]) : IsKey w b k := by
  intro i hi
  have h16 : i = 0 ∨ i = 1 ∨ i = 2 ∨ i = 3 ∨ i = 4 ∨ i = 5 ∨ i = 6 ∨ i = 7 ∨ i = 8 ∨ i = 9 ∨ i = 10 ∨ i = 11 ∨ i = 12 ∨ i = 13 ∨ i = 14 ∨ i = 15 := by omega
  rw [h.cell i]
  rcases h16 with rfl | rfl | rfl | rfl | rfl | rfl | rfl | rfl | rfl | rfl | rfl | rfl | rfl | rfl | rfl | rfl <;> rfl
set_option maxRecDepth 100000 in
set_option maxHeartbeats 4000000 in
theorem point51 (k : Nat → UInt8) (N : ByteArray) (V : Int) (hN : N.size ≤ 1000000) (i : Nat) (hi9 : i < 1000000) (w : World) (hi : Ini w) (hpw : Pow w) :
    Calls Tryz.prog 32 #[.agg #[.string N, .int .i64 V], keyVal k, .int .i64 (i : Nat)] w fun e w' => e = .returned (.agg #[.int .u64 (ptV k N i : Nat), .string N]) ∧ Below w.heap.size w w' := by
  have hs1 := hashN_is k (N.data.toList ++ sepB.data.toList ++ (digB i).data.toList)
  have hdl : (digB i).data.toList.length ≤ 10 := by
    have h2 := decDigits_len 6 i (by omega)
    have h3 : (digB i).data.toList = Lib.decDigits i := rfl
    rw [h3]; omega
  have hS1 : ∀ (g : Nat) (W : World), Ini W → IsStrs W (some ⟨g, 0, none⟩) 3 [N, sepB, digB i] → Calls Tryz.prog 43 #[keyVal k, .slice (some ⟨g, 0, none⟩) 3 3] W fun e w' => e = .returned (.int .u64 (ptV k N i : Nat)) ∧ Below W.heap.size W w' := fun g W hI hx => by
    have := sum12 k _ 3 [N, sepB, digB i] W hI hx (by simp) (by rw [flat_three]; have := Lib.size_eq N; simp only [List.length_append]; have h4 : sepB.data.toList.length = 1 := rfl; omega)
    rw [flat_three, hs1.1] at this
    exact this
  have HSM := Lib.hid hS1
  clear hS1 hs1 hdl
  generalize ptV k N i = p1 at *
  unfold keyVal at *
  have r1 := Row.new w 73 #[.string N, .int .i64 V]
  have r2 := Row.new (w.alloc (.cells #[.string N, .int .i64 V] 73)) 25 #[.int .u8 (k 0).toNat, .int .u8 (k 1).toNat, .int .u8 (k 2).toNat, .int .u8 (k 3).toNat, .int .u8 (k 4).toNat, .int .u8 (k 5).toNat, .int .u8 (k 6).toNat, .int .u8 (k 7).toNat, .int .u8 (k 8).toNat, .int .u8 (k 9).toNat, .int .u8 (k 10).toNat, .int .u8 (k 11).toNat, .int .u8 (k 12).toNat, .int .u8 (k 13).toNat, .int .u8 (k 14).toNat, .int .u8 (k 15).toNat]
  have r3 := Row.new ((w.alloc (.cells #[.string N, .int .i64 V] 73)).alloc (.cells #[.int .u8 (k 0).toNat, .int .u8 (k 1).toNat, .int .u8 (k 2).toNat, .int .u8 (k 3).toNat, .int .u8 (k 4).toNat, .int .u8 (k 5).toNat, .int .u8 (k 6).toNat, .int .u8 (k 7).toNat, .int .u8 (k 8).toNat, .int .u8 (k 9).toNat, .int .u8 (k 10).toNat, .int .u8 (k 11).toNat, .int .u8 (k 12).toNat, .int .u8 (k 13).toNat, .int .u8 (k 14).toNat, .int .u8 (k 15).toNat] 25)) 75 #[.int .u64 0, .string ⟨#[]⟩]
  have hb0 : Below w.heap.size w (((w.alloc (.cells #[.string N, .int .i64 V] 73)).alloc (.cells #[.int .u8 (k 0).toNat, .int .u8 (k 1).toNat, .int .u8 (k 2).toNat, .int .u8 (k 3).toNat, .int .u8 (k 4).toNat, .int .u8 (k 5).toNat, .int .u8 (k 6).toNat, .int .u8 (k 7).toNat, .int .u8 (k 8).toNat, .int .u8 (k 9).toNat, .int .u8 (k 10).toNat, .int .u8 (k 11).toNat, .int .u8 (k 12).toNat, .int .u8 (k 13).toNat, .int .u8 (k 14).toNat, .int .u8 (k 15).toNat] 25)).alloc (.cells #[.int .u64 0, .string ⟨#[]⟩] 75)) := (((Below.refl _ _).alloc (Nat.le_refl _) _).alloc (by simp) _).alloc (by simp; omega) _
  rw [World.size_alloc] at r2
  rw [World.size_alloc, World.size_alloc] at r3
  replace r1 := (r1.alloc (.cells #[.int .u8 (k 0).toNat, .int .u8 (k 1).toNat, .int .u8 (k 2).toNat, .int .u8 (k 3).toNat, .int .u8 (k 4).toNat, .int .u8 (k 5).toNat, .int .u8 (k 6).toNat, .int .u8 (k 7).toNat, .int .u8 (k 8).toNat, .int .u8 (k 9).toNat, .int .u8 (k 10).toNat, .int .u8 (k 11).toNat, .int .u8 (k 12).toNat, .int .u8 (k 13).toNat, .int .u8 (k 14).toNat, .int .u8 (k 15).toNat] 25)).alloc (.cells #[.int .u64 0, .string ⟨#[]⟩] 75)
  replace r2 := r2.alloc (.cells #[.int .u64 0, .string ⟨#[]⟩] 75)
  obtain ⟨B, hB⟩ : ∃ B, B = w.heap.size := ⟨_, rfl⟩
  have HBE : Hid (B = w.heap.size) := hB
  rw [← hB] at r1 r2 r3 hb0
  go_enter Tryz.func32, Tryz.ntmps32
  go_upto_region 1 with fail
  rw [← hB]
  clear hB
  generalize ((w.alloc (.cells #[.string N, .int .i64 V] 73)).alloc (.cells #[.int .u8 (k 0).toNat, .int .u8 (k 1).toNat, .int .u8 (k 2).toNat, .int .u8 (k 3).toNat, .int .u8 (k 4).toNat, .int .u8 (k 5).toNat, .int .u8 (k 6).toNat, .int .u8 (k 7).toNat, .int .u8 (k 8).toNat, .int .u8 (k 9).toNat, .int .u8 (k 10).toNat, .int .u8 (k 11).toNat, .int .u8 (k 12).toNat, .int .u8 (k 13).toNat, .int .u8 (k 14).toNat, .int .u8 (k 15).toNat] 25)).alloc (.cells #[.int .u64 0, .string ⟨#[]⟩] 75) = W3 at *
  have HB3 := Lib.hid hb0
  have hbw : Below w.heap.size w W3 := by rw [← HBE.out]; exact hb0
  have HI3 := Lib.hid (hi.below hbw)
  have HPW := Lib.hid (hpw.below hbw)
  clear hb0 hbw hi hpw
  have hk1 : IsKey W3 (B + 1) k := isKey_rowC r2
  have hlt1 := r1.lt
  have hlt2 := r2.lt
  have hlt3 := r3.lt
  have e0 : W3.cell? ⟨B, 0, none⟩ = some (.string N) := by rw [r1.cell]; rfl
  have R3 := Lib.hid r3
  have HK1 := Lib.hid hk1
  clear r1 r2 r3 hk1
  refine region_mixt 10 [some (.agg #[.int .u8 (k 0).toNat, .int .u8 (k 1).toNat, .int .u8 (k 2).toNat, .int .u8 (k 3).toNat, .int .u8 (k 4).toNat, .int .u8 (k 5).toNat, .int .u8 (k 6).toNat, .int .u8 (k 7).toNat, .int .u8 (k 8).toNat, .int .u8 (k 9).toNat, .int .u8 (k 10).toNat, .int .u8 (k 11).toNat, .int .u8 (k 12).toNat, .int .u8 (k 13).toNat, .int .u8 (k 14).toNat, .int .u8 (k 15).toNat]), some (.pointer (some ⟨B, 0, none⟩)), some (.string N), some (.int .i64 (i : Nat)), some (.string (digB i)), none, some (.int .u64 (p1 : Nat)), some (.pointer (some ⟨B, 0, none⟩)), some (.string N), some (.agg #[.int .u64 (p1 : Nat), .string N])]
    [[false, false, false, false, false, false, false, false, false, false], [false, false, false, false, false, false, false, false, false, false], [false, true, false, false, false, false, false, false, false, false], [false, false, false, false, false, false, false, false, false, false], [false, false, false, true, false, false, false, false, false, false], [false, false, true, false, true, false, false, false, false, false], [true, false, false, false, true, true, false, false, false, false], [false, false, false, false, false, false, false, false, false, false], [false, false, false, false, false, false, false, true, false, false], [false, false, false, false, false, false, true, false, true, false]]
    (fun LL xx w9 => PoS W3 N (digB i) LL xx w9)
    (by kernel_rfl) (by kernel_rfl) (by kernel_rfl) (by kernel_rfl) (by kernel_rfl) (by decide) ?_ ?_ ?_
  · intro x
    exact ⟨⟨rfl, rfl, rfl, Nat.le_refl _, fun _ _ => rfl⟩, (fun h => by cases h)⟩
  · simp only [List.take_succ_cons, List.take_zero]
    refine ⟨?_, ?_, ?_, ?_, ?_, ?_, ?_, ?_, ?_, ?_, trivial⟩
    all_goals
      intro L x w9 hS hl hp K9 hK9
      have hs : PoS W3 N (digB i) L x w9 := hS
      clear hS
      replace hK9 := hK9.out
      simp only [actMix, pickV, List.tail_cons, List.headD_cons, Act.put, List.setIfInBounds_toArray, List.set_cons_zero, List.set_cons_succ] at hK9 ⊢
    · have hkk := HK1.out.below hs.bel hlt2
      clear hp
      rw [if_pos (by rfl)]
      refine wp_load_mid 25 _ rfl (B + 1) 0 rfl [.int .u8 (k 0).toNat, .int .u8 (k 1).toNat, .int .u8 (k 2).toNat, .int .u8 (k 3).toNat, .int .u8 (k 4).toNat, .int .u8 (k 5).toNat, .int .u8 (k 6).toNat, .int .u8 (k 7).toNat, .int .u8 (k 8).toNat, .int .u8 (k 9).toNat, .int .u8 (k 10).toNat, .int .u8 (k 11).toNat, .int .u8 (k 12).toNat, .int .u8 (k 13).toNat, .int .u8 (k 14).toNat, .int .u8 (k 15).toNat] _ (key_range hkk) Tryz.underlying25 rfl (by kernel_rfl) ?_
      simp only [Act.put, List.setIfInBounds_toArray, List.set_cons_zero, List.set_cons_succ]
      with_reducible refine hK9 _ ?_
      exact hs.next 0 _ (by decide)
    · clear hp
      go_simp
      with_reducible refine hK9 _ ?_
      exact hs.next 1 _ (by decide)
    · have q1 : w9.cell? ⟨B, 0, none⟩ = some (.string N) := by rw [(bcell hs.bel).1 _ _ hlt1]; exact e0
      clear hp
      go_simp
      with_reducible refine hK9 _ ?_
      exact hs.next 2 _ (by decide)
    · clear hp
      go_simp
      with_reducible refine hK9 _ ?_
      exact hs.next 3 _ (by decide)
    · clear hp
      go_simp
      refine (digits71 i hi9 w9 (HPW.out.below hs.bel)).mono ?_
      rintro e w8 ⟨rfl, hB8⟩
      go_simp
      with_reducible refine hK9 _ ?_
      exact (hs.below hB8).next 4 _ (by decide)
    · clear hp
      go_simp
      with_reducible refine hK9 _ _ ?_
      exact hs.put
    · obtain ⟨g8, hx8, hr8⟩ := hs.z5 (allL_mem hp 5 (by decide +kernel))
      clear hp
      rw [hx8] at hK9 ⊢
      go_simp
      refine (HSM.out g8 w9 (HI3.out.below hs.bel) hr8).mono ?_
      rintro e w8 ⟨rfl, hB8⟩
      go_simp
      with_reducible refine hK9 _ ?_
      exact (hs.below hB8).next 6 _ (by decide)
    · clear hp
      go_simp
      with_reducible refine hK9 _ ?_
      exact hs.next 7 _ (by decide)
    · have q1 : w9.cell? ⟨B, 0, none⟩ = some (.string N) := by rw [(bcell hs.bel).1 _ _ hlt1]; exact e0
      clear hp
      go_simp
      with_reducible refine hK9 _ ?_
      exact hs.next 8 _ (by decide)
    · clear hp
      go_simp
      with_reducible refine hK9 _ ?_
      exact hs.next 9 _ (by decide)
  intro L x w9 hS hL
  have hs : PoS W3 N (digB i) L x w9 := hS
  have R9 := R3.out.below hs.bel
  have HB9 : Hid (Below w.heap.size w w9) := by
    show Below _ _ _
    rw [← HBE.out]
    exact HB3.out.trans (hs.bel.mono (by have := HB3.out.size; omega))
  simp only [actMix, pickV, List.tail_cons, List.headD_cons, Act.put, List.setIfInBounds_toArray, List.set_cons_zero, List.set_cons_succ, List.replicate_succ, List.replicate_zero, List.drop_succ_cons, List.drop_zero, List.take_succ_cons, List.take_zero]
  generalize x 5 = xa
  have RF := (R9.put 0 (.int .u64 (p1 : Nat))).put 1 (.string N)
  have f0 := R9.free 0
  have f1 := R9.free 1
  have c0 : w9.cell? ⟨B + 1 + 1, 0, none⟩ = some (.int .u64 0) := by rw [R9.cell]; rfl
  have c1 : w9.cell? ⟨B + 1 + 1, 1, none⟩ = some (.string ⟨#[]⟩) := by rw [R9.cell]; rfl
  have D0 : Hid (((w9.setCell ⟨B + 1 + 1, 0, none⟩ (.int .u64 (p1 : Nat))).setCell ⟨B + 1 + 1, 1, none⟩ (.string N)).cell? ⟨B + 1 + 1, 0, none⟩ = some (.int .u64 (p1 : Nat))) := by show _ = _; rw [RF.cell]; rfl
  have D1 : Hid (((w9.setCell ⟨B + 1 + 1, 0, none⟩ (.int .u64 (p1 : Nat))).setCell ⟨B + 1 + 1, 1, none⟩ (.string N)).cell? ⟨B + 1 + 1, 1, none⟩ = some (.string N)) := by show _ = _; rw [RF.cell]; rfl
  have HBF : Hid (Below w.heap.size w ((w9.setCell ⟨B + 1 + 1, 0, none⟩ (.int .u64 (p1 : Nat))).setCell ⟨B + 1 + 1, 1, none⟩ (.string N))) := by
    have hle : w.heap.size ≤ B + 1 + 1 := by rw [HBE.out]; omega
    exact (HB9.out.setCell (p := ⟨B + 1 + 1, 0, none⟩) hle _).setCell (p := ⟨B + 1 + 1, 1, none⟩) hle _
  clear hS hs hL R9 RF R3 HK1 HI3 HPW HSM e0 HB3
  go_wp2_with fail
  refine bodyPost_ret (v := .agg #[.int .u64 (p1 : Nat), .string N]) ?_ rfl ⟨rfl, HBF.out⟩
  simp [results, Tryz.results32, go_sem, D0.out, D1.out]
end Go.Proofs.YtklfpnnnoaaiaabGreatDoor

/- What a row of the ring says of its tables: names. -/
namespace Go.Proofs.YtklfpnnnoaaiaabGreatDoor
open Go.RowKit

/-- What is known of the tables. -/
def RgTabs (W : World) : Prop := Ini W ∧ Pow W
end Go.Proofs.YtklfpnnnoaaiaabGreatDoor

/- prime: numbers: the least divisor, which numbers are primes, Euclid's algorithm, rows. -/
namespace Go.Proofs.YtklfpnnnoaaiaabGreatDoor

/-- Has the number no divisor but 1 and itself? -/
def primeB (n : Nat) : Bool := decide (2 ≤ n ∧ ∀ d, d < n → 2 ≤ d → ¬ d ∣ n)
/-- The least divisor above 1. -/
def LD (n p : Nat) : Prop := 2 ≤ p ∧ p ∣ n ∧ ∀ k, 2 ≤ k → k ∣ n → p ≤ k
theorem primeB_spec {n : Nat} (h : primeB n = true) : 2 ≤ n ∧ ∀ d, d < n → 2 ≤ d → ¬ d ∣ n := of_decide_eq_true h
theorem LD.le {n p : Nat} (h : LD n p) (hn : 2 ≤ n) : p ≤ n := h.2.2 n hn (Nat.dvd_refl n)
theorem LD.eq {n p q : Nat} (h : LD n p) (h' : LD n q) : p = q := Nat.le_antisymm (h.2.2 q h'.1 h'.2.1) (h'.2.2 p h.1 h.2.1)
theorem LD.self {n : Nat} (hn : 2 ≤ n) : LD n n ↔ primeB n = true := by
  constructor
  · intro h
    refine decide_eq_true ⟨hn, fun d hd h2 hdv => ?_⟩
    have := h.2.2 d h2 hdv
    omega
  · intro h
    obtain ⟨_, h2⟩ := primeB_spec h
    refine ⟨hn, Nat.dvd_refl n, fun k hk hkn => ?_⟩
    rcases Nat.lt_or_ge k n with hlt | hge
    · exact absurd hkn (h2 k hlt hk)
    · exact hge
theorem LD.prime {n p : Nat} (h : LD n p) : primeB p = true :=
  (LD.self h.1).1 ⟨h.1, Nat.dvd_refl p, fun k hk hkp => h.2.2 k hk (Nat.dvd_trans hkp h.2.1)⟩
/-- No divisor from 2 up to d. -/
def NoDiv (n d : Nat) : Prop := ∀ k, 2 ≤ k → k < d → ¬ k ∣ n
theorem NoDiv.two (n : Nat) : NoDiv n 2 := fun k h1 h2 => by omega
theorem NoDiv.step {n d : Nat} (h : NoDiv n d) (hd : ¬ d ∣ n) : NoDiv n (d + 1) := fun k h1 h2 => by
  rcases Nat.lt_or_ge k d with hk | hk
  · exact h k h1 hk
  · obtain rfl : k = d := by omega
    exact hd
theorem NoDiv.hit {n d : Nat} (h : NoDiv n d) (h2 : 2 ≤ d) (hd : d ∣ n) : LD n d := ⟨h2, hd, fun k hk hkn => by
  rcases Nat.lt_or_ge k d with hl | hl
  · exact absurd hkn (h k hk hl)
  · exact hl⟩
theorem NoDiv.stop {n d : Nat} (h : NoDiv n d) (hn : 2 ≤ n) (hd : n < d * d) : LD n n := by
  refine ⟨hn, Nat.dvd_refl n, fun k hk hkn => ?_⟩
  refine Nat.le_of_not_lt fun hl => ?_
  obtain ⟨q, hq⟩ := hkn
  have hq2 : 2 ≤ q := by
    rcases Nat.lt_or_ge q 2 with hq1 | hq1
    · obtain rfl | rfl : q = 0 ∨ q = 1 := by omega
      · omega
      · omega
    · exact hq1
  have hkd : d ≤ k := by
    rcases Nat.lt_or_ge k d with hk1 | hk1
    · exact absurd ⟨q, hq⟩ (h k hk hk1)
    · exact hk1
  have hqd : d ≤ q := by
    rcases Nat.lt_or_ge q d with hk1 | hk1
    · exact absurd ⟨k, by rw [Nat.mul_comm]; exact hq⟩ (h q hq2 hk1)
    · exact hk1
  have := Nat.mul_le_mul hkd hqd
  omega
/-- Is the number a prime of at most 2^20? -/
def isP (n : Int) : Bool := decide (2 ≤ n) && decide (n ≤ 1048576) && primeB n.toNat
theorem NoDiv.prime {n d : Nat} (h : NoDiv n d) (hn : 2 ≤ n) (hd : n < d * d) : primeB n = true := (LD.self hn).1 (h.stop hn hd)
theorem NoDiv.not {n d : Nat} (h2 : 2 ≤ d) (hd : d ∣ n) (hdd : d * d ≤ n) : primeB n = false := by
  cases hp : primeB n with
  | false => rfl
  | true =>
    obtain ⟨_, hh⟩ := primeB_spec hp
    have : d < n := by
      have := Nat.mul_le_mul_right d h2
      omega
    exact absurd hd (hh d this h2)
theorem isP_low {n : Int} (h : n < 2) : isP n = false := by unfold isP; rw [decide_eq_false (by omega : ¬ 2 ≤ n)]; rfl
theorem isP_high {n : Int} (h : 1048576 < n) : isP n = false := by unfold isP; rw [decide_eq_false (by omega : ¬ n ≤ 1048576)]; simp
theorem isP_mid {n : Nat} (h : 2 ≤ n) (h' : n ≤ 1048576) : isP (n : Int) = primeB n := by
  unfold isP
  rw [decide_eq_true (by omega : (2 : Int) ≤ n), decide_eq_true (by omega : (n : Int) ≤ 1048576)]
  simp
theorem isP_LD {n p : Nat} (h : 2 ≤ n) (h' : n ≤ 1048576) (hl : LD n p) : isP (n : Int) = decide ((p : Int) = n) := by
  rw [isP_mid h h']
  by_cases e : p = n
  · subst e; rw [(LD.self h).1 hl]; simp
  · rw [decide_eq_false (by omega)]
    cases hp : primeB n with
    | false => rfl
    | true => exact absurd (hl.eq ((LD.self h).2 hp)) e
/-- Factors: what has been found, and what is left. -/
structure Fac (N : Nat) (ps : List Nat) (c : Nat) : Prop where
  prod : ps.foldl (· * ·) 1 * c = N
  prime : ∀ p ∈ ps, primeB p = true
  le : ∀ p ∈ ps, ∀ k, 2 ≤ k → k ∣ c → p ≤ k
  up : ps.Pairwise (· ≤ ·)
  pos : 1 ≤ c
  small : 2 ^ ps.length * c ≤ N
theorem Fac.start {N : Nat} (h : 1 ≤ N) : Fac N [] N := ⟨by simp, by simp, by simp, .nil, h, by simp⟩
theorem Fac.step {N c p : Nat} {ps : List Nat} (h : Fac N ps c) (hp : LD c p) : Fac N (ps ++ [p]) (c / p) := by
  obtain ⟨q, hq⟩ := hp.2.1
  have hp0 : 0 < p := by have := hp.1; omega
  have hc : c / p = q := by rw [hq]; exact Nat.mul_div_cancel_left q hp0
  rw [hc]
  have hpos := h.pos
  have hq0 : 1 ≤ q := by
    rcases Nat.eq_zero_or_pos q with e | e
    · subst e; omega
    · exact e
  refine ⟨?_, ?_, ?_, ?_, hq0, ?_⟩
  · rw [List.foldl_append, List.foldl_cons, List.foldl_nil, Nat.mul_assoc, ← hq]; exact h.prod
  · intro x hx
    rcases List.mem_append.1 hx with hx | hx
    · exact h.prime x hx
    · obtain rfl : x = p := by simpa using hx
      exact hp.prime
  · intro x hx k hk hkq
    have hkc : k ∣ c := by rw [hq]; exact Nat.dvd_trans hkq (Nat.dvd_mul_left q p)
    rcases List.mem_append.1 hx with hx | hx
    · exact h.le x hx k hk hkc
    · obtain rfl : x = p := by simpa using hx
      exact hp.2.2 k hk hkc
  · rw [List.pairwise_append]
    refine ⟨h.up, List.pairwise_singleton _ _, fun x hx y hy => ?_⟩
    obtain rfl : y = p := by simpa using hy
    exact h.le x hx _ hp.1 hp.2.1
  · have h1 := h.small
    have h2 : 2 * q ≤ c := by rw [hq]; exact Nat.mul_le_mul_right q hp.1
    have h3 := Nat.mul_le_mul_left (2 ^ ps.length) h2
    rw [List.length_append, List.length_singleton, Nat.pow_succ, Nat.mul_assoc]
    omega
theorem Fac.len {N c : Nat} {ps : List Nat} (h : Fac N ps c) (hN : N ≤ 1048576) : ps.length ≤ 20 := by
  rcases Nat.lt_or_ge 20 ps.length with hl | hl
  · have h1 : 2 ^ 21 ≤ 2 ^ ps.length := Nat.pow_le_pow_right (by decide) hl
    have h2 := h.small
    have h3 := Nat.mul_le_mul_left (2 ^ ps.length) h.pos
    have h4 : (2 : Nat) ^ 21 = 2097152 := by decide
    omega
  · exact hl
/-- The product of the first ones. -/
def prodN (ps : List Nat) (i : Nat) : Nat := (ps.take i).foldl (· * ·) 1
theorem foldl_mul (ps : List Nat) (a : Nat) : ps.foldl (· * ·) a = a * ps.foldl (· * ·) 1 := by
  induction ps generalizing a with
  | nil => simp
  | cons x r ih => rw [List.foldl_cons, List.foldl_cons, ih (a * x), ih (1 * x), Nat.one_mul, Nat.mul_assoc]
theorem prodN_step {ps : List Nat} {i : Nat} (h : i < ps.length) : prodN ps (i + 1) = prodN ps i * ps[i] := by
  unfold prodN
  rw [List.take_succ_eq_append_getElem h, List.foldl_append, List.foldl_cons, List.foldl_nil]
theorem prodN_all (ps : List Nat) : prodN ps ps.length = ps.foldl (· * ·) 1 := by unfold prodN; rw [List.take_length]
theorem prodN_dvd (ps : List Nat) (i : Nat) : prodN ps i ∣ ps.foldl (· * ·) 1 := by
  unfold prodN
  have h : ps.foldl (· * ·) 1 = (ps.take i).foldl (· * ·) 1 * (ps.drop i).foldl (· * ·) 1 := by
    rw [← foldl_mul, ← List.foldl_append, List.take_append_drop]
  rw [h]
  exact Nat.dvd_mul_right _ _
theorem Fac.end {N : Nat} {ps : List Nat} (h : Fac N ps 1) (i : Nat) (hN : 0 < N) : prodN ps i ≤ N := by
  have hp := h.prod
  rw [Nat.mul_one] at hp
  exact Nat.le_of_dvd hN (by rw [← hp]; exact prodN_dvd ps i)
theorem Fac.fin {N : Nat} {ps : List Nat} (h : Fac N ps 1) : prodN ps ps.length = N := by
  rw [prodN_all, ← h.prod, Nat.mul_one]
theorem Fac.at {N c : Nat} {ps : List Nat} (h : Fac N ps c) (i : Nat) (hi : i < ps.length) (hi1 : 0 < i) : ps[i - 1] ≤ ps[i] :=
  List.pairwise_iff_getElem.1 h.up (i - 1) i (by omega) hi (by omega)
/-- Euclid. -/
theorem gcd_step {a b : Nat} : Nat.gcd (b % a) a = Nat.gcd a b := by rw [Nat.gcd_rec a b]
/-- The places of a row. -/
def rowL (m f s : Nat) : List Nat := (List.range m).map fun i => (f + i * s) % m
theorem rowL_len (m f s : Nat) : (rowL m f s).length = m := by simp [rowL]
theorem rowL_at {m f s i : Nat} (h : i < m) : (rowL m f s)[i]? = some ((f + i * s) % m) := by
  unfold rowL
  rw [List.getElem?_map, List.getElem?_range h]; rfl
theorem row_next (m f s i : Nat) : (((f + i * s) % m) + s) % m = (f + (i + 1) * s) % m := by
  rw [Nat.mod_add_mod, Nat.succ_mul, Nat.add_assoc]
theorem coprime_dvd {m s k : Nat} (h : Nat.gcd s m = 1) (hd : m ∣ k * s) : m ∣ k :=
  Nat.Coprime.dvd_of_dvd_mul_right (show Nat.gcd m s = 1 by rw [Nat.gcd_comm]; exact h) hd
theorem row_inj {m f s i j : Nat} (h : Nat.gcd s m = 1) (hi : i < j) (hj : j < m) : (f + i * s) % m ≠ (f + j * s) % m := by
  intro e
  have h1 : m ∣ (f + j * s) - (f + i * s) := by
    have h2 := Nat.sub_mod_eq_zero_of_mod_eq e.symm
    exact Nat.dvd_of_mod_eq_zero h2
  have h3 : (f + j * s) - (f + i * s) = (j - i) * s := by rw [Nat.sub_mul]; omega
  rw [h3] at h1
  have h4 := coprime_dvd h h1
  have := Nat.le_of_dvd (by omega) h4
  omega
theorem row_back {m f s : Nat} (hm : 2 ≤ m) (h : Nat.gcd s m ≠ 1) : ∃ j, 0 < j ∧ j < m ∧ (f + j * s) % m = (f + 0 * s) % m := by
  obtain ⟨q, hq⟩ := Nat.gcd_dvd_right s m
  obtain ⟨t, ht⟩ := Nat.gcd_dvd_left s m
  have hg : 0 < Nat.gcd s m := Nat.gcd_pos_of_pos_right s (by omega)
  generalize Nat.gcd s m = g at *
  have hg2 : 2 ≤ g := by omega
  have hq0 : 0 < q := by
    rcases Nat.eq_zero_or_pos q with e | e
    · subst e; omega
    · exact e
  have hqm : q < m := by
    have := Nat.mul_le_mul_right q hg2
    omega
  refine ⟨q, hq0, hqm, ?_⟩
  have e : q * s = m * t := by
    rw [ht, hq, Nat.mul_left_comm, ← Nat.mul_assoc]
  rw [e, Nat.zero_mul, Nat.add_zero, Nat.add_mul_mod_self_left]
/-- Euclid's algorithm with the first of its factors: what holds in each round. -/
structure InvE (m A R S : Nat) (x y : Int) : Prop where
  c1 : (m : Int) ∣ (R : Int) - x * A
  c2 : (m : Int) ∣ (S : Int) - y * A
  g : Nat.gcd R S = Nat.gcd A m
  r : 1 ≤ R
  rm : R ≤ m
  b : ∃ (s : Int) (u v : Nat), (s = 1 ∨ s = -1) ∧ x = s * u ∧ y = -(s * v) ∧ v * R + u * S = m ∧ u ≤ m
theorem InvE.start {m A : Nat} (hm : 2 ≤ m) : InvE m A m A 0 1 := by
  refine ⟨?_, ?_, ?_, by omega, by omega, -1, 0, 1, .inr rfl, rfl, rfl, by omega, by omega⟩
  · simp
  · simp
  · exact Nat.gcd_comm m A
theorem InvE.yb {m A R S : Nat} {x y : Int} (h : InvE m A R S x y) : -(m : Int) ≤ y ∧ y ≤ m := by
  obtain ⟨s, u, v, hs, _, hy, hm, _⟩ := h.b
  have h1 := Nat.mul_le_mul_left v h.r
  have h2 : v ≤ m := by omega
  rcases hs with rfl | rfl <;> omega
theorem InvE.xb {m A R S : Nat} {x y : Int} (h : InvE m A R S x y) : -(m : Int) ≤ x ∧ x ≤ m := by
  obtain ⟨s, u, v, hs, hx, _, _, hu⟩ := h.b
  rcases hs with rfl | rfl <;> omega
theorem InvE.step {m A R S : Nat} {x y : Int} (h : InvE m A R S x y) (hS : 0 < S) (hSR : S ≤ m) : InvE m A S (R % S) y (x - ((R / S : Nat) : Int) * y) := by
  have hd := Nat.div_add_mod R S
  obtain ⟨c1, c2, g, r, rm, s, u, v, hs, hx, hy, hm, hu⟩ := h
  have hq : ((R % S : Nat) : Int) = (R : Int) - ((R / S : Nat) : Int) * S := by
    have : (R : Int) = ((S * (R / S) + R % S : Nat) : Int) := by rw [hd]
    rw [this, Int.natCast_add, Int.natCast_mul, Int.mul_comm (S : Int)]
    omega
  refine ⟨c2, ?_, ?_, hS, hSR, -s, v, u + (R / S) * v, ?_, ?_, ?_, ?_, ?_⟩
  · rw [hq]
    have e : (R : Int) - ((R / S : Nat) : Int) * S - (x - ((R / S : Nat) : Int) * y) * A = ((R : Int) - x * A) - ((R / S : Nat) : Int) * ((S : Int) - y * A) := by grind
    rw [e]
    exact Int.dvd_sub c1 (Int.dvd_mul_of_dvd_right c2)
  · rw [← g, Nat.gcd_comm S, Nat.gcd_comm R S, Nat.gcd_rec S R]
  · omega
  · rw [hy]; grind
  · rw [hx, hy]; simp only [Int.natCast_add, Int.natCast_mul]; grind
  · have e : (u + R / S * v) * S + v * (R % S) = v * (S * (R / S) + R % S) + u * S := by grind
    rw [e, hd]; exact hm
  · have h1 := Nat.mul_le_mul_left v r
    omega
theorem InvE.fin {m A R : Nat} {x y : Int} (h : InvE m A R 0 x y) (hm : 2 ≤ m) (hR : R = 1) : 0 < x % m ∧ x % m < m ∧ ((A : Int) * (x % m)) % m = 1 := by
  have h0 := Int.emod_nonneg x (b := (m : Int)) (by omega)
  have h1 := Int.emod_lt_of_pos x (b := (m : Int)) (by omega)
  have h2 : ((A : Int) * (x % m)) % m = 1 := by
    rw [Int.mul_emod, Int.emod_emod_of_dvd _ (Int.dvd_refl _), ← Int.mul_emod]
    obtain ⟨k, hk⟩ := h.c1
    have e : (A : Int) * x = 1 + m * (-k) := by subst hR; grind
    rw [e, Int.add_mul_emod_self_left, Int.emod_eq_of_lt (by omega) (by omega)]
  refine ⟨?_, h1, h2⟩
  rcases Int.lt_or_eq_of_le h0 with h3 | h3
  · exact h3
  · rw [← h3, Int.mul_zero, Int.zero_emod] at h2; omega
end Go.Proofs.YtklfpnnnoaaiaabGreatDoor

/- maglev: how places are assigned, as math. -/
namespace Go.Proofs.YtklfpnnnoaaiaabGreatDoor

/-- How many of the first ones. -/
def cntF (p : Nat → Bool) : Nat → Nat
  | 0 => 0
  | m + 1 => cntF p m + (if p m then 1 else 0)
theorem cntF_le (p : Nat → Bool) : ∀ m, cntF p m ≤ m
  | 0 => Nat.le_refl _
  | m + 1 => by unfold cntF; have := cntF_le p m; split <;> omega
theorem cntF_congr {p q : Nat → Bool} : ∀ {m : Nat}, (∀ i, i < m → p i = q i) → cntF p m = cntF q m
  | 0, _ => rfl
  | m + 1, h => by unfold cntF; rw [cntF_congr (fun i hi => h i (by omega)), h m (by omega)]
theorem cntF_set {p q : Nat → Bool} {k : Nat} (hp : p k = false) (hq : q k = true) : ∀ {m : Nat}, k < m → (∀ i, i ≠ k → q i = p i) → cntF q m = cntF p m + 1
  | 0, h, _ => by omega
  | m + 1, h, he => by
    unfold cntF
    by_cases e : k = m
    · subst e
      rw [cntF_congr (fun i hi => he i (by omega)), hp, hq]; simp
    · rw [cntF_set hp hq (by omega) he, he m (fun h => e h.symm)]; omega
theorem cntF_same {p q : Nat → Bool} {k : Nat} (hpq : p k = q k) {m : Nat} (he : ∀ i, i ≠ k → q i = p i) : cntF q m = cntF p m :=
  cntF_congr fun i _ => by
    by_cases e : i = k
    · subst e; exact hpq.symm
    · exact he i e
theorem cntF_full {p : Nat → Bool} : ∀ {m : Nat}, cntF p m = m → ∀ i, i < m → p i = true
  | 0, _, i, hi => by omega
  | m + 1, h, i, hi => by
    unfold cntF at h
    have h1 := cntF_le p m
    cases hp : p m with
    | false => rw [hp] at h; simp at h; omega
    | true =>
      rw [hp] at h
      by_cases e : i = m
      · subst e; exact hp
      · exact cntF_full (m := m) (by simpa using h) i (by omega)
theorem cntF_none : ∀ (m : Nat), cntF (fun _ => false) m = 0
  | 0 => rfl
  | m + 1 => by unfold cntF; rw [cntF_none m]; rfl
theorem cntF_hole {p : Nat → Bool} {m : Nat} (h : cntF p m < m) : ∃ i, i < m ∧ p i = false := by
  by_cases hn : ∃ i, i < m ∧ p i = false
  · exact hn
  · exfalso
    have : cntF p m = m := by
      have h2 : cntF p m = cntF (fun _ => true) m := cntF_congr fun i hi => by
        cases hp : p i with
        | true => rfl
        | false => exact absurd ⟨i, hi, hp⟩ hn
      rw [h2]
      clear h h2 hn
      induction m with
      | zero => rfl
      | succ m ih => unfold cntF; rw [ih]; rfl
    omega
/-- A list without repeats is no longer than one that has all its members. -/
theorem nodup_length : ∀ {l l' : List Nat}, l.Nodup → (∀ x ∈ l, x ∈ l') → l.length ≤ l'.length
  | [], _, _, _ => Nat.zero_le _
  | a :: l, l', h, hs => by
    have hn := List.nodup_cons.1 h
    have ha := hs a (List.mem_cons_self ..)
    have ih := nodup_length (l := l) (l' := l'.erase a) hn.2 (fun x hx => (List.mem_erase_of_ne (fun e => hn.1 (by rw [← e]; exact hx))).2 (hs x (List.mem_cons_of_mem _ hx)))
    rw [List.length_erase_of_mem ha] at ih
    have := List.length_pos_of_mem ha
    simp only [List.length_cons]
    omega
/-- An injective map of the first m numbers among themselves reaches each. -/
theorem inj_onto {m : Nat} {p : Nat → Nat} (hlt : ∀ t, t < m → p t < m) (hinj : ∀ a b, a < b → b < m → p a ≠ p b) (q : Nat) (hq : q < m) : ∃ t, t < m ∧ p t = q := by
  by_cases h : ∃ t, t < m ∧ p t = q
  · exact h
  · exfalso
    have hn : ((List.range m).map p).Nodup := by
      rw [List.Nodup, List.pairwise_iff_getElem]
      intro i j hi hj hij
      simp only [List.length_map, List.length_range] at hi hj
      simp only [List.getElem_map, List.getElem_range]
      exact hinj i j hij hj
    have := nodup_length (l' := (List.range m).erase q) hn (fun x hx => by
      obtain ⟨t, ht, rfl⟩ := List.mem_map.1 hx
      have ht := List.mem_range.1 ht
      exact (List.mem_erase_of_ne (fun e => h ⟨t, ht, e⟩)).2 (List.mem_range.2 (hlt t ht)))
    rw [List.length_map, List.length_range, List.length_erase_of_mem (List.mem_range.2 hq), List.length_range] at this
    omega
/-- The first free place of a row from a place on. -/
def ff (own : Nat → Int) (p : Nat → Nat) : Nat → Nat → Nat
  | 0, t => t
  | k + 1, t => if own (p t) = -1 then t else ff own p k (t + 1)
theorem ff_is {own : Nat → Int} {p : Nat → Nat} : ∀ {k t u : Nat}, t ≤ u → u ≤ t + k → own (p u) = -1 → (∀ v, t ≤ v → v < u → own (p v) ≠ -1) → ff own p k t = u
  | 0, t, u, h1, h2, _, _ => by unfold ff; omega
  | k + 1, t, u, h1, h2, hu, hv => by
    unfold ff
    by_cases e : t = u
    · subst e; rw [if_pos hu]
    · rw [if_neg (hv t (Nat.le_refl _) (by omega))]
      exact ff_is (by omega) (by omega) hu (fun v h3 h4 => hv v (by omega) h4)
theorem first_free {own : Nat → Int} {p : Nat → Nat} {t u : Nat} (h1 : t ≤ u) (hu : own (p u) = -1) : ∃ v, t ≤ v ∧ v ≤ u ∧ own (p v) = -1 ∧ ∀ x, t ≤ x → x < v → own (p x) ≠ -1 := by
  obtain ⟨d, hd⟩ : ∃ d, u = t + d := ⟨u - t, by omega⟩
  clear h1
  induction d generalizing t with
  | zero => exact ⟨u, by omega, Nat.le_refl _, hu, fun x h2 h3 => by omega⟩
  | succ d ih =>
    by_cases e : own (p t) = -1
    · exact ⟨t, Nat.le_refl _, by omega, e, fun x h2 h3 => by omega⟩
    · obtain ⟨v, h2, h3, h4, h5⟩ := ih (t := t + 1) (by omega)
      refine ⟨v, by omega, h3, h4, fun x h6 h7 => ?_⟩
      by_cases ex : x = t
      · subst ex; exact e
      · exact h5 x (by omega) h7
/-- What an assignment of places is made of. -/
structure Par where
  n : Nat
  m : Nat
  G : Nat
  W : Nat → Nat
  F : Nat → Nat
  S : Nat → Nat
structure St where
  own : Nat → Int
  nx : Nat → Nat
  ow : Nat → Int
  cnt : Nat
def setI (f : Nat → Int) (i : Nat) (v : Int) : Nat → Int := fun k => if k = i then v else f k
def setN (f : Nat → Nat) (i : Nat) (v : Nat) : Nat → Nat := fun k => if k = i then v else f k
namespace Par
variable (P : Par)
def pl (i t : Nat) : Nat := (P.F i + t * P.S i) % P.m
def nxt (i : Nat) (st : St) : Nat := ff st.own (P.pl i) P.m (st.nx i)
/-- An entry receives a place. -/
def take (i : Nat) (st : St) : St := ⟨setI st.own (P.pl i (P.nxt i st)) i, setN st.nx i (P.nxt i st), setI st.ow i (st.ow i + P.W i - P.G), st.cnt + 1⟩
def wait (i : Nat) (st : St) : St := ⟨st.own, st.nx, setI st.ow i (st.ow i + P.W i), st.cnt⟩
def stp (i : Nat) (st : St) : St := if st.cnt = P.m then st else if st.ow i + P.W i < P.G then P.wait i st else P.take i st
def start : St := ⟨fun _ => -1, fun _ => 0, fun _ => 0, 0⟩
def run : Nat → St
  | 0 => start
  | T + 1 => P.stp (T % P.n) (run T)
theorem run_stop {T : Nat} (h : (P.run T).cnt = P.m) : ∀ d, P.run (T + d) = P.run T
  | 0 => rfl
  | d + 1 => by
    show P.stp ((T + d) % P.n) (P.run (T + d)) = _
    rw [run_stop h d]
    unfold stp
    rw [if_pos h]
theorem run_same {T U : Nat} (h : (P.run T).cnt = P.m) (h' : (P.run U).cnt = P.m) : P.run T = P.run U := by
  rcases Nat.le_total T U with hl | hl
  · obtain ⟨d, rfl⟩ := Nat.exists_eq_add_of_le hl
    exact (P.run_stop h d).symm
  · obtain ⟨d, rfl⟩ := Nat.exists_eq_add_of_le hl
    exact P.run_stop h' d
/-- What is asked of the parameters. -/
structure Ok : Prop where
  n0 : 0 < P.n
  m2 : 2 ≤ P.m
  row : ∀ i, i < P.n → Nat.gcd (P.S i) P.m = 1
  w1 : ∀ i, i < P.n → 1 ≤ P.W i ∧ P.W i ≤ P.G
  g : ∃ i, i < P.n ∧ P.W i = P.G
/-- What holds on the way. -/
structure Inv (st : St) : Prop where
  cnt : st.cnt = cntF (fun q => decide (st.own q ≠ -1)) P.m
  nx : ∀ i, i < P.n → st.nx i < P.m ∧ ∀ u, u < st.nx i → st.own (P.pl i u) ≠ -1
  ow : ∀ i, i < P.n → 0 ≤ st.ow i ∧ st.ow i < P.G
  rng : ∀ q, st.own q = -1 ∨ (0 ≤ st.own q ∧ st.own q < P.n)
variable {P}
theorem pl_lt (h : P.Ok) (i t : Nat) : P.pl i t < P.m := Nat.mod_lt _ (by have := h.m2; omega)
theorem Inv.start (h : P.Ok) : P.Inv Par.start := by
  refine ⟨?_, fun i _ => ⟨by show 0 < P.m; have := h.m2; omega, fun u hu => by have : u < 0 := hu; omega⟩, fun i hi => ⟨Int.le_refl _, ?_⟩, fun q => .inl rfl⟩
  · show 0 = _
    rw [cntF_congr (q := fun _ => false) (fun i _ => by simp [Par.start]), cntF_none]
  · show (0 : Int) < P.G
    have := h.w1 i hi; omega
theorem Inv.free {st : St} (h : P.Ok) (hI : P.Inv st) (hc : st.cnt < P.m) {i : Nat} (hi : i < P.n) :
    st.nx i ≤ P.nxt i st ∧ P.nxt i st < P.m ∧ st.own (P.pl i (P.nxt i st)) = -1 ∧ ∀ u, st.nx i ≤ u → u < P.nxt i st → st.own (P.pl i u) ≠ -1 := by
  obtain ⟨q, hq, hqf⟩ := cntF_hole (by rw [← hI.cnt]; exact hc)
  have hq1 : st.own q = -1 := by simpa using hqf
  obtain ⟨u, hu, hpu⟩ := inj_onto (p := P.pl i) (fun t _ => pl_lt h i t) (fun a b hab hb => row_inj (h.row i hi) hab hb) q hq
  have hle : st.nx i ≤ u := by
    rcases Nat.lt_or_ge u (st.nx i) with h1 | h1
    · exact absurd (by rw [hpu]; exact hq1) ((hI.nx i hi).2 u h1)
    · exact h1
  obtain ⟨v, h1, h2, h3, h4⟩ := first_free (own := st.own) (p := P.pl i) hle (by rw [hpu]; exact hq1)
  have hv : P.nxt i st = v := ff_is h1 (by omega) h3 h4
  rw [hv]
  exact ⟨h1, by omega, h3, h4⟩
theorem Inv.wait {st : St} (hI : P.Inv st) {i : Nat} (hi : i < P.n) (hw : st.ow i + P.W i < P.G) : P.Inv (P.wait i st) := by
  refine ⟨hI.cnt, hI.nx, fun k hk => ?_, hI.rng⟩
  show 0 ≤ setI st.ow i (st.ow i + P.W i) k ∧ setI st.ow i (st.ow i + P.W i) k < P.G
  unfold setI
  have := hI.ow i hi
  split
  · omega
  · exact hI.ow k hk
theorem Inv.take {st : St} (h : P.Ok) (hI : P.Inv st) (hc : st.cnt < P.m) {i : Nat} (hi : i < P.n) (hw : ¬ st.ow i + P.W i < P.G) : P.Inv (P.take i st) := by
  obtain ⟨f1, f2, f3, f4⟩ := hI.free h hc hi
  have hwi := h.w1 i hi
  refine ⟨?_, fun k hk => ?_, fun k hk => ?_, fun q => ?_⟩
  · show st.cnt + 1 = _
    rw [hI.cnt]
    refine (cntF_set (k := P.pl i (P.nxt i st)) (by simp [f3]) ?_ (pl_lt h _ _) (fun q hq => ?_)).symm
    · show decide (setI st.own (P.pl i (P.nxt i st)) i (P.pl i (P.nxt i st)) ≠ -1) = true
      unfold setI; rw [if_pos rfl]; exact decide_eq_true (by omega)
    · show decide (setI st.own (P.pl i (P.nxt i st)) i q ≠ -1) = _
      unfold setI; rw [if_neg hq]
  · show setN st.nx i (P.nxt i st) k < P.m ∧ ∀ u, u < setN st.nx i (P.nxt i st) k → setI st.own (P.pl i (P.nxt i st)) i (P.pl k u) ≠ -1
    have key : ∀ u, st.own (P.pl k u) ≠ -1 → setI st.own (P.pl i (P.nxt i st)) i (P.pl k u) ≠ -1 := fun u hu => by
      unfold setI; split
      · omega
      · exact hu
    unfold setN
    by_cases e : k = i
    · subst e
      rw [if_pos rfl]
      refine ⟨f2, fun u hu => key u ?_⟩
      rcases Nat.lt_or_ge u (st.nx k) with h1 | h1
      · exact (hI.nx k hk).2 u h1
      · exact f4 u h1 hu
    · rw [if_neg e]
      exact ⟨(hI.nx k hk).1, fun u hu => key u ((hI.nx k hk).2 u hu)⟩
  · show 0 ≤ setI st.ow i (st.ow i + P.W i - P.G) k ∧ setI st.ow i (st.ow i + P.W i - P.G) k < P.G
    unfold setI
    have := hI.ow i hi
    split
    · omega
    · exact hI.ow k hk
  · show setI st.own (P.pl i (P.nxt i st)) i q = -1 ∨ (0 ≤ setI st.own (P.pl i (P.nxt i st)) i q ∧ setI st.own (P.pl i (P.nxt i st)) i q < P.n)
    unfold setI
    split
    · exact .inr ⟨by omega, by omega⟩
    · exact hI.rng q
theorem Inv.le {st : St} (hI : P.Inv st) : st.cnt ≤ P.m := by rw [hI.cnt]; exact cntF_le _ _
theorem Inv.stp {st : St} (h : P.Ok) (hI : P.Inv st) {i : Nat} (hi : i < P.n) : P.Inv (P.stp i st) := by
  unfold Par.stp
  split
  · exact hI
  · have := hI.le
    split
    · exact hI.wait hi (by assumption)
    · exact hI.take h (by omega) hi (by assumption)
theorem run_inv (h : P.Ok) : ∀ T, P.Inv (P.run T)
  | 0 => Inv.start h
  | T + 1 => (run_inv h T).stp h (Nat.mod_lt _ h.n0)
end Par
/-- A step below a prime has no divisor in common with it. -/
theorem prime_coprime {m s : Nat} (h : primeB m = true) (h1 : 1 ≤ s) (h2 : s < m) : Nat.gcd s m = 1 := by
  obtain ⟨hm, hd⟩ := primeB_spec h
  have g1 := Nat.gcd_dvd_right s m
  have g2 := Nat.gcd_dvd_left s m
  have g3 := Nat.le_of_dvd (by omega) g2
  have g4 := Nat.gcd_pos_of_pos_left m (show 0 < s by omega)
  rcases Nat.lt_or_ge (Nat.gcd s m) 2 with h5 | h5
  · omega
  · exact absurd g1 (hd _ (by omega) h5)
/-- Where a place lies in a row. -/
def Par.pos (P : Par) (i q : Nat) : Nat := ((List.range P.m).find? fun t => P.pl i t == q).getD 0
theorem Par.pos_pl {P : Par} (h : P.Ok) {i : Nat} (hi : i < P.n) {t : Nat} (ht : t < P.m) : P.pos i (P.pl i t) = t := by
  unfold Par.pos
  have : (List.range P.m).find? (fun u => P.pl i u == P.pl i t) = some t := by
    rw [List.find?_range_eq_some]
    refine ⟨by simp, by simpa using ht, fun j hj => ?_⟩
    have : ¬ P.pl i j = P.pl i t := row_inj (m := P.m) (f := P.F i) (h.row i hi) hj ht
    simpa using this
  rw [this]; rfl
theorem Par.pl_next (P : Par) (i t : Nat) : (P.pl i t + P.S i) % P.m = P.pl i (t + 1) := row_next P.m (P.F i) (P.S i) t
theorem setN_same (f : Nat → Nat) (i v : Nat) : setN f i v i = v := if_pos rfl
theorem setN_twice (f : Nat → Nat) (i v u : Nat) : setN (setN f i v) i u = setN f i u := by
  funext k; unfold setN; split <;> rfl
theorem setN_id (f : Nat → Nat) (i : Nat) : setN f i (f i) = f := by
  funext k; unfold setN; split
  · rename_i e; rw [e]
  · rfl
end Go.Proofs.YtklfpnnnoaaiaabGreatDoor

/- maglev.nextFree. -/
namespace Go.Proofs.YtklfpnnnoaaiaabGreatDoor
open Go.RowKit

/-- The claims in memory. -/
structure ClaimsAt (w : World) (cb : Nat) (P : Par) (nx : Nat → Nat) (ow : Nat → Int) : Prop where
  c0 : ∀ i, i < P.n → w.cell? ⟨cb, i * 4, none⟩ = some (.int .i64 (P.W i : Nat))
  c1 : ∀ i, i < P.n → w.cell? ⟨cb, i * 4 + 1, none⟩ = some (.int .i64 (ow i))
  c2 : ∀ i, i < P.n → w.cell? ⟨cb, i * 4 + 2, none⟩ = some (.int .i64 (P.pl i (nx i) : Nat))
  c3 : ∀ i, i < P.n → w.cell? ⟨cb, i * 4 + 3, none⟩ = some (.int .i64 (P.S i : Nat))
  fz : ∀ j, j < P.n * 4 → w.frozen? ⟨cb, j, none⟩ = false
/-- The owners in memory. -/
def OwnersAt (w : World) (ob m : Nat) (own : Nat → Int) : Prop := ∀ q, q < m → w.cell? ⟨ob, q, none⟩ = some (.int .i64 (own q)) ∧ w.frozen? ⟨ob, q, none⟩ = false
theorem other_cell {w : World} {b o b' o' : Nat} (h : b ≠ b' ∨ o ≠ o') (v : Value) : (w.setCell ⟨b', o', none⟩ v).cell? ⟨b, o, none⟩ = w.cell? ⟨b, o, none⟩ :=
  World.cell?_setCell_other _ _ _ _ (by intro e; injection e with e1 e2; rcases h with h | h; exact h e1.symm; exact h e2.symm)
theorem OwnersAt.far {w : World} {ob m cb : Nat} {own : Nat → Int} (h : OwnersAt w ob m own) (hne : cb ≠ ob) (o : Nat) (v : Value) : OwnersAt (w.setCell ⟨cb, o, none⟩ v) ob m own := fun q hq => by
  rw [other_cell (.inl (Ne.symm hne)), World.frozen?_setCell]; exact h q hq
theorem OwnersAt.set {w : World} {ob m : Nat} {own : Nat → Int} (h : OwnersAt w ob m own) {q : Nat} (hq : q < m) (v : Int) : OwnersAt (w.setCell ⟨ob, q, none⟩ (.int .i64 v)) ob m (setI own q v) := fun r hr => by
  rw [World.frozen?_setCell]
  refine ⟨?_, (h r hr).2⟩
  unfold setI
  by_cases e : r = q
  · subst e; rw [World.cell?_setCell_same _ _ _ (h r hr).1, if_pos rfl]
  · rw [other_cell (.inr e), if_neg e]; exact (h r hr).1
theorem ClaimsAt.far {w : World} {cb ob : Nat} {P : Par} {nx : Nat → Nat} {ow : Nat → Int} (h : ClaimsAt w cb P nx ow) (hne : cb ≠ ob) (o : Nat) (v : Value) : ClaimsAt (w.setCell ⟨ob, o, none⟩ v) cb P nx ow :=
  ⟨fun i hi => by rw [other_cell (.inl hne)]; exact h.c0 i hi, fun i hi => by rw [other_cell (.inl hne)]; exact h.c1 i hi, fun i hi => by rw [other_cell (.inl hne)]; exact h.c2 i hi,
   fun i hi => by rw [other_cell (.inl hne)]; exact h.c3 i hi, fun j hj => by rw [World.frozen?_setCell]; exact h.fz j hj⟩
theorem ClaimsAt.setP {w : World} {cb : Nat} {P : Par} {nx : Nat → Nat} {ow : Nat → Int} (h : ClaimsAt w cb P nx ow) {i : Nat} (hi : i < P.n) (t : Nat) : ClaimsAt (w.setCell ⟨cb, i * 4 + 2, none⟩ (.int .i64 (P.pl i t : Nat))) cb P (setN nx i t) ow := by
  refine ⟨fun k hk => by rw [other_cell (.inr (by omega))]; exact h.c0 k hk, fun k hk => by rw [other_cell (.inr (by omega))]; exact h.c1 k hk, fun k hk => ?_, fun k hk => by rw [other_cell (.inr (by omega))]; exact h.c3 k hk, fun j hj => by rw [World.frozen?_setCell]; exact h.fz j hj⟩
  unfold setN
  by_cases e : k = i
  · subst e; rw [World.cell?_setCell_same _ _ _ (h.c2 k hk), if_pos rfl]
  · rw [other_cell (.inr (by omega)), if_neg e]; exact h.c2 k hk
theorem ClaimsAt.setO {w : World} {cb : Nat} {P : Par} {nx : Nat → Nat} {ow : Nat → Int} (h : ClaimsAt w cb P nx ow) {i : Nat} (hi : i < P.n) (v : Int) : ClaimsAt (w.setCell ⟨cb, i * 4 + 1, none⟩ (.int .i64 v)) cb P nx (setI ow i v) := by
  refine ⟨fun k hk => by rw [other_cell (.inr (by omega))]; exact h.c0 k hk, fun k hk => ?_, fun k hk => by rw [other_cell (.inr (by omega))]; exact h.c2 k hk, fun k hk => by rw [other_cell (.inr (by omega))]; exact h.c3 k hk, fun j hj => by rw [World.frozen?_setCell]; exact h.fz j hj⟩
  unfold setI
  by_cases e : k = i
  · subst e; rw [World.cell?_setCell_same _ _ _ (h.c1 k hk), if_pos rfl]
  · rw [other_cell (.inr (by omega)), if_neg e]; exact h.c1 k hk
theorem ClaimsAt.drew {w : World} {cb : Nat} {P : Par} {nx : Nat → Nat} {ow : Nat → Int} (h : ClaimsAt w cb P nx ow) : ClaimsAt w.drew cb P nx ow := ⟨h.c0, h.c1, h.c2, h.c3, h.fz⟩
theorem OwnersAt.drew {w : World} {ob m : Nat} {own : Nat → Int} (h : OwnersAt w ob m own) : OwnersAt w.drew ob m own := h
/-- The place that a claim has, read off the world. -/
def placeOf (w : World) (cb i : Nat) : Nat := match w.cell? ⟨cb, i * 4 + 2, none⟩ with
  | some (.int .i64 z) => z.toNat
  | _ => 0
theorem placeOf_is {w : World} {cb : Nat} {P : Par} {nx : Nat → Nat} {ow : Nat → Int} (h : ClaimsAt w cb P nx ow) {i : Nat} (hi : i < P.n) : placeOf w cb i = P.pl i (nx i) := by
  unfold placeOf; rw [h.c2 i hi]; simp
theorem wrapS (n : Nat) (h : n < 9223372036854775808) : IntKind.i64.wrap (n : Int) = (n : Int) := by
  simp [IntKind.wrap, IntKind.signed, IntKind.bits]; omega
theorem tmodM (p s m : Nat) : (((p + s : Nat) : Int)).tmod (m : Int) = (((p + s) % m : Nat) : Int) := by rw [Int.tmod_eq_emod_of_nonneg (by omega)]; rfl
set_option maxRecDepth 100000 in
set_option maxHeartbeats 2000000 in
theorem free40 (P : Par) (h : P.Ok) (hm : P.m ≤ 1048576) (hS : ∀ i, i < P.n → P.S i < P.m) (cb ob : Nat) (hne : cb ≠ ob) (i : Nat) (hi : i < P.n) (st : St) (hI : P.Inv st) (hc : st.cnt < P.m) (c : Nat) (w : World) (hC : ClaimsAt w cb P st.nx st.ow) (hO : OwnersAt w ob P.m st.own) :
    Calls Tryz.prog 45 #[.pointer (some ⟨cb, i * 4, none⟩), .slice (some ⟨ob, 0, none⟩) P.m c] w fun e w' => e = .returned (.int .i64 (P.pl i (P.nxt i st) : Nat)) ∧ ClaimsAt w' cb P (setN st.nx i (P.nxt i st)) st.ow ∧ OwnersAt w' ob P.m st.own ∧ Keep (fun k => k = cb) w w' := by
  obtain ⟨f1, f2, f3, f4⟩ := hI.free h hc hi
  have HC := Lib.hid hC
  have HO := Lib.hid hO
  have HF3 := Lib.hid f3
  have HF4 := Lib.hid f4
  have hSi := hS i hi
  have HPOS := Lib.hid (fun t ht => Par.pos_pl h hi (t := t) ht)
  generalize P.nxt i st = v at *
  clear hC hO f3 f4 hI
  go_enter Tryz.func45, Tryz.ntmps45
  go_wp2_with fail
  go_loopw [9] (fun _ wr => ∃ t : Nat, st.nx i ≤ t ∧ t ≤ v ∧ Hid (ClaimsAt wr cb P (setN st.nx i t) st.ow) ∧ Hid (OwnersAt wr ob P.m st.own) ∧ Hid (Keep (fun k => k = cb) w wr)) (fun _ wr => P.m - P.pos i (placeOf wr cb i))
  case atStart => exact ⟨st.nx i, Nat.le_refl _, f1, by rw [setN_id]; exact HC, HO, Keep.refl _ _⟩
  case round =>
    clear HC HO
    obtain ⟨t, ht1, ht2, HC, HO, HK⟩ := hrel
    have hpos := placeOf_is HC.out hi
    rw [setN_same] at hpos
    have hp2 := HPOS.out t (by omega)
    have hc2 := HC.out.c2 i hi
    rw [setN_same] at hc2
    have hc3 := HC.out.c3 i hi
    have hpl := Par.pl_lt h i t
    have ho := (HO.out (P.pl i t) hpl).1
    have hnx := P.pl_next i t
    have hfz := HC.out.fz (i * 4 + 2) (by omega)
    have pq : ((P.pl i t : Nat) : Int) < P.m := by omega
    have pz : ¬ ((P.m : Nat) : Int) = 0 := by omega
    have pz2 : ¬ P.m = 0 := by omega
    by_cases he : t = v
    · subst he
      have hov := HF3.out
      rw [hov] at ho
      generalize hq : P.pl i t = q at hc2 hpl ho pq
      have HQ := Lib.hid hq
      clear hq hnx hpos hp2
      go_wp2_with fail
      go_ret
      exact ⟨by rw [HQ.out]; rfl, HC.out, HO.out, HK.out⟩
    · have hov := HF4.out t ht1 (by omega)
      have hon : ((st.own (P.pl i t)) != -1) = true := by rw [bne_iff_ne]; exact hov
      have ht := tmodM (P.pl i t) (P.S i) P.m
      have hw1 := wrapS (P.pl i t + P.S i) (by omega)
      have hw2 := wrapS (P.pl i (t + 1)) (by have := Par.pl_lt h i (t + 1); omega)
      rw [hnx] at ht
      have hcs : ((P.pl i t + P.S i : Nat) : Int) = (P.pl i t : Int) + (P.S i : Int) := by omega
      rw [hcs] at ht hw1
      have HC2 := Lib.hid (HC.out.drew.setP hi (t + 1))
      rw [setN_twice] at HC2
      have HO2 := Lib.hid (HO.out.drew.far hne (i * 4 + 2) (.int .i64 (P.pl i (t + 1) : Nat)))
      have HK2 := Lib.hid ((HK.out.trans (Keep.drew wr)).trans (Keep.setCell (G := fun k => k = cb) wr.drew (p := ⟨cb, i * 4 + 2, none⟩) rfl (.int .i64 (P.pl i (t + 1) : Nat))))
      have hpos2 := placeOf_is HC2.out hi
      rw [setN_same] at hpos2
      have hp3 := HPOS.out (t + 1) (by omega)
      have HM1 : Hid (P.pos i (placeOf wr cb i) = t) := by show _ = _; rw [hpos]; exact hp2
      have HM2 : Hid (P.pos i (placeOf (wr.drew.setCell ⟨cb, i * 4 + 2, none⟩ (.int .i64 (P.pl i (t + 1) : Nat))) cb i) = t + 1) := by show _ = _; rw [hpos2]; exact hp3
      have hd2 := HC.out.drew.c2 i hi
      rw [setN_same] at hd2
      have hdf := HC.out.drew.fz (i * 4 + 2) (by omega)
      clear hov hnx hcs hp2 hp3 hpos hpos2
      generalize P.pl i t = q at *
      generalize P.pl i (t + 1) = q2 at *
      generalize P.S i = s at *
      generalize st.own q = oq at *
      go_wp2_with fail
      refine region_tail 13 (by kernel_rfl) (by kernel_rfl) ?_
      simp only [List.take_succ_cons, List.take_zero, List.drop_succ_cons, List.drop_zero]
      iterate 13 still_step
      refine still_tail_nil ?_
      generalize wr.drew = W at *
      go_wp2_with fail
      go_roundw
      case rel => exact ⟨t + 1, by omega, by omega, HC2, HO2, HK2⟩
      case measure =>
        rw [HM1.out, HM2.out]
        omega
end Go.Proofs.YtklfpnnnoaaiaabGreatDoor

/- Rows of integers of the call's own; stewardlaw14.Numbers. -/
namespace Go.Proofs.YtklfpnnnoaaiaabGreatDoor
open Go.RowKit

theorem infoInt : (Tryz.prog.info? 3).map (fun i => (i.zero, i.size, i.bytes)) = some (some (.int .i64 0), 1, 8) := by kernel_rfl
def cellsN (xs : List Nat) : List Value := xs.map fun (x : Nat) => Value.int .i64 (x : Int)
theorem cellsN_len (xs : List Nat) : (cellsN xs).length = xs.length := by simp [cellsN]
theorem cellsN_at (xs : List Nat) (i : Nat) (h : i < xs.length) : (cellsN xs)[i]? = some (.int .i64 ((xs[i] : Nat) : Int)) := by
  unfold cellsN; rw [List.getElem?_map, List.getElem?_eq_getElem h]; rfl
theorem cellsN_snoc (xs : List Nat) (x : Nat) : cellsN xs ++ [.int .i64 (x : Int)] = cellsN (xs ++ [x]) := by simp [cellsN]
theorem cellsN_set (xs : List Nat) (i x : Nat) : (cellsN xs).set i (.int .i64 (x : Int)) = cellsN (xs.set i x) := by simp [cellsN, List.map_set]
theorem own_sliceI {w : World} {base : Nat} {e : TypeId} {v : Value} {n : Nat} {xs : List Value} {k : Nat} (h : w.ownsRow base e k v n xs) : ∃ a c, v = .slice a n c ∧ (a = none → c = 0) := by
  obtain ⟨_, ⟨h1, h2⟩ | ⟨g, cap, cur, h1, _⟩⟩ := h
  · exact ⟨none, 0, by rw [h1, h2], fun _ => rfl⟩
  · exact ⟨_, _, h1, fun h => by cases h⟩
theorem own_someI {w : World} {base : Nat} {e : TypeId} {a : Option Addr} {k m c : Nat} {xs : List Value} (h : w.ownsRow base e k (.slice a m c) m xs) (hm : 0 < m) : ∃ g, a = some ⟨g, 0, none⟩ := by
  rcases h.2 with ⟨h1, h2⟩ | ⟨g, cap, cur, h1, _⟩
  · omega
  · injection h1 with h1; exact ⟨g, h1⟩
theorem one_int (z : Int) : ∀ u ∈ [Value.int .i64 z], u.oneCell' = true := by intro u hu; simp at hu; subst hu; rfl
theorem src_one (w : World) (v : Value) (T : TypeId) : ∀ (j : Nat) u, [v][j]? = some u → (w.alloc (.cells #[v] T)).cell? ((⟨w.heap.size, 0, none⟩ : Addr).add j) = some u := by
  intro j u hu
  match j, hu with
  | 0, hu => obtain rfl : v = u := Option.some.inj hu; rw [Addr.add_mid]; simp
  | j + 1, hu => simp at hu
theorem below_drewNI {B : Nat} {a w : World} (h : Below B a w) (n : Nat) : Below B a (w.drewN n) := ⟨h.os, h.tape, h.output, h.size, h.block⟩
/-- A slice of numbers that can be read. -/
def IsNums (w : World) (a : Option Addr) (xs : List Nat) : Prop :=
  xs = [] ∨ ∃ bk, a = some ⟨bk, 0, none⟩ ∧ bk < w.heap.size ∧ ∀ (j : Nat) x, xs[j]? = some x → w.cell? ⟨bk, j, none⟩ = some (.int .i64 ((x : Nat) : Int))
theorem IsNums.below {w w' : World} {a : Option Addr} {xs : List Nat} (h : IsNums w a xs) (hb : Below w.heap.size w w') : IsNums w' a xs := by
  rcases h with h | ⟨bk, ha, hbk, hc⟩
  · exact .inl h
  · exact .inr ⟨bk, ha, Nat.lt_of_lt_of_le hbk hb.size, fun j x hx => by rw [(bcell hb).1 _ _ hbk]; exact hc j x hx⟩
theorem nums_own {w : World} {B : Nat} {T : TypeId} {a : Option Addr} {k c : Nat} {ys : List Nat} (h : w.ownsRow B T 1 (.slice a k c) k (cellsN ys)) : IsNums w a ys := by
  obtain ⟨hl, h | ⟨g, cap, cur, he, hB, hg, hn, _, hs, ht⟩⟩ := h
  · left
    rw [cellsN_len] at hl
    exact List.eq_nil_of_length_eq_zero (by omega)
  · right
    obtain ⟨rfl, _, rfl⟩ : a = some ⟨g, 0, none⟩ ∧ k = k ∧ c = cap := by simpa using he
    have hlt : g < w.heap.size := by
      rcases Nat.lt_or_ge g w.heap.size with h | h
      · exact h
      · rw [Array.getElem?_eq_none h] at hg; cases hg
    refine ⟨g, rfl, hlt, fun j x hx => ?_⟩
    have h1 : (cellsN ys)[j]? = some (.int .i64 ((x : Nat) : Int)) := by unfold cellsN; rw [List.getElem?_map, hx]; rfl
    have h2 := World.ownsRow.cells (w := w) (base := B) (e := T) (size := 1) (v := .slice (some ⟨g, 0, none⟩) k c) (n := k) (xs := cellsN ys) ⟨hl, .inr ⟨g, c, cur, rfl, hB, hg, hn, by assumption, hs, ht⟩⟩ rfl j _ h1
    rw [Addr.add_mid, Nat.zero_add] at h2
    exact h2
end Go.Proofs.YtklfpnnnoaaiaabGreatDoor

/- math/bits.Mul; slices.Repeat of one number (written by genmgp.py). -/
namespace Go.Proofs.YtklfpnnnoaaiaabGreatDoor
open Go.RowKit

theorem mul56 (m : Nat) (hm : m ≤ 1048576) (w : World) : Calls Tryz.prog 65 #[.int .u64 1, .int .u64 (m : Int)] w fun e w' => e = .returned (.tuple #[.int .u64 0, .int .u64 (m : Int)]) ∧ w' = w := by
  have hM := Tryz.bits_Mul64 1 m (by decide) (by omega) w
  rw [Nat.one_mul, Nat.div_eq_of_lt (by omega), Nat.mod_eq_of_lt (by omega)] at hM
  have HM := Lib.hid hM
  clear hM
  go_enter Tryz.func65, Tryz.ntmps65
  go_wp2_with (go_at_call 21; refine HM.out.mono ?_; rintro e w' ⟨rfl, hw'⟩; subst hw')
  go_ret2
  exact ⟨rfl, rfl⟩
/-- A row that holds -1 up to a place. -/
def fillM (m k : Nat) : List Value := List.replicate k (.int .i64 (-1)) ++ List.replicate (m - k) (.int .i64 0)
theorem fillM_len {m k : Nat} (h : k ≤ m) : (fillM m k).length = m := by simp [fillM]; omega
theorem fillM_zero (m : Nat) : fillM m 0 = List.replicate m (.int .i64 0) := by simp [fillM]
theorem fillM_at {m k j : Nat} (h : j < k) : (fillM m k)[j]? = some (.int .i64 (-1)) := by
  unfold fillM; rw [List.getElem?_append_left (by simpa using h)]; simp [h]
theorem fillM_step {m k c : Nat} (h : k + c ≤ m) : (fillM m k).take k ++ (List.replicate c (Value.int .i64 (-1)) ++ (fillM m k).drop (k + c)) = fillM m (k + c) := by
  unfold fillM
  rw [List.take_append_of_le_length (by simp), List.take_of_length_le (by simp), List.drop_append, List.drop_of_length_le (by simp)]
  simp only [List.length_replicate, List.nil_append, List.drop_replicate]
  rw [← List.append_assoc, List.replicate_append_replicate]
  congr 2
  omega
/-- What holds while a part is copied. -/
structure RepS (W Wc : World) (L : Nat → Bool) (w : World) : Prop where
  no : L 7 = false → w = W
  yes : L 7 = true → w = Wc
theorem RepS.keep {W Wc : World} {L : Nat → Bool} {w : World} (h : RepS W Wc L w) (i : Nat) (hi : i ≠ 7) : RepS W Wc (setL L i) w :=
  ⟨fun e => h.no (by simpa [setL, Ne.symm hi] using e), fun e => h.yes (by simpa [setL, Ne.symm hi] using e)⟩
set_option maxRecDepth 100000 in
set_option maxHeartbeats 4000000 in
theorem rep39 (m : Nat) (hm1 : 1 ≤ m) (hm : m ≤ 1048576) (b1 : Nat) (w : World) (hb1 : b1 < w.heap.size) (hc : w.cell? ⟨b1, 0, none⟩ = some (.int .i64 (-1))) :
    Calls Tryz.prog 44 #[.slice (some ⟨b1, 0, none⟩) 1 1, .int .i64 (m : Int)] w fun e w' => ∃ ob, e = .returned (.slice (some ⟨ob, 0, none⟩) m m) ∧ OwnersAt w' ob m (fun _ => -1) ∧ w.heap.size ≤ ob ∧ ob < w'.heap.size ∧ Below w.heap.size w w' := by
  obtain ⟨i0, hi, hz0, hz1, hz2⟩ := info_parts infoInt
  have hrm := run_make (P := Tryz.prog) w 30 3 i0 (.int .i64 0) Tryz.underlying30 hi hz0 .i64 .i64 m m (by omega) (by omega) (by rw [hz2]; omega) (by omega)
  rw [hz1, Int.toNat_natCast, Nat.mul_one] at hrm
  have HMU := Lib.hid (mul56 m hm w)
  have hsi : (Tryz.prog.info? 3).map (·.size) = some 1 := by rw [hi]; simp [hz1]
  have hcl : madeCells (Value.int .i64 0).cells m = (fillM m 0).toArray := by
    apply Array.toList_inj.1
    rw [fillM_zero]
    exact toList_madeCells_one (Value.int .i64 0) m
  rw [hcl] at hrm
  clear hz2
  obtain ⟨W0, hW0⟩ : ∃ W0, W0 = w.alloc (.cells (fillM m 0).toArray 3) := ⟨_, rfl⟩
  obtain ⟨ob, hob⟩ : ∃ ob, ob = w.heap.size := ⟨_, rfl⟩
  have hR0 : Row W0 ob 3 (fillM m 0).toArray := by rw [hW0, hob]; exact Row.new w _ _
  have hB0 : Below w.heap.size w W0 := by rw [hW0]; exact below_alloc w _
  have hcq := run_copy_row (P := Tryz.prog) W0 30 30 3 3 ob 0 m m ⟨b1, 0, none⟩ 1 1 (fillM m 0).toArray 3 [.int .i64 (-1)] Tryz.underlying30 hsi hR0 (Nat.min_eq_left (show 1 ≤ m by omega)).symm (fun j v hj => by
    match j, hj with
    | 0, hj => obtain rfl : Value.int .i64 (-1) = v := by simpa using hj
               rw [Addr.add_mid, (bcell hB0).1 _ _ hb1]; exact hc
    | j + 1, hj => simp at hj) (by rw [List.size_toArray, fillM_len (Nat.zero_le m)]; simp; omega) (by intro v hv; simp at hv; subst hv; rfl)
  have hst := fillM_step (m := m) (k := 0) (c := 1) (by omega)
  simp only [List.take_zero, List.nil_append, List.replicate_one, Nat.zero_add] at hst
  have hcp : (Builtin.copy_ #[30, 30] 3 #[.slice (some ⟨ob, 0, none⟩) m m, .slice (some ⟨b1, 0, none⟩) 1 1]).run Tryz.prog W0 = .ok (.int .i64 1) (W0.setRow ob (fillM m 1).toArray) := by
    rw [hcq]
    simp only [List.take_zero, List.nil_append, List.length_singleton, Nat.zero_add]
    rw [hst]; rfl
  clear hcq
  rw [← hW0, ← hob] at hrm
  have HR1 : Hid (Row (W0.setRow ob (fillM m 1).toArray) ob 3 (fillM m 1).toArray) := setRow_heap W0 ob _ _ _ _ hR0
  have HB1 : Hid (Below w.heap.size w (W0.setRow ob (fillM m 1).toArray)) := below_setRow hB0 (by rw [hob]; exact Nat.le_refl _) _
  have HOB : Hid (w.heap.size ≤ ob) := by rw [hob]; exact Nat.le_refl w.heap.size
  clear hR0 hB0 hst hob hW0 hc
  generalize W0.setRow ob (fillM m 1).toArray = W1 at *
  go_enter Tryz.func44, Tryz.ntmps44
  go_wp2_with (go_at_call 65; refine HMU.out.mono ?_; rintro e w' ⟨rfl, hw'⟩; subst w')
  clear hrm hcp hi hz0 hz1
  go_loopw [8] (fun i wr => ∃ k : Nat, 1 ≤ k ∧ k ≤ m ∧ i = .int .i64 (k : Int) ∧ Hid (Row wr ob 3 (fillM m k).toArray) ∧ Hid (Below w.heap.size w wr)) (fun i _ => m - (intOf i).toNat)
  case atStart => exact ⟨1, Nat.le_refl _, hm1, rfl, HR1, HB1⟩
  case round =>
    clear HR1 HB1
    obtain ⟨k, hk1, hkm, rfl, HR, HB⟩ := hrel
    by_cases hlt : k < m
    · obtain ⟨c, hcm, hc1, hc2, hc3⟩ : ∃ c, c = Nat.min k (m - k) ∧ c ≤ k ∧ k + c ≤ m ∧ 1 ≤ c := by
        rcases Nat.le_total k (m - k) with h | h
        · exact ⟨k, (Nat.min_eq_left h).symm, by omega, by omega, by omega⟩
        · exact ⟨m - k, (Nat.min_eq_right h).symm, by omega, by omega, by omega⟩
      have hRd : Row wr.drew ob 3 (fillM m k).toArray := HR.out.drew
      have hcq := run_copy_row (P := Tryz.prog) wr.drew 30 30 3 3 ob k (m - k) (m - k) ⟨ob, 0, none⟩ k m (fillM m k).toArray 3 (List.replicate c (.int .i64 (-1))) Tryz.underlying30 hsi hRd (by rw [List.length_replicate]; exact hcm) (fun j v hj => by
        have hjc : j < c := by
          rcases Nat.lt_or_ge j c with h | h
          · exact h
          · rw [List.getElem?_eq_none (by simpa using h)] at hj; cases hj
        rw [List.getElem?_replicate, if_pos hjc] at hj
        rw [Addr.add_mid, hRd.cell (0 + j), ← Option.some.inj hj]
        simpa using fillM_at (m := m) (k := k) (j := j) (by omega)) (by rw [List.size_toArray, fillM_len hkm, List.length_replicate]; omega) (by intro v hv; rw [List.eq_of_mem_replicate hv]; rfl)
      have hst := fillM_step hc2
      have hcp : (Builtin.copy_ #[30, 30] 3 #[.slice (some ⟨ob, k, none⟩) (m - k) (m - k), .slice (some ⟨ob, 0, none⟩) k m]).run Tryz.prog wr.drew = .ok (.int .i64 (c : Int)) (wr.drew.setRow ob (fillM m (k + c)).toArray) := by
        rw [hcq]
        simp only [List.length_replicate, List.append_assoc]
        rw [hst]; rfl
      clear hcq
      have HR2 : Hid (Row (wr.drew.setRow ob (fillM m (k + c)).toArray) ob 3 (fillM m (k + c)).toArray) := setRow_heap wr.drew ob _ _ _ _ hRd
      have HB2 : Hid (Below w.heap.size w (wr.drew.setRow ob (fillM m (k + c)).toArray)) := below_setRow HB.out.drew HOB.out _
      have k1 : (k : Int) < m := by omega
      have k2 : (k : Int) ≤ m := by omega
      have hw := wrapS (k + c) (by omega)
      have hw2 : ((k + c : Nat) : Int) = (k : Int) + (c : Int) := by omega
      rw [hw2] at hw
      clear hRd hst HR HB hcm
      have hmk : ¬ (m = k) := by omega
      go_upto_region 9 with fail
      refine region_mixt 9 [some (.int .i64 (k : Int)), some (.slice (some ⟨ob, 0, none⟩) m m), some (.int .i64 (k : Int)), some (.slice (some ⟨ob, k, none⟩) (m - k) (m - k)), some (.slice (some ⟨ob, 0, none⟩) m m), some (.int .i64 (k : Int)), some (.slice (some ⟨ob, 0, none⟩) k m), some (.int .i64 (c : Int)), some (.int .i64 ((k : Int) + (c : Int)))]
        [[false, false, false, false, false, false, false, false, false], [false, false, false, false, false, false, false, false, false], [false, false, false, false, false, false, false, false, false], [false, true, true, false, false, false, false, false, false], [false, false, false, false, false, false, false, false, false], [false, false, false, false, false, false, false, false, false], [false, false, false, false, true, true, false, false, false], [false, false, false, true, false, false, true, false, false], [true, false, false, false, false, false, false, true, false]]
        (fun LL _ w9 => RepS wr.drew (wr.drew.setRow ob (fillM m (k + c)).toArray) LL w9)
        (by kernel_rfl) (by kernel_rfl) (by kernel_rfl) (by kernel_rfl) (by kernel_rfl) (by decide) ?_ ?_ ?_
      · intro x
        exact ⟨fun _ => rfl, fun h => by cases h⟩
      · simp only [List.take_succ_cons, List.take_zero]
        refine ⟨?_, ?_, ?_, ?_, ?_, ?_, ?_, ?_, ?_, trivial⟩
        all_goals
          intro L x w9 hS hl hp K9 hK9
          have hs : RepS wr.drew (wr.drew.setRow ob (fillM m (k + c)).toArray) L w9 := hS
          clear hS
          replace hK9 := hK9.out
          simp only [actMix, pickV, List.tail_cons, List.headD_cons, Act.put, List.setIfInBounds_toArray, List.set_cons_zero, List.set_cons_succ] at hK9 ⊢
        · clear hp
          go_simp
          with_reducible refine hK9 _ ?_
          exact hs.keep 0 (by decide)
        · clear hp
          go_simp
          with_reducible refine hK9 _ ?_
          exact hs.keep 1 (by decide)
        · clear hp
          go_simp
          with_reducible refine hK9 _ ?_
          exact hs.keep 2 (by decide)
        · clear hp
          go_simp
          with_reducible refine hK9 _ ?_
          exact hs.keep 3 (by decide)
        · clear hp
          go_simp
          with_reducible refine hK9 _ ?_
          exact hs.keep 4 (by decide)
        · clear hp
          go_simp
          with_reducible refine hK9 _ ?_
          exact hs.keep 5 (by decide)
        · clear hp
          go_simp
          with_reducible refine hK9 _ ?_
          exact hs.keep 6 (by decide)
        · obtain rfl := hs.no hl
          clear hp
          go_simp
          with_reducible refine hK9 _ ?_
          exact ⟨fun e => by simp [setL] at e, fun _ => rfl⟩
        · clear hp
          go_simp
          with_reducible refine hK9 _ ?_
          exact hs.keep 8 (by decide)
      intro L x w9 hS hL
      have hs : RepS wr.drew (wr.drew.setRow ob (fillM m (k + c)).toArray) L w9 := hS
      obtain rfl := hs.yes (hL 7 (by decide))
      clear hS hs hL
      simp only [actMix, pickV, List.tail_cons, List.headD_cons, Act.put, List.setIfInBounds_toArray, List.set_cons_zero, List.set_cons_succ, List.replicate_succ, List.replicate_zero, List.drop_succ_cons, List.drop_zero, List.take_succ_cons, List.take_zero]
      clear hcp
      generalize wr.drew.setRow ob (fillM m (k + c)).toArray = W9 at *
      go_wp2_with fail
      go_roundw
      case rel => exact ⟨k + c, by omega, hc2, by rw [hw2], HR2, HB2⟩
      case measure => simp [intOf]; omega
    · obtain rfl : k = m := by omega
      have hne : ¬ (k : Int) < k := by omega
      have HO : Hid (OwnersAt wr ob k (fun _ => -1)) := fun q hq => ⟨by rw [HR.out.cell q]; simpa using fillM_at (m := k) hq, HR.out.free q⟩
      have hlt := HR.out.lt
      clear HR
      go_wp2_with fail
      go_ret
      exact ⟨ob, rfl, HO.out, HOB.out, hlt, HB.out⟩
end Go.Proofs.YtklfpnnnoaaiaabGreatDoor

/- maglev.assign (written by genmgn.py). -/
namespace Go.Proofs.YtklfpnnnoaaiaabGreatDoor
open Go.RowKit

/-- The greatest of the first numbers. -/
def gm (W : Nat → Nat) : Nat → Nat
  | 0 => 0
  | j + 1 => max (gm W j) (W j)
theorem gm_ge {W : Nat → Nat} : ∀ {n i : Nat}, i < n → W i ≤ gm W n
  | n + 1, i, h => by
    unfold gm
    rcases Nat.lt_or_ge i n with h2 | h2
    · exact Nat.le_trans (gm_ge h2) (Nat.le_max_left _ _)
    · obtain rfl : i = n := by omega
      exact Nat.le_max_right _ _
theorem gm_le {W : Nat → Nat} {B : Nat} : ∀ {n : Nat}, (∀ i, i < n → W i ≤ B) → gm W n ≤ B
  | 0, _ => Nat.zero_le _
  | n + 1, h => by unfold gm; exact Nat.max_le.2 ⟨gm_le fun i hi => h i (by omega), h n (by omega)⟩
theorem gm_mem {W : Nat → Nat} : ∀ {n : Nat}, 0 < n → ∃ i, i < n ∧ W i = gm W n
  | 1, _ => ⟨0, by omega, by unfold gm gm; exact (Nat.max_eq_right (Nat.zero_le _)).symm⟩
  | n + 2, _ => by
    unfold gm
    rcases Nat.le_total (gm W (n + 1)) (W (n + 1)) with h | h
    · exact ⟨n + 1, by omega, (Nat.max_eq_right h).symm⟩
    · obtain ⟨i, h1, h2⟩ := gm_mem (W := W) (n := n + 1) (by omega)
      exact ⟨i, by omega, by rw [h2]; exact (Nat.max_eq_left h).symm⟩
namespace Par
variable {P : Par}
theorem cnt_up (P : Par) (T : Nat) : (P.run T).cnt ≤ (P.run (T + 1)).cnt := by
  show _ ≤ (P.stp (T % P.n) (P.run T)).cnt
  unfold stp
  split
  · exact Nat.le_refl _
  · split
    · exact Nat.le_refl _
    · exact Nat.le_succ _
theorem cnt_mono (P : Par) (T : Nat) : ∀ d, (P.run T).cnt ≤ (P.run (T + d)).cnt
  | 0 => Nat.le_refl _
  | d + 1 => Nat.le_trans (cnt_mono P T d) (cnt_up P (T + d))
theorem round_mod (P : Par) (r : Nat) {i : Nat} (hi : i < P.n) : (r * P.n + i) % P.n = i := by
  rw [Nat.mul_comm, Nat.mul_add_mod, Nat.mod_eq_of_lt hi]
theorem run_next (P : Par) (r : Nat) {i : Nat} (hi : i < P.n) : P.run (r * P.n + i + 1) = P.stp i (P.run (r * P.n + i)) := by
  show P.stp ((r * P.n + i) % P.n) _ = _
  rw [round_mod P r hi]
theorem run_more (h : P.Ok) (r : Nat) (hc : (P.run (r * P.n + P.n)).cnt < P.m) : (P.run (r * P.n)).cnt < (P.run (r * P.n + P.n)).cnt := by
  obtain ⟨i, hi, hg⟩ := h.g
  have h1 := cnt_mono P (r * P.n) i
  have h2 := cnt_mono P (r * P.n + i + 1) (P.n - i - 1)
  rw [show r * P.n + i + 1 + (P.n - i - 1) = r * P.n + P.n by omega] at h2
  have h3 := run_next P r hi
  have hI := run_inv h (r * P.n + i)
  have h4 := hI.ow i hi
  have h5 := cnt_up P (r * P.n + i)
  have h6 : (P.run (r * P.n + i + 1)).cnt = (P.run (r * P.n + i)).cnt + 1 := by
    rw [h3]
    unfold stp
    rw [if_neg (by omega), if_neg (by omega)]
    rfl
  omega
end Par
theorem ClaimsAt.keep {w w' : World} {cb : Nat} {P : Par} {nx : Nat → Nat} {ow : Nat → Int} (h : ClaimsAt w cb P nx ow) (hlt : cb < w.heap.size) (hb : Below w.heap.size w w') : ClaimsAt w' cb P nx ow := by
  obtain ⟨b1, b2⟩ := bcell hb
  exact ⟨fun i hi => by rw [b1 _ _ hlt]; exact h.c0 i hi, fun i hi => by rw [b1 _ _ hlt]; exact h.c1 i hi, fun i hi => by rw [b1 _ _ hlt]; exact h.c2 i hi, fun i hi => by rw [b1 _ _ hlt]; exact h.c3 i hi, fun j hj => by rw [b2 _ _ hlt]; exact h.fz j hj⟩
theorem OwnersAt.keep {w w' : World} {ob m : Nat} {own : Nat → Int} (h : OwnersAt w ob m own) (hlt : ob < w.heap.size) (hb : Below w.heap.size w w') : OwnersAt w' ob m own := by
  obtain ⟨b1, b2⟩ := bcell hb
  exact fun q hq => by rw [b1 _ _ hlt, b2 _ _ hlt]; exact h q hq
theorem wrapI (z : Int) (h1 : -9223372036854775808 ≤ z) (h2 : z < 9223372036854775808) : IntKind.i64.wrap z = z := by
  simp [IntKind.wrap, IntKind.signed, IntKind.bits]; omega
theorem nxt_ow (P : Par) (k : Nat) (a : Nat → Int) (b : Nat → Nat) (c d : Nat → Int) (n n' : Nat) (st : St) (h : st = ⟨a, b, d, n'⟩) : P.nxt k ⟨a, b, c, n⟩ = P.nxt k st := by rw [h]; rfl
theorem keep_ob {w a b : World} {cb ob q : Nat} {v : Value} (h1 : Keep (fun k => k = cb) w a) (h2 : Keep (fun k => k = cb) a b) (ho : w.heap.size ≤ ob) : Keep (fun k => k = cb) w (b.setCell ⟨ob, q, none⟩ v) :=
  (((h1.more (G' := fun k => k = cb ∨ k = ob) (fun _ _ h => .inl h)).trans (h2.more (fun _ _ h => .inl h))).trans (Keep.setCell (G := fun k => k = cb ∨ k = ob) b (p := ⟨ob, q, none⟩) (.inr rfl) v)).more (fun k hk h => h.elim id (fun e => by omega))
theorem sz_ob {a b : World} {cb ob o q : Nat} {v : Value} (h : cb < a.heap.size ∧ ob < a.heap.size) (h2 : Keep (fun k => k = cb) a b) : cb < (b.setCell ⟨o, q, none⟩ v).heap.size ∧ ob < (b.setCell ⟨o, q, none⟩ v).heap.size := by
  have hz := (Keep.setCell (G := fun k => k = o) b (p := ⟨o, q, none⟩) rfl v).size
  have hy := h2.size
  omega
theorem setI_same (f : Nat → Int) (i : Nat) (v : Int) : setI f i v i = v := if_pos rfl
theorem setI_twice (f : Nat → Int) (i : Nat) (v u : Int) : setI (setI f i v) i u = setI f i u := by
  funext k; unfold setI; split <;> rfl
set_option maxRecDepth 100000 in
set_option maxHeartbeats 4000000 in
theorem assign27 (P : Par) (h : P.Ok) (hm : P.m ≤ 1048576) (hS : ∀ i, i < P.n → P.S i < P.m) (hG : P.G = gm P.W P.n) (hG2 : P.G ≤ 65535) (hn : P.n ≤ 100000) (c cb : Nat) (w : World) (hcb : cb < w.heap.size) (hC : ClaimsAt w cb P (fun _ => 0) (fun _ => 0)) :
    Calls Tryz.prog 28 #[.slice (some ⟨cb, 0, none⟩) P.n c, .int .i64 (P.m : Nat)] w fun e w' => ∃ ob T, e = .returned (.slice (some ⟨ob, 0, none⟩) P.m P.m) ∧ (P.run T).cnt = P.m ∧ OwnersAt w' ob P.m (P.run T).own ∧ w.heap.size ≤ ob ∧ ob < w'.heap.size ∧ Keep (fun k => k = cb) w w' := by
  have hm2 := h.m2
  have hn0 := h.n0
  have hb1 := below_alloc w (.cells #[.int .i64 (-1)] 3)
  have HREP := Lib.hid (rep39 P.m (by omega) hm w.heap.size (w.alloc (.cells #[.int .i64 (-1)] 3)) (Row.new w 3 #[.int .i64 (-1)]).lt ((Row.new w 3 #[.int .i64 (-1)]).cell 0))
  have HC1 := Lib.hid (hC.keep hcb hb1)
  have hs1 : w.heap.size ≤ (w.alloc (.cells #[.int .i64 (-1)] 3)).heap.size := hb1.size
  have HB1 := Lib.hid hb1
  clear hb1 hC
  go_enter Tryz.func28, Tryz.ntmps28
  go_wp2_with (go_at_call 44; refine HREP.out.mono ?_; rintro e w' ⟨ob, rfl, hO, ho1, ho2, hB⟩)
  have HC2 := Lib.hid (HC1.out.keep (Nat.lt_of_lt_of_le hcb hs1) hB)
  have HO2 := Lib.hid hO
  have HS2 : Hid (cb < w'.heap.size ∧ ob < w'.heap.size ∧ Keep (fun k => k = cb) w w') := ⟨Nat.lt_of_lt_of_le hcb (Nat.le_trans hs1 hB.size), ho2, (Keep.of_below HB1.out).trans (Keep.of_below hB)⟩
  have ho1 : w.heap.size ≤ ob := Nat.le_trans hs1 ho1
  have HOB := Lib.hid ho1
  have HNE : Hid (cb ≠ ob) := by show cb ≠ ob; omega
  clear HREP HC1 hs1 HB1 hO ho1 ho2 hB
  go_wp2_with fail
  go_loopw [6, 17] (fun g i wr => ∃ j : Nat, j ≤ P.n ∧ g = .int .i64 (gm P.W j : Nat) ∧ i = .int .i64 (j : Int) ∧ Hid (ClaimsAt wr cb P (fun _ => 0) (fun _ => 0)) ∧ Hid (OwnersAt wr ob P.m fun _ => -1) ∧ Hid (cb < wr.heap.size ∧ ob < wr.heap.size ∧ Keep (fun k => k = cb) w wr)) (fun _ i _ => P.n - (intOf i).toNat)
  case atStart => exact ⟨0, Nat.zero_le _, rfl, rfl, HC2, HO2, HS2⟩
  case round =>
    clear HC2 HO2 HS2
    obtain ⟨j, hj, rfl, rfl, HC, HO, HS⟩ := hrel
    by_cases hlt : j < P.n
    · have c0 := HC.out.c0 j hlt
      have c1 := HC.out.c1 j hlt
      have c2 := HC.out.c2 j hlt
      have c3 := HC.out.c3 j hlt
      have j1 : (j : Int) < P.n := by omega
      have HCA := Lib.hid (HC.out.keep HS.out.1 (below_alloc wr (.cells #[.int .i64 (P.W j : Nat), .int .i64 0, .int .i64 (P.pl j 0 : Nat), .int .i64 (P.S j : Nat)] 65)))
      have HOA := Lib.hid (HO.out.keep HS.out.2.1 (below_alloc wr (.cells #[.int .i64 (P.W j : Nat), .int .i64 0, .int .i64 (P.pl j 0 : Nat), .int .i64 (P.S j : Nat)] 65)))
      have HSA : Hid (cb < (wr.alloc (.cells #[.int .i64 (P.W j : Nat), .int .i64 0, .int .i64 (P.pl j 0 : Nat), .int .i64 (P.S j : Nat)] 65)).heap.size ∧ ob < (wr.alloc (.cells #[.int .i64 (P.W j : Nat), .int .i64 0, .int .i64 (P.pl j 0 : Nat), .int .i64 (P.S j : Nat)] 65)).heap.size ∧ Keep (fun k => k = cb) w (wr.alloc (.cells #[.int .i64 (P.W j : Nat), .int .i64 0, .int .i64 (P.pl j 0 : Nat), .int .i64 (P.S j : Nat)] 65))) := by
        obtain ⟨s1, s2, s3⟩ := HS.out
        have hb := below_alloc wr (.cells #[.int .i64 (P.W j : Nat), .int .i64 0, .int .i64 (P.pl j 0 : Nat), .int .i64 (P.S j : Nat)] 65)
        exact ⟨Nat.lt_of_lt_of_le s1 hb.size, Nat.lt_of_lt_of_le s2 hb.size, s3.trans (Keep.of_below hb)⟩
      go_wp2_with fail
      go_roundw
      case rel => exact ⟨j + 1, hlt, by show _ = Value.int .i64 ((max (gm P.W j) (P.W j) : Nat) : Int); congr 1; omega, by go_num, HCA, HOA, HSA⟩
      case measure => simp [intOf]; omega
    · obtain rfl : j = P.n := by omega
      have hne : ¬ (P.n : Int) < P.n := by omega
      rw [← hG]
      clear hG
      have hn1 : (0 : Int) < P.n := by omega
      have hm1 : (0 : Int) < P.m := by omega
      go_wp2_with fail
      go_loopw [9] (fun q w2 => ∃ r : Nat, (P.run (r * P.n)).cnt < P.m ∧ q = .int .i64 ((P.run (r * P.n)).cnt : Nat) ∧ Hid (ClaimsAt w2 cb P (P.run (r * P.n)).nx (P.run (r * P.n)).ow) ∧ Hid (OwnersAt w2 ob P.m (P.run (r * P.n)).own) ∧ Hid (cb < w2.heap.size ∧ ob < w2.heap.size ∧ Keep (fun k => k = cb) w w2)) (fun q _ => P.m - (intOf q).toNat)
      case atStart => exact ⟨0, by rw [Nat.zero_mul]; show 0 < P.m; omega, by rw [Nat.zero_mul]; rfl, by rw [Nat.zero_mul]; exact HC, by rw [Nat.zero_mul]; exact HO, HS⟩
      case round =>
        clear HC HO HS
        obtain ⟨r, hcr, rfl, HC, HO, HS⟩ := hrel
        have HMORE := Lib.hid (Par.run_more h r)
        obtain ⟨n0, hn0e⟩ : ∃ n0, n0 = (P.run (r * P.n)).cnt := ⟨_, rfl⟩
        have HN0 := Lib.hid hn0e
        go_wp2_with fail
        go_loopw [9, 31] (fun q i w3 => ∃ (k : Nat) (st : St), k ≤ P.n ∧ Hid (st = P.run (r * P.n + k)) ∧ st.cnt < P.m ∧ q = .int .i64 (st.cnt : Nat) ∧ i = .int .i64 (k : Int) ∧ Hid (ClaimsAt w3 cb P st.nx st.ow) ∧ Hid (OwnersAt w3 ob P.m st.own) ∧ Hid (cb < w3.heap.size ∧ ob < w3.heap.size ∧ Keep (fun k => k = cb) w w3)) (fun _ i _ => P.n - (intOf i).toNat)
        case atStart => exact ⟨0, P.run (r * P.n), Nat.zero_le _, rfl, hcr, rfl, rfl, HC, HO, HS⟩
        case round =>
          clear HC HO HS
          obtain ⟨k, st, hk, HST, hcs, rfl, rfl, HC, HO, HS⟩ := hrel
          by_cases hlt : k < P.n
          · have hI : P.Inv st := by rw [HST.out]; exact Par.run_inv h _
            have hnext := Par.run_next P r hlt
            rw [← HST.out] at hnext
            have HNX := Lib.hid hnext
            have how := hI.ow k hlt
            have hwk := h.w1 k hlt
            have HI := Lib.hid hI
            have c1 := HC.out.drew.c1 k hlt
            have c0 := HC.out.drew.c0 k hlt
            have cf := HC.out.drew.fz (k * 4 + 1) (by omega)
            have hw1 := wrapI (st.ow k + P.W k) (by omega) (by omega)
            have HC1 := Lib.hid (HC.out.drew.setO hlt (st.ow k + P.W k))
            have HO1 := Lib.hid (HO.out.drew.far HNE.out (k * 4 + 1) (.int .i64 (st.ow k + P.W k)))
            have HK1 := Lib.hid ((HS.out.2.2.trans (Keep.drew wr)).trans (Keep.setCell (G := fun k => k = cb) wr.drew (p := ⟨cb, k * 4 + 1, none⟩) rfl (.int .i64 (st.ow k + P.W k))))
            have HZ1 : Hid (cb < (wr.drew.setCell ⟨cb, k * 4 + 1, none⟩ (.int .i64 (st.ow k + P.W k))).heap.size ∧ ob < (wr.drew.setCell ⟨cb, k * 4 + 1, none⟩ (.int .i64 (st.ow k + P.W k))).heap.size) := by
              have hz := (Keep.setCell (G := fun k => k = cb) wr.drew (p := ⟨cb, k * 4 + 1, none⟩) rfl (.int .i64 (st.ow k + P.W k))).size
              exact ⟨Nat.lt_of_lt_of_le HS.out.1 hz, Nat.lt_of_lt_of_le HS.out.2.1 hz⟩
            have k1 : (k : Int) < P.n := by omega
            clear HC HO HS hI hnext
            go_wp2_with fail
            refine region_tail 11 (by kernel_rfl) (by kernel_rfl) ?_
            simp only [List.take_succ_cons, List.take_zero, List.drop_succ_cons, List.drop_zero]
            iterate 11 still_step
            refine still_tail_nil ?_
            generalize wr.drew = W at *
            go_upto_region 15 with fail
            clear c1 cf c0
            generalize W.setCell ⟨cb, k * 4 + 1, none⟩ (.int .i64 (st.ow k + P.W k)) = W1 at *
            have d1 := HC1.out.c1 k hlt
            rw [setI_same] at d1
            by_cases hgt : st.ow k + P.W k < P.G
            · have HST2 : Hid (P.wait k st = P.run (r * P.n + (k + 1))) := by
                show _ = P.run (r * P.n + k + 1)
                rw [HNX.out]; unfold Par.stp; rw [if_neg (by omega), if_pos hgt]
              clear HNX
              go_wp2_with fail
              go_roundw
              case rel => exact ⟨k + 1, P.wait k st, hlt, HST2, hcs, rfl, by go_num, HC1, HO1, HZ1.out.1, HZ1.out.2, HK1.out⟩
              case measure => simp [intOf]; omega
            · have hnx : P.take k st = P.run (r * P.n + (k + 1)) := by
                show _ = P.run (r * P.n + k + 1)
                rw [HNX.out]; unfold Par.stp; rw [if_neg (by omega), if_neg hgt]
              have HST2 := Lib.hid hnx
              clear HNX hnx
              have ef := HC1.out.fz (k * 4 + 1) (by omega)
              have hw2 := wrapI (st.ow k + P.W k - P.G) (by omega) (by omega)
              have HC2 := Lib.hid (HC1.out.setO hlt (st.ow k + P.W k - P.G))
              rw [setI_twice] at HC2
              have HO2 := Lib.hid (HO1.out.far HNE.out (k * 4 + 1) (.int .i64 (st.ow k + P.W k - P.G)))
              have HK2 := Lib.hid (HK1.out.trans (Keep.setCell (G := fun k => k = cb) W1 (p := ⟨cb, k * 4 + 1, none⟩) rfl (.int .i64 (st.ow k + P.W k - P.G))))
              have HZ2 : Hid (cb < (W1.setCell ⟨cb, k * 4 + 1, none⟩ (.int .i64 (st.ow k + P.W k - P.G))).heap.size ∧ ob < (W1.setCell ⟨cb, k * 4 + 1, none⟩ (.int .i64 (st.ow k + P.W k - P.G))).heap.size) := by
                have hz := (Keep.setCell (G := fun k => k = cb) W1 (p := ⟨cb, k * 4 + 1, none⟩) rfl (.int .i64 (st.ow k + P.W k - P.G))).size
                exact ⟨Nat.lt_of_lt_of_le HZ1.out.1 hz, Nat.lt_of_lt_of_le HZ1.out.2 hz⟩
              clear HC1 HO1 HK1 HZ1
              go_upto_region 17 with fail
              clear d1 ef
              generalize W1.setCell ⟨cb, k * 4 + 1, none⟩ (.int .i64 (st.ow k + P.W k - P.G)) = W3 at *
              have hI2 : P.Inv ⟨st.own, st.nx, setI st.ow k (st.ow k + P.W k - P.G), st.cnt⟩ := by
                refine ⟨HI.out.cnt, HI.out.nx, fun j hj => ?_, HI.out.rng⟩
                show 0 ≤ setI st.ow k (st.ow k + P.W k - P.G) j ∧ setI st.ow k (st.ow k + P.W k - P.G) j < P.G
                unfold setI
                split
                · omega
                · exact HI.out.ow j hj
              have HF := Lib.hid (free40 P h hm hS cb ob HNE.out k hlt ⟨st.own, st.nx, setI st.ow k (st.ow k + P.W k - P.G), st.cnt⟩ hI2 hcs P.m W3 HC2.out HO2.out)
              rw [nxt_ow P k st.own st.nx _ st.ow _ st.cnt st rfl] at HF
              dsimp only at HF
              have hq := Par.pl_lt h k (P.nxt k st)
              clear hI2 HC2 HO2
              have HT1 : Hid ((P.take k st).cnt = st.cnt + 1 ∧ (P.take k st).nx = setN st.nx k (P.nxt k st) ∧ (P.take k st).ow = setI st.ow k (st.ow k + P.W k - P.G) ∧ (P.take k st).own = setI st.own (P.pl k (P.nxt k st)) k) := ⟨rfl, rfl, rfl, rfl⟩
              generalize P.take k st = st2 at *
              generalize P.nxt k st = v at *
              generalize hqe : P.pl k v = q at *
              clear hqe
              have q1 : (q : Int) < P.m := by omega
              have hw3 := wrapI ((st.cnt : Int) + 1) (by omega) (by omega)
              by_cases hce : st.cnt + 1 = P.m
              · have h3 : (((st.cnt : Int) + 1) == (P.m : Int)) = true := by rw [beq_iff_eq]; omega
                have HCE := Lib.hid hce
                clear hce
                go_wp2_with (go_at_call 45; refine HF.out.mono ?_; rintro e w9 ⟨rfl, hC9, hO9, hK9⟩; have qf := (hO9 q hq).2; have qc := (hO9 q hq).1; have HC9 := Lib.hid (hC9.far HNE.out q (.int .i64 (k : Int))); have HO9 := Lib.hid (hO9.set hq (k : Int)); have HK9 := Lib.hid (keep_ob (q := q) (v := .int .i64 (k : Int)) HK2.out hK9 HOB.out); have HZ9 := Lib.hid (sz_ob (o := ob) (q := q) (v := .int .i64 (k : Int)) HZ2.out hK9); clear hC9 hO9 hK9)
                go_ret
                refine ⟨ob, r * P.n + (k + 1), rfl, ?_, ?_, HOB.out, HZ9.out.2, HK9.out⟩
                · rw [← HST2.out, HT1.out.1]; exact HCE.out
                · rw [← HST2.out, HT1.out.2.2.2]; exact HO9.out
              · have h3 : (((st.cnt : Int) + 1) == (P.m : Int)) = false := by rw [beq_eq_false_iff_ne]; omega
                go_wp2_with (go_at_call 45; refine HF.out.mono ?_; rintro e w9 ⟨rfl, hC9, hO9, hK9⟩; have qf := (hO9 q hq).2; have qc := (hO9 q hq).1; have HC9 := Lib.hid (hC9.far HNE.out q (.int .i64 (k : Int))); have HO9 := Lib.hid (hO9.set hq (k : Int)); have HK9 := Lib.hid (keep_ob (q := q) (v := .int .i64 (k : Int)) HK2.out hK9 HOB.out); have HZ9 := Lib.hid (sz_ob (o := ob) (q := q) (v := .int .i64 (k : Int)) HZ2.out hK9); clear hC9 hO9 hK9)
                go_roundw
                case rel =>
                  refine ⟨k + 1, st2, hlt, HST2, by rw [HT1.out.1]; omega, by rw [HT1.out.1]; go_num, by go_num, ?_, ?_, HZ9.out.1, HZ9.out.2, HK9.out⟩
                  · rw [HT1.out.2.1, HT1.out.2.2.1]; exact HC9
                  · rw [HT1.out.2.2.2]; exact HO9
                case measure => simp [intOf]; omega
          · obtain rfl : k = P.n := by omega
            have hne : ¬ (P.n : Int) < P.n := by omega
            have hr : r * P.n + P.n = (r + 1) * P.n := by rw [Nat.add_mul, Nat.one_mul]
            have HS9 : Hid (st = P.run ((r + 1) * P.n)) := by show _ = _; rw [← hr]; exact HST.out
            have HM9 : Hid (n0 < st.cnt) := by
              show n0 < _
              rw [HN0.out, HST.out]
              exact HMORE.out (by rw [← HST.out]; exact hcs)
            clear hr
            go_wp2_with fail
            go_roundw
            case rel =>
              refine ⟨r + 1, by rw [← HS9.out]; exact hcs, by rw [← HS9.out], ?_, ?_, HS⟩
              · rw [← HS9.out]; exact HC
              · rw [← HS9.out]; exact HO
            case measure =>
              have m1 := HM9.out
              have m2 := HN0.out
              simp only [intOf, Int.toNat_natCast]
              omega
set_option maxRecDepth 100000 in
set_option maxHeartbeats 4000000 in
theorem assign27_none (m : Nat) (hm1 : 1 ≤ m) (hm : m ≤ 1048576) (w : World) :
    Calls Tryz.prog 28 #[.slice none 0 0, .int .i64 (m : Nat)] w fun e w' => ∃ ob, e = .returned (.slice (some ⟨ob, 0, none⟩) m m) ∧ OwnersAt w' ob m (fun _ => -1) ∧ w.heap.size ≤ ob ∧ ob < w'.heap.size ∧ Below w.heap.size w w' := by
  have hb1 := below_alloc w (.cells #[.int .i64 (-1)] 3)
  have HREP := Lib.hid (rep39 m hm1 hm w.heap.size (w.alloc (.cells #[.int .i64 (-1)] 3)) (Row.new w 3 #[.int .i64 (-1)]).lt ((Row.new w 3 #[.int .i64 (-1)]).cell 0))
  have HB1 := Lib.hid hb1
  have HS1 : Hid (w.heap.size ≤ (w.alloc (.cells #[.int .i64 (-1)] 3)).heap.size) := hb1.size
  clear hb1
  go_enter Tryz.func28, Tryz.ntmps28
  go_wp2_with (go_at_call 44; refine HREP.out.mono ?_; rintro e w' ⟨ob, rfl, hO, ho1, ho2, hB⟩)
  go_wp2_with fail
  go_loopw [6, 17] (fun g i wr => g = .int .i64 0 ∧ i = .int .i64 0 ∧ wr = w') (fun _ i _ => 0)
  case atStart => exact ⟨rfl, rfl, rfl⟩
  case round =>
    obtain ⟨rfl, rfl, rfl⟩ := hrel
    go_wp2_with fail
    go_loopw [9] (fun q w2 => q = .int .i64 0 ∧ w2 = wr) (fun _ _ => 0)
    case atStart => exact ⟨rfl, rfl⟩
    case round =>
      rename_i wq
      obtain ⟨rfl, rfl⟩ := hrel
      go_wp2_with fail
      go_ret
      exact ⟨ob, rfl, hO, Nat.le_trans HS1.out ho1, ho2, HB1.out.trans (hB.mono HS1.out)⟩
end Go.Proofs.YtklfpnnnoaaiaabGreatDoor

