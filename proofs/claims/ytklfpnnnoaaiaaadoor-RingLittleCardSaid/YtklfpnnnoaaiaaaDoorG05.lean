/- Packed: RgC, TabsR, PqM, MgM, MgF, PqL, MgP, MgN, MgG, MgT, Cut, MgO, MgK, MgX. -/
import Derived.Lib.AppendIntMem
import Derived.Stop.LaidErr
import Derived.IntWalk
import Derived.OwnWalk
import Derived.Deep.MidRow
import Derived.Laws.AppendOwn
import Derived.Laws.MakeOwn
import Derived.Laws.CopyOwn
import Derived.Deep.Cut
import Derived.BigQuiet
import Derived.Lib.IndexBytes
import Derived.Lib.SlicesS
import Derived.Lib.Slices
import Derived.Test.YtklfpnnnoaaiaaaDoorG00
import Derived.Test.YtklfpnnnoaaiaaaDoorG01
import Derived.Test.YtklfpnnnoaaiaaaDoorG03
import Derived.Test.YtklfpnnnoaaiaaaDoorShelfC
/- ring: the point of an entry (written by genrgc.py). -/
namespace Go.Proofs.YtklfpnnnoaaiaaaDoor
open Go.RowKit

/-- The table of the powers of ten. -/
def Pow (w : World) : Prop := Lib.TabIs Tryd.prog w "internal/strconv.uint64pow10" .u64 Lib.pow10Tab
theorem gPow : Tryd.prog.globalNamed "internal/strconv.uint64pow10" = some 2 := by kernel_rfl
theorem Pow.below {w w' : World} (h : Pow w) (hb : Below w.heap.size w w') : Pow w' := by
  unfold Pow Lib.TabIs World.var? at h ⊢
  rw [gPow] at h ⊢
  simp only [Option.bind_some] at h ⊢
  cases ho : w.heap[2]? with
  | none => rw [ho] at h; cases h
  | some o =>
    have hlt := (Array.getElem?_eq_some_iff.1 ho).1
    rw [hb.block _ hlt]
    exact h
/-- A number's decimal digits. -/
def digB (i : Nat) : ByteArray := ⟨(Lib.decDigits i).toArray⟩
theorem digits71 (i : Nat) (hi : i < 1000000) (w : World) (hw : Pow w) :
    Calls Tryd.prog 31 #[.int .i64 (i : Nat)] w fun e w' => e = .returned (.string (digB i)) ∧ Below w.heap.size w w' := by
  have HF : Hid (Calls Tryd.prog 49 #[.int .i64 (i : Int)] w fun e w' => e = .returned (.string (digB i)) ∧ Below w.heap.size w w') := by
    refine (Tryd.strconv_Itoa (i : Int) (by omega) (by omega) w hw).mono ?_
    rintro e w' ⟨rfl, k, os, rfl⟩
    refine ⟨?_, Lib.below_grow _ w (Nat.le_refl _) k os⟩
    rw [Lib.itoa_nonneg]; rfl
  have hm : max (i : Int) 0 = (i : Int) := by omega
  go_enter Tryd.func31, Tryd.ntmps31
  go_wp2_with fail
  refine HF.out.mono ?_
  rintro e w1 ⟨rfl, hb⟩
  go_wp2_with fail
  go_ret
  exact ⟨rfl, hb⟩
def sepB : ByteArray := ⟨#[35]⟩
/-- The value of an entry's point. -/
def ptV (k : Nat → UInt8) (N : ByteArray) (i : Nat) : Nat := hashN k (N.data.toList ++ sepB.data.toList ++ (digB i).data.toList)
theorem flat_three (a b c : ByteArray) : flat [a, b, c] = a.data.toList ++ b.data.toList ++ c.data.toList := by simp [flat]
theorem three_strs (w : World) (a b c : ByteArray) (T : TypeId) : IsStrs (w.alloc (.cells #[.string a, .string b, .string c] T)) (some ⟨w.heap.size, 0, none⟩) 3 [a, b, c] := by
  refine .inr ⟨w.heap.size, 0, rfl, by simp, by simp, fun j x hx => ?_⟩
  rw [Nat.zero_add]
  match j, hx with
  | 0, hx => obtain rfl : a = x := by simpa using hx
             simp
  | 1, hx => obtain rfl : b = x := by simpa using hx
             simp
  | 2, hx => obtain rfl : c = x := by simpa using hx
             simp
  | j + 3, hx => simp at hx
theorem decDigits_len : ∀ (f n : Nat), n < 10 ^ (f + 1) → (Lib.decDigits n).length ≤ f + 1
  | 0, n, h => by rw [Lib.decDigits_one (by omega)]; simp
  | f + 1, n, h => by
    by_cases h10 : n < 10
    · rw [Lib.decDigits_one h10]; simp
    · rw [Lib.decDigits, dif_neg h10, List.length_append]
      have := decDigits_len f (n / 10) (by rw [Nat.div_lt_iff_lt_mul (by decide)]; rw [Nat.pow_succ] at h; exact h)
      simp; omega
/-- What is there while a point is reckoned. -/
structure PoS (W : World) (N D : ByteArray) (L : Nat → Bool) (x : Nat → Value) (w : World) : Prop where
  bel : Below W.heap.size W w
  z5 : L 5 = true → ∃ g, x 5 = .slice (some ⟨g, 0, none⟩) 3 3 ∧ IsStrs w (some ⟨g, 0, none⟩) 3 [N, sepB, D]
section
variable {W : World} {N D : ByteArray} {L : Nat → Bool} {x : Nat → Value} {w w' : World}
theorem PoS.below (h : PoS W N D L x w) (hb : Below w.heap.size w w') : PoS W N D L x w' :=
  ⟨h.bel.trans (hb.mono h.bel.size), fun e => by obtain ⟨g, h1, h2⟩ := h.z5 e; exact ⟨g, h1, h2.below hb⟩⟩
theorem PoS.next (h : PoS W N D L x w) (i : Nat) (u : Value) (h5 : i ≠ 5) : PoS W N D (setL L i) (updV x i u) w :=
  ⟨h.bel, fun e => by
    obtain ⟨g, h1, h2⟩ := h.z5 (by simpa [setL, Ne.symm h5] using e)
    exact ⟨g, by simp [updV, Ne.symm h5, h1], h2⟩⟩
theorem PoS.put (h : PoS W N D L x w) : PoS W N D (setL L 5) (updV x 5 (.slice (some ⟨w.heap.size, 0, none⟩) 3 3)) (w.alloc (.cells #[.string N, .string sepB, .string D] 9)) :=
  ⟨h.bel.trans ((below_alloc w _).mono h.bel.size), fun _ => ⟨w.heap.size, by simp [updV], three_strs w N sepB D _⟩⟩
end
theorem isKey_rowC {w : World} {b : Nat} {T : TypeId} {k : Nat → UInt8} (h : Row w b T #[.int .u8 (k 0).toNat, .int .u8 (k 1).toNat, .int .u8 (k 2).toNat, .int .u8 (k 3).toNat, .int .u8 (k 4).toNat, .int .u8 (k 5).toNat, .int .u8 (k 6).toNat, .int .u8 (k 7).toNat, .int .u8 (k 8).toNat, .int .u8 (k 9).toNat, .int .u8 (k 10).toNat, .int .u8 (k 11).toNat, .int .u8 (k 12).toNat, .int .u8 (k 13).toNat, .int .u8 (k 14).toNat, .int .u8 (k 15).toNat]) : IsKey w b k := by
  intro i hi
  have h16 : i = 0 ∨ i = 1 ∨ i = 2 ∨ i = 3 ∨ i = 4 ∨ i = 5 ∨ i = 6 ∨ i = 7 ∨ i = 8 ∨ i = 9 ∨ i = 10 ∨ i = 11 ∨ i = 12 ∨ i = 13 ∨ i = 14 ∨ i = 15 := by omega
  rw [h.cell i]
  rcases h16 with rfl | rfl | rfl | rfl | rfl | rfl | rfl | rfl | rfl | rfl | rfl | rfl | rfl | rfl | rfl | rfl <;> rfl
set_option maxRecDepth 100000 in
set_option maxHeartbeats 4000000 in
theorem point51 (k : Nat → UInt8) (N : ByteArray) (V : Int) (hN : N.size ≤ 1000000) (i : Nat) (hi9 : i < 1000000) (w : World) (hi : Ini w) (hpw : Pow w) :
    Calls Tryd.prog 22 #[.agg #[.string N, .int .i64 V], keyVal k, .int .i64 (i : Nat)] w fun e w' => e = .returned (.agg #[.int .u64 (ptV k N i : Nat), .string N]) ∧ Below w.heap.size w w' := by
  have hs1 := hashN_is k (N.data.toList ++ sepB.data.toList ++ (digB i).data.toList)
  have hdl : (digB i).data.toList.length ≤ 10 := by
    have h2 := decDigits_len 6 i (by omega)
    have h3 : (digB i).data.toList = Lib.decDigits i := rfl
    rw [h3]; omega
  have hS1 : ∀ (g : Nat) (W : World), Ini W → IsStrs W (some ⟨g, 0, none⟩) 3 [N, sepB, digB i] → Calls Tryd.prog 30 #[keyVal k, .slice (some ⟨g, 0, none⟩) 3 3] W fun e w' => e = .returned (.int .u64 (ptV k N i : Nat)) ∧ Below W.heap.size W w' := fun g W hI hx => by
    have := sum12 k _ 3 [N, sepB, digB i] W hI hx (by simp) (by rw [flat_three]; have := Lib.size_eq N; simp only [List.length_append]; have h4 : sepB.data.toList.length = 1 := rfl; omega)
    rw [flat_three, hs1.1] at this
    exact this
  have HSM := Lib.hid hS1
  clear hS1 hs1 hdl
  generalize ptV k N i = p1 at *
  unfold keyVal at *
  have r1 := Row.new w 53 #[.string N, .int .i64 V]
  have r2 := Row.new (w.alloc (.cells #[.string N, .int .i64 V] 53)) 27 #[.int .u8 (k 0).toNat, .int .u8 (k 1).toNat, .int .u8 (k 2).toNat, .int .u8 (k 3).toNat, .int .u8 (k 4).toNat, .int .u8 (k 5).toNat, .int .u8 (k 6).toNat, .int .u8 (k 7).toNat, .int .u8 (k 8).toNat, .int .u8 (k 9).toNat, .int .u8 (k 10).toNat, .int .u8 (k 11).toNat, .int .u8 (k 12).toNat, .int .u8 (k 13).toNat, .int .u8 (k 14).toNat, .int .u8 (k 15).toNat]
  have r3 := Row.new ((w.alloc (.cells #[.string N, .int .i64 V] 53)).alloc (.cells #[.int .u8 (k 0).toNat, .int .u8 (k 1).toNat, .int .u8 (k 2).toNat, .int .u8 (k 3).toNat, .int .u8 (k 4).toNat, .int .u8 (k 5).toNat, .int .u8 (k 6).toNat, .int .u8 (k 7).toNat, .int .u8 (k 8).toNat, .int .u8 (k 9).toNat, .int .u8 (k 10).toNat, .int .u8 (k 11).toNat, .int .u8 (k 12).toNat, .int .u8 (k 13).toNat, .int .u8 (k 14).toNat, .int .u8 (k 15).toNat] 27)) 62 #[.int .u64 0, .string ⟨#[]⟩]
  have hb0 : Below w.heap.size w (((w.alloc (.cells #[.string N, .int .i64 V] 53)).alloc (.cells #[.int .u8 (k 0).toNat, .int .u8 (k 1).toNat, .int .u8 (k 2).toNat, .int .u8 (k 3).toNat, .int .u8 (k 4).toNat, .int .u8 (k 5).toNat, .int .u8 (k 6).toNat, .int .u8 (k 7).toNat, .int .u8 (k 8).toNat, .int .u8 (k 9).toNat, .int .u8 (k 10).toNat, .int .u8 (k 11).toNat, .int .u8 (k 12).toNat, .int .u8 (k 13).toNat, .int .u8 (k 14).toNat, .int .u8 (k 15).toNat] 27)).alloc (.cells #[.int .u64 0, .string ⟨#[]⟩] 62)) := (((Below.refl _ _).alloc (Nat.le_refl _) _).alloc (by simp) _).alloc (by simp; omega) _
  rw [World.size_alloc] at r2
  rw [World.size_alloc, World.size_alloc] at r3
  replace r1 := (r1.alloc (.cells #[.int .u8 (k 0).toNat, .int .u8 (k 1).toNat, .int .u8 (k 2).toNat, .int .u8 (k 3).toNat, .int .u8 (k 4).toNat, .int .u8 (k 5).toNat, .int .u8 (k 6).toNat, .int .u8 (k 7).toNat, .int .u8 (k 8).toNat, .int .u8 (k 9).toNat, .int .u8 (k 10).toNat, .int .u8 (k 11).toNat, .int .u8 (k 12).toNat, .int .u8 (k 13).toNat, .int .u8 (k 14).toNat, .int .u8 (k 15).toNat] 27)).alloc (.cells #[.int .u64 0, .string ⟨#[]⟩] 62)
  replace r2 := r2.alloc (.cells #[.int .u64 0, .string ⟨#[]⟩] 62)
  obtain ⟨B, hB⟩ : ∃ B, B = w.heap.size := ⟨_, rfl⟩
  have HBE : Hid (B = w.heap.size) := hB
  rw [← hB] at r1 r2 r3 hb0
  go_enter Tryd.func22, Tryd.ntmps22
  go_upto_region 1 with fail
  rw [← hB]
  clear hB
  generalize ((w.alloc (.cells #[.string N, .int .i64 V] 53)).alloc (.cells #[.int .u8 (k 0).toNat, .int .u8 (k 1).toNat, .int .u8 (k 2).toNat, .int .u8 (k 3).toNat, .int .u8 (k 4).toNat, .int .u8 (k 5).toNat, .int .u8 (k 6).toNat, .int .u8 (k 7).toNat, .int .u8 (k 8).toNat, .int .u8 (k 9).toNat, .int .u8 (k 10).toNat, .int .u8 (k 11).toNat, .int .u8 (k 12).toNat, .int .u8 (k 13).toNat, .int .u8 (k 14).toNat, .int .u8 (k 15).toNat] 27)).alloc (.cells #[.int .u64 0, .string ⟨#[]⟩] 62) = W3 at *
  have HB3 := Lib.hid hb0
  have hbw : Below w.heap.size w W3 := by rw [← HBE.out]; exact hb0
  have HI3 := Lib.hid (hi.below hbw)
  have HPW := Lib.hid (hpw.below hbw)
  clear hb0 hbw hi hpw
  have hk1 : IsKey W3 (B + 1) k := isKey_rowC r2
  have hlt1 := r1.lt
  have hlt2 := r2.lt
  have hlt3 := r3.lt
  have e0 : W3.cell? ⟨B, 0, none⟩ = some (.string N) := by rw [r1.cell]; rfl
  have R3 := Lib.hid r3
  have HK1 := Lib.hid hk1
  clear r1 r2 r3 hk1
  refine region_mixt 10 [some (.agg #[.int .u8 (k 0).toNat, .int .u8 (k 1).toNat, .int .u8 (k 2).toNat, .int .u8 (k 3).toNat, .int .u8 (k 4).toNat, .int .u8 (k 5).toNat, .int .u8 (k 6).toNat, .int .u8 (k 7).toNat, .int .u8 (k 8).toNat, .int .u8 (k 9).toNat, .int .u8 (k 10).toNat, .int .u8 (k 11).toNat, .int .u8 (k 12).toNat, .int .u8 (k 13).toNat, .int .u8 (k 14).toNat, .int .u8 (k 15).toNat]), some (.pointer (some ⟨B, 0, none⟩)), some (.string N), some (.int .i64 (i : Nat)), some (.string (digB i)), none, some (.int .u64 (p1 : Nat)), some (.pointer (some ⟨B, 0, none⟩)), some (.string N), some (.agg #[.int .u64 (p1 : Nat), .string N])]
    [[false, false, false, false, false, false, false, false, false, false], [false, false, false, false, false, false, false, false, false, false], [false, true, false, false, false, false, false, false, false, false], [false, false, false, false, false, false, false, false, false, false], [false, false, false, true, false, false, false, false, false, false], [false, false, true, false, true, false, false, false, false, false], [true, false, false, false, true, true, false, false, false, false], [false, false, false, false, false, false, false, false, false, false], [false, false, false, false, false, false, false, true, false, false], [false, false, false, false, false, false, true, false, true, false]]
    (fun LL xx w9 => PoS W3 N (digB i) LL xx w9)
    (by kernel_rfl) (by kernel_rfl) (by kernel_rfl) (by kernel_rfl) (by kernel_rfl) (by decide) ?_ ?_ ?_
  · intro x
    exact ⟨⟨rfl, rfl, rfl, Nat.le_refl _, fun _ _ => rfl⟩, (fun h => by cases h)⟩
  · simp only [List.take_succ_cons, List.take_zero]
    refine ⟨?_, ?_, ?_, ?_, ?_, ?_, ?_, ?_, ?_, ?_, trivial⟩
    all_goals
      intro L x w9 hS hl hp K9 hK9
      have hs : PoS W3 N (digB i) L x w9 := hS
      clear hS
      replace hK9 := hK9.out
      simp only [actMix, pickV, List.tail_cons, List.headD_cons, Act.put, List.setIfInBounds_toArray, List.set_cons_zero, List.set_cons_succ] at hK9 ⊢
    · have hkk := HK1.out.below hs.bel hlt2
      clear hp
      rw [if_pos (by rfl)]
      refine wp_load_mid 27 _ rfl (B + 1) 0 rfl [.int .u8 (k 0).toNat, .int .u8 (k 1).toNat, .int .u8 (k 2).toNat, .int .u8 (k 3).toNat, .int .u8 (k 4).toNat, .int .u8 (k 5).toNat, .int .u8 (k 6).toNat, .int .u8 (k 7).toNat, .int .u8 (k 8).toNat, .int .u8 (k 9).toNat, .int .u8 (k 10).toNat, .int .u8 (k 11).toNat, .int .u8 (k 12).toNat, .int .u8 (k 13).toNat, .int .u8 (k 14).toNat, .int .u8 (k 15).toNat] _ (key_range hkk) Tryd.underlying27 rfl (by kernel_rfl) ?_
      simp only [Act.put, List.setIfInBounds_toArray, List.set_cons_zero, List.set_cons_succ]
      with_reducible refine hK9 _ ?_
      exact hs.next 0 _ (by decide)
    · clear hp
      go_simp
      with_reducible refine hK9 _ ?_
      exact hs.next 1 _ (by decide)
    · have q1 : w9.cell? ⟨B, 0, none⟩ = some (.string N) := by rw [(bcell hs.bel).1 _ _ hlt1]; exact e0
      clear hp
      go_simp
      with_reducible refine hK9 _ ?_
      exact hs.next 2 _ (by decide)
    · clear hp
      go_simp
      with_reducible refine hK9 _ ?_
      exact hs.next 3 _ (by decide)
    · clear hp
      go_simp
      refine (digits71 i hi9 w9 (HPW.out.below hs.bel)).mono ?_
      rintro e w8 ⟨rfl, hB8⟩
      go_simp
      with_reducible refine hK9 _ ?_
      exact (hs.below hB8).next 4 _ (by decide)
    · clear hp
      go_simp
      with_reducible refine hK9 _ _ ?_
      exact hs.put
    · obtain ⟨g8, hx8, hr8⟩ := hs.z5 (allL_mem hp 5 (by decide +kernel))
      clear hp
      rw [hx8] at hK9 ⊢
      go_simp
      refine (HSM.out g8 w9 (HI3.out.below hs.bel) hr8).mono ?_
      rintro e w8 ⟨rfl, hB8⟩
      go_simp
      with_reducible refine hK9 _ ?_
      exact (hs.below hB8).next 6 _ (by decide)
    · clear hp
      go_simp
      with_reducible refine hK9 _ ?_
      exact hs.next 7 _ (by decide)
    · have q1 : w9.cell? ⟨B, 0, none⟩ = some (.string N) := by rw [(bcell hs.bel).1 _ _ hlt1]; exact e0
      clear hp
      go_simp
      with_reducible refine hK9 _ ?_
      exact hs.next 8 _ (by decide)
    · clear hp
      go_simp
      with_reducible refine hK9 _ ?_
      exact hs.next 9 _ (by decide)
  intro L x w9 hS hL
  have hs : PoS W3 N (digB i) L x w9 := hS
  have R9 := R3.out.below hs.bel
  have HB9 : Hid (Below w.heap.size w w9) := by
    show Below _ _ _
    rw [← HBE.out]
    exact HB3.out.trans (hs.bel.mono (by have := HB3.out.size; omega))
  simp only [actMix, pickV, List.tail_cons, List.headD_cons, Act.put, List.setIfInBounds_toArray, List.set_cons_zero, List.set_cons_succ, List.replicate_succ, List.replicate_zero, List.drop_succ_cons, List.drop_zero, List.take_succ_cons, List.take_zero]
  generalize x 5 = xa
  have RF := (R9.put 0 (.int .u64 (p1 : Nat))).put 1 (.string N)
  have f0 := R9.free 0
  have f1 := R9.free 1
  have c0 : w9.cell? ⟨B + 1 + 1, 0, none⟩ = some (.int .u64 0) := by rw [R9.cell]; rfl
  have c1 : w9.cell? ⟨B + 1 + 1, 1, none⟩ = some (.string ⟨#[]⟩) := by rw [R9.cell]; rfl
  have D0 : Hid (((w9.setCell ⟨B + 1 + 1, 0, none⟩ (.int .u64 (p1 : Nat))).setCell ⟨B + 1 + 1, 1, none⟩ (.string N)).cell? ⟨B + 1 + 1, 0, none⟩ = some (.int .u64 (p1 : Nat))) := by show _ = _; rw [RF.cell]; rfl
  have D1 : Hid (((w9.setCell ⟨B + 1 + 1, 0, none⟩ (.int .u64 (p1 : Nat))).setCell ⟨B + 1 + 1, 1, none⟩ (.string N)).cell? ⟨B + 1 + 1, 1, none⟩ = some (.string N)) := by show _ = _; rw [RF.cell]; rfl
  have HBF : Hid (Below w.heap.size w ((w9.setCell ⟨B + 1 + 1, 0, none⟩ (.int .u64 (p1 : Nat))).setCell ⟨B + 1 + 1, 1, none⟩ (.string N))) := by
    have hle : w.heap.size ≤ B + 1 + 1 := by rw [HBE.out]; omega
    exact (HB9.out.setCell (p := ⟨B + 1 + 1, 0, none⟩) hle _).setCell (p := ⟨B + 1 + 1, 1, none⟩) hle _
  clear hS hs hL R9 RF R3 HK1 HI3 HPW HSM e0 HB3
  go_wp2_with fail
  refine bodyPost_ret (v := .agg #[.int .u64 (p1 : Nat), .string N]) ?_ rfl ⟨rfl, HBF.out⟩
  simp [results, Tryd.results22, go_sem, D0.out, D1.out]
end Go.Proofs.YtklfpnnnoaaiaaaDoor

/- What a row of the ring says of its tables: names. -/
namespace Go.Proofs.YtklfpnnnoaaiaaaDoor
open Go.RowKit

/-- What is known of the tables. -/
def RgTabs (W : World) : Prop := Ini W ∧ Pow W
end Go.Proofs.YtklfpnnnoaaiaaaDoor

/- prime: numbers: the least divisor, which numbers are primes, Euclid's algorithm, rows. -/
namespace Go.Proofs.YtklfpnnnoaaiaaaDoor

/-- Has the number no divisor but 1 and itself? -/
def primeB (n : Nat) : Bool := decide (2 ≤ n ∧ ∀ d, d < n → 2 ≤ d → ¬ d ∣ n)
/-- The least divisor above 1. -/
def LD (n p : Nat) : Prop := 2 ≤ p ∧ p ∣ n ∧ ∀ k, 2 ≤ k → k ∣ n → p ≤ k
theorem primeB_spec {n : Nat} (h : primeB n = true) : 2 ≤ n ∧ ∀ d, d < n → 2 ≤ d → ¬ d ∣ n := of_decide_eq_true h
theorem LD.le {n p : Nat} (h : LD n p) (hn : 2 ≤ n) : p ≤ n := h.2.2 n hn (Nat.dvd_refl n)
theorem LD.eq {n p q : Nat} (h : LD n p) (h' : LD n q) : p = q := Nat.le_antisymm (h.2.2 q h'.1 h'.2.1) (h'.2.2 p h.1 h.2.1)
theorem LD.self {n : Nat} (hn : 2 ≤ n) : LD n n ↔ primeB n = true := by
  constructor
  · intro h
    refine decide_eq_true ⟨hn, fun d hd h2 hdv => ?_⟩
    have := h.2.2 d h2 hdv
    omega
  · intro h
    obtain ⟨_, h2⟩ := primeB_spec h
    refine ⟨hn, Nat.dvd_refl n, fun k hk hkn => ?_⟩
    rcases Nat.lt_or_ge k n with hlt | hge
    · exact absurd hkn (h2 k hlt hk)
    · exact hge
theorem LD.prime {n p : Nat} (h : LD n p) : primeB p = true :=
  (LD.self h.1).1 ⟨h.1, Nat.dvd_refl p, fun k hk hkp => h.2.2 k hk (Nat.dvd_trans hkp h.2.1)⟩
/-- No divisor from 2 up to d. -/
def NoDiv (n d : Nat) : Prop := ∀ k, 2 ≤ k → k < d → ¬ k ∣ n
theorem NoDiv.two (n : Nat) : NoDiv n 2 := fun k h1 h2 => by omega
theorem NoDiv.step {n d : Nat} (h : NoDiv n d) (hd : ¬ d ∣ n) : NoDiv n (d + 1) := fun k h1 h2 => by
  rcases Nat.lt_or_ge k d with hk | hk
  · exact h k h1 hk
  · obtain rfl : k = d := by omega
    exact hd
theorem NoDiv.hit {n d : Nat} (h : NoDiv n d) (h2 : 2 ≤ d) (hd : d ∣ n) : LD n d := ⟨h2, hd, fun k hk hkn => by
  rcases Nat.lt_or_ge k d with hl | hl
  · exact absurd hkn (h k hk hl)
  · exact hl⟩
theorem NoDiv.stop {n d : Nat} (h : NoDiv n d) (hn : 2 ≤ n) (hd : n < d * d) : LD n n := by
  refine ⟨hn, Nat.dvd_refl n, fun k hk hkn => ?_⟩
  refine Nat.le_of_not_lt fun hl => ?_
  obtain ⟨q, hq⟩ := hkn
  have hq2 : 2 ≤ q := by
    rcases Nat.lt_or_ge q 2 with hq1 | hq1
    · obtain rfl | rfl : q = 0 ∨ q = 1 := by omega
      · omega
      · omega
    · exact hq1
  have hkd : d ≤ k := by
    rcases Nat.lt_or_ge k d with hk1 | hk1
    · exact absurd ⟨q, hq⟩ (h k hk hk1)
    · exact hk1
  have hqd : d ≤ q := by
    rcases Nat.lt_or_ge q d with hk1 | hk1
    · exact absurd ⟨k, by rw [Nat.mul_comm]; exact hq⟩ (h q hq2 hk1)
    · exact hk1
  have := Nat.mul_le_mul hkd hqd
  omega
/-- Is the number a prime of at most 2^20? -/
def isP (n : Int) : Bool := decide (2 ≤ n) && decide (n ≤ 1048576) && primeB n.toNat
theorem NoDiv.prime {n d : Nat} (h : NoDiv n d) (hn : 2 ≤ n) (hd : n < d * d) : primeB n = true := (LD.self hn).1 (h.stop hn hd)
theorem NoDiv.not {n d : Nat} (h2 : 2 ≤ d) (hd : d ∣ n) (hdd : d * d ≤ n) : primeB n = false := by
  cases hp : primeB n with
  | false => rfl
  | true =>
    obtain ⟨_, hh⟩ := primeB_spec hp
    have : d < n := by
      have := Nat.mul_le_mul_right d h2
      omega
    exact absurd hd (hh d this h2)
theorem isP_low {n : Int} (h : n < 2) : isP n = false := by unfold isP; rw [decide_eq_false (by omega : ¬ 2 ≤ n)]; rfl
theorem isP_high {n : Int} (h : 1048576 < n) : isP n = false := by unfold isP; rw [decide_eq_false (by omega : ¬ n ≤ 1048576)]; simp
theorem isP_mid {n : Nat} (h : 2 ≤ n) (h' : n ≤ 1048576) : isP (n : Int) = primeB n := by
  unfold isP
  rw [decide_eq_true (by omega : (2 : Int) ≤ n), decide_eq_true (by omega : (n : Int) ≤ 1048576)]
  simp
theorem isP_LD {n p : Nat} (h : 2 ≤ n) (h' : n ≤ 1048576) (hl : LD n p) : isP (n : Int) = decide ((p : Int) = n) := by
  rw [isP_mid h h']
  by_cases e : p = n
  · subst e; rw [(LD.self h).1 hl]; simp
  · rw [decide_eq_false (by omega)]
    cases hp : primeB n with
    | false => rfl
    | true => exact absurd (hl.eq ((LD.self h).2 hp)) e
/-- Factors: what has been found, and what is left. -/
structure Fac (N : Nat) (ps : List Nat) (c : Nat) : Prop where
  prod : ps.foldl (· * ·) 1 * c = N
  prime : ∀ p ∈ ps, primeB p = true
  le : ∀ p ∈ ps, ∀ k, 2 ≤ k → k ∣ c → p ≤ k
  up : ps.Pairwise (· ≤ ·)
  pos : 1 ≤ c
  small : 2 ^ ps.length * c ≤ N
theorem Fac.start {N : Nat} (h : 1 ≤ N) : Fac N [] N := ⟨by simp, by simp, by simp, .nil, h, by simp⟩
theorem Fac.step {N c p : Nat} {ps : List Nat} (h : Fac N ps c) (hp : LD c p) : Fac N (ps ++ [p]) (c / p) := by
  obtain ⟨q, hq⟩ := hp.2.1
  have hp0 : 0 < p := by have := hp.1; omega
  have hc : c / p = q := by rw [hq]; exact Nat.mul_div_cancel_left q hp0
  rw [hc]
  have hpos := h.pos
  have hq0 : 1 ≤ q := by
    rcases Nat.eq_zero_or_pos q with e | e
    · subst e; omega
    · exact e
  refine ⟨?_, ?_, ?_, ?_, hq0, ?_⟩
  · rw [List.foldl_append, List.foldl_cons, List.foldl_nil, Nat.mul_assoc, ← hq]; exact h.prod
  · intro x hx
    rcases List.mem_append.1 hx with hx | hx
    · exact h.prime x hx
    · obtain rfl : x = p := by simpa using hx
      exact hp.prime
  · intro x hx k hk hkq
    have hkc : k ∣ c := by rw [hq]; exact Nat.dvd_trans hkq (Nat.dvd_mul_left q p)
    rcases List.mem_append.1 hx with hx | hx
    · exact h.le x hx k hk hkc
    · obtain rfl : x = p := by simpa using hx
      exact hp.2.2 k hk hkc
  · rw [List.pairwise_append]
    refine ⟨h.up, List.pairwise_singleton _ _, fun x hx y hy => ?_⟩
    obtain rfl : y = p := by simpa using hy
    exact h.le x hx _ hp.1 hp.2.1
  · have h1 := h.small
    have h2 : 2 * q ≤ c := by rw [hq]; exact Nat.mul_le_mul_right q hp.1
    have h3 := Nat.mul_le_mul_left (2 ^ ps.length) h2
    rw [List.length_append, List.length_singleton, Nat.pow_succ, Nat.mul_assoc]
    omega
theorem Fac.len {N c : Nat} {ps : List Nat} (h : Fac N ps c) (hN : N ≤ 1048576) : ps.length ≤ 20 := by
  rcases Nat.lt_or_ge 20 ps.length with hl | hl
  · have h1 : 2 ^ 21 ≤ 2 ^ ps.length := Nat.pow_le_pow_right (by decide) hl
    have h2 := h.small
    have h3 := Nat.mul_le_mul_left (2 ^ ps.length) h.pos
    have h4 : (2 : Nat) ^ 21 = 2097152 := by decide
    omega
  · exact hl
/-- The product of the first ones. -/
def prodN (ps : List Nat) (i : Nat) : Nat := (ps.take i).foldl (· * ·) 1
theorem foldl_mul (ps : List Nat) (a : Nat) : ps.foldl (· * ·) a = a * ps.foldl (· * ·) 1 := by
  induction ps generalizing a with
  | nil => simp
  | cons x r ih => rw [List.foldl_cons, List.foldl_cons, ih (a * x), ih (1 * x), Nat.one_mul, Nat.mul_assoc]
theorem prodN_step {ps : List Nat} {i : Nat} (h : i < ps.length) : prodN ps (i + 1) = prodN ps i * ps[i] := by
  unfold prodN
  rw [List.take_succ_eq_append_getElem h, List.foldl_append, List.foldl_cons, List.foldl_nil]
theorem prodN_all (ps : List Nat) : prodN ps ps.length = ps.foldl (· * ·) 1 := by unfold prodN; rw [List.take_length]
theorem prodN_dvd (ps : List Nat) (i : Nat) : prodN ps i ∣ ps.foldl (· * ·) 1 := by
  unfold prodN
  have h : ps.foldl (· * ·) 1 = (ps.take i).foldl (· * ·) 1 * (ps.drop i).foldl (· * ·) 1 := by
    rw [← foldl_mul, ← List.foldl_append, List.take_append_drop]
  rw [h]
  exact Nat.dvd_mul_right _ _
theorem Fac.end {N : Nat} {ps : List Nat} (h : Fac N ps 1) (i : Nat) (hN : 0 < N) : prodN ps i ≤ N := by
  have hp := h.prod
  rw [Nat.mul_one] at hp
  exact Nat.le_of_dvd hN (by rw [← hp]; exact prodN_dvd ps i)
theorem Fac.fin {N : Nat} {ps : List Nat} (h : Fac N ps 1) : prodN ps ps.length = N := by
  rw [prodN_all, ← h.prod, Nat.mul_one]
theorem Fac.at {N c : Nat} {ps : List Nat} (h : Fac N ps c) (i : Nat) (hi : i < ps.length) (hi1 : 0 < i) : ps[i - 1] ≤ ps[i] :=
  List.pairwise_iff_getElem.1 h.up (i - 1) i (by omega) hi (by omega)
/-- Euclid. -/
theorem gcd_step {a b : Nat} : Nat.gcd (b % a) a = Nat.gcd a b := by rw [Nat.gcd_rec a b]
/-- The places of a row. -/
def rowL (m f s : Nat) : List Nat := (List.range m).map fun i => (f + i * s) % m
theorem rowL_len (m f s : Nat) : (rowL m f s).length = m := by simp [rowL]
theorem rowL_at {m f s i : Nat} (h : i < m) : (rowL m f s)[i]? = some ((f + i * s) % m) := by
  unfold rowL
  rw [List.getElem?_map, List.getElem?_range h]; rfl
theorem row_next (m f s i : Nat) : (((f + i * s) % m) + s) % m = (f + (i + 1) * s) % m := by
  rw [Nat.mod_add_mod, Nat.succ_mul, Nat.add_assoc]
theorem coprime_dvd {m s k : Nat} (h : Nat.gcd s m = 1) (hd : m ∣ k * s) : m ∣ k :=
  Nat.Coprime.dvd_of_dvd_mul_right (show Nat.gcd m s = 1 by rw [Nat.gcd_comm]; exact h) hd
theorem row_inj {m f s i j : Nat} (h : Nat.gcd s m = 1) (hi : i < j) (hj : j < m) : (f + i * s) % m ≠ (f + j * s) % m := by
  intro e
  have h1 : m ∣ (f + j * s) - (f + i * s) := by
    have h2 := Nat.sub_mod_eq_zero_of_mod_eq e.symm
    exact Nat.dvd_of_mod_eq_zero h2
  have h3 : (f + j * s) - (f + i * s) = (j - i) * s := by rw [Nat.sub_mul]; omega
  rw [h3] at h1
  have h4 := coprime_dvd h h1
  have := Nat.le_of_dvd (by omega) h4
  omega
theorem row_back {m f s : Nat} (hm : 2 ≤ m) (h : Nat.gcd s m ≠ 1) : ∃ j, 0 < j ∧ j < m ∧ (f + j * s) % m = (f + 0 * s) % m := by
  obtain ⟨q, hq⟩ := Nat.gcd_dvd_right s m
  obtain ⟨t, ht⟩ := Nat.gcd_dvd_left s m
  have hg : 0 < Nat.gcd s m := Nat.gcd_pos_of_pos_right s (by omega)
  generalize Nat.gcd s m = g at *
  have hg2 : 2 ≤ g := by omega
  have hq0 : 0 < q := by
    rcases Nat.eq_zero_or_pos q with e | e
    · subst e; omega
    · exact e
  have hqm : q < m := by
    have := Nat.mul_le_mul_right q hg2
    omega
  refine ⟨q, hq0, hqm, ?_⟩
  have e : q * s = m * t := by
    rw [ht, hq, Nat.mul_left_comm, ← Nat.mul_assoc]
  rw [e, Nat.zero_mul, Nat.add_zero, Nat.add_mul_mod_self_left]
/-- Euclid's algorithm with the first of its factors: what holds in each round. -/
structure InvE (m A R S : Nat) (x y : Int) : Prop where
  c1 : (m : Int) ∣ (R : Int) - x * A
  c2 : (m : Int) ∣ (S : Int) - y * A
  g : Nat.gcd R S = Nat.gcd A m
  r : 1 ≤ R
  rm : R ≤ m
  b : ∃ (s : Int) (u v : Nat), (s = 1 ∨ s = -1) ∧ x = s * u ∧ y = -(s * v) ∧ v * R + u * S = m ∧ u ≤ m
theorem InvE.start {m A : Nat} (hm : 2 ≤ m) : InvE m A m A 0 1 := by
  refine ⟨?_, ?_, ?_, by omega, by omega, -1, 0, 1, .inr rfl, rfl, rfl, by omega, by omega⟩
  · simp
  · simp
  · exact Nat.gcd_comm m A
theorem InvE.yb {m A R S : Nat} {x y : Int} (h : InvE m A R S x y) : -(m : Int) ≤ y ∧ y ≤ m := by
  obtain ⟨s, u, v, hs, _, hy, hm, _⟩ := h.b
  have h1 := Nat.mul_le_mul_left v h.r
  have h2 : v ≤ m := by omega
  rcases hs with rfl | rfl <;> omega
theorem InvE.xb {m A R S : Nat} {x y : Int} (h : InvE m A R S x y) : -(m : Int) ≤ x ∧ x ≤ m := by
  obtain ⟨s, u, v, hs, hx, _, _, hu⟩ := h.b
  rcases hs with rfl | rfl <;> omega
theorem InvE.step {m A R S : Nat} {x y : Int} (h : InvE m A R S x y) (hS : 0 < S) (hSR : S ≤ m) : InvE m A S (R % S) y (x - ((R / S : Nat) : Int) * y) := by
  have hd := Nat.div_add_mod R S
  obtain ⟨c1, c2, g, r, rm, s, u, v, hs, hx, hy, hm, hu⟩ := h
  have hq : ((R % S : Nat) : Int) = (R : Int) - ((R / S : Nat) : Int) * S := by
    have : (R : Int) = ((S * (R / S) + R % S : Nat) : Int) := by rw [hd]
    rw [this, Int.natCast_add, Int.natCast_mul, Int.mul_comm (S : Int)]
    omega
  refine ⟨c2, ?_, ?_, hS, hSR, -s, v, u + (R / S) * v, ?_, ?_, ?_, ?_, ?_⟩
  · rw [hq]
    have e : (R : Int) - ((R / S : Nat) : Int) * S - (x - ((R / S : Nat) : Int) * y) * A = ((R : Int) - x * A) - ((R / S : Nat) : Int) * ((S : Int) - y * A) := by grind
    rw [e]
    exact Int.dvd_sub c1 (Int.dvd_mul_of_dvd_right c2)
  · rw [← g, Nat.gcd_comm S, Nat.gcd_comm R S, Nat.gcd_rec S R]
  · omega
  · rw [hy]; grind
  · rw [hx, hy]; simp only [Int.natCast_add, Int.natCast_mul]; grind
  · have e : (u + R / S * v) * S + v * (R % S) = v * (S * (R / S) + R % S) + u * S := by grind
    rw [e, hd]; exact hm
  · have h1 := Nat.mul_le_mul_left v r
    omega
theorem InvE.fin {m A R : Nat} {x y : Int} (h : InvE m A R 0 x y) (hm : 2 ≤ m) (hR : R = 1) : 0 < x % m ∧ x % m < m ∧ ((A : Int) * (x % m)) % m = 1 := by
  have h0 := Int.emod_nonneg x (b := (m : Int)) (by omega)
  have h1 := Int.emod_lt_of_pos x (b := (m : Int)) (by omega)
  have h2 : ((A : Int) * (x % m)) % m = 1 := by
    rw [Int.mul_emod, Int.emod_emod_of_dvd _ (Int.dvd_refl _), ← Int.mul_emod]
    obtain ⟨k, hk⟩ := h.c1
    have e : (A : Int) * x = 1 + m * (-k) := by subst hR; grind
    rw [e, Int.add_mul_emod_self_left, Int.emod_eq_of_lt (by omega) (by omega)]
  refine ⟨?_, h1, h2⟩
  rcases Int.lt_or_eq_of_le h0 with h3 | h3
  · exact h3
  · rw [← h3, Int.mul_zero, Int.zero_emod] at h2; omega
end Go.Proofs.YtklfpnnnoaaiaaaDoor

/- maglev: how places are assigned, as math. -/
namespace Go.Proofs.YtklfpnnnoaaiaaaDoor

/-- How many of the first ones. -/
def cntF (p : Nat → Bool) : Nat → Nat
  | 0 => 0
  | m + 1 => cntF p m + (if p m then 1 else 0)
theorem cntF_le (p : Nat → Bool) : ∀ m, cntF p m ≤ m
  | 0 => Nat.le_refl _
  | m + 1 => by unfold cntF; have := cntF_le p m; split <;> omega
theorem cntF_congr {p q : Nat → Bool} : ∀ {m : Nat}, (∀ i, i < m → p i = q i) → cntF p m = cntF q m
  | 0, _ => rfl
  | m + 1, h => by unfold cntF; rw [cntF_congr (fun i hi => h i (by omega)), h m (by omega)]
theorem cntF_set {p q : Nat → Bool} {k : Nat} (hp : p k = false) (hq : q k = true) : ∀ {m : Nat}, k < m → (∀ i, i ≠ k → q i = p i) → cntF q m = cntF p m + 1
  | 0, h, _ => by omega
  | m + 1, h, he => by
    unfold cntF
    by_cases e : k = m
    · subst e
      rw [cntF_congr (fun i hi => he i (by omega)), hp, hq]; simp
    · rw [cntF_set hp hq (by omega) he, he m (fun h => e h.symm)]; omega
theorem cntF_same {p q : Nat → Bool} {k : Nat} (hpq : p k = q k) {m : Nat} (he : ∀ i, i ≠ k → q i = p i) : cntF q m = cntF p m :=
  cntF_congr fun i _ => by
    by_cases e : i = k
    · subst e; exact hpq.symm
    · exact he i e
theorem cntF_full {p : Nat → Bool} : ∀ {m : Nat}, cntF p m = m → ∀ i, i < m → p i = true
  | 0, _, i, hi => by omega
  | m + 1, h, i, hi => by
    unfold cntF at h
    have h1 := cntF_le p m
    cases hp : p m with
    | false => rw [hp] at h; simp at h; omega
    | true =>
      rw [hp] at h
      by_cases e : i = m
      · subst e; exact hp
      · exact cntF_full (m := m) (by simpa using h) i (by omega)
theorem cntF_none : ∀ (m : Nat), cntF (fun _ => false) m = 0
  | 0 => rfl
  | m + 1 => by unfold cntF; rw [cntF_none m]; rfl
theorem cntF_hole {p : Nat → Bool} {m : Nat} (h : cntF p m < m) : ∃ i, i < m ∧ p i = false := by
  by_cases hn : ∃ i, i < m ∧ p i = false
  · exact hn
  · exfalso
    have : cntF p m = m := by
      have h2 : cntF p m = cntF (fun _ => true) m := cntF_congr fun i hi => by
        cases hp : p i with
        | true => rfl
        | false => exact absurd ⟨i, hi, hp⟩ hn
      rw [h2]
      clear h h2 hn
      induction m with
      | zero => rfl
      | succ m ih => unfold cntF; rw [ih]; rfl
    omega
/-- A list without repeats is no longer than one that has all its members. -/
theorem nodup_length : ∀ {l l' : List Nat}, l.Nodup → (∀ x ∈ l, x ∈ l') → l.length ≤ l'.length
  | [], _, _, _ => Nat.zero_le _
  | a :: l, l', h, hs => by
    have hn := List.nodup_cons.1 h
    have ha := hs a (List.mem_cons_self ..)
    have ih := nodup_length (l := l) (l' := l'.erase a) hn.2 (fun x hx => (List.mem_erase_of_ne (fun e => hn.1 (by rw [← e]; exact hx))).2 (hs x (List.mem_cons_of_mem _ hx)))
    rw [List.length_erase_of_mem ha] at ih
    have := List.length_pos_of_mem ha
    simp only [List.length_cons]
    omega
/-- An injective map of the first m numbers among themselves reaches each. -/
theorem inj_onto {m : Nat} {p : Nat → Nat} (hlt : ∀ t, t < m → p t < m) (hinj : ∀ a b, a < b → b < m → p a ≠ p b) (q : Nat) (hq : q < m) : ∃ t, t < m ∧ p t = q := by
  by_cases h : ∃ t, t < m ∧ p t = q
  · exact h
  · exfalso
    have hn : ((List.range m).map p).Nodup := by
      rw [List.Nodup, List.pairwise_iff_getElem]
      intro i j hi hj hij
      simp only [List.length_map, List.length_range] at hi hj
      simp only [List.getElem_map, List.getElem_range]
      exact hinj i j hij hj
    have := nodup_length (l' := (List.range m).erase q) hn (fun x hx => by
      obtain ⟨t, ht, rfl⟩ := List.mem_map.1 hx
      have ht := List.mem_range.1 ht
      exact (List.mem_erase_of_ne (fun e => h ⟨t, ht, e⟩)).2 (List.mem_range.2 (hlt t ht)))
    rw [List.length_map, List.length_range, List.length_erase_of_mem (List.mem_range.2 hq), List.length_range] at this
    omega
/-- The first free place of a row from a place on. -/
def ff (own : Nat → Int) (p : Nat → Nat) : Nat → Nat → Nat
  | 0, t => t
  | k + 1, t => if own (p t) = -1 then t else ff own p k (t + 1)
theorem ff_is {own : Nat → Int} {p : Nat → Nat} : ∀ {k t u : Nat}, t ≤ u → u ≤ t + k → own (p u) = -1 → (∀ v, t ≤ v → v < u → own (p v) ≠ -1) → ff own p k t = u
  | 0, t, u, h1, h2, _, _ => by unfold ff; omega
  | k + 1, t, u, h1, h2, hu, hv => by
    unfold ff
    by_cases e : t = u
    · subst e; rw [if_pos hu]
    · rw [if_neg (hv t (Nat.le_refl _) (by omega))]
      exact ff_is (by omega) (by omega) hu (fun v h3 h4 => hv v (by omega) h4)
theorem first_free {own : Nat → Int} {p : Nat → Nat} {t u : Nat} (h1 : t ≤ u) (hu : own (p u) = -1) : ∃ v, t ≤ v ∧ v ≤ u ∧ own (p v) = -1 ∧ ∀ x, t ≤ x → x < v → own (p x) ≠ -1 := by
  obtain ⟨d, hd⟩ : ∃ d, u = t + d := ⟨u - t, by omega⟩
  clear h1
  induction d generalizing t with
  | zero => exact ⟨u, by omega, Nat.le_refl _, hu, fun x h2 h3 => by omega⟩
  | succ d ih =>
    by_cases e : own (p t) = -1
    · exact ⟨t, Nat.le_refl _, by omega, e, fun x h2 h3 => by omega⟩
    · obtain ⟨v, h2, h3, h4, h5⟩ := ih (t := t + 1) (by omega)
      refine ⟨v, by omega, h3, h4, fun x h6 h7 => ?_⟩
      by_cases ex : x = t
      · subst ex; exact e
      · exact h5 x (by omega) h7
/-- What an assignment of places is made of. -/
structure Par where
  n : Nat
  m : Nat
  G : Nat
  W : Nat → Nat
  F : Nat → Nat
  S : Nat → Nat
structure St where
  own : Nat → Int
  nx : Nat → Nat
  ow : Nat → Int
  cnt : Nat
def setI (f : Nat → Int) (i : Nat) (v : Int) : Nat → Int := fun k => if k = i then v else f k
def setN (f : Nat → Nat) (i : Nat) (v : Nat) : Nat → Nat := fun k => if k = i then v else f k
namespace Par
variable (P : Par)
def pl (i t : Nat) : Nat := (P.F i + t * P.S i) % P.m
def nxt (i : Nat) (st : St) : Nat := ff st.own (P.pl i) P.m (st.nx i)
/-- An entry receives a place. -/
def take (i : Nat) (st : St) : St := ⟨setI st.own (P.pl i (P.nxt i st)) i, setN st.nx i (P.nxt i st), setI st.ow i (st.ow i + P.W i - P.G), st.cnt + 1⟩
def wait (i : Nat) (st : St) : St := ⟨st.own, st.nx, setI st.ow i (st.ow i + P.W i), st.cnt⟩
def stp (i : Nat) (st : St) : St := if st.cnt = P.m then st else if st.ow i + P.W i < P.G then P.wait i st else P.take i st
def start : St := ⟨fun _ => -1, fun _ => 0, fun _ => 0, 0⟩
def run : Nat → St
  | 0 => start
  | T + 1 => P.stp (T % P.n) (run T)
theorem run_stop {T : Nat} (h : (P.run T).cnt = P.m) : ∀ d, P.run (T + d) = P.run T
  | 0 => rfl
  | d + 1 => by
    show P.stp ((T + d) % P.n) (P.run (T + d)) = _
    rw [run_stop h d]
    unfold stp
    rw [if_pos h]
theorem run_same {T U : Nat} (h : (P.run T).cnt = P.m) (h' : (P.run U).cnt = P.m) : P.run T = P.run U := by
  rcases Nat.le_total T U with hl | hl
  · obtain ⟨d, rfl⟩ := Nat.exists_eq_add_of_le hl
    exact (P.run_stop h d).symm
  · obtain ⟨d, rfl⟩ := Nat.exists_eq_add_of_le hl
    exact P.run_stop h' d
/-- What is asked of the parameters. -/
structure Ok : Prop where
  n0 : 0 < P.n
  m2 : 2 ≤ P.m
  row : ∀ i, i < P.n → Nat.gcd (P.S i) P.m = 1
  w1 : ∀ i, i < P.n → 1 ≤ P.W i ∧ P.W i ≤ P.G
  g : ∃ i, i < P.n ∧ P.W i = P.G
/-- What holds on the way. -/
structure Inv (st : St) : Prop where
  cnt : st.cnt = cntF (fun q => decide (st.own q ≠ -1)) P.m
  nx : ∀ i, i < P.n → st.nx i < P.m ∧ ∀ u, u < st.nx i → st.own (P.pl i u) ≠ -1
  ow : ∀ i, i < P.n → 0 ≤ st.ow i ∧ st.ow i < P.G
  rng : ∀ q, st.own q = -1 ∨ (0 ≤ st.own q ∧ st.own q < P.n)
variable {P}
theorem pl_lt (h : P.Ok) (i t : Nat) : P.pl i t < P.m := Nat.mod_lt _ (by have := h.m2; omega)
theorem Inv.start (h : P.Ok) : P.Inv Par.start := by
  refine ⟨?_, fun i _ => ⟨by show 0 < P.m; have := h.m2; omega, fun u hu => by have : u < 0 := hu; omega⟩, fun i hi => ⟨Int.le_refl _, ?_⟩, fun q => .inl rfl⟩
  · show 0 = _
    rw [cntF_congr (q := fun _ => false) (fun i _ => by simp [Par.start]), cntF_none]
  · show (0 : Int) < P.G
    have := h.w1 i hi; omega
theorem Inv.free {st : St} (h : P.Ok) (hI : P.Inv st) (hc : st.cnt < P.m) {i : Nat} (hi : i < P.n) :
    st.nx i ≤ P.nxt i st ∧ P.nxt i st < P.m ∧ st.own (P.pl i (P.nxt i st)) = -1 ∧ ∀ u, st.nx i ≤ u → u < P.nxt i st → st.own (P.pl i u) ≠ -1 := by
  obtain ⟨q, hq, hqf⟩ := cntF_hole (by rw [← hI.cnt]; exact hc)
  have hq1 : st.own q = -1 := by simpa using hqf
  obtain ⟨u, hu, hpu⟩ := inj_onto (p := P.pl i) (fun t _ => pl_lt h i t) (fun a b hab hb => row_inj (h.row i hi) hab hb) q hq
  have hle : st.nx i ≤ u := by
    rcases Nat.lt_or_ge u (st.nx i) with h1 | h1
    · exact absurd (by rw [hpu]; exact hq1) ((hI.nx i hi).2 u h1)
    · exact h1
  obtain ⟨v, h1, h2, h3, h4⟩ := first_free (own := st.own) (p := P.pl i) hle (by rw [hpu]; exact hq1)
  have hv : P.nxt i st = v := ff_is h1 (by omega) h3 h4
  rw [hv]
  exact ⟨h1, by omega, h3, h4⟩
theorem Inv.wait {st : St} (hI : P.Inv st) {i : Nat} (hi : i < P.n) (hw : st.ow i + P.W i < P.G) : P.Inv (P.wait i st) := by
  refine ⟨hI.cnt, hI.nx, fun k hk => ?_, hI.rng⟩
  show 0 ≤ setI st.ow i (st.ow i + P.W i) k ∧ setI st.ow i (st.ow i + P.W i) k < P.G
  unfold setI
  have := hI.ow i hi
  split
  · omega
  · exact hI.ow k hk
theorem Inv.take {st : St} (h : P.Ok) (hI : P.Inv st) (hc : st.cnt < P.m) {i : Nat} (hi : i < P.n) (hw : ¬ st.ow i + P.W i < P.G) : P.Inv (P.take i st) := by
  obtain ⟨f1, f2, f3, f4⟩ := hI.free h hc hi
  have hwi := h.w1 i hi
  refine ⟨?_, fun k hk => ?_, fun k hk => ?_, fun q => ?_⟩
  · show st.cnt + 1 = _
    rw [hI.cnt]
    refine (cntF_set (k := P.pl i (P.nxt i st)) (by simp [f3]) ?_ (pl_lt h _ _) (fun q hq => ?_)).symm
    · show decide (setI st.own (P.pl i (P.nxt i st)) i (P.pl i (P.nxt i st)) ≠ -1) = true
      unfold setI; rw [if_pos rfl]; exact decide_eq_true (by omega)
    · show decide (setI st.own (P.pl i (P.nxt i st)) i q ≠ -1) = _
      unfold setI; rw [if_neg hq]
  · show setN st.nx i (P.nxt i st) k < P.m ∧ ∀ u, u < setN st.nx i (P.nxt i st) k → setI st.own (P.pl i (P.nxt i st)) i (P.pl k u) ≠ -1
    have key : ∀ u, st.own (P.pl k u) ≠ -1 → setI st.own (P.pl i (P.nxt i st)) i (P.pl k u) ≠ -1 := fun u hu => by
      unfold setI; split
      · omega
      · exact hu
    unfold setN
    by_cases e : k = i
    · subst e
      rw [if_pos rfl]
      refine ⟨f2, fun u hu => key u ?_⟩
      rcases Nat.lt_or_ge u (st.nx k) with h1 | h1
      · exact (hI.nx k hk).2 u h1
      · exact f4 u h1 hu
    · rw [if_neg e]
      exact ⟨(hI.nx k hk).1, fun u hu => key u ((hI.nx k hk).2 u hu)⟩
  · show 0 ≤ setI st.ow i (st.ow i + P.W i - P.G) k ∧ setI st.ow i (st.ow i + P.W i - P.G) k < P.G
    unfold setI
    have := hI.ow i hi
    split
    · omega
    · exact hI.ow k hk
  · show setI st.own (P.pl i (P.nxt i st)) i q = -1 ∨ (0 ≤ setI st.own (P.pl i (P.nxt i st)) i q ∧ setI st.own (P.pl i (P.nxt i st)) i q < P.n)
    unfold setI
    split
    · exact .inr ⟨by omega, by omega⟩
    · exact hI.rng q
theorem Inv.le {st : St} (hI : P.Inv st) : st.cnt ≤ P.m := by rw [hI.cnt]; exact cntF_le _ _
theorem Inv.stp {st : St} (h : P.Ok) (hI : P.Inv st) {i : Nat} (hi : i < P.n) : P.Inv (P.stp i st) := by
  unfold Par.stp
  split
  · exact hI
  · have := hI.le
    split
    · exact hI.wait hi (by assumption)
    · exact hI.take h (by omega) hi (by assumption)
theorem run_inv (h : P.Ok) : ∀ T, P.Inv (P.run T)
  | 0 => Inv.start h
  | T + 1 => (run_inv h T).stp h (Nat.mod_lt _ h.n0)
end Par
/-- A step below a prime has no divisor in common with it. -/
theorem prime_coprime {m s : Nat} (h : primeB m = true) (h1 : 1 ≤ s) (h2 : s < m) : Nat.gcd s m = 1 := by
  obtain ⟨hm, hd⟩ := primeB_spec h
  have g1 := Nat.gcd_dvd_right s m
  have g2 := Nat.gcd_dvd_left s m
  have g3 := Nat.le_of_dvd (by omega) g2
  have g4 := Nat.gcd_pos_of_pos_left m (show 0 < s by omega)
  rcases Nat.lt_or_ge (Nat.gcd s m) 2 with h5 | h5
  · omega
  · exact absurd g1 (hd _ (by omega) h5)
/-- Where a place lies in a row. -/
def Par.pos (P : Par) (i q : Nat) : Nat := ((List.range P.m).find? fun t => P.pl i t == q).getD 0
theorem Par.pos_pl {P : Par} (h : P.Ok) {i : Nat} (hi : i < P.n) {t : Nat} (ht : t < P.m) : P.pos i (P.pl i t) = t := by
  unfold Par.pos
  have : (List.range P.m).find? (fun u => P.pl i u == P.pl i t) = some t := by
    rw [List.find?_range_eq_some]
    refine ⟨by simp, by simpa using ht, fun j hj => ?_⟩
    have : ¬ P.pl i j = P.pl i t := row_inj (m := P.m) (f := P.F i) (h.row i hi) hj ht
    simpa using this
  rw [this]; rfl
theorem Par.pl_next (P : Par) (i t : Nat) : (P.pl i t + P.S i) % P.m = P.pl i (t + 1) := row_next P.m (P.F i) (P.S i) t
theorem setN_same (f : Nat → Nat) (i v : Nat) : setN f i v i = v := if_pos rfl
theorem setN_twice (f : Nat → Nat) (i v u : Nat) : setN (setN f i v) i u = setN f i u := by
  funext k; unfold setN; split <;> rfl
theorem setN_id (f : Nat → Nat) (i : Nat) : setN f i (f i) = f := by
  funext k; unfold setN; split
  · rename_i e; rw [e]
  · rfl
end Go.Proofs.YtklfpnnnoaaiaaaDoor

/- maglev.nextFree. -/
namespace Go.Proofs.YtklfpnnnoaaiaaaDoor
open Go.RowKit

/-- The claims in memory. -/
structure ClaimsAt (w : World) (cb : Nat) (P : Par) (nx : Nat → Nat) (ow : Nat → Int) : Prop where
  c0 : ∀ i, i < P.n → w.cell? ⟨cb, i * 4, none⟩ = some (.int .i64 (P.W i : Nat))
  c1 : ∀ i, i < P.n → w.cell? ⟨cb, i * 4 + 1, none⟩ = some (.int .i64 (ow i))
  c2 : ∀ i, i < P.n → w.cell? ⟨cb, i * 4 + 2, none⟩ = some (.int .i64 (P.pl i (nx i) : Nat))
  c3 : ∀ i, i < P.n → w.cell? ⟨cb, i * 4 + 3, none⟩ = some (.int .i64 (P.S i : Nat))
  fz : ∀ j, j < P.n * 4 → w.frozen? ⟨cb, j, none⟩ = false
/-- The owners in memory. -/
def OwnersAt (w : World) (ob m : Nat) (own : Nat → Int) : Prop := ∀ q, q < m → w.cell? ⟨ob, q, none⟩ = some (.int .i64 (own q)) ∧ w.frozen? ⟨ob, q, none⟩ = false
theorem other_cell {w : World} {b o b' o' : Nat} (h : b ≠ b' ∨ o ≠ o') (v : Value) : (w.setCell ⟨b', o', none⟩ v).cell? ⟨b, o, none⟩ = w.cell? ⟨b, o, none⟩ :=
  World.cell?_setCell_other _ _ _ _ (by intro e; injection e with e1 e2; rcases h with h | h; exact h e1.symm; exact h e2.symm)
theorem OwnersAt.far {w : World} {ob m cb : Nat} {own : Nat → Int} (h : OwnersAt w ob m own) (hne : cb ≠ ob) (o : Nat) (v : Value) : OwnersAt (w.setCell ⟨cb, o, none⟩ v) ob m own := fun q hq => by
  rw [other_cell (.inl (Ne.symm hne)), World.frozen?_setCell]; exact h q hq
theorem OwnersAt.set {w : World} {ob m : Nat} {own : Nat → Int} (h : OwnersAt w ob m own) {q : Nat} (hq : q < m) (v : Int) : OwnersAt (w.setCell ⟨ob, q, none⟩ (.int .i64 v)) ob m (setI own q v) := fun r hr => by
  rw [World.frozen?_setCell]
  refine ⟨?_, (h r hr).2⟩
  unfold setI
  by_cases e : r = q
  · subst e; rw [World.cell?_setCell_same _ _ _ (h r hr).1, if_pos rfl]
  · rw [other_cell (.inr e), if_neg e]; exact (h r hr).1
theorem ClaimsAt.far {w : World} {cb ob : Nat} {P : Par} {nx : Nat → Nat} {ow : Nat → Int} (h : ClaimsAt w cb P nx ow) (hne : cb ≠ ob) (o : Nat) (v : Value) : ClaimsAt (w.setCell ⟨ob, o, none⟩ v) cb P nx ow :=
  ⟨fun i hi => by rw [other_cell (.inl hne)]; exact h.c0 i hi, fun i hi => by rw [other_cell (.inl hne)]; exact h.c1 i hi, fun i hi => by rw [other_cell (.inl hne)]; exact h.c2 i hi,
   fun i hi => by rw [other_cell (.inl hne)]; exact h.c3 i hi, fun j hj => by rw [World.frozen?_setCell]; exact h.fz j hj⟩
theorem ClaimsAt.setP {w : World} {cb : Nat} {P : Par} {nx : Nat → Nat} {ow : Nat → Int} (h : ClaimsAt w cb P nx ow) {i : Nat} (hi : i < P.n) (t : Nat) : ClaimsAt (w.setCell ⟨cb, i * 4 + 2, none⟩ (.int .i64 (P.pl i t : Nat))) cb P (setN nx i t) ow := by
  refine ⟨fun k hk => by rw [other_cell (.inr (by omega))]; exact h.c0 k hk, fun k hk => by rw [other_cell (.inr (by omega))]; exact h.c1 k hk, fun k hk => ?_, fun k hk => by rw [other_cell (.inr (by omega))]; exact h.c3 k hk, fun j hj => by rw [World.frozen?_setCell]; exact h.fz j hj⟩
  unfold setN
  by_cases e : k = i
  · subst e; rw [World.cell?_setCell_same _ _ _ (h.c2 k hk), if_pos rfl]
  · rw [other_cell (.inr (by omega)), if_neg e]; exact h.c2 k hk
theorem ClaimsAt.setO {w : World} {cb : Nat} {P : Par} {nx : Nat → Nat} {ow : Nat → Int} (h : ClaimsAt w cb P nx ow) {i : Nat} (hi : i < P.n) (v : Int) : ClaimsAt (w.setCell ⟨cb, i * 4 + 1, none⟩ (.int .i64 v)) cb P nx (setI ow i v) := by
  refine ⟨fun k hk => by rw [other_cell (.inr (by omega))]; exact h.c0 k hk, fun k hk => ?_, fun k hk => by rw [other_cell (.inr (by omega))]; exact h.c2 k hk, fun k hk => by rw [other_cell (.inr (by omega))]; exact h.c3 k hk, fun j hj => by rw [World.frozen?_setCell]; exact h.fz j hj⟩
  unfold setI
  by_cases e : k = i
  · subst e; rw [World.cell?_setCell_same _ _ _ (h.c1 k hk), if_pos rfl]
  · rw [other_cell (.inr (by omega)), if_neg e]; exact h.c1 k hk
theorem ClaimsAt.drew {w : World} {cb : Nat} {P : Par} {nx : Nat → Nat} {ow : Nat → Int} (h : ClaimsAt w cb P nx ow) : ClaimsAt w.drew cb P nx ow := ⟨h.c0, h.c1, h.c2, h.c3, h.fz⟩
theorem OwnersAt.drew {w : World} {ob m : Nat} {own : Nat → Int} (h : OwnersAt w ob m own) : OwnersAt w.drew ob m own := h
/-- The place that a claim has, read off the world. -/
def placeOf (w : World) (cb i : Nat) : Nat := match w.cell? ⟨cb, i * 4 + 2, none⟩ with
  | some (.int .i64 z) => z.toNat
  | _ => 0
theorem placeOf_is {w : World} {cb : Nat} {P : Par} {nx : Nat → Nat} {ow : Nat → Int} (h : ClaimsAt w cb P nx ow) {i : Nat} (hi : i < P.n) : placeOf w cb i = P.pl i (nx i) := by
  unfold placeOf; rw [h.c2 i hi]; simp
theorem wrapS (n : Nat) (h : n < 9223372036854775808) : IntKind.i64.wrap (n : Int) = (n : Int) := by
  simp [IntKind.wrap, IntKind.signed, IntKind.bits]; omega
theorem tmodM (p s m : Nat) : (((p + s : Nat) : Int)).tmod (m : Int) = (((p + s) % m : Nat) : Int) := by rw [Int.tmod_eq_emod_of_nonneg (by omega)]; rfl
end Go.Proofs.YtklfpnnnoaaiaaaDoor

/- Rows of integers of the call's own; stewardlaw14.Numbers. -/
namespace Go.Proofs.YtklfpnnnoaaiaaaDoor
open Go.RowKit

theorem infoInt : (Tryd.prog.info? 3).map (fun i => (i.zero, i.size, i.bytes)) = some (some (.int .i64 0), 1, 8) := by kernel_rfl
def cellsN (xs : List Nat) : List Value := xs.map fun (x : Nat) => Value.int .i64 (x : Int)
theorem cellsN_len (xs : List Nat) : (cellsN xs).length = xs.length := by simp [cellsN]
theorem cellsN_at (xs : List Nat) (i : Nat) (h : i < xs.length) : (cellsN xs)[i]? = some (.int .i64 ((xs[i] : Nat) : Int)) := by
  unfold cellsN; rw [List.getElem?_map, List.getElem?_eq_getElem h]; rfl
theorem cellsN_snoc (xs : List Nat) (x : Nat) : cellsN xs ++ [.int .i64 (x : Int)] = cellsN (xs ++ [x]) := by simp [cellsN]
theorem cellsN_set (xs : List Nat) (i x : Nat) : (cellsN xs).set i (.int .i64 (x : Int)) = cellsN (xs.set i x) := by simp [cellsN, List.map_set]
theorem own_sliceI {w : World} {base : Nat} {e : TypeId} {v : Value} {n : Nat} {xs : List Value} {k : Nat} (h : w.ownsRow base e k v n xs) : ∃ a c, v = .slice a n c ∧ (a = none → c = 0) := by
  obtain ⟨_, ⟨h1, h2⟩ | ⟨g, cap, cur, h1, _⟩⟩ := h
  · exact ⟨none, 0, by rw [h1, h2], fun _ => rfl⟩
  · exact ⟨_, _, h1, fun h => by cases h⟩
theorem own_someI {w : World} {base : Nat} {e : TypeId} {a : Option Addr} {k m c : Nat} {xs : List Value} (h : w.ownsRow base e k (.slice a m c) m xs) (hm : 0 < m) : ∃ g, a = some ⟨g, 0, none⟩ := by
  rcases h.2 with ⟨h1, h2⟩ | ⟨g, cap, cur, h1, _⟩
  · omega
  · injection h1 with h1; exact ⟨g, h1⟩
theorem one_int (z : Int) : ∀ u ∈ [Value.int .i64 z], u.oneCell' = true := by intro u hu; simp at hu; subst hu; rfl
theorem src_one (w : World) (v : Value) (T : TypeId) : ∀ (j : Nat) u, [v][j]? = some u → (w.alloc (.cells #[v] T)).cell? ((⟨w.heap.size, 0, none⟩ : Addr).add j) = some u := by
  intro j u hu
  match j, hu with
  | 0, hu => obtain rfl : v = u := Option.some.inj hu; rw [Addr.add_mid]; simp
  | j + 1, hu => simp at hu
theorem below_drewNI {B : Nat} {a w : World} (h : Below B a w) (n : Nat) : Below B a (w.drewN n) := ⟨h.os, h.tape, h.output, h.size, h.block⟩
/-- A slice of numbers that can be read. -/
def IsNums (w : World) (a : Option Addr) (xs : List Nat) : Prop :=
  xs = [] ∨ ∃ bk, a = some ⟨bk, 0, none⟩ ∧ bk < w.heap.size ∧ ∀ (j : Nat) x, xs[j]? = some x → w.cell? ⟨bk, j, none⟩ = some (.int .i64 ((x : Nat) : Int))
theorem IsNums.below {w w' : World} {a : Option Addr} {xs : List Nat} (h : IsNums w a xs) (hb : Below w.heap.size w w') : IsNums w' a xs := by
  rcases h with h | ⟨bk, ha, hbk, hc⟩
  · exact .inl h
  · exact .inr ⟨bk, ha, Nat.lt_of_lt_of_le hbk hb.size, fun j x hx => by rw [(bcell hb).1 _ _ hbk]; exact hc j x hx⟩
theorem nums_own {w : World} {B : Nat} {T : TypeId} {a : Option Addr} {k c : Nat} {ys : List Nat} (h : w.ownsRow B T 1 (.slice a k c) k (cellsN ys)) : IsNums w a ys := by
  obtain ⟨hl, h | ⟨g, cap, cur, he, hB, hg, hn, _, hs, ht⟩⟩ := h
  · left
    rw [cellsN_len] at hl
    exact List.eq_nil_of_length_eq_zero (by omega)
  · right
    obtain ⟨rfl, _, rfl⟩ : a = some ⟨g, 0, none⟩ ∧ k = k ∧ c = cap := by simpa using he
    have hlt : g < w.heap.size := by
      rcases Nat.lt_or_ge g w.heap.size with h | h
      · exact h
      · rw [Array.getElem?_eq_none h] at hg; cases hg
    refine ⟨g, rfl, hlt, fun j x hx => ?_⟩
    have h1 : (cellsN ys)[j]? = some (.int .i64 ((x : Nat) : Int)) := by unfold cellsN; rw [List.getElem?_map, hx]; rfl
    have h2 := World.ownsRow.cells (w := w) (base := B) (e := T) (size := 1) (v := .slice (some ⟨g, 0, none⟩) k c) (n := k) (xs := cellsN ys) ⟨hl, .inr ⟨g, c, cur, rfl, hB, hg, hn, by assumption, hs, ht⟩⟩ rfl j _ h1
    rw [Addr.add_mid, Nat.zero_add] at h2
    exact h2
end Go.Proofs.YtklfpnnnoaaiaaaDoor

/- math/bits.Mul; slices.Repeat of one number (written by genmgp.py). -/
namespace Go.Proofs.YtklfpnnnoaaiaaaDoor
open Go.RowKit

/-- A row that holds -1 up to a place. -/
def fillM (m k : Nat) : List Value := List.replicate k (.int .i64 (-1)) ++ List.replicate (m - k) (.int .i64 0)
theorem fillM_len {m k : Nat} (h : k ≤ m) : (fillM m k).length = m := by simp [fillM]; omega
theorem fillM_zero (m : Nat) : fillM m 0 = List.replicate m (.int .i64 0) := by simp [fillM]
theorem fillM_at {m k j : Nat} (h : j < k) : (fillM m k)[j]? = some (.int .i64 (-1)) := by
  unfold fillM; rw [List.getElem?_append_left (by simpa using h)]; simp [h]
theorem fillM_step {m k c : Nat} (h : k + c ≤ m) : (fillM m k).take k ++ (List.replicate c (Value.int .i64 (-1)) ++ (fillM m k).drop (k + c)) = fillM m (k + c) := by
  unfold fillM
  rw [List.take_append_of_le_length (by simp), List.take_of_length_le (by simp), List.drop_append, List.drop_of_length_le (by simp)]
  simp only [List.length_replicate, List.nil_append, List.drop_replicate]
  rw [← List.append_assoc, List.replicate_append_replicate]
  congr 2
  omega
/-- What holds while a part is copied. -/
structure RepS (W Wc : World) (L : Nat → Bool) (w : World) : Prop where
  no : L 7 = false → w = W
  yes : L 7 = true → w = Wc
theorem RepS.keep {W Wc : World} {L : Nat → Bool} {w : World} (h : RepS W Wc L w) (i : Nat) (hi : i ≠ 7) : RepS W Wc (setL L i) w :=
  ⟨fun e => h.no (by simpa [setL, Ne.symm hi] using e), fun e => h.yes (by simpa [setL, Ne.symm hi] using e)⟩
end Go.Proofs.YtklfpnnnoaaiaaaDoor

/- maglev.assign (written by genmgn.py). -/
namespace Go.Proofs.YtklfpnnnoaaiaaaDoor
open Go.RowKit

/-- The greatest of the first numbers. -/
def gm (W : Nat → Nat) : Nat → Nat
  | 0 => 0
  | j + 1 => max (gm W j) (W j)
theorem gm_ge {W : Nat → Nat} : ∀ {n i : Nat}, i < n → W i ≤ gm W n
  | n + 1, i, h => by
    unfold gm
    rcases Nat.lt_or_ge i n with h2 | h2
    · exact Nat.le_trans (gm_ge h2) (Nat.le_max_left _ _)
    · obtain rfl : i = n := by omega
      exact Nat.le_max_right _ _
theorem gm_le {W : Nat → Nat} {B : Nat} : ∀ {n : Nat}, (∀ i, i < n → W i ≤ B) → gm W n ≤ B
  | 0, _ => Nat.zero_le _
  | n + 1, h => by unfold gm; exact Nat.max_le.2 ⟨gm_le fun i hi => h i (by omega), h n (by omega)⟩
theorem gm_mem {W : Nat → Nat} : ∀ {n : Nat}, 0 < n → ∃ i, i < n ∧ W i = gm W n
  | 1, _ => ⟨0, by omega, by unfold gm gm; exact (Nat.max_eq_right (Nat.zero_le _)).symm⟩
  | n + 2, _ => by
    unfold gm
    rcases Nat.le_total (gm W (n + 1)) (W (n + 1)) with h | h
    · exact ⟨n + 1, by omega, (Nat.max_eq_right h).symm⟩
    · obtain ⟨i, h1, h2⟩ := gm_mem (W := W) (n := n + 1) (by omega)
      exact ⟨i, by omega, by rw [h2]; exact (Nat.max_eq_left h).symm⟩
namespace Par
variable {P : Par}
theorem cnt_up (P : Par) (T : Nat) : (P.run T).cnt ≤ (P.run (T + 1)).cnt := by
  show _ ≤ (P.stp (T % P.n) (P.run T)).cnt
  unfold stp
  split
  · exact Nat.le_refl _
  · split
    · exact Nat.le_refl _
    · exact Nat.le_succ _
theorem cnt_mono (P : Par) (T : Nat) : ∀ d, (P.run T).cnt ≤ (P.run (T + d)).cnt
  | 0 => Nat.le_refl _
  | d + 1 => Nat.le_trans (cnt_mono P T d) (cnt_up P (T + d))
theorem round_mod (P : Par) (r : Nat) {i : Nat} (hi : i < P.n) : (r * P.n + i) % P.n = i := by
  rw [Nat.mul_comm, Nat.mul_add_mod, Nat.mod_eq_of_lt hi]
theorem run_next (P : Par) (r : Nat) {i : Nat} (hi : i < P.n) : P.run (r * P.n + i + 1) = P.stp i (P.run (r * P.n + i)) := by
  show P.stp ((r * P.n + i) % P.n) _ = _
  rw [round_mod P r hi]
theorem run_more (h : P.Ok) (r : Nat) (hc : (P.run (r * P.n + P.n)).cnt < P.m) : (P.run (r * P.n)).cnt < (P.run (r * P.n + P.n)).cnt := by
  obtain ⟨i, hi, hg⟩ := h.g
  have h1 := cnt_mono P (r * P.n) i
  have h2 := cnt_mono P (r * P.n + i + 1) (P.n - i - 1)
  rw [show r * P.n + i + 1 + (P.n - i - 1) = r * P.n + P.n by omega] at h2
  have h3 := run_next P r hi
  have hI := run_inv h (r * P.n + i)
  have h4 := hI.ow i hi
  have h5 := cnt_up P (r * P.n + i)
  have h6 : (P.run (r * P.n + i + 1)).cnt = (P.run (r * P.n + i)).cnt + 1 := by
    rw [h3]
    unfold stp
    rw [if_neg (by omega), if_neg (by omega)]
    rfl
  omega
end Par
theorem ClaimsAt.keep {w w' : World} {cb : Nat} {P : Par} {nx : Nat → Nat} {ow : Nat → Int} (h : ClaimsAt w cb P nx ow) (hlt : cb < w.heap.size) (hb : Below w.heap.size w w') : ClaimsAt w' cb P nx ow := by
  obtain ⟨b1, b2⟩ := bcell hb
  exact ⟨fun i hi => by rw [b1 _ _ hlt]; exact h.c0 i hi, fun i hi => by rw [b1 _ _ hlt]; exact h.c1 i hi, fun i hi => by rw [b1 _ _ hlt]; exact h.c2 i hi, fun i hi => by rw [b1 _ _ hlt]; exact h.c3 i hi, fun j hj => by rw [b2 _ _ hlt]; exact h.fz j hj⟩
theorem OwnersAt.keep {w w' : World} {ob m : Nat} {own : Nat → Int} (h : OwnersAt w ob m own) (hlt : ob < w.heap.size) (hb : Below w.heap.size w w') : OwnersAt w' ob m own := by
  obtain ⟨b1, b2⟩ := bcell hb
  exact fun q hq => by rw [b1 _ _ hlt, b2 _ _ hlt]; exact h q hq
theorem wrapI (z : Int) (h1 : -9223372036854775808 ≤ z) (h2 : z < 9223372036854775808) : IntKind.i64.wrap z = z := by
  simp [IntKind.wrap, IntKind.signed, IntKind.bits]; omega
theorem nxt_ow (P : Par) (k : Nat) (a : Nat → Int) (b : Nat → Nat) (c d : Nat → Int) (n n' : Nat) (st : St) (h : st = ⟨a, b, d, n'⟩) : P.nxt k ⟨a, b, c, n⟩ = P.nxt k st := by rw [h]; rfl
theorem keep_ob {w a b : World} {cb ob q : Nat} {v : Value} (h1 : Keep (fun k => k = cb) w a) (h2 : Keep (fun k => k = cb) a b) (ho : w.heap.size ≤ ob) : Keep (fun k => k = cb) w (b.setCell ⟨ob, q, none⟩ v) :=
  (((h1.more (G' := fun k => k = cb ∨ k = ob) (fun _ _ h => .inl h)).trans (h2.more (fun _ _ h => .inl h))).trans (Keep.setCell (G := fun k => k = cb ∨ k = ob) b (p := ⟨ob, q, none⟩) (.inr rfl) v)).more (fun k hk h => h.elim id (fun e => by omega))
theorem sz_ob {a b : World} {cb ob o q : Nat} {v : Value} (h : cb < a.heap.size ∧ ob < a.heap.size) (h2 : Keep (fun k => k = cb) a b) : cb < (b.setCell ⟨o, q, none⟩ v).heap.size ∧ ob < (b.setCell ⟨o, q, none⟩ v).heap.size := by
  have hz := (Keep.setCell (G := fun k => k = o) b (p := ⟨o, q, none⟩) rfl v).size
  have hy := h2.size
  omega
theorem setI_same (f : Nat → Int) (i : Nat) (v : Int) : setI f i v i = v := if_pos rfl
theorem setI_twice (f : Nat → Int) (i : Nat) (v u : Int) : setI (setI f i v) i u = setI f i u := by
  funext k; unfold setI; split <;> rfl
end Go.Proofs.YtklfpnnnoaaiaaaDoor

/- maglev.Build (written by genmgg.py). -/
namespace Go.Proofs.YtklfpnnnoaaiaaaDoor
open Go.RowKit

/-- What an assignment is made of, of sorted entries. -/
def parOf (k : Nat → UInt8) (es : List Ent) (m : Nat) : Par where
  n := es.length
  m := m
  G := gm (fun i => ((es[i]?.map fun e => e.2.toNat).getD 0)) es.length
  W := fun i => (es[i]?.map fun e => e.2.toNat).getD 0
  F := fun i => (es[i]?.map fun e => firstN k e.1 m).getD 0
  S := fun i => (es[i]?.map fun e => stepN k e.1 m).getD 0
/-- The owners that the document asks for. -/
def Assigned (k : Nat → UInt8) (es : List Ent) (m : Nat) (own : Nat → Int) : Prop :=
  (es = [] ∧ own = fun _ => -1) ∨ (es ≠ [] ∧ ∃ T, ((parOf k es m).run T).cnt = m ∧ own = ((parOf k es m).run T).own)
theorem parOf_W {k : Nat → UInt8} {es : List Ent} {m i : Nat} (hi : i < es.length) : (parOf k es m).W i = es[i].2.toNat := by
  show Option.getD (Option.map _ es[i]?) 0 = _
  rw [List.getElem?_eq_getElem hi, Option.map_some, Option.getD_some]
theorem parOf_F {k : Nat → UInt8} {es : List Ent} {m i : Nat} (hi : i < es.length) : (parOf k es m).F i = firstN k es[i].1 m := by
  show Option.getD (Option.map _ es[i]?) 0 = _
  rw [List.getElem?_eq_getElem hi, Option.map_some, Option.getD_some]
theorem parOf_S {k : Nat → UInt8} {es : List Ent} {m i : Nat} (hi : i < es.length) : (parOf k es m).S i = stepN k es[i].1 m := by
  show Option.getD (Option.map _ es[i]?) 0 = _
  rw [List.getElem?_eq_getElem hi, Option.map_some, Option.getD_some]
theorem okW_range {e : Ent} (h : okW e = true) : 1 ≤ e.2 ∧ e.2 ≤ 65535 := by unfold okW at h; simpa using h
theorem parOf_ok {k : Nat → UInt8} {es : List Ent} {m : Nat} (hne : es ≠ []) (hp : primeB m = true) (hv : ∀ e ∈ es, okW e = true) :
    (parOf k es m).Ok ∧ (∀ i, i < es.length → (parOf k es m).S i < m) ∧ (parOf k es m).G ≤ 65535 := by
  have hm2 := (primeB_spec hp).1
  have hw : ∀ i, i < es.length → 1 ≤ (parOf k es m).W i ∧ (parOf k es m).W i ≤ 65535 := fun i hi => by
    rw [parOf_W hi]
    have := okW_range (hv _ (List.getElem_mem hi))
    omega
  refine ⟨⟨List.length_pos_iff.2 hne, hm2, fun i hi => ?_, fun i hi => ⟨(hw i hi).1, gm_ge hi⟩, gm_mem (List.length_pos_iff.2 hne)⟩, fun i hi => ?_, gm_le fun i hi => (hw i hi).2⟩
  · have hi : i < es.length := hi
    rw [parOf_S hi]
    exact prime_coprime hp (stepN_lt k _ hm2).1 (stepN_lt k _ hm2).2
  · rw [parOf_S hi]; exact (stepN_lt k _ hm2).2
/-- A table in memory. -/
def TableAt (w : World) (tb : Nat) (ns : List ByteArray) (m : Nat) (own : Nat → Int) : Prop :=
  ∃ a c ob, w.cell? ⟨tb, 0, none⟩ = some (.slice a ns.length c) ∧ w.cell? ⟨tb, 1, none⟩ = some (.slice (some ⟨ob, 0, none⟩) m m) ∧ IsStrs w a c ns ∧ OwnersAt w ob m own ∧ tb < w.heap.size ∧ ob < w.heap.size
/-- The claims' cells. -/
def cellsC (k : Nat → UInt8) (m : Nat) (es : List Ent) : List Value := es.flatMap fun e => [.int .i64 e.2, .int .i64 0, .int .i64 (firstN k e.1 m : Nat), .int .i64 (stepN k e.1 m : Nat)]
theorem cellsC_append (k : Nat → UInt8) (m : Nat) (a b : List Ent) : cellsC k m (a ++ b) = cellsC k m a ++ cellsC k m b := by simp only [cellsC, List.flatMap_append]
theorem cellsC_step {k : Nat → UInt8} {m : Nat} {es : List Ent} {j : Nat} (hj : j < es.length) : cellsC k m (es.take (j + 1)) = cellsC k m (es.take j) ++ [.int .i64 es[j].2, .int .i64 0, .int .i64 (firstN k es[j].1 m : Nat), .int .i64 (stepN k es[j].1 m : Nat)] := by
  rw [List.take_add_one, List.getElem?_eq_getElem hj, Option.toList_some, cellsC_append]
  rfl
theorem cellsC_at (k : Nat → UInt8) (m : Nat) : ∀ (es : List Ent) (j : Nat) (e : Ent), es[j]? = some e → (cellsC k m es)[j * 4]? = some (.int .i64 e.2) ∧ (cellsC k m es)[j * 4 + 1]? = some (.int .i64 0) ∧ (cellsC k m es)[j * 4 + 2]? = some (.int .i64 (firstN k e.1 m : Nat)) ∧ (cellsC k m es)[j * 4 + 3]? = some (.int .i64 (stepN k e.1 m : Nat))
  | [], j, e, h => by cases j <;> cases h
  | x :: es, 0, e, h => by
    simp at h; subst h
    exact ⟨rfl, rfl, rfl, rfl⟩
  | x :: es, j + 1, e, h => by
    have := cellsC_at k m es j e (by simpa using h)
    rw [show (j + 1) * 4 = j * 4 + 1 + 1 + 1 + 1 by omega]
    exact this
theorem own_zero {w : World} {base : Nat} {e : TypeId} {n m : Nat} {v : Value} {xs : List Value} (h : w.ownsRow base e n v m xs) : w.ownsRow 0 e n v m xs := by
  obtain ⟨hl, h0 | ⟨g, cap, cur, rfl, hb, r⟩⟩ := h
  · exact ⟨hl, .inl h0⟩
  · exact ⟨hl, .inr ⟨g, cap, cur, rfl, Nat.zero_le _, r⟩⟩
theorem own_two {w : World} {base : Nat} {e e' : TypeId} {n n' m m' : Nat} {v v' : Value} {xs xs' : List Value} (h : w.ownsRow base e n v m xs) (h' : w.ownsRow base e' n' v' m' xs') (hne : e ≠ e') : v.ownBlock = none ∨ v.ownBlock ≠ v'.ownBlock := by
  obtain ⟨_, ⟨rfl, _⟩ | ⟨g, cap, cur, rfl, _, hg, _⟩⟩ := h
  · exact .inl (by simp [Value.ownBlock])
  · refine .inr fun e1 => ?_
    exact own_ne (own_zero h') (show Row w g e cur from hg) (Ne.symm hne) (by rw [← e1]; simp [Value.ownBlock])
theorem ownB_keep {w w' : World} {base : Nat} {G : Nat → Prop} {e : TypeId} {n m : Nat} {v : Value} {xs : List Value} (h : w.ownsRow base e n v m xs) (hk : Keep G w w') (hg : ∀ k, v.ownBlock = some k → ¬ G k) : w'.ownsRow base e n v m xs := by
  obtain ⟨hl, h0 | ⟨g, cap, cur, rfl, hb, hc, r⟩⟩ := h
  · exact ⟨hl, .inl h0⟩
  · exact ⟨hl, .inr ⟨g, cap, cur, rfl, hb, (hk.block g (Array.getElem?_eq_some_iff.1 hc).1 (hg g rfl)).trans hc, r⟩⟩
theorem keep_grown {w2 w w1 : World} {tb : Nat} {v : Value} {e : TypeId} {n m : Nat} {xs : List Value} (h : Keep (fun x => x = tb) w2 w) (ho : w.ownsRow w2.heap.size e n v m xs) (hg : w.grownBy w1 v.ownBlock) : Keep (fun x => x = tb) w2 w1 := by
  refine ⟨hg.os.trans h.os, hg.tape.trans h.tape, hg.output.trans h.output, Nat.le_trans h.size hg.size, fun k hk hn => ?_⟩
  rw [hg.block k (Nat.lt_of_lt_of_le hk h.size) (fun e1 => ?_)]
  · exact h.block k hk hn
  · have := (ho.lt k e1.symm).1
    omega
theorem isKey_row {w : World} {b : Nat} {T : TypeId} {k : Nat → UInt8} (h : Row w b T #[.int .u8 (k 0).toNat, .int .u8 (k 1).toNat, .int .u8 (k 2).toNat, .int .u8 (k 3).toNat, .int .u8 (k 4).toNat, .int .u8 (k 5).toNat, .int .u8 (k 6).toNat, .int .u8 (k 7).toNat, .int .u8 (k 8).toNat, .int .u8 (k 9).toNat, .int .u8 (k 10).toNat, .int .u8 (k 11).toNat, .int .u8 (k 12).toNat, .int .u8 (k 13).toNat, .int .u8 (k 14).toNat, .int .u8 (k 15).toNat]) : IsKey w b k := by
  intro i hi
  have h16 : i = 0 ∨ i = 1 ∨ i = 2 ∨ i = 3 ∨ i = 4 ∨ i = 5 ∨ i = 6 ∨ i = 7 ∨ i = 8 ∨ i = 9 ∨ i = 10 ∨ i = 11 ∨ i = 12 ∨ i = 13 ∨ i = 14 ∨ i = 15 := by omega
  rw [h.cell i]
  rcases h16 with rfl | rfl | rfl | rfl | rfl | rfl | rfl | rfl | rfl | rfl | rfl | rfl | rfl | rfl | rfl | rfl <;> rfl
theorem Ini.keep {G : Nat → Prop} {w w' : World} (h : Ini w) (hk : Keep G w w') (hg : ¬ G 0) : Ini w' := by
  have hc := fun o => keep_cell hk h.lt hg o
  exact ⟨by have := h.lt; have := hk.size; omega, by rw [hc]; exact h.c0, by rw [hc]; exact h.c1, by rw [hc]; exact h.c2, by rw [hc]; exact h.c3⟩
theorem cells_str (w : World) (N : ByteArray) (T : TypeId) : ∀ (k : Nat) u, [Value.string N][k]? = some u → (w.alloc (.cells #[.string N] T)).cell? ((⟨w.heap.size, 0, none⟩ : Addr).add k) = some u := by
  intro k u hu
  rw [Addr.add_mid]
  match k, hu with
  | 0, hu => obtain rfl := Option.some.inj hu; simp
  | k + 1, hu => simp at hu
theorem cells_clm (w : World) (a b c d : Value) (T : TypeId) : ∀ (k : Nat) u, [a, b, c, d][k]? = some u → (w.alloc (.cells #[a, b, c, d] T)).cell? ((⟨w.heap.size, 0, none⟩ : Addr).add k) = some u := by
  intro k u hu
  rw [Addr.add_mid]
  match k, hu with
  | 0, hu => obtain rfl := Option.some.inj hu; simp
  | 1, hu => obtain rfl := Option.some.inj hu; simp
  | 2, hu => obtain rfl := Option.some.inj hu; simp
  | 3, hu => obtain rfl := Option.some.inj hu; simp
  | k + 4, hu => simp at hu
theorem clm_one (a b c d : Int) : ∀ u ∈ [Value.int .i64 a, .int .i64 b, .int .i64 c, .int .i64 d], u.oneCell' = true := by intro u hu; simp at hu; rcases hu with rfl | rfl | rfl | rfl <;> rfl
theorem infoSt : (Tryd.prog.info? 9).map (fun i => (i.zero, i.size, i.bytes)) = some (some (.string ⟨#[]⟩), 1, 16) := by kernel_rfl
def nmsV (es : List Ent) : List Value := es.map fun e => Value.string e.1
theorem nmsV_step {es : List Ent} {j : Nat} (hj : j < es.length) : nmsV (es.take (j + 1)) = nmsV (es.take j) ++ [.string es[j].1] := by
  rw [List.take_add_one, List.getElem?_eq_getElem hj, Option.toList_some]
  simp only [nmsV, List.map_append, List.map_cons, List.map_nil]
theorem isStrs_ownM {w : World} {base : Nat} {e : TypeId} {a : Option Addr} {m c : Nat} {ns : List ByteArray} (h : w.ownsRow base e 1 (.slice a m c) ns.length (ns.map Value.string)) : m = ns.length ∧ IsStrs w a c ns := by
  obtain ⟨_, ⟨hv, h0⟩ | ⟨g, cap, cur, hv, hb, hg, hcap, _, hcs, htk⟩⟩ := h
  · injection hv with h1 h2 h3
    exact ⟨by omega, .inl (List.eq_nil_of_length_eq_zero h0)⟩
  · injection hv with h1 h2 h3
    have hlt : g < w.heap.size := (Array.getElem?_eq_some_iff.1 hg).1
    subst h1 h2 h3
    refine ⟨rfl, .inr ⟨g, 0, rfl, hlt, hcap, fun j e' he => ?_⟩⟩
    have hj : j < ns.length := by
      rcases Nat.lt_or_ge j ns.length with h | h
      · exact h
      · rw [List.getElem?_eq_none h] at he; cases he
    have q1 : (ns.map Value.string)[j]? = some (.string e') := by rw [List.getElem?_map, he]; rfl
    rw [← htk, List.getElem?_take, if_pos (by omega)] at q1
    rw [Nat.zero_add]
    simp only [World.cell?, hg]
    simpa [Array.getElem?_toList] using q1
end Go.Proofs.YtklfpnnnoaaiaaaDoor

/- maglev.Table: Size, At, Pick, Shares. -/
namespace Go.Proofs.YtklfpnnnoaaiaaaDoor
open Go.RowKit

/-- Every owner is nobody, or a name's place. -/
def OwnOk (n m : Nat) (own : Nat → Int) : Prop := ∀ q, q < m → own q = -1 ∨ (0 ≤ own q ∧ own q < n)
/-- The name at a place. -/
def atN (ns : List ByteArray) (m : Nat) (own : Nat → Int) (p : Int) : ByteArray :=
  if p < 0 ∨ (m : Int) ≤ p then ⟨#[]⟩ else if own p.toNat = -1 then ⟨#[]⟩ else (ns[(own p.toNat).toNat]?).getD ⟨#[]⟩
theorem TableAt.below {w w' : World} {tb m : Nat} {ns : List ByteArray} {own : Nat → Int} (h : TableAt w tb ns m own) (hb : Below w.heap.size w w') : TableAt w' tb ns m own := by
  obtain ⟨a, c, ob, h1, h2, h3, h4, h5, h6⟩ := h
  obtain ⟨b1, b2⟩ := bcell hb
  exact ⟨a, c, ob, by rw [b1 _ _ h5]; exact h1, by rw [b1 _ _ h5]; exact h2, h3.below hb, h4.keep h6 hb, Nat.lt_of_lt_of_le h5 hb.size, Nat.lt_of_lt_of_le h6 hb.size⟩
theorem Assigned.ok {k : Nat → UInt8} {es : List Ent} {m : Nat} {own : Nat → Int} (h : Assigned k es m own) (hp : primeB m = true) (hv : ∀ e ∈ es, okW e = true) : OwnOk es.length m own := by
  intro q _
  rcases h with ⟨_, rfl⟩ | ⟨hne, T, _, rfl⟩
  · exact .inl rfl
  · exact (Par.run_inv (parOf_ok (k := k) hne hp hv).1 T).rng q
/-- How many of the first places an entry has. -/
def shN (own : Nat → Int) (i j : Nat) : Nat := cntF (fun q => decide (own q = (i : Int))) j
theorem shN_step (own : Nat → Int) (i j : Nat) : shN own i (j + 1) = shN own i j + (if own j = (i : Int) then 1 else 0) := by
  unfold shN
  rw [cntF]
  by_cases h : own j = (i : Int) <;> simp [h]
theorem shN_le (own : Nat → Int) (i j : Nat) : shN own i j ≤ j := cntF_le _ _
def shV (n : Nat) (own : Nat → Int) (j : Nat) : List Value := (List.range n).map fun i => .int .i64 (shN own i j : Nat)
theorem shV_at {n : Nat} {own : Nat → Int} {i j : Nat} (h : i < n) : (shV n own j)[i]? = some (.int .i64 (shN own i j : Nat)) := by simp [shV, h]
theorem shV_none {n : Nat} {own : Nat → Int} {j : Nat} (h : own j = -1) : shV n own (j + 1) = shV n own j := by
  unfold shV
  refine List.map_congr_left fun i _ => ?_
  rw [shN_step, if_neg (by omega)]; rfl
theorem shV_put {n : Nat} {own : Nat → Int} {i j : Nat} (h : own j = (i : Int)) : (shV n own j).toArray.setIfInBounds i (.int .i64 ((shN own i j : Nat) + 1)) = (shV n own (j + 1)).toArray := by
  rw [List.setIfInBounds_toArray]
  congr 1
  refine List.ext_getElem? fun q => ?_
  rw [List.getElem?_set]
  by_cases hq : q < n
  · rw [shV_at hq, shV_at hq]
    by_cases e : i = q
    · subst e
      rw [if_pos rfl, if_pos (by simpa [shV] using hq), shN_step, if_pos h]; rfl
    · rw [if_neg e, shN_step, if_neg (by omega)]; rfl
  · have h1 : ∀ j, (shV n own j)[q]? = none := fun j => List.getElem?_eq_none (by simp [shV]; omega)
    rw [h1, h1]
    split
    · rw [if_neg (by simp [shV]; omega)]
    · rfl
theorem shV_zero (n : Nat) (own : Nat → Int) : shV n own 0 = List.replicate n (.int .i64 0) := by
  refine List.ext_getElem? fun q => ?_
  rcases Nat.lt_or_ge q n with h | h
  · rw [shV_at h]; simp [h, shN, cntF]
  · rw [List.getElem?_eq_none (by simpa [shV] using h), List.getElem?_eq_none (by simpa using h)]
end Go.Proofs.YtklfpnnnoaaiaaaDoor

/- stewardlaw01.Cut. -/
namespace Go.Proofs.YtklfpnnnoaaiaaaDoor
open Go.RowKit

theorem extractC (t : ByteArray) (a b : Nat) : t.extract a b = ⟨((t.data.toList.drop a).take (b - a)).toArray⟩ := by
  have h : (t.extract a b).data = t.data.extract a b := ByteArray.data_extract
  have h2 : (t.data.extract a b).toList = (t.data.toList.drop a).take (b - a) := by simp [Array.toList_extract]
  rw [← h2, ← h]
/-- The first bytes. -/
def cutS (s : ByteArray) (n : Nat) : ByteArray := ⟨(s.data.toList.take n).toArray⟩
theorem cutS_all (s : ByteArray) (n : Nat) (h : s.size ≤ n) : cutS s n = s := by
  unfold cutS
  rw [List.take_of_length_le (by rw [← Lib.size_eq]; exact h)]
theorem cutS_size (s : ByteArray) (n : Nat) : (cutS s n).size ≤ n := by
  rw [Lib.size_eq]; simp [cutS]; omega
theorem cutS_data (s : ByteArray) (n : Nat) : (cutS s n).data.toList = s.data.toList.take n := rfl

set_option maxHeartbeats 400000 in
theorem cut11 (s : ByteArray) (n : Nat) (w : World) :
    Calls Tryd.prog 18 #[.string s, .int .i64 n] w fun e w' => e = .returned (.string (cutS s n)) ∧ w = w' := by
  by_cases h : s.size ≤ n
  · rw [cutS_all s n h]
    have h' : (s.size : Int) ≤ n := by omega
    go_enter Tryd.func18, Tryd.ntmps18
    go_wp2_with fail
    go_ret
    exact ⟨rfl, rfl⟩
  · have he : s.extract 0 n = cutS s n := by rw [extractC, List.drop_zero]; rfl
    have h' : (n : Int) < s.size := by omega
    have h2 : (n : Int) ≤ s.size := by omega
    go_enter Tryd.func18, Tryd.ntmps18
    go_wp2_with fail
    go_ret
    exact ⟨rfl, rfl⟩
end Go.Proofs.YtklfpnnnoaaiaaaDoor

/- stewardlaw18: Few and Own; stewardref18.Check (written by genmgo.py). -/
namespace Go.Proofs.YtklfpnnnoaaiaaaDoor
open Go.RowKit

/-- An entry's name, cut, behind an n. -/
def cutE (e : Ent) : Ent := (⟨#[110]⟩ ++ cutS e.1 12, e.2)
def fewE (es : List Ent) (n : Nat) : List Ent := (es.take n).map cutE
theorem fewE_step {es : List Ent} {j : Nat} (hj : j < es.length) : cellsE (fewE es (j + 1)) = cellsE (fewE es j) ++ [.string (⟨#[110]⟩ ++ cutS es[j].1 12), .int .i64 es[j].2] := by
  unfold fewE
  rw [List.take_add_one, List.getElem?_eq_getElem hj, Option.toList_some, List.map_append, cellsE_append]
  rfl
theorem cutE_size (e : Ent) : (cutE e).1.size ≤ 13 := by
  have := cutS_size e.1 12
  show (⟨#[110]⟩ ++ cutS e.1 12 : ByteArray).size ≤ 13
  rw [ByteArray.size_append]
  have : (⟨#[110]⟩ : ByteArray).size = 1 := rfl
  omega
/-- What holds while an entry is appended. -/
structure FeS (w0 : World) (v5 : Value) (j : Nat) (xs : List Value) (N : ByteArray) (V : Int) (L : Nat → Bool) (x : Nat → Value) (w : World) : Prop where
  bel : Below w0.heap.size w0 w
  own : L 15 = false → w.ownsRow w0.heap.size 51 2 v5 j xs
  p14 : L 14 = true → L 15 = false → ∃ b, x 14 = .slice (some ⟨b, 0, none⟩) 1 1 ∧ ∀ (k : Nat) u, [Value.string N, .int .i64 V][k]? = some u → w.cell? ((⟨b, 0, none⟩ : Addr).add k) = some u
  p15 : L 15 = true → L 14 = true ∧ w.ownsRow w0.heap.size 51 2 (x 15) (j + 1) (xs ++ [.string N, .int .i64 V])
theorem FeS.keep {w0 : World} {v5 : Value} {j : Nat} {xs : List Value} {N : ByteArray} {V : Int} {L : Nat → Bool} {x : Nat → Value} {w : World} (h : FeS w0 v5 j xs N V L x w) (i : Nat) (u : Value) (h14 : i ≠ 14) (h15 : i ≠ 15) : FeS w0 v5 j xs N V (setL L i) (updV x i u) w := by
  have e14 : setL L i 14 = L 14 := by simp [setL, Ne.symm h14]
  have e15 : setL L i 15 = L 15 := by simp [setL, Ne.symm h15]
  have x14 : updV x i u 14 = x 14 := by simp [updV, Ne.symm h14]
  have x15 : updV x i u 15 = x 15 := by simp [updV, Ne.symm h15]
  exact ⟨h.bel, by rw [e15]; exact h.own, by rw [e14, e15, x14]; exact h.p14, by rw [e14, e15, x15]; exact h.p15⟩
set_option maxHeartbeats 4000000 in
set_option maxRecDepth 100000 in
theorem few7 (a : Option Addr) (c : Nat) (es : List Ent) (n : Nat) (hn : n ≤ 1000) (hfl : es.length ≤ 9223372036854775807) (w : World) (hf : IsEnts w a c es) :
    Calls Tryd.prog 6 #[.slice a es.length c, .int .i64 (n : Int)] w fun e w' => ∃ u, e = .returned u ∧ w'.ownsRow w.heap.size 51 2 u (fewE es n).length (cellsE (fewE es n)) ∧ Below w.heap.size w w' := by
  obtain ⟨i0, hi, hz0, hz1, hz2⟩ := info_parts infoXEnt
  have HFF := Lib.hid hf
  clear hf
  have hdone : ∀ j, j ≤ n → j ≤ es.length → (¬ j < n ∨ ¬ j < es.length) → fewE es j = fewE es n := fun j h1 h2 h3 => by
    unfold fewE
    rcases h3 with h | h
    · rw [show j = n by omega]
    · rw [List.take_of_length_le (by omega), List.take_of_length_le (by omega)]
  have HDN := Lib.hid hdone
  clear hdone
  go_enter Tryd.func6, Tryd.ntmps6
  go_wp2_with fail
  go_loopw [5, 6] (fun v i wr => ∃ j : Nat, j ≤ n ∧ j ≤ es.length ∧ i = .int .i64 (j : Int) ∧ Hid ((fewE es j).length = j) ∧ Hid (wr.ownsRow w.heap.size 51 2 v j (cellsE (fewE es j))) ∧ Hid (Below w.heap.size w wr)) (fun _ i _ => n - (intOf i).toNat)
  case atStart => exact ⟨0, Nat.zero_le _, Nat.zero_le _, rfl, by simp [Hid, fewE], World.ownsRow_nil _ _ _ _, Below.refl _ _⟩
  case round =>
    obtain ⟨j, hjn, hj, rfl, hlen, ho, hb⟩ := hrel
    by_cases hlt : j < es.length
    · have j1 : (j : Int) < es.length := by omega
      by_cases hnt : j < n
      · have j2 : (j : Int) < n := by omega
        obtain h0 | ⟨bk, o, rfl, hbk, hc, hcell⟩ := HFF.out
        · subst h0; simp at hlt
        obtain ⟨c1, c2⟩ := hcell j es[j] (by simp [hlt])
        have hst := Lib.hid (fewE_step hlt)
        have hln : Hid ((fewE es (j + 1)).length = j + 1) := by show _ = _; unfold fewE; simp; omega
        obtain ⟨f, hfe⟩ : ∃ f, f = es[j] := ⟨_, rfl⟩
        rw [← hfe] at c1 c2 hst
        clear hcell hfe
        have HCX : Hid (∀ W, Calls Tryd.prog 18 #[.string f.1, .int .i64 12] W fun e w' => e = .returned (.string (cutS f.1 12)) ∧ W = w') := fun W => cut11 f.1 12 W
        have hcs := cutS_size f.1 12
        generalize cutS f.1 12 = C at *
        have hcz : ¬ (9223372036854775807 < 1 + C.size) := by omega
        generalize cellsE (fewE es j) = xs at *
        obtain ⟨X, V⟩ := f
        simp only at c1 c2 hst HCX
        go_wp2_with fail
        refine region_mixt 16 [some (u5), some (.slice (some ⟨bk, o, none⟩) es.length c), some (.int .i64 (j : Int)), some (.pointer (some ⟨bk, o + j * 2, none⟩)), some (.pointer (some ⟨bk, o + j * 2, none⟩)), some (.string X), some (.string C), some (.string (⟨#[110]⟩ ++ C)), some (.slice (some ⟨bk, o, none⟩) es.length c), some (.int .i64 (j : Int)), some (.pointer (some ⟨bk, o + j * 2, none⟩)), some (.pointer (some ⟨bk, o + j * 2 + 1, none⟩)), some (.int .i64 V), some (.agg #[.string (⟨#[110]⟩ ++ C), .int .i64 V]), none, none]
          [[false, false, false, false, false, false, false, false, false, false, false, false, false, false, false, false], [false, false, false, false, false, false, false, false, false, false, false, false, false, false, false, false], [false, false, false, false, false, false, false, false, false, false, false, false, false, false, false, false], [false, true, true, false, false, false, false, false, false, false, false, false, false, false, false, false], [false, false, false, true, false, false, false, false, false, false, false, false, false, false, false, false], [false, false, false, false, true, false, false, false, false, false, false, false, false, false, false, false], [false, false, false, false, false, true, false, false, false, false, false, false, false, false, false, false], [false, false, false, false, false, false, true, false, false, false, false, false, false, false, false, false], [false, false, false, false, false, false, false, false, false, false, false, false, false, false, false, false], [false, false, false, false, false, false, false, false, false, false, false, false, false, false, false, false], [false, false, false, false, false, false, false, false, true, true, false, false, false, false, false, false], [false, false, false, false, false, false, false, false, false, false, true, false, false, false, false, false], [false, false, false, false, false, false, false, false, false, false, false, true, false, false, false, false], [false, false, false, false, false, false, false, true, false, false, false, false, true, false, false, false], [false, false, false, false, false, false, false, false, false, false, false, false, false, true, false, false], [true, false, false, false, false, false, true, false, false, false, false, false, false, false, true, false]]
          (fun LL xx w9 => FeS w u5 j xs (⟨#[110]⟩ ++ C) V LL xx w9)
          (by kernel_rfl) (by kernel_rfl) (by kernel_rfl) (by kernel_rfl) (by kernel_rfl) (by decide) ?_ ?_ ?_
        · intro _
          exact ⟨hb.out.drew, fun _ => ho.out.drew, fun h => (by cases h), fun h => (by cases h)⟩
        · simp only [List.take_succ_cons, List.take_zero]
          refine ⟨?_, ?_, ?_, ?_, ?_, ?_, ?_, ?_, ?_, ?_, ?_, ?_, ?_, ?_, ?_, ?_, trivial⟩
          all_goals
            intro L x w9 hS hl hp K hK
            have hs : FeS w u5 j xs (⟨#[110]⟩ ++ C) V L x w9 := hS
            clear hS ho hb
            have r1 : w9.cell? ⟨bk, o + j * 2, none⟩ = some (.string X) := by rw [(bcell hs.bel).1 _ _ hbk]; exact c1
            have r2 : w9.cell? ⟨bk, o + j * 2 + 1, none⟩ = some (.int .i64 V) := by rw [(bcell hs.bel).1 _ _ hbk]; exact c2
            replace hK := hK.out
            simp only [actMix, pickV, List.tail_cons, List.headD_cons, Act.put, List.setIfInBounds_toArray, List.set_cons_zero, List.set_cons_succ] at hK ⊢
          iterate 6
            · clear hp
              go_simp
              with_reducible refine hK _ ?_
              exact hs.keep _ _ (by decide) (by decide)
          · clear hp
            go_simp
            refine (HCX.out _).mono ?_
            rintro e w' ⟨rfl, rfl⟩
            with_reducible refine hK _ ?_
            exact hs.keep _ _ (by decide) (by decide)
          iterate 7
            · clear hp
              go_simp
              with_reducible refine hK _ ?_
              exact hs.keep _ _ (by decide) (by decide)
          · have h15 : L 15 = false := by
              cases h : L 15 with
              | false => rfl
              | true => have := (hs.p15 h).1; rw [hl] at this; cases this
            clear hp
            go_simp
            with_reducible refine hK _ _ ?_
            have hs9 := hs.bel.size
            refine ⟨hs.bel.alloc hs9 _, fun e => (hs.own h15).alloc _, fun _ _ => ⟨w9.heap.size, by simp [updV], cells_ent w9 _ V _⟩, fun h => ?_⟩
            simp [setL, h15] at h
          · have h14 : L 14 = true := allL_mem hp 14 (by decide +kernel)
            obtain ⟨b9, hx9, hc9⟩ := hs.p14 h14 hl
            have ho9 := hs.own hl
            have hs9 := hs.bel.size
            clear hp
            rw [hx9] at hK ⊢
            rw [if_pos (by rfl)]
            refine wp_append_own _ _ _ 22 rfl w.heap.size 51 i0 (.agg #[.string ⟨#[]⟩, .int .i64 0]) 2 24 Tryd.underlying22 hi hz0 hz1 hz2 rfl (by decide) _ _ _ rfl ho9 ⟨b9, 0, none⟩ 1 1 [.string (⟨#[110]⟩ ++ C), .int .i64 V] rfl rfl hc9 (ent_one _ _) (by unfold maxLen; omega) (by omega) hs9 ?_
            intro v' w1 hown1 hgrow _
            have hb1 : Below w.heap.size w w1 := hs.bel.grown hgrow hs9 (fun k hk => (ho9.lt k hk).1)
            simp only [Act.put, List.setIfInBounds_toArray, List.set_cons_zero, List.set_cons_succ]
            with_reducible refine hK _ _ ?_
            refine ⟨hb1, fun h => ?_, fun _ h => ?_, fun _ => ⟨by simp [setL, h14], by simpa [updV] using hown1⟩⟩
            · simp [setL] at h
            · simp [setL] at h
        intro L x w9 hS hL
        have hs : FeS w u5 j xs (⟨#[110]⟩ ++ C) V L x w9 := hS
        have ho9 := (hs.p15 (hL 15 (by decide))).2
        rw [← hst.out] at ho9
        have HO9 := Lib.hid ho9
        have HB9 := Lib.hid hs.bel
        clear hS hL hs ho9 ho hb
        simp only [actMix, pickV, List.tail_cons, List.headD_cons, Act.put, List.setIfInBounds_toArray, List.set_cons_zero, List.set_cons_succ, List.replicate_succ, List.replicate_zero, List.drop_succ_cons, List.drop_zero, List.take_succ_cons, List.take_zero]
        generalize x 15 = v6 at *
        go_wp2_with fail
        go_roundw
        case rel => exact ⟨j + 1, by omega, by omega, by go_num, hln, HO9, HB9⟩
        case measure => simp [intOf]; omega
      · have hd := HDN.out j hjn hj (.inl hnt)
        rw [hd] at ho hlen
        have hle := hlen.out
        have hne : ¬ ((j : Int) < n) := by omega
        go_wp2_with fail
        go_ret
        exact ⟨_, rfl, ho.out, hb.out⟩
    · have hd := HDN.out j hjn hj (.inr hlt)
      rw [hd] at ho hlen
      have hle := hlen.out
      have hne : ¬ ((j : Int) < es.length) := by omega
      go_wp2_with fail
      go_ret
      exact ⟨_, rfl, ho.out, hb.out⟩
end Go.Proofs.YtklfpnnnoaaiaaaDoor

/- stewardref18.Check; maglev.Build's errors; stewardlaw18.awake. -/
namespace Go.Proofs.YtklfpnnnoaaiaaaDoor
open Go.RowKit

theorem strEqM (a b : ByteArray) : (a.toList == b.toList) = decide (a = b) := by
  by_cases h : a = b
  · subst h; simp
  · rw [decide_eq_false h]; exact (Lib.bytes_beq_false_iff a b).2 h
/-- May a table be made? -/
def chkB (es : List Ent) (m : Int) : Bool := isP m && decide (100 * (es.length : Int) ≤ m) && validB es
theorem apart_bad {es : List Ent} {q i : Nat} (hq : q < i) (hi : i < es.length) (h : (es[q]'(by omega)).1 = es[i].1) : validB es = false := by
  unfold validB
  have : ¬ Apart es := fun ha => by
    unfold Apart at ha
    rw [List.pairwise_iff_getElem] at ha
    exact ha q i (by omega) hi hq h
  rw [decide_eq_false this, Bool.and_false]
theorem valid_all {es : List Ent} (h1 : ∀ e ∈ es, okW e = true) (h2 : Apart es) : validB es = true := by
  unfold validB
  rw [List.all_eq_true.2 h1, Bool.true_and, decide_eq_true h2]
theorem apart_next {es : List Ent} {i : Nat} (hi : i < es.length) (h : Apart (es.take i)) (h2 : ∀ e ∈ es.take i, e.1 ≠ es[i].1) : Apart (es.take (i + 1)) := by
  rw [apart_step hi]
  refine ⟨h, List.any_eq_false.2 fun e he => ?_⟩
  simpa using h2 e he
theorem name_step {es : List Ent} {N : ByteArray} {q : Nat} (hq : q < es.length) (h : ∀ e ∈ es.take q, e.1 ≠ N) (h2 : es[q].1 ≠ N) : ∀ e ∈ es.take (q + 1), e.1 ≠ N := by
  intro e he
  rw [List.take_succ_eq_append_getElem hq] at he
  rcases List.mem_append.1 he with h3 | h3
  · exact h e h3
  · obtain rfl : e = es[q] := by simpa using h3
    exact h2
end Go.Proofs.YtklfpnnnoaaiaaaDoor

/- maglev.Table: Walk. -/
namespace Go.Proofs.YtklfpnnnoaaiaaaDoor
open Go.RowKit Go.Maps

def inS (l : List ByteArray) (y : ByteArray) : Bool := l.any fun e => decide (e = y)
/-- The names that have occurred after so many places. -/
def wkS (ns : List ByteArray) (m : Nat) (own : Nat → Int) (st : Nat) : Nat → List ByteArray
  | 0 => []
  | j + 1 => if (wkS ns m own st j).length = ns.length then wkS ns m own st j else if inS (wkS ns m own st j) (atN ns m own (((st + j) % m : Nat) : Int)) then wkS ns m own st j else wkS ns m own st j ++ [atN ns m own (((st + j) % m : Nat) : Int)]
section
variable {ns : List ByteArray} {m : Nat} {own : Nat → Int} {st : Nat}
theorem wkS_le : ∀ j, (wkS ns m own st j).length ≤ ns.length
  | 0 => Nat.zero_le _
  | j + 1 => by
    have := wkS_le j
    unfold wkS
    split
    · exact this
    · split
      · exact this
      · rw [List.length_append, List.length_singleton]; omega
theorem wkS_keep {j : Nat} (h : (wkS ns m own st j).length = ns.length) : wkS ns m own st (j + 1) = wkS ns m own st j := by
  rw [wkS, if_pos h]
theorem wkS_stop {j : Nat} (h : (wkS ns m own st j).length = ns.length) : ∀ d, wkS ns m own st (j + d) = wkS ns m own st j
  | 0 => rfl
  | d + 1 => by
    have ih := wkS_stop h d
    exact (wkS_keep (j := j + d) (by rw [ih]; exact h)).trans ih
theorem wkS_old {j : Nat} (h : (wkS ns m own st j).length ≠ ns.length) (h2 : inS (wkS ns m own st j) (atN ns m own (((st + j) % m : Nat) : Int)) = true) : wkS ns m own st (j + 1) = wkS ns m own st j := by
  rw [wkS, if_neg h, if_pos h2]
theorem wkS_new {j : Nat} (h : (wkS ns m own st j).length ≠ ns.length) (h2 : inS (wkS ns m own st j) (atN ns m own (((st + j) % m : Nat) : Int)) = false) : wkS ns m own st (j + 1) = wkS ns m own st j ++ [atN ns m own (((st + j) % m : Nat) : Int)] := by
  rw [wkS, if_neg h, h2]; rfl
end
theorem atN_size {ns : List ByteArray} {m : Nat} {own : Nat → Int} (h : ∀ n ∈ ns, n.size ≤ 1000) (p : Int) : (atN ns m own p).size ≤ 1000 := by
  unfold atN
  split
  · decide
  · split
    · decide
    · rename_i h1 h2
      cases hh : ns[(own p.toNat).toNat]? with
      | none => decide
      | some n => exact h n (List.mem_of_getElem? hh)
theorem inS_step (l : List ByteArray) (n : ByteArray) : (fun y => inS l y || decide (n = y)) = inS (l ++ [n]) := by
  funext y
  unfold inS
  rw [List.any_append]
  simp
end Go.Proofs.YtklfpnnnoaaiaaaDoor

