/- One act on an agenda and on the reference's list: do, for Pop. -/
import Derived.Test.YtichkfbpmhpnaaaAhDw
namespace Go.Proofs.Ytichkfbpmhpnaaa
open Go.RowKit Go.Maps

section
variable (W : World) (ab n N : Nat) (sets : Int) (C : Value × Int × Int → Prop) (O : Nat → Prop) (L : List It4) (a : Option Addr) (c : Nat) (l : List RI) (A : Int) (nm : ByteArray) (w : World)
set_option maxHeartbeats 1000000 in
set_option maxRecDepth 100000 in
theorem doPopa (kk : Int) (hk0 : kk ≠ 0) (hk1 : kk ≠ 1) (hlt : ∀ x, l[0]? = some x → A < x.2) (hn : n ≤ 800) (ho : OrS pl0S 102 104 MPS W ab n N sets C (OB O a) w) (hr : RelA l n sets C L) (hi : IsRis w a c l) :
    Calls Try.prog 11 #[.pointer (some ⟨ab, 0, none⟩), .slice a l.length c, .agg #[.int .i64 kk, .int .i64 A, .string nm]] w (DoR W ab n N sets O w) := by
  obtain ⟨w1, hw1⟩ : ∃ w1, w.alloc (.cells #[.int .i64 kk, .int .i64 A, .string nm] 30) = w1 := ⟨_, rfl⟩
  obtain ⟨b5, hb5⟩ : ∃ b5, w.heap.size = b5 := ⟨_, rfl⟩
  have hrow : Row w1 b5 30 #[.int .i64 kk, .int .i64 A, .string nm] := by rw [← hw1, ← hb5]; exact Row.new _ _ _
  have hbl : Below w.heap.size w w1 := by rw [← hw1]; exact below_alloc _ _
  have ho1 : OrS pl0S 102 104 MPS W ab n N sets C (fun k => OB O a k ∨ k = b5) w1 := ho.belowO hbl (fun k hk => by
    rcases hk with hk | hk
    · exact ⟨Nat.lt_of_lt_of_le (ho.oth k hk) hbl.size, .inl hk⟩
    · rw [hk]; exact ⟨hrow.lt, .inr (Nat.le_of_eq hb5)⟩)
  have HO1 := Lib.hid ho1
  have HRW := Lib.hid hrow
  have HBL := Lib.hid hbl
  have HI1 := Lib.hid (hi.below hbl)
  have HR := Lib.hid hr
  have hll : l.length ≤ 1100 := by rw [hr.lenl]; omega
  have x0 : w1.cell? ⟨b5, 0, none⟩ = some (.int .i64 kk) := hrow.cell 0
  have x1 : w1.cell? ⟨b5, 1, none⟩ = some (.int .i64 A) := hrow.cell 1
  have x2 : w1.cell? ⟨b5, 2, none⟩ = some (.string nm) := hrow.cell 2
  have k0 : (kk == 0) = false := beq_eq_false_iff_ne.2 hk0
  have k1 : (kk == 1) = false := beq_eq_false_iff_ne.2 hk1
  clear hk0 hk1 ho hi hr ho1 hrow hbl
  go_enter Try.func11, Try.ntmps11
  go_wp2_with fail
  refine (cut11 nm 8 _).mono ?_
  rintro e w9 ⟨rfl, rfl⟩
  generalize cutS nm 8 = s
  have HDS := Lib.hid (dpopa W ab n N sets C (fun k => OB O a k ∨ k = b5) L l w1 hn A HO1.out HR.out hlt)
  have HST := Lib.hid (rpop20a a c l hll A w1 HI1.out hlt)
  clear hlt
  go_wp2_with fail
  refine HDS.out.mono ?_
  rintro e w9 ⟨rfl, rfl⟩
  clear HDS
  go_wp2_with fail
  refine HST.out.mono ?_
  rintro e w3 ⟨rfl, hb3⟩
  have HB3 := Lib.hid hb3
  have HRN := Lib.hid (Row.new w3 94 #[.string ⟨#[]⟩, .int .i64 0])
  have HB4 := Lib.hid (below_alloc w3 (.cells #[.string ⟨#[]⟩, .int .i64 0] 94))
  clear hb3 HST
  go_wp2_with fail
  go_ret2
  refine ⟨a, c, l, n, sets, C, L, rfl, by omega, Int.le_refl _, by omega, ((HO1.out.belowO (HB3.out.trans (HB4.out.mono HB3.out.size)) (fun k hk => ⟨Nat.lt_of_lt_of_le (HO1.out.oth k (.inl hk)) (Nat.le_trans HB3.out.size HB4.out.size), .inl (.inl hk)⟩)).moreN (Nat.le_succ N)), HR.out, (HI1.out.below HB3.out).below HB4.out, ((Keep.of_below HBL.out).trans (Keep.of_below HB3.out)).trans (Keep.of_below HB4.out)⟩
set_option maxHeartbeats 1000000 in
set_option maxRecDepth 100000 in
theorem doPopb (kk : Int) (hk0 : kk ≠ 0) (hk1 : kk ≠ 1) (x : RI) (hlt : x.2 ≤ A) (hn : n ≤ 800) (ho : OrS pl0S 102 104 MPS W ab n N sets C (OB O a) w) (hr : RelA (x :: l) n sets C L) (hi : IsRis w a c (x :: l)) :
    Calls Try.prog 11 #[.pointer (some ⟨ab, 0, none⟩), .slice a (l.length + 1) c, .agg #[.int .i64 kk, .int .i64 A, .string nm]] w (DoR W ab n N sets O w) := by
  obtain ⟨w1, hw1⟩ : ∃ w1, w.alloc (.cells #[.int .i64 kk, .int .i64 A, .string nm] 30) = w1 := ⟨_, rfl⟩
  obtain ⟨b5, hb5⟩ : ∃ b5, w.heap.size = b5 := ⟨_, rfl⟩
  have hrow : Row w1 b5 30 #[.int .i64 kk, .int .i64 A, .string nm] := by rw [← hw1, ← hb5]; exact Row.new _ _ _
  have hbl : Below w.heap.size w w1 := by rw [← hw1]; exact below_alloc _ _
  have ho1 : OrS pl0S 102 104 MPS W ab n N sets C (fun k => OB O a k ∨ k = b5) w1 := ho.belowO hbl (fun k hk => by
    rcases hk with hk | hk
    · exact ⟨Nat.lt_of_lt_of_le (ho.oth k hk) hbl.size, .inl hk⟩
    · rw [hk]; exact ⟨hrow.lt, .inr (Nat.le_of_eq hb5)⟩)
  have HO1 := Lib.hid ho1
  have HRW := Lib.hid hrow
  have HBL := Lib.hid hbl
  have HI1 := Lib.hid (hi.below hbl)
  have HR := Lib.hid hr
  have hll : l.length ≤ 1100 := by have := hr.lenl; simp at this; omega
  have x0 : w1.cell? ⟨b5, 0, none⟩ = some (.int .i64 kk) := hrow.cell 0
  have x1 : w1.cell? ⟨b5, 1, none⟩ = some (.int .i64 A) := hrow.cell 1
  have x2 : w1.cell? ⟨b5, 2, none⟩ = some (.string nm) := hrow.cell 2
  have k0 : (kk == 0) = false := beq_eq_false_iff_ne.2 hk0
  have k1 : (kk == 1) = false := beq_eq_false_iff_ne.2 hk1
  clear hk0 hk1 ho hi hr ho1 hrow hbl
  go_enter Try.func11, Try.ntmps11
  go_wp2_with fail
  refine (cut11 nm 8 _).mono ?_
  rintro e w9 ⟨rfl, rfl⟩
  generalize cutS nm 8 = s
  have HDS := Lib.hid (dpopb W ab n N sets C (fun k => OB O a k ∨ k = b5) L l w1 hn A x HO1.out HR.out hlt)
  have HLT := Lib.hid hlt
  clear hlt
  go_wp2_with fail
  refine HDS.out.mono ?_
  rintro e w2 ⟨rfl, n', C', L', hn', ho2, hr2, hk2⟩
  have y1 : w2.cell? ⟨b5, 1, none⟩ = some (.int .i64 A) := (HRW.out.keep hk2 (fun h => h (.inr rfl))).cell 1
  have HST := Lib.hid (rpop20b a c x l hll A w2 (HI1.out.keep hk2 (fun p hp h => h (.inl (.inr ⟨p, hp, rfl⟩)))) HLT.out)
  have HO2 := Lib.hid ho2
  have HR2 := Lib.hid hr2
  have HK2 := Lib.hid hk2
  have HN2 := Lib.hid hn'
  clear ho2 hr2 hk2 hn' HDS x0 x1 x2
  obtain ⟨kx, ax⟩ := x
  go_wp2_with fail
  refine HST.out.mono ?_
  rintro e w3 ⟨a', c', rfl, hris, hblk, hb3⟩
  have HOW := Lib.hid hris
  have HBK := Lib.hid hblk
  have HB3 := Lib.hid hb3
  have HRN := Lib.hid (Row.new w3 94 #[.string kx, .int .i64 ax])
  have HB4 := Lib.hid (below_alloc w3 (.cells #[.string kx, .int .i64 ax] 94))
  clear hb3 hris hblk HST
  go_wp2_with fail
  go_ret2
  have hsub : ∀ k, OB O a' k → OB O a k := fun k hk => by
    rcases hk with hk | ⟨p, hp, rfl⟩
    · exact .inl hk
    · obtain ⟨q, hq, e⟩ := HBK.out p hp
      exact .inr ⟨q, hq, e.symm⟩
  refine ⟨a', c', l, n', sets, C', L', by simp, by have := HN2.out; omega, Int.le_refl _, by omega, ((HO2.out.belowO (HB3.out.trans (HB4.out.mono HB3.out.size)) (fun k hk => ⟨Nat.lt_of_lt_of_le (HO2.out.oth k (.inl (hsub k hk))) (Nat.le_trans HB3.out.size HB4.out.size), .inl (.inl (hsub k hk))⟩)).moreN (Nat.le_succ N)), HR2.out, HOW.out.below HB4.out, (((Keep.of_below HBL.out).trans (HK2.out.more (fun k _ h h2 => h (.inl (.inl h2))))).trans (Keep.of_below HB3.out)).trans (Keep.of_below HB4.out)⟩
end
end Go.Proofs.Ytichkfbpmhpnaaa
