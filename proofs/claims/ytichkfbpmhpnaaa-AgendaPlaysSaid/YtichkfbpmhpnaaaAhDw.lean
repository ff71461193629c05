/- One act on an agenda and on the reference's list: do, for Set and Drop. -/
import Derived.Test.YtichkfbpmhpnaaaAhD
namespace Go.Proofs.Ytichkfbpmhpnaaa
open Go.RowKit Go.Maps

/-- Blocks of others, and the list's. -/
def OB (O : Nat → Prop) (a : Option Addr) : Nat → Prop := fun k => O k ∨ ∃ p, a = some p ∧ p.block = k
/-- What an act leaves. -/
def DoR (W : World) (ab n N : Nat) (sets : Int) (O : Nat → Prop) (w : World) (e : Ending) (w' : World) : Prop :=
  ∃ a' c' l' n' sets' C' L', e = .returned (.tuple #[.slice a' (List.length l') c', .bool true]) ∧ n' ≤ n + 1 ∧ sets ≤ sets' ∧ sets' ≤ sets + 1 ∧ OrS pl0S 102 104 MPS W ab n' (N + 1) sets' C' (OB O a') w' ∧ RelA l' n' sets' C' L' ∧ IsRis w' a' c' l' ∧ Keep (fun k => ¬ O k) w w'
theorem OrS.moreN {κ : Type} {K : KTy κ} {pl : Pl} {PT IT : TypeId} {M : MTyK K (Option Nat)} {W w : World} {ab n N : Nat} {sets : Int} {C : Value × Int × Int → Prop} {O : Nat → Prop} (h : OrS pl PT IT M W ab n N sets C O w) {N' : Nat} (hN : N ≤ N') : OrS pl PT IT M W ab n N' sets C O w := by
  obtain ⟨⟨v, mp, Q, F, S, h1, h2, h3⟩, h4, h5⟩ := h
  refine ⟨⟨v, mp, Q, F, S, ?_, h2, h3⟩, h4, h5⟩
  obtain ⟨g1, g2, g3, g4, g5, g6⟩ := h1
  refine ⟨g1, g2, ?_, g4, g5, g6⟩
  rcases g3 with g3 | ⟨mb, e, hs, g3⟩
  · exact .inl g3
  · exact .inr ⟨mb, e, hs, g3.mono hN⟩
section
variable (W : World) (ab n N : Nat) (sets : Int) (C : Value × Int × Int → Prop) (O : Nat → Prop) (L : List It4) (a : Option Addr) (c : Nat) (l : List RI) (A : Int) (nm : ByteArray) (w : World)
set_option maxHeartbeats 1000000 in
set_option maxRecDepth 100000 in
theorem doSet (hn : n ≤ 800) (hN : N ≤ 99999) (hs0 : 0 ≤ sets) (hs1 : sets ≤ 999999) (ho : OrS pl0S 102 104 MPS W ab n N sets C (OB O a) w) (hr : RelA l n sets C L) (hi : IsRis w a c l) :
    Calls Try.prog 11 #[.pointer (some ⟨ab, 0, none⟩), .slice a l.length c, .agg #[.int .i64 0, .int .i64 A, .string nm]] w (DoR W ab n N sets O w) := by
  obtain ⟨w1, hw1⟩ : ∃ w1, w.alloc (.cells #[.int .i64 0, .int .i64 A, .string nm] 30) = w1 := ⟨_, rfl⟩
  obtain ⟨b5, hb5⟩ : ∃ b5, w.heap.size = b5 := ⟨_, rfl⟩
  have hrow : Row w1 b5 30 #[.int .i64 0, .int .i64 A, .string nm] := by rw [← hw1, ← hb5]; exact Row.new _ _ _
  have hbl : Below w.heap.size w w1 := by rw [← hw1]; exact below_alloc _ _
  have ho1 : OrS pl0S 102 104 MPS W ab n N sets C (fun k => OB O a k ∨ k = b5) w1 := ho.belowO hbl (fun k hk => by
    rcases hk with hk | hk
    · exact ⟨Nat.lt_of_lt_of_le (ho.oth k hk) hbl.size, .inl hk⟩
    · rw [hk]; exact ⟨hrow.lt, .inr (Nat.le_of_eq hb5)⟩)
  have HO1 := Lib.hid ho1
  have HRW := Lib.hid hrow
  have HBL := Lib.hid hbl
  have HI1 := Lib.hid (hi.below hbl)
  have HR := Lib.hid hr
  have hll : l.length ≤ 1100 := by rw [hr.lenl]; omega
  have x0 : w1.cell? ⟨b5, 0, none⟩ = some (.int .i64 0) := hrow.cell 0
  have x1 : w1.cell? ⟨b5, 1, none⟩ = some (.int .i64 A) := hrow.cell 1
  have x2 : w1.cell? ⟨b5, 2, none⟩ = some (.string nm) := hrow.cell 2
  clear ho hi hr ho1 hrow hbl
  go_enter Try.func11, Try.ntmps11
  go_wp2_with fail
  refine (cut11 nm 8 _).mono ?_
  rintro e w9 ⟨rfl, rfl⟩
  have hok := cut8_ok nm
  generalize cutS nm 8 = s at hok ⊢
  have HDS := Lib.hid (dset W ab n N sets C (fun k => OB O a k ∨ k = b5) L l s A w1 hn hN hs0 hs1 hok HO1.out HR.out)
  clear hok
  go_wp2_with fail
  refine HDS.out.mono ?_
  rintro e w2 ⟨rfl, n', C', L', hn', ho2, hr2, hk2⟩
  have y1 : w2.cell? ⟨b5, 1, none⟩ = some (.int .i64 A) := (HRW.out.keep hk2 (fun h => h (.inr rfl))).cell 1
  have HST := Lib.hid (rset20 a c l hll s A w2 (HI1.out.keep hk2 (fun p hp h => h (.inl (.inr ⟨p, hp, rfl⟩)))))
  have HO2 := Lib.hid ho2
  have HR2 := Lib.hid hr2
  have HK2 := Lib.hid hk2
  have HN2 := Lib.hid hn'
  clear ho2 hr2 hk2 hn' HDS x0 x1 x2
  go_wp2_with fail
  refine HST.out.mono ?_
  rintro e w3 ⟨v, rfl, hown, hb3⟩
  obtain ⟨a', c', rfl, hris, hblk⟩ := isRis_own hown
  have HOW := Lib.hid hris
  have HBK := Lib.hid hblk
  have HB3 := Lib.hid hb3
  clear hown hb3 hris hblk HST
  go_wp2_with fail
  go_ret2
  refine ⟨a', c', setR l s A, n', sets + 1, C', L', rfl, HN2.out, by omega, Int.le_refl _, HO2.out.belowO HB3.out (fun k hk => ?_), HR2.out, HOW.out, ((Keep.of_below HBL.out).trans (HK2.out.more (fun k _ h h2 => h (.inl (.inl h2))))).trans (Keep.of_below HB3.out)⟩
  rcases hk with hk | ⟨p, hp, rfl⟩
  · exact ⟨Nat.lt_of_lt_of_le (HO2.out.oth k (.inl (.inl hk))) HB3.out.size, .inl (.inl (.inl hk))⟩
  · exact ⟨HOW.out.blk p hp, .inr (HBK.out p hp)⟩
set_option maxHeartbeats 1000000 in
set_option maxRecDepth 100000 in
theorem doDrop (hn : n ≤ 800) (ho : OrS pl0S 102 104 MPS W ab n N sets C (OB O a) w) (hr : RelA l n sets C L) (hi : IsRis w a c l) :
    Calls Try.prog 11 #[.pointer (some ⟨ab, 0, none⟩), .slice a l.length c, .agg #[.int .i64 1, .int .i64 A, .string nm]] w (DoR W ab n N sets O w) := by
  obtain ⟨w1, hw1⟩ : ∃ w1, w.alloc (.cells #[.int .i64 1, .int .i64 A, .string nm] 30) = w1 := ⟨_, rfl⟩
  obtain ⟨b5, hb5⟩ : ∃ b5, w.heap.size = b5 := ⟨_, rfl⟩
  have hrow : Row w1 b5 30 #[.int .i64 1, .int .i64 A, .string nm] := by rw [← hw1, ← hb5]; exact Row.new _ _ _
  have hbl : Below w.heap.size w w1 := by rw [← hw1]; exact below_alloc _ _
  have ho1 : OrS pl0S 102 104 MPS W ab n N sets C (fun k => OB O a k ∨ k = b5) w1 := ho.belowO hbl (fun k hk => by
    rcases hk with hk | hk
    · exact ⟨Nat.lt_of_lt_of_le (ho.oth k hk) hbl.size, .inl hk⟩
    · rw [hk]; exact ⟨hrow.lt, .inr (Nat.le_of_eq hb5)⟩)
  have HO1 := Lib.hid ho1
  have HRW := Lib.hid hrow
  have HBL := Lib.hid hbl
  have HI1 := Lib.hid (hi.below hbl)
  have HR := Lib.hid hr
  have hll : l.length ≤ 1100 := by rw [hr.lenl]; omega
  have x0 : w1.cell? ⟨b5, 0, none⟩ = some (.int .i64 1) := hrow.cell 0
  have x1 : w1.cell? ⟨b5, 1, none⟩ = some (.int .i64 A) := hrow.cell 1
  have x2 : w1.cell? ⟨b5, 2, none⟩ = some (.string nm) := hrow.cell 2
  clear ho hi hr ho1 hrow hbl
  go_enter Try.func11, Try.ntmps11
  go_wp2_with fail
  refine (cut11 nm 8 _).mono ?_
  rintro e w9 ⟨rfl, rfl⟩
  have hok := cut8_ok nm
  generalize cutS nm 8 = s at hok ⊢
  have HST := Lib.hid (rdrop20 a c l hll s w1 HI1.out)
  go_wp2_with fail
  refine HST.out.mono ?_
  rintro e w2 ⟨v, rfl, hown, hb2⟩
  obtain ⟨a', c', rfl, hris, hblk⟩ := isRis_own hown
  have ho2 : OrS pl0S 102 104 MPS W ab n N sets C (OB O a') w2 := HO1.out.belowO hb2 (fun k hk => by
    rcases hk with hk | ⟨p, hp, rfl⟩
    · exact ⟨Nat.lt_of_lt_of_le (HO1.out.oth k (.inl (.inl hk))) hb2.size, .inl (.inl (.inl hk))⟩
    · exact ⟨hris.blk p hp, .inr (hblk p hp)⟩)
  have HDS := Lib.hid (ddrop W ab n N sets C (OB O a') L l s w2 hn hok ho2 HR.out)
  have HOW := Lib.hid hris
  have HB2 := Lib.hid hb2
  clear hown hb2 hris hblk HST ho2 hok x0 x1 x2
  go_wp2_with fail
  refine HDS.out.mono ?_
  rintro e w3 ⟨rfl, n', C', L', hn', ho3, hr3, hk3⟩
  have HO3 := Lib.hid ho3
  have HR3 := Lib.hid hr3
  have HK3 := Lib.hid hk3
  have HN3 := Lib.hid hn'
  clear ho3 hr3 hk3 hn' HDS
  obtain ⟨bb, hbb⟩ : ∃ bb, decide ((dropR l s).length < l.length) = bb := ⟨_, rfl⟩
  rw [hbb]
  go_wp2_with fail
  go_ret2
  refine ⟨a', c', dropR l s, n', sets, C', L', by simp, by have := HN3.out; omega, Int.le_refl _, by omega, HO3.out.moreN (Nat.le_succ N), HR3.out, HOW.out.keep HK3.out (fun p hp h => h (.inr ⟨p, hp, rfl⟩)), ((Keep.of_below HBL.out).trans (Keep.of_below HB2.out)).trans (HK3.out.more (fun k _ h h2 => h (.inl h2)))⟩
end
end Go.Proofs.Ytichkfbpmhpnaaa
