/- Packed: IntsO, Prt. -/
import Derived.WideKeyArr2
import Derived.ChangeSlices
import Derived.Deep.MidRow
import Derived.WideKeyArgs
import Derived.DataReads
import Derived.IntWalk
import Derived.Test.YtmcbaheaocfdnaaGreatDoorQ00
import Derived.Test.YtmcbaheaocfdnaaGreatDoorQ05
import Derived.Test.YtmcbaheaocfdnaaGreatDoorQ09
/- A slice of integers that is handed in. -/
namespace Go.Proofs.YtmcbaheaocfdnaaGreatDoor
open Go.ChangeShapes Go.WideShapes Go.ChangeAt Go.RowKit

/-- A slice of integers. -/
def IsInts (w : World) (a : Option Addr) (c : Nat) (xs : List Int) : Prop :=
  xs = [] ∨ ∃ bk o, a = some ⟨bk, o, none⟩ ∧ bk < w.heap.size ∧ xs.length ≤ c ∧ ∀ (j : Nat) x, xs[j]? = some x → w.cell? ⟨bk, o + j, none⟩ = some (.int .i64 x)
theorem IsInts.below {w w' : World} {a : Option Addr} {c : Nat} {xs : List Int} (h : IsInts w a c xs) (hb : Below w.heap.size w w') : IsInts w' a c xs := by
  rcases h with h | ⟨bk, o, ha, hbk, hl, hc⟩
  · exact .inl h
  · exact .inr ⟨bk, o, ha, Nat.lt_of_lt_of_le hbk hb.size, hl, fun j x hx => by rw [(bcell hb).1 _ _ hbk]; exact hc j x hx⟩
theorem ints_open {H : Type} {enc : TypeId × Value → H} {P : Program} {t e : TypeId} {W : World} {base : Nat} {held : Bool} (ht : P.underlying t = some (.slice e)) (he : P.underlying e = some (.int .i64)) (hc : P.cellsOf e = 1)
    {r : Reach} {b0 : Nat} {v : Value} {d : DataW H} {ps : List MemPlace} (hval : Value.okWide P W r b0 t v) (hd : DataW.Trod enc P W base (fun _ => true) held t v d ps) :
    ∃ a c xs, v = .slice a xs.length c ∧ IsInts W a c xs ∧ xs.length ≤ maxLen := by
  obtain ⟨a, l, c, rfl⟩ := okWide_slice ht hval
  obtain ⟨fuel, hf⟩ := hd
  rcases open_ints ht he hc hf with ⟨hcs, _⟩ | ⟨a', l', c', ss, hcs, _, hl, hm, hz, _, hcell, _⟩
  · simp [Value.cells] at hcs
    obtain ⟨rfl, rfl, rfl⟩ := hcs
    exact ⟨none, 0, [], rfl, .inl rfl, by simp⟩
  · simp [Value.cells] at hcs
    obtain ⟨rfl, rfl, rfl⟩ := hcs
    simp only [if_true] at hz
    have hlen : (ss.take l).length = l := by simp; omega
    refine ⟨some a', c, ss.take l, by rw [hlen], ?_, by rw [hlen]; omega⟩
    by_cases h0 : l = 0
    · left; rw [h0]; rfl
    · right
      have c0 := hcell 0 (by omega)
      have hs0 := World.cell?_spot c0
      have ha0 : a'.add 0 = a' := by simp [Addr.add]
      rw [ha0] at hs0 c0
      obtain ⟨bk, o, sp⟩ := a'
      simp only at hs0
      subst hs0
      refine ⟨bk, o, rfl, World.block_lt_of_cell? W _ c0, by rw [hlen]; exact hl, fun j x hx => ?_⟩
      have hj : j < l := by
        rcases Nat.lt_or_ge j l with h | h
        · exact h
        · rw [List.getElem?_eq_none (by omega)] at hx; cases hx
      have hcj := hcell j (by omega)
      rw [Addr.add_mid] at hcj
      rw [hcj]
      rw [List.getElem?_take, if_pos hj] at hx
      simp [List.getD, hx]
end Go.Proofs.YtmcbaheaocfdnaaGreatDoor

/- stewardlaw09.Parts; a slice of strings beside a call that keeps it. -/
namespace Go.Proofs.YtmcbaheaocfdnaaGreatDoor
open Go.RowKit

def bytesOf (xs : List ByteArray) : List (List UInt8) := xs.map fun x => x.data.toList
theorem and31 (x : Int) : ∃ k : Nat, k ≤ 31 ∧ bits .and .i64 x 31 = (k : Int) := by
  have h : (BitVec.ofInt 64 x &&& BitVec.ofInt 64 31).toNat ≤ 31 := by
    rw [BitVec.toNat_and]
    exact Nat.le_trans Nat.and_le_right (by decide)
  refine ⟨(BitVec.ofInt 64 x &&& BitVec.ofInt 64 31).toNat, h, ?_⟩
  show IntKind.i64.wrap (((BitVec.ofInt 64 x &&& BitVec.ofInt 64 31).toNat : Nat) : Int) = _
  exact IntWalk.i64_in _ (by omega)
theorem min31 (x : Int) (m : Nat) : ∃ n : Nat, n ≤ m ∧ min (m : Int) (bits .and .i64 x 31) = (n : Int) := by
  obtain ⟨k, _, hk⟩ := and31 x
  rw [hk]
  exact ⟨min m k, Nat.min_le_left _ _, by omega⟩
theorem parts_step {S : List UInt8} {ps : List ByteArray} {s : ByteArray} {n : Nat} (h : (bytesOf ps).flatten ++ s.data.toList = S) : (bytesOf (ps ++ [s.extract 0 n])).flatten ++ (s.extract n s.size).data.toList = S := by
  rw [← h]
  unfold bytesOf
  rw [List.map_append, List.flatten_append, List.append_assoc]
  congr 1
  simp only [List.map_cons, List.map_nil, List.flatten_cons, List.flatten_nil, List.append_nil]
  rw [extractL, extractL, List.drop_zero, Nat.sub_zero, List.take_of_length_le (l := s.data.toList.drop n) (by rw [List.length_drop, ← Lib.size_eq]; exact Nat.le_refl _), List.take_append_drop]
theorem strs_snoc (ps : List ByteArray) (y : ByteArray) : ps.map Value.string ++ [.string y] = (ps ++ [y]).map Value.string := by simp
def PartsPost (w : World) (s : ByteArray) (e : Ending) (w' : World) : Prop :=
  ∃ a c ps, e = .returned (.slice a ps.length c) ∧ IsStrs w' a c ps ∧ (bytesOf ps).flatten = s.data.toList ∧ ps.length ≤ 13 ∧ (∀ ad, a = some ad → w.heap.size ≤ ad.block ∧ ad.block < w'.heap.size) ∧ Below w.heap.size w w'
set_option maxRecDepth 100000 in
set_option maxHeartbeats 2000000 in
theorem parts9 (S : ByteArray) (hS : S.size ≤ 1000000000) (a : Option Addr) (c : Nat) (xs : List Int) (hlen : xs.length ≤ 9223372036854775807) (w : World) (h : IsInts w a c xs) :
    Calls Tryz.prog 8 #[.string S, .slice a xs.length c] w (PartsPost w S) := by
  obtain ⟨i0, hi, hz0, hz1, hz2⟩ := info_parts info9
  have HX := Lib.hid h
  clear h
  go_enter Tryz.func8, Tryz.ntmps8
  go_wp2_with fail
  go_loopw [0, 5, 6] (fun sv v i wr => ∃ (j : Nat) (s : ByteArray) (ps : List ByteArray), j ≤ xs.length ∧ j ≤ 12 ∧ sv = .string s ∧ i = .int .i64 (j : Int) ∧ Hid (ps.length = j) ∧ Hid ((bytesOf ps).flatten ++ s.data.toList = S.data.toList) ∧ wr.ownsRow w.heap.size 9 1 v j (ps.map Value.string) ∧ Below w.heap.size w wr)
    (fun _ _ i _ => 12 - (intOf i).toNat)
  case atStart => exact ⟨0, S, [], by omega, by omega, rfl, rfl, rfl, rfl, World.ownsRow_nil _ _ _ _, Below.refl _ _⟩
  case round =>
    obtain ⟨j, s, ps, hj1, hj2, rfl, rfl, hpl, hfl, hown, hb⟩ := hrel
    have hx' := HX.out.below hb
    have hsz : s.size ≤ 1000000000 := by
      have := congrArg List.length hfl.out
      rw [List.length_append, ← Lib.size_eq, ← Lib.size_eq] at this
      omega
    by_cases hlt : j < xs.length ∧ j < 12
    · obtain ⟨hlt, hlt2⟩ := hlt
      obtain h0 | ⟨bk, o, rfl, hbk, hc, hcell⟩ := hx'
      · subst h0; simp at hlt
      have cj := hcell j xs[j] (by simp [hlt])
      obtain ⟨n, hn, hmin⟩ := min31 xs[j] s.size
      have HFL := Lib.hid (parts_step (n := n) hfl.out)
      clear hcell
      generalize xs[j] = x at *
      have j1 : (j : Int) < xs.length := by omega
      have j2 : (j : Int) < 12 := by omega
      have hsz := hb.size
      obtain ⟨y, hy⟩ : ∃ y, y = s.extract 0 n := ⟨_, rfl⟩
      have HY := Lib.hid hy
      have hyz : s.extract 0 n = y := hy.symm
      rw [hyz] at HFL
      obtain ⟨z, hz⟩ : ∃ z, z = s.extract n s.size := ⟨_, rfl⟩
      have hzz : s.extract n s.size = z := hz.symm
      rw [hzz] at HFL
      have hpl1 : Hid ((ps ++ [y]).length = j + 1) := by show _ = _; rw [List.length_append, hpl.out]; rfl
      clear hy hz
      go_wp2_with (at_builtin; refine wpList_append_own _ rfl _ _ 30 rfl w.heap.size 9 i0 (.string ⟨#[]⟩) 1 16 Tryz.underlying30 hi hz0 hz1 hz2 rfl (by decide) _ _ _ rfl (hown.alloc _) ⟨wr.heap.size, 0, none⟩ 1 1 [.string y] rfl rfl ?c1 ?c2 ?c3 ?c4 ?c5 ?_)
      case c1 => intro i u hu; match i, hu with
        | 0, hu => obtain rfl : Value.string y = u := Option.some.inj hu; rw [Addr.add_mid]; simp
        | i + 1, hu => simp at hu
      case c2 => intro u hu; simp at hu; subst hu; rfl
      case c3 => unfold maxLen; omega
      case c4 => omega
      case c5 => simp; omega
      intro v' w1 hown' hgrow _
      rw [strs_snoc] at hown'
      have hb1 : Below w.heap.size w w1 := by
        refine (hb.alloc hsz (.cells #[.string y] 9)).grown hgrow (by simp; omega) (fun k hk => (hown.lt k hk).1)
      clear hown hgrow
      go_wp2_with fail
      go_roundw
      case rel => exact ⟨j + 1, z, ps ++ [y], by omega, by omega, rfl, by go_num, hpl1, HFL, hown', hb1⟩
      case measure => simp [intOf]; omega
    · obtain ⟨y, hy⟩ : ∃ y, y = s := ⟨_, rfl⟩
      have hsz := hb.size
      have hpl1 : Hid ((ps ++ [s]).length = j + 1) := by show _ = _; rw [List.length_append, hpl.out]; rfl
      have HFL : Hid ((bytesOf (ps ++ [s])).flatten = S.data.toList) := by
        show _ = _
        rw [← hfl.out]
        unfold bytesOf
        simp
      have END : ∀ v' w1, w1.ownsRow w.heap.size 9 1 v' (j + 1) (ps.map Value.string ++ [.string s]) → Below w.heap.size w w1 → PartsPost w S (.returned v') w1 := by
        intro v' w1 ho hb1
        rw [strs_snoc] at ho
        obtain ⟨va, vc, rfl⟩ := own_slice ho
        have hi := isStrs_of_row ho hpl1.out
        refine ⟨va, vc, ps ++ [s], by rw [hpl1.out], hi, HFL.out, by rw [hpl1.out]; omega, ?_, hb1⟩
        intro ad had
        obtain ⟨_, ⟨h1, _⟩ | ⟨gg, cap, cur, h1, hB, hh, _⟩⟩ := ho
        · rw [had] at h1; cases h1
        · rw [had] at h1
          injection h1 with h2
          injection h2 with h2
          subst h2
          exact ⟨hB, (Array.getElem?_eq_some_iff.1 hh).1⟩
      have HEND := Lib.hid END
      clear END hx' hy hpl1
      by_cases h1 : j < xs.length
      · have j1 : (j : Int) < xs.length := by omega
        have j2 : ¬ (j : Int) < 12 := by omega
        go_wp2_with (at_builtin; refine wpList_append_own _ rfl _ _ 30 rfl w.heap.size 9 i0 (.string ⟨#[]⟩) 1 16 Tryz.underlying30 hi hz0 hz1 hz2 rfl (by decide) _ _ _ rfl (hown.alloc _) ⟨wr.heap.size, 0, none⟩ 1 1 [.string s] rfl rfl ?d1 ?d2 ?d3 ?d4 ?d5 ?_)
        case d2 => rfl
        case d3 => unfold maxLen; omega
        case d4 => omega
        case d5 => first | omega | (simp; omega)
        intro v' w1 hown' hgrow _
        have hb1 : Below w.heap.size w w1 := by
          refine (hb.alloc hsz (.cells #[.string s] 9)).grown hgrow (by simp; omega) (fun k hk => (hown.lt k hk).1)
        have FIN := Lib.hid (HEND.out v' w1 hown' hb1)
        clear hown hgrow hown' HEND
        go_wp2_with fail
        go_ret
        exact FIN.out
      · have j1 : ¬ (j : Int) < xs.length := by omega
        go_wp2_with (at_builtin; refine wpList_append_own _ rfl _ _ 30 rfl w.heap.size 9 i0 (.string ⟨#[]⟩) 1 16 Tryz.underlying30 hi hz0 hz1 hz2 rfl (by decide) _ _ _ rfl (hown.alloc _) ⟨wr.heap.size, 0, none⟩ 1 1 [.string s] rfl rfl ?e1 ?e2 ?e3 ?e4 ?e5 ?_)
        case e2 => rfl
        case e3 => unfold maxLen; omega
        case e4 => omega
        case e5 => first | omega | (simp; omega)
        intro v' w1 hown' hgrow _
        have hb1 : Below w.heap.size w w1 := by
          refine (hb.alloc hsz (.cells #[.string s] 9)).grown hgrow (by simp; omega) (fun k hk => (hown.lt k hk).1)
        have FIN := Lib.hid (HEND.out v' w1 hown' hb1)
        clear hown hgrow hown' HEND
        go_wp2_with fail
        go_ret
        exact FIN.out
theorem isStrs_keep {G : Nat → Prop} {w w' : World} {a : Option Addr} {c : Nat} {xs : List ByteArray} (h : IsStrs w a c xs) (hk : Keep G w w') (hg : ∀ ad, a = some ad → ¬ G ad.block) : IsStrs w' a c xs := by
  rcases h with h | ⟨bk, o, rfl, hbk, hc, hcell⟩
  · exact .inl h
  · have hn : ¬ G bk := hg ⟨bk, o, none⟩ rfl
    refine .inr ⟨bk, o, rfl, Nat.lt_of_lt_of_le hbk hk.size, hc, fun j x hx => ?_⟩
    have := hcell j x hx
    unfold World.cell? at this ⊢
    rw [hk.block bk hbk hn]
    exact this
theorem keep_cell {G : Nat → Prop} {w w' : World} {bk i : Nat} {v : Value} (hk : Keep G w w') (h : w.cell? ⟨bk, i, none⟩ = some v) (hb : bk < w.heap.size) (hn : ¬ G bk) : w'.cell? ⟨bk, i, none⟩ = some v := by
  unfold World.cell? at h ⊢
  rw [hk.block bk hb hn]
  exact h
theorem bytesOf_take {xs : List ByteArray} {j : Nat} (hj : j < xs.length) : (bytesOf (xs.take (j + 1))).flatten = (bytesOf (xs.take j)).flatten ++ xs[j].data.toList := by
  unfold bytesOf
  rw [List.take_succ_eq_append_getElem hj, List.map_append, List.flatten_append]
  simp
theorem bytesOf_take_le (xs : List ByteArray) (j : Nat) : (bytesOf (xs.take j)).flatten.length ≤ (bytesOf xs).flatten.length := by
  conv => rhs; rw [← List.take_append_drop j xs]
  unfold bytesOf
  rw [List.map_append, List.flatten_append, List.length_append]
  omega
end Go.Proofs.YtmcbaheaocfdnaaGreatDoor

