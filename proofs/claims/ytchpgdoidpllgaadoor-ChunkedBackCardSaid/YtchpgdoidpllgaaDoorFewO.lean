/- stewardlaw01.Few. -/
import Derived.Test.YtchpgdoidpllgaaDoorCut
import Derived.Test.YtchpgdoidpllgaaDoorIsS
import Derived.OwnWalk
import Derived.Deep.MidRow
import Derived.Laws.AppendOwn
namespace Go.Proofs.YtchpgdoidpllgaaDoor
open Go.RowKit

theorem info9 : (Tryd.prog.info? 9).map (fun i => (i.zero, i.size, i.bytes)) = some (some (.string ⟨#[]⟩), 1, 16) := by kernel_rfl

/-- The first few, cut. -/
def fewS (xs : List ByteArray) (n m : Nat) : List ByteArray := (xs.take n).map fun s => cutS s m
/-- What has been collected. -/
def rowOf (xs : List ByteArray) (m j : Nat) : List Value := ((xs.take j).map fun s => cutS s m).map Value.string
theorem rowOf_succ (xs : List ByteArray) (m j : Nat) (h : j < xs.length) : rowOf xs m j ++ [.string (cutS xs[j] m)] = rowOf xs m (j + 1) := by
  unfold rowOf
  rw [List.take_succ_eq_append_getElem h, List.map_append, List.map_append]
  rfl
theorem isStrs_of_row {w : World} {B : Nat} {a : Option Addr} {k c : Nat} {ys : List ByteArray} (h : w.ownsRow B 9 1 (.slice a k c) k (ys.map Value.string)) (hk : ys.length = k) : IsStrs w a c ys := by
  obtain ⟨hl, h | ⟨g, cap, cur, he, hB, hg, hn, _, hs, ht⟩⟩ := h
  · left
    exact List.eq_nil_of_length_eq_zero (by omega)
  · right
    obtain ⟨rfl, _, rfl⟩ : a = some ⟨g, 0, none⟩ ∧ k = k ∧ c = cap := by simpa using he
    have hlt : g < w.heap.size := by
      rcases Nat.lt_or_ge g w.heap.size with h | h
      · exact h
      · rw [Array.getElem?_eq_none h] at hg; cases hg
    refine ⟨g, 0, rfl, hlt, by omega, fun j x hx => ?_⟩
    have h1 : (ys.map Value.string)[j]? = some (.string x) := by rw [List.getElem?_map, hx]; rfl
    have h2 := World.ownsRow.cells (w := w) (base := B) (e := 9) (size := 1) (v := .slice (some ⟨g, 0, none⟩) k c) (n := k) (xs := ys.map Value.string) ⟨hl, .inr ⟨g, c, cur, rfl, hB, hg, hn, by assumption, hs, ht⟩⟩ rfl j _ h1
    rwa [Addr.add_mid] at h2

def FewPostN (w : World) (ys : List ByteArray) (e : Ending) (w' : World) : Prop :=
  ∃ a c, e = .returned (.slice a ys.length c) ∧ IsStrs w' a c ys ∧ (a = none → c = 0) ∧ Below w.heap.size w w'

set_option maxHeartbeats 400000 in
theorem few14n (a : Option Addr) (c : Nat) (xs : List ByteArray) (n m : Nat) (hn : n ≤ 1000) (hlen : xs.length ≤ 9223372036854775807) (w : World) (h : IsStrs w a c xs) :
    Calls Tryd.prog 14 #[.slice a xs.length c, .int .i64 n, .int .i64 m] w (FewPostN w (fewS xs n m)) := by
  obtain ⟨i0, hi, hz0, hz1, hz2⟩ := info_parts info9
  have HX := Lib.hid h
  clear h
  go_enter Tryd.func14, Tryd.ntmps14
  go_wp2_with fail
  go_loopw [7, 8] (fun v i wr => ∃ j : Nat, j ≤ xs.length ∧ j ≤ n ∧ i = .int .i64 (j : Int) ∧ wr.ownsRow w.heap.size 9 1 v j (rowOf xs m j) ∧ Below w.heap.size w wr)
    (fun _ i _ => n - (intOf i).toNat)
  case atStart => exact ⟨0, by omega, by omega, rfl, World.ownsRow_nil _ _ _ _, Below.refl _ _⟩
  case round =>
    obtain ⟨j, hj1, hj2, rfl, hown, hb⟩ := hrel
    have hx' := HX.out.below hb
    by_cases hlt : j < xs.length
    · by_cases hlt2 : j < n
      · obtain h0 | ⟨bk, o, rfl, hbk, hc, hcell⟩ := hx'
        · subst h0; simp at hlt
        · have cj := hcell j xs[j] (by simp [hlt])
          have htk := rowOf_succ xs m j hlt
          have HT := Lib.hid htk
          clear hcell htk
          generalize xs[j] = x at *
          have hsz := hb.size
          go_wp2_with fail
          refine (cut11 x m _).mono ?_
          rintro e w' ⟨rfl, rfl⟩
          generalize cutS x m = y at *
          go_wp2_with (at_builtin; refine wpList_append_own _ rfl _ _ 27 rfl w.heap.size 9 i0 (.string ⟨#[]⟩) 1 16 Tryd.underlying27 hi hz0 hz1 hz2 rfl (by decide) _ _ _ rfl (hown.alloc _) ⟨wr.heap.size, 0, none⟩ 1 1 [.string y] rfl rfl ?c1 ?c2 ?c3 ?c4 ?c5 ?_)
          case c1 => intro i u hu; match i, hu with
            | 0, hu => obtain rfl : Value.string y = u := Option.some.inj hu; rw [Addr.add_mid]; simp
            | i + 1, hu => simp at hu
          case c2 => intro u hu; simp at hu; subst hu; rfl
          case c3 => unfold maxLen; omega
          case c4 => omega
          case c5 => simp; omega
          intro v' w1 hown' hgrow _
          rw [HT.out] at hown'
          have hb1 : Below w.heap.size w w1 := by
            refine (hb.alloc hsz (.cells #[.string y] 9)).grown hgrow (by simp; omega) (fun k hk => (hown.lt k hk).1)
          clear hown hgrow
          go_wp2_with fail
          go_roundw
          case rel => exact ⟨j + 1, by omega, by omega, by go_num, hown', hb1⟩
          case measure => simp [intOf]; omega
      · obtain rfl : n = j := by omega
        obtain ⟨a', c', rfl, hac⟩ : ∃ a' c', u7 = .slice a' n c' ∧ (a' = none → c' = 0) := by
          obtain ⟨_, ⟨h1, h2⟩ | ⟨g, cap, cur, h1, _⟩⟩ := hown
          · exact ⟨none, 0, by rw [h1, h2], fun _ => rfl⟩
          · exact ⟨_, _, h1, fun h => by cases h⟩
        have hl : (fewS xs n m).length = n := by unfold fewS; simp; omega
        have hr : rowOf xs m n = (fewS xs n m).map Value.string := rfl
        rw [hr] at hown
        have HO := Lib.hid (isStrs_of_row hown hl)
        have HL := Lib.hid hl
        have HAC := Lib.hid hac
        clear hac hown hl hr hx'
        go_wp2_with fail
        go_ret
        exact ⟨a', c', by rw [HL.out]; rfl, HO.out, HAC.out, hb⟩
    · have hjl : j = xs.length := by omega
      obtain ⟨a', c', rfl, hac⟩ : ∃ a' c', u7 = .slice a' j c' ∧ (a' = none → c' = 0) := by
        obtain ⟨_, ⟨h1, h2⟩ | ⟨g, cap, cur, h1, _⟩⟩ := hown
        · exact ⟨none, 0, by rw [h1, h2], fun _ => rfl⟩
        · exact ⟨_, _, h1, fun h => by cases h⟩
      have htk : xs.take j = xs.take n := by rw [List.take_of_length_le (by omega), List.take_of_length_le (by omega)]
      have hl : (fewS xs n m).length = j := by unfold fewS; rw [← htk]; simp; omega
      have hr : rowOf xs m j = (fewS xs n m).map Value.string := by unfold rowOf fewS; rw [htk]
      rw [hr] at hown
      have HO := Lib.hid (isStrs_of_row hown hl)
      have HL := Lib.hid hl
      have HAC := Lib.hid hac
      clear hac hown htk hl hr hx'
      go_wp2_with fail
      go_ret
      exact ⟨a', c', by rw [HL.out]; rfl, HO.out, HAC.out, hb⟩
end Go.Proofs.YtchpgdoidpllgaaDoor
