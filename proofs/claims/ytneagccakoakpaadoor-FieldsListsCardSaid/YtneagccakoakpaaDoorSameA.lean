/- stewardlaw05.Same. -/
import Derived.Test.YtneagccakoakpaaDoorIsS
import Derived.Test.YtneagccakoakpaaDoorOctF
import Derived.Laws.AppendOwn
namespace Go.Proofs.YtneagccakoakpaaDoor
open Go.RowKit

theorem str_beq (a b : ByteArray) : (a.toList == b.toList) = decide (a = b) := by
  rw [ByteArray.toList_eq, ByteArray.toList_eq]
  by_cases h : a = b
  · subst h; simp
  · have h2 : ¬ a.data = b.data := fun e => h (ByteArray.ext e)
    simp [h, h2]
theorem take_eq_step (xs ys : List ByteArray) (j : Nat) (hx : j < xs.length) (hy : j < ys.length) (h : xs.take j = ys.take j) (he : xs[j] = ys[j]) : xs.take (j + 1) = ys.take (j + 1) := by
  rw [List.take_add_one, List.take_add_one, h, List.getElem?_eq_getElem hx, List.getElem?_eq_getElem hy, he]

set_option maxRecDepth 100000 in
set_option maxHeartbeats 1000000 in
theorem same32 (a : Option Addr) (c : Nat) (xs : List ByteArray) (b : Option Addr) (d : Nat) (ys : List ByteArray) (R : Bool) (hR : R = decide (xs = ys)) (hlx : xs.length ≤ 9223372036854775807) (hly : ys.length ≤ 9223372036854775807) (w : World) (hx : IsStrs w a c xs) (hy : IsStrs w b d ys) :
    Calls Tryd.prog 32 #[.slice a xs.length c, .slice b ys.length d] w fun e w' => e = .returned (.bool R) ∧ Below w.heap.size w w' := by
  by_cases hsz : xs.length = ys.length
  · have HR := Lib.hid hR
    have hne : ((xs.length : Int) != (ys.length : Int)) = false := by simp [hsz]
    have HS := Lib.hid hsz
    have HX := Lib.hid hx
    have HY := Lib.hid hy
    clear hR hsz hx hy
    go_enter Tryd.func32, Tryd.ntmps32
    go_wp2_with fail
    clear hne
    go_loopw [13] (fun i wr => ∃ j : Nat, j ≤ xs.length ∧ i = .int .i64 (j : Int) ∧ Hid (xs.take j = ys.take j) ∧ Below w.heap.size w wr) (fun i _ => xs.length - (intOf i).toNat)
    case atStart => exact ⟨0, Nat.zero_le _, rfl, rfl, Below.refl _ _⟩
    case round =>
      obtain ⟨j, hj, rfl, hr, hbl⟩ := hrel
      by_cases hlt : j < xs.length
      · have hly2 : j < ys.length := by have := HS.out; omega
        obtain h0 | ⟨bk, o, rfl, hbk, hc, hcell⟩ := HX.out.below hbl
        · subst h0; simp at hlt
        obtain h0 | ⟨bk2, o2, rfl, hbk2, hc2, hcell2⟩ := HY.out.below hbl
        · subst h0; simp at hly2
        have cj := hcell j xs[j] (by simp [hlt])
        have dj := hcell2 j ys[j] (by simp [hly2])
        have j1 : (j : Int) < xs.length := by omega
        have j2 : (j : Int) < ys.length := by omega
        have hbn : ∀ n, Below w.heap.size w (wr.drewN n) := fun n => hbl.trans ⟨rfl, rfl, rfl, Nat.le_refl _, fun _ _ => rfl⟩
        clear hcell hcell2
        by_cases he : xs[j] = ys[j]
        · have hst := Lib.hid (take_eq_step xs ys j hlt hly2 hr.out he)
          rw [← he] at dj
          generalize xs[j] = x at cj dj
          clear he
          go_wp2_with fail
          go_quiet (fail)
          go_wp2_with fail
          go_roundw
          case rel => exact ⟨j + 1, hlt, by go_num, hst, hbn _⟩
          case measure => simp [intOf]; omega
        · have hno : Hid (¬ xs = ys) := fun e => he (by subst e; rfl)
          have hq : (xs[j].toList == ys[j].toList) = false := by rw [str_beq, decide_eq_false he]
          have hq2 : (xs[j].toList != ys[j].toList) = true := by rw [bne, hq]; rfl
          clear he
          generalize xs[j] = x at cj hq hq2
          generalize ys[j] = y at dj hq hq2
          go_wp2_with fail
          go_quiet (fail)
          go_wp2_with fail
          go_ret
          exact ⟨by rw [HR.out, decide_eq_false hno.out]; rfl, hbn _⟩
      · obtain rfl : j = xs.length := by omega
        have h1 := hr.out
        have hs2 := HS.out
        rw [List.take_of_length_le (by omega), List.take_of_length_le (by omega)] at h1
        have H1 := Lib.hid h1
        clear h1 hs2
        go_wp2_with fail
        go_ret
        exact ⟨by rw [HR.out, decide_eq_true H1.out]; rfl, hbl⟩
  · have hno : R = false := by rw [hR]; exact decide_eq_false (fun e => hsz (by rw [e]))
    subst hno
    have hne : ((xs.length : Int) != (ys.length : Int)) = true := by simp; omega
    clear hR hsz hx hy
    go_enter Tryd.func32, Tryd.ntmps32
    go_wp2_with fail
    go_ret
    exact ⟨rfl, Below.refl _ _⟩
/-- The texts of lists of bytes. -/
def bsOf (ys : List (List UInt8)) : List ByteArray := ys.map fun l => ⟨l.toArray⟩
theorem bsOf_length (ys : List (List UInt8)) : (bsOf ys).length = ys.length := by simp [bsOf]
theorem bsOf_inj (a b : List (List UInt8)) : bsOf a = bsOf b ↔ a = b := by
  constructor
  · intro h
    have : (bsOf a).map (·.data.toList) = (bsOf b).map (·.data.toList) := by rw [h]
    simpa [bsOf, Function.comp_def] using this
  · intro h; rw [h]
/-- A slice that owns texts reads as them. -/
theorem own_isStrs {w : World} {base : Nat} {v : Value} {ys : List (List UInt8)} (h : w.ownsRow base 9 1 v ys.length (ys.map fun l => Value.string ⟨l.toArray⟩)) : ∃ a c, v = .slice a (bsOf ys).length c ∧ IsStrs w a c (bsOf ys) := by
  rw [bsOf_length]
  obtain ⟨_, ⟨rfl, h0⟩ | ⟨g, cap, cur, rfl, _, hg, hcap, _, hcs, htk⟩⟩ := h
  · obtain rfl : ys = [] := List.eq_nil_of_length_eq_zero h0
    exact ⟨none, 0, rfl, .inl rfl⟩
  · refine ⟨some ⟨g, 0, none⟩, cap, rfl, .inr ⟨g, 0, rfl, (Array.getElem?_eq_some_iff.1 hg).1, by rw [bsOf_length]; exact hcap, fun j x hx => ?_⟩⟩
    rw [Nat.zero_add]
    have hj : j < ys.length := by have := (List.getElem?_eq_some_iff.1 hx).1; rwa [bsOf_length] at this
    have hx2 : x = ⟨ys[j].toArray⟩ := by
      simp [bsOf, hj] at hx
      exact hx.symm
    have hc : cur[j]? = some (.string x) := by
      have h1 : (ys.map fun l => Value.string ⟨l.toArray⟩)[j]? = some (.string x) := by simp [hj, hx2]
      rw [← htk, List.getElem?_take, if_pos (by omega)] at h1
      simpa using h1
    simp [World.cell?, hg, hc]
end Go.Proofs.YtneagccakoakpaaDoor
