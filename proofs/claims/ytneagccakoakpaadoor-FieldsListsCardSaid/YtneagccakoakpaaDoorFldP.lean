/- fields: slices.Equal, Same. -/
import Derived.Test.YtneagccakoakpaaDoorFldO
import Derived.Test.YtneagccakoakpaaDoorSameA
import Derived.BigQuiet
namespace Go.Proofs.YtneagccakoakpaaDoor
open Go.RowKit

theorem self_strP (T : ByteArray) : (T.toList == T.toList) = true := by simp
theorem bs_inj {a b : List UInt8} (h : bs a = bs b) : a = b := by rw [← bs_list a, h, bs_list]
theorem bs_beq (a b : List UInt8) : ((bs a).toList == (bs b).toList) = decide (a = b) := by
  rw [str_beq]
  by_cases h : a = b
  · subst h; simp
  · rw [decide_eq_false h, decide_eq_false (fun e => h (bs_inj e))]
theorem takeF_step (xs ys : List Fld) (j : Nat) (hx : j < xs.length) (hy : j < ys.length) (h : xs.take j = ys.take j) (he : xs[j] = ys[j]) : xs.take (j + 1) = ys.take (j + 1) := by
  rw [List.take_add_one, List.take_add_one, h, List.getElem?_eq_getElem hx, List.getElem?_eq_getElem hy, he]
set_option maxRecDepth 100000 in
set_option maxHeartbeats 2000000 in
theorem equal78 (a : Option Addr) (c : Nat) (xs : List Fld) (b : Option Addr) (d : Nat) (ys : List Fld) (R : Bool) (hR : R = decide (xs = ys)) (hlx : xs.length ≤ 1000000000) (hly : ys.length ≤ 1000000000) (w : World) (hx : IsFlds w a c xs) (hy : IsFlds w b d ys) :
    Calls Tryd.prog 78 #[.slice a xs.length c, .slice b ys.length d] w fun e w' => e = .returned (.bool R) ∧ Below w.heap.size w w' := by
  by_cases hsz : xs.length = ys.length
  · have HR := Lib.hid hR
    have hne : ((xs.length : Int) != (ys.length : Int)) = false := by simp [hsz]
    have HS := Lib.hid hsz
    have HX := Lib.hid hx
    have HY := Lib.hid hy
    clear hR hsz hx hy
    go_enter Tryd.func78, Tryd.ntmps78
    go_wp2_with fail
    clear hne
    go_loopw [13] (fun i wr => ∃ j : Nat, j ≤ xs.length ∧ i = .int .i64 (j : Int) ∧ Hid (xs.take j = ys.take j) ∧ Below w.heap.size w wr) (fun i _ => xs.length - (intOf i).toNat)
    case atStart => exact ⟨0, Nat.zero_le _, rfl, rfl, Below.refl _ _⟩
    case round =>
      obtain ⟨j, hj, rfl, hr, hbl⟩ := hrel
      by_cases hlt : j < xs.length
      · have hly2 : j < ys.length := by have := HS.out; omega
        obtain h0 | ⟨bk, o, rfl, hbk, hc, hcell⟩ := HX.out.below hbl
        · subst h0; simp at hlt
        obtain h0 | ⟨bk2, o2, rfl, hbk2, hc2, hcell2⟩ := HY.out.below hbl
        · subst h0; simp at hly2
        obtain ⟨cj, cj2⟩ := hcell j xs[j] (by simp [hlt])
        obtain ⟨dj, dj2⟩ := hcell2 j ys[j] (by simp [hly2])
        have j1 : (j : Int) < xs.length := by omega
        have j2 : (j : Int) < ys.length := by omega
        have hbn : ∀ n, Below w.heap.size w (wr.drewN n) := fun n => hbl.trans ⟨rfl, rfl, rfl, Nat.le_refl _, fun _ _ => rfl⟩
        clear hcell hcell2
        by_cases he : xs[j] = ys[j]
        · have hst := Lib.hid (takeF_step xs ys j hlt hly2 hr.out he)
          rw [← he] at dj dj2
          generalize bs (xs[j]).1 = N at cj dj
          generalize bs (xs[j]).2 = V at cj2 dj2
          have eN := self_strP N
          have eV := self_strP V
          clear he
          go_wp2_with fail
          go_quiet (fail)
          go_wp2_with fail
          go_roundw
          case rel => exact ⟨j + 1, hlt, by go_num, hst, hbn _⟩
          case measure => simp [intOf]; omega
        · have hno : Hid (¬ xs = ys) := fun e => he (by subst e; rfl)
          have e1 := bs_beq (xs[j]).1 (ys[j]).1
          have e2 := bs_beq (xs[j]).2 (ys[j]).2
          obtain ⟨f, hf⟩ : ∃ f, f = xs[j] := ⟨_, rfl⟩
          obtain ⟨g, hg⟩ : ∃ g, g = ys[j] := ⟨_, rfl⟩
          rw [← hf, ← hg] at e1 e2 he
          rw [← hf] at cj cj2
          rw [← hg] at dj dj2
          clear hf hg
          obtain ⟨n1, v1⟩ := f
          obtain ⟨n2, v2⟩ := g
          simp only at e1 e2 cj cj2 dj dj2
          have hcase : (decide (n1 = n2) = false) ∨ (decide (n1 = n2) = true ∧ decide (v1 = v2) = false) := by
            by_cases h1 : n1 = n2
            · exact .inr ⟨decide_eq_true h1, decide_eq_false (fun h2 => he (by rw [h1, h2]))⟩
            · exact .inl (decide_eq_false h1)
          generalize decide (n1 = n2) = q1 at *
          generalize decide (v1 = v2) = q2 at *
          generalize bs n1 = N1 at *
          generalize bs n2 = N2 at *
          generalize bs v1 = V1 at *
          generalize bs v2 = V2 at *
          clear he
          rcases hcase with rfl | ⟨rfl, rfl⟩
          · go_wp2_with fail
            go_quiet (fail)
            go_wp2_with fail
            go_ret
            exact ⟨by rw [HR.out, decide_eq_false hno.out]; rfl, hbn _⟩
          · go_wp2_with fail
            go_quiet (fail)
            go_wp2_with fail
            go_ret
            exact ⟨by rw [HR.out, decide_eq_false hno.out]; rfl, hbn _⟩
      · obtain rfl : j = xs.length := by omega
        have h1 := hr.out
        have hs2 := HS.out
        rw [List.take_of_length_le (by omega), List.take_of_length_le (by omega)] at h1
        have H1 := Lib.hid h1
        clear h1 hs2
        go_wp2_with fail
        go_ret
        exact ⟨by rw [HR.out, decide_eq_true H1.out]; rfl, hbl⟩
  · have hno : R = false := by rw [hR]; exact decide_eq_false (fun e => hsz (by rw [e]))
    subst hno
    have hne : ((xs.length : Int) != (ys.length : Int)) = true := by simp; omega
    clear hR hsz hx hy
    go_enter Tryd.func78, Tryd.ntmps78
    go_wp2_with fail
    go_ret
    exact ⟨rfl, Below.refl _ _⟩
set_option maxRecDepth 100000 in
set_option maxHeartbeats 1000000 in
theorem same56 (a : Option Addr) (c : Nat) (xs : List Fld) (b : Option Addr) (d : Nat) (ys : List Fld) (R : Bool) (hR : R = decide (xs = ys)) (hlx : xs.length ≤ 1000000000) (hly : ys.length ≤ 1000000000) (w : World) (hx : IsFlds w a c xs) (hy : IsFlds w b d ys) :
    Calls Tryd.prog 56 #[.slice a xs.length c, .slice b ys.length d] w fun e w' => e = .returned (.bool R) ∧ Below w.heap.size w w' := by
  have HE := Lib.hid (equal78 a c xs b d ys R hR hlx hly w hx hy)
  clear hR hx hy
  go_enter Tryd.func56, Tryd.ntmps56
  go_wp2_with fail
  refine HE.out.mono ?_
  rintro e w1 ⟨rfl, hb1⟩
  go_wp2_with fail
  go_ret
  exact ⟨rfl, hb1⟩
end Go.Proofs.YtneagccakoakpaaDoor
