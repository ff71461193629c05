/- fields: Drop, index, Get, Has. -/
import Derived.Test.YtneagccakoakpaaDoorFldE
namespace Go.Proofs.YtneagccakoakpaaDoor
open Go.RowKit

/-- A row that owns fields: nil, or places that may be written. -/
theorem own_open {w : World} {base : Nat} {v : Value} {fs : List Fld} (h : w.ownsRow base 42 2 v fs.length (cellsF fs)) :
    (v = .slice none 0 0 ∧ fs = []) ∨ ∃ g cap, v = .slice (some ⟨g, 0, none⟩) fs.length cap ∧ base ≤ g ∧ fs.length ≤ cap ∧ Open2 w g fs.length ∧ ∀ (k : Nat) f, fs[k]? = some f → PairAt w g k f := by
  obtain ⟨_, ⟨rfl, h0⟩ | ⟨g, cap, cur, rfl, hbg, hg, hcap, _, hcs, htk⟩⟩ := h
  · exact .inl ⟨rfl, List.eq_nil_of_length_eq_zero h0⟩
  · refine .inr ⟨g, cap, rfl, hbg, hcap, ⟨(Array.getElem?_eq_some_iff.1 hg).1, fun k hk => ?_⟩, fun k f hf => ?_⟩
    · have hks : k < cur.size := by omega
      exact ⟨by simp [World.cell?, hg, hks], by simp [World.frozen?, hg]⟩
    · obtain ⟨g1, g2⟩ := cellsF_at fs k f hf
      have hj := (List.getElem?_eq_some_iff.1 hf).1
      rw [← htk, List.getElem?_take, if_pos (by omega)] at g1 g2
      simp only [Array.getElem?_toList] at g1 g2
      exact ⟨by simp [World.cell?, hg, g1], by simp [World.cell?, hg, g2]⟩
set_option maxRecDepth 100000 in
set_option maxHeartbeats 2000000 in
theorem delete76_nil (b : Option Addr) (d : Nat) (xs : List ByteArray) (hx1 : xs.length ≤ 1000000000) (w : World) (hx : IsStrs w b d xs) :
    Calls Tryd.prog 76 #[.slice none 0 0, hasV b xs.length d] w fun e w' => e = .returned (.slice none 0 0) ∧ Below w.heap.size w w' := by
  have HI := Lib.hid (index93 none 0 [] b d xs (by simp) hx1 (by simp) w (.inl rfl) hx)
  have e0 : findI xs [] = -1 := rfl
  rw [e0] at HI
  obtain ⟨V, hV⟩ : ∃ V, V = hasV b xs.length d := ⟨_, rfl⟩
  rw [← hV] at HI ⊢
  clear hV hx e0
  go_enter Tryd.func76, Tryd.ntmps76
  go_wp2_with fail
  refine HI.out.mono ?_
  rintro e w1 ⟨rfl, hb1⟩
  go_wp2_with fail
  go_ret
  exact ⟨rfl, hb1⟩
set_option maxRecDepth 100000 in
set_option maxHeartbeats 2000000 in
theorem drop55 (a : Option Addr) (c : Nat) (fs : List Fld) (b : Option Addr) (d : Nat) (xs : List ByteArray) (hfl : fs.length ≤ 1000000000) (hx1 : xs.length ≤ 1000000000) (ha : a = none → c = 0 ∧ fs = []) (hok : ∀ f ∈ fs, FldOk f) (w : World) (hf : IsFlds w a c fs) (hx : IsStrs w b d xs) :
    Calls Tryd.prog 55 #[.slice a fs.length c, .slice b xs.length d] w fun e w' => ∃ a' c', e = .returned (.slice a' (dropL xs fs).length c') ∧ (a' = none → c' = 0 ∧ dropL xs fs = []) ∧ IsFlds w' a' c' (dropL xs fs) ∧ Below w.heap.size w w' := by
  have HX := Lib.hid hx
  have HC := Lib.hid (clone77 a c fs hfl ha w hf)
  have HOK := Lib.hid hok
  clear hx hf ha hok
  go_enter Tryd.func55, Tryd.ntmps55
  go_wp2_with fail
  refine HC.out.mono ?_
  rintro e w1 ⟨v, rfl, hown, hb1⟩
  have X1 : Hid (IsStrs w1 b d xs) := HX.out.below hb1
  obtain ⟨rfl, rfl⟩ | ⟨g, cap, rfl, hg, hcap, hop, hpa⟩ := own_open hown
  · have HD := Lib.hid (delete76_nil b d xs hx1 w1 X1.out)
    unfold hasV at HD
    clear HX HC HOK hown
    go_wp2_with fail
    refine HD.out.mono ?_
    rintro e w2 ⟨rfl, hb2⟩
    go_wp2_with fail
    go_ret
    exact ⟨none, 0, rfl, fun _ => ⟨rfl, rfl⟩, .inl rfl, hb1.trans (hb2.mono hb1.size)⟩
  · have HD := Lib.hid (delete76 w g cap fs b d xs hfl hx1 HOK.out HX.out hg hcap w1 hb1 hop hpa)
    unfold hasV at HD
    clear HX HC HOK hown hop hpa X1
    go_wp2_with fail
    refine HD.out.mono ?_
    rintro e w2 ⟨rfl, hfl2, hb2⟩
    have HF2 := Lib.hid hfl2
    clear hfl2 HD
    go_wp2_with fail
    go_ret
    exact ⟨some ⟨g, 0, none⟩, cap, rfl, (fun h => by cases h), HF2.out, hb2⟩
/-- One name that is asked for. -/
theorem isStrs_new1 (w : World) (x : ByteArray) (T : TypeId) : IsStrs (w.alloc (.cells #[.string x] T)) (some ⟨w.heap.size, 0, none⟩) 1 [x] := by
  refine .inr ⟨w.heap.size, 0, rfl, by simp, by simp, fun j y hy => ?_⟩
  obtain rfl : j = 0 := by
    have := (List.getElem?_eq_some_iff.1 hy).1
    simp at this
    omega
  obtain rfl : x = y := by simpa using hy
  simp
set_option maxRecDepth 100000 in
set_option maxHeartbeats 2000000 in
theorem index71 (a : Option Addr) (c : Nat) (fs : List Fld) (n : ByteArray) (hfl : fs.length ≤ 1000000000) (hok : ∀ f ∈ fs, FldOk f) (w : World) (hf : IsFlds w a c fs) :
    Calls Tryd.prog 71 #[.slice a fs.length c, .string n] w fun e w' => e = .returned (.int .i64 (findI [n] fs)) ∧ Below w.heap.size w w' := by
  have L0 := below_alloc w (.cells #[.string n] 9)
  have HI := Lib.hid (index93 a c fs (some ⟨w.heap.size, 0, none⟩) 1 [n] hfl (by simp) hok (w.alloc (.cells #[.string n] 9)) (hf.below L0) (isStrs_new1 w n _))
  obtain ⟨R, hR⟩ : ∃ R, R = findI [n] fs := ⟨_, rfl⟩
  rw [← hR] at HI ⊢
  unfold hasV at HI
  clear hf hok hR
  go_enter Tryd.func71, Tryd.ntmps71
  go_wp2_with fail
  refine HI.out.mono ?_
  rintro e w1 ⟨rfl, hb1⟩
  go_wp2_with fail
  go_ret
  exact ⟨rfl, L0.trans (hb1.mono L0.size)⟩
end Go.Proofs.YtneagccakoakpaaDoor
