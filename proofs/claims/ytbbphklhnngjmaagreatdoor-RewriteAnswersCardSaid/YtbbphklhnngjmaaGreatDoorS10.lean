/- Packed: FldF, FldG, FldH, FldI, FldJ, FldK, FldL, FldN, HeC, HeD, HeE. -/
import Derived.Lib.Builder
import Derived.Lib.AppendStr
import Derived.Laws.Externs
import Derived.Lib.UnsafeStr
import Derived.Lib.AppendZerosOnto
import Derived.Laws.IdiomCopy
import Derived.Laws.AppendOwnNone
import Derived.Deep.Cut
import Derived.Test.YtbbphklhnngjmaaGreatDoorS08
import Derived.Test.YtbbphklhnngjmaaGreatDoorS09
import Derived.Test.YtbbphklhnngjmaaGreatDoorShelf
/- fields: Drop, index, Get, Has. -/
namespace Go.Proofs.YtbbphklhnngjmaaGreatDoor
open Go.RowKit

/-- A row that owns fields: nil, or places that may be written. -/
theorem own_open {w : World} {base : Nat} {v : Value} {fs : List Fld} (h : w.ownsRow base 62 2 v fs.length (cellsF fs)) :
    (v = .slice none 0 0 ∧ fs = []) ∨ ∃ g cap, v = .slice (some ⟨g, 0, none⟩) fs.length cap ∧ base ≤ g ∧ fs.length ≤ cap ∧ Open2 w g fs.length ∧ ∀ (k : Nat) f, fs[k]? = some f → PairAt w g k f := by
  obtain ⟨_, ⟨rfl, h0⟩ | ⟨g, cap, cur, rfl, hbg, hg, hcap, _, hcs, htk⟩⟩ := h
  · exact .inl ⟨rfl, List.eq_nil_of_length_eq_zero h0⟩
  · refine .inr ⟨g, cap, rfl, hbg, hcap, ⟨(Array.getElem?_eq_some_iff.1 hg).1, fun k hk => ?_⟩, fun k f hf => ?_⟩
    · have hks : k < cur.size := by omega
      exact ⟨by simp [World.cell?, hg, hks], by simp [World.frozen?, hg]⟩
    · obtain ⟨g1, g2⟩ := cellsF_at fs k f hf
      have hj := (List.getElem?_eq_some_iff.1 hf).1
      rw [← htk, List.getElem?_take, if_pos (by omega)] at g1 g2
      simp only [Array.getElem?_toList] at g1 g2
      exact ⟨by simp [World.cell?, hg, g1], by simp [World.cell?, hg, g2]⟩
set_option maxRecDepth 100000 in
set_option maxHeartbeats 2000000 in
theorem delete76_nil (b : Option Addr) (d : Nat) (xs : List ByteArray) (hx1 : xs.length ≤ 1000000000) (w : World) (hx : IsStrs w b d xs) :
    Calls Tryz.prog 103 #[.slice none 0 0, hasV b xs.length d] w fun e w' => e = .returned (.slice none 0 0) ∧ Below w.heap.size w w' := by
  have HI := Lib.hid (index93 none 0 [] b d xs (by simp) hx1 (by simp) w (.inl rfl) hx)
  have e0 : findI xs [] = -1 := rfl
  rw [e0] at HI
  obtain ⟨V, hV⟩ : ∃ V, V = hasV b xs.length d := ⟨_, rfl⟩
  rw [← hV] at HI ⊢
  clear hV hx e0
  go_enter Tryz.func103, Tryz.ntmps103
  go_wp2_with fail
  refine HI.out.mono ?_
  rintro e w1 ⟨rfl, hb1⟩
  go_wp2_with fail
  go_ret
  exact ⟨rfl, hb1⟩
set_option maxRecDepth 100000 in
set_option maxHeartbeats 2000000 in
theorem drop55 (a : Option Addr) (c : Nat) (fs : List Fld) (b : Option Addr) (d : Nat) (xs : List ByteArray) (hfl : fs.length ≤ 1000000000) (hx1 : xs.length ≤ 1000000000) (ha : a = none → c = 0 ∧ fs = []) (hok : ∀ f ∈ fs, FldOk f) (w : World) (hf : IsFlds w a c fs) (hx : IsStrs w b d xs) :
    Calls Tryz.prog 78 #[.slice a fs.length c, .slice b xs.length d] w fun e w' => ∃ a' c', e = .returned (.slice a' (dropL xs fs).length c') ∧ (a' = none → c' = 0 ∧ dropL xs fs = []) ∧ IsFlds w' a' c' (dropL xs fs) ∧ Below w.heap.size w w' := by
  have HX := Lib.hid hx
  have HC := Lib.hid (clone77 a c fs hfl ha w hf)
  have HOK := Lib.hid hok
  clear hx hf ha hok
  go_enter Tryz.func78, Tryz.ntmps78
  go_wp2_with fail
  refine HC.out.mono ?_
  rintro e w1 ⟨v, rfl, hown, hb1⟩
  have X1 : Hid (IsStrs w1 b d xs) := HX.out.below hb1
  obtain ⟨rfl, rfl⟩ | ⟨g, cap, rfl, hg, hcap, hop, hpa⟩ := own_open hown
  · have HD := Lib.hid (delete76_nil b d xs hx1 w1 X1.out)
    unfold hasV at HD
    clear HX HC HOK hown
    go_wp2_with fail
    refine HD.out.mono ?_
    rintro e w2 ⟨rfl, hb2⟩
    go_wp2_with fail
    go_ret
    exact ⟨none, 0, rfl, fun _ => ⟨rfl, rfl⟩, .inl rfl, hb1.trans (hb2.mono hb1.size)⟩
  · have HD := Lib.hid (delete76 w g cap fs b d xs hfl hx1 HOK.out HX.out hg hcap w1 hb1 hop hpa)
    unfold hasV at HD
    clear HX HC HOK hown hop hpa X1
    go_wp2_with fail
    refine HD.out.mono ?_
    rintro e w2 ⟨rfl, hfl2, hb2⟩
    have HF2 := Lib.hid hfl2
    clear hfl2 HD
    go_wp2_with fail
    go_ret
    exact ⟨some ⟨g, 0, none⟩, cap, rfl, (fun h => by cases h), HF2.out, hb2⟩
/-- One name that is asked for. -/
theorem isStrs_new1 (w : World) (x : ByteArray) (T : TypeId) : IsStrs (w.alloc (.cells #[.string x] T)) (some ⟨w.heap.size, 0, none⟩) 1 [x] := by
  refine .inr ⟨w.heap.size, 0, rfl, by simp, by simp, fun j y hy => ?_⟩
  obtain rfl : j = 0 := by
    have := (List.getElem?_eq_some_iff.1 hy).1
    simp at this
    omega
  obtain rfl : x = y := by simpa using hy
  simp
set_option maxRecDepth 100000 in
set_option maxHeartbeats 2000000 in
theorem index71 (a : Option Addr) (c : Nat) (fs : List Fld) (n : ByteArray) (hfl : fs.length ≤ 1000000000) (hok : ∀ f ∈ fs, FldOk f) (w : World) (hf : IsFlds w a c fs) :
    Calls Tryz.prog 81 #[.slice a fs.length c, .string n] w fun e w' => e = .returned (.int .i64 (findI [n] fs)) ∧ Below w.heap.size w w' := by
  have L0 := below_alloc w (.cells #[.string n] 9)
  have HI := Lib.hid (index93 a c fs (some ⟨w.heap.size, 0, none⟩) 1 [n] hfl (by simp) hok (w.alloc (.cells #[.string n] 9)) (hf.below L0) (isStrs_new1 w n _))
  obtain ⟨R, hR⟩ : ∃ R, R = findI [n] fs := ⟨_, rfl⟩
  rw [← hR] at HI ⊢
  unfold hasV at HI
  clear hf hok hR
  go_enter Tryz.func81, Tryz.ntmps81
  go_wp2_with fail
  refine HI.out.mono ?_
  rintro e w1 ⟨rfl, hb1⟩
  go_wp2_with fail
  go_ret
  exact ⟨rfl, L0.trans (hb1.mono L0.size)⟩
end Go.Proofs.YtbbphklhnngjmaaGreatDoor

/- strings.Builder: copyCheck, WriteString. -/
namespace Go.Proofs.YtbbphklhnngjmaaGreatDoor
open Go.RowKit

theorem sizeBld : (Tryz.prog.info? 121).map (·.size) = some 2 := by kernel_rfl
theorem liesBld : liesAt Tryz.prog Tryz.prog.depth 121 (2 / Tryz.prog.cellsOf 121) 0 121 1 = true := by kernel_rfl
theorem infoByt : (Tryz.prog.info? 5).map (fun i => (i.zero, i.size, i.bytes)) = some (some (.int .u8 0), 1, 1) := by kernel_rfl
set_option maxHeartbeats 1000000 in
set_option maxRecDepth 100000 in
theorem copy95_used (b : Nat) (w : World) (h0 : w.cell? ⟨b, 0, none⟩ = some (.pointer (some ⟨b, 0, none⟩))) :
    Calls Tryz.prog 101 #[.pointer (some ⟨b, 0, none⟩)] w fun e w' => e = .returned (.tuple #[]) ∧ w' = w := by
  obtain ⟨j, hj, _⟩ := Option.map_eq_some_iff.1 sizeBld
  go_enter Tryz.func101, Tryz.ntmps101
  go_wp2
  rw [Lib.run_neq_ptr_same w _ Tryz.underlying119 hj]
  go_wp2
  go_end0
  exact ⟨rfl, rfl⟩
set_option maxHeartbeats 1000000 in
set_option maxRecDepth 100000 in
theorem copy95_fresh (b : Nat) (w : World) (h0 : w.cell? ⟨b, 0, none⟩ = some (.pointer none)) (hsh : w.shape? b = some (121, 2)) (hfz : w.frozen? ⟨b, 0, none⟩ = false) :
    Calls Tryz.prog 101 #[.pointer (some ⟨b, 0, none⟩)] w fun e w' => e = .returned (.tuple #[]) ∧ w' = w.setCell ⟨b, 0, none⟩ (.pointer (some ⟨b, 0, none⟩)) := by
  obtain ⟨j, hj, hjs⟩ := Option.map_eq_some_iff.1 sizeBld
  go_enter Tryz.func101, Tryz.ntmps101
  go_wp2
  rw [Lib.run_to_unsafe w ⟨b, 0, none⟩ Tryz.underlying119 Tryz.underlying158 hj (by rw [hjs]; decide) hsh (Nat.zero_lt_succ 1)]
  simp only [Result.andThen]
  rw [Oper.upon_value]
  go_wp2
  rw [run_callFunc_extern Tryz.func122 (by kernel_rfl) (by kernel_rfl) (by kernel_rfl) (e := Extern.AbiNoEscape.same) (by kernel_rfl)]
  rw [Lib.run_noEscape]
  simp only [Result.andThen]
  rw [Oper.upon_value]
  go_wp2
  rw [Lib.run_from_unsafe w ⟨b, 0, none⟩ Tryz.underlying158 Tryz.underlying119 hj hsh liesBld]
  simp only [Result.andThen]
  rw [Oper.upon_value]
  go_wp2
  go_end0
  exact ⟨rfl, rfl⟩
theorem copy95 (B b : Nat) (bs : List Value) (w : World) (h : Lib.IsBuilder 121 5 B b bs w) :
    Calls Tryz.prog 101 #[.pointer (some ⟨b, 0, none⟩)] w fun e w' => e = .returned (.tuple #[]) ∧ (Lib.BuilderAt 121 5 B b (.pointer (some ⟨b, 0, none⟩)) bs w' ∧ Below B w w') := by
  rcases h with h | h
  · refine (copy95_fresh b w h.cell0 h.shape h.frozen0).mono ?_
    rintro e w' ⟨rfl, rfl⟩
    exact ⟨rfl, h.used _, (Below.refl B w).setCell (p := ⟨b, 0, none⟩) h.1 _⟩
  · refine (copy95_used b w h.cell0).mono ?_
    rintro e w' ⟨rfl, rfl⟩
    exact ⟨rfl, h, Below.refl B _⟩
set_option maxHeartbeats 2000000 in
set_option maxRecDepth 100000 in
theorem write74 (B b : Nat) (bs : List Value) (s : ByteArray) (w : World) (h : Lib.IsBuilder 121 5 B b bs w) (hlen : bs.length + s.size ≤ 140737488355328) (hBw : B ≤ w.heap.size) :
    Calls Tryz.prog 74 #[.pointer (some ⟨b, 0, none⟩), .string s] w fun e w' => e = .returned (.tuple #[.int .i64 s.size, .nilIface]) ∧ (Lib.BuilderAt 121 5 B b (.pointer (some ⟨b, 0, none⟩)) (bs ++ Lib.strCells s) w' ∧ Below B w w') := by
  obtain ⟨i0, hi, hz0, hz1, hz2⟩ := info_parts infoByt
  have HC := Lib.hid (copy95 B b bs w h)
  go_enter Tryz.func74, Tryz.ntmps74
  go_wp2_with fail
  refine HC.out.mono ?_
  rintro e w1 ⟨rfl, h1, hb1⟩
  obtain ⟨hB, v, hbk, hown, hne⟩ := h1
  have c0 : w1.cell? ⟨b, 0, none⟩ = some (.pointer (some ⟨b, 0, none⟩)) := by rw [Lib.cell_of_heap hbk]; rfl
  have c1 : w1.cell? ⟨b, 1, none⟩ = some v := by rw [Lib.cell_of_heap hbk]; rfl
  go_wp2_with (at_builtin; refine Lib.wpList_append_own_string _ rfl _ _ 101 9 rfl B 5 i0 Tryz.underlying101 Tryz.underlying9 hi hz0 hz1 hz2 _ _ _ rfl hown s rfl (by unfold maxLen; omega) (by omega) (by have := hb1.size; omega) ?_)
  intro v' w2 hown' hgrow _
  have hlt : b < w1.heap.size := (Array.getElem?_eq_some_iff.1 hbk).1
  have hb2 : w2.heap[b]? = some (.cells #[.pointer (some ⟨b, 0, none⟩), v] 121 (0, 0)) := by
    rw [hgrow.block b hlt (fun e => hne e.symm)]
    exact hbk
  have d0 : w2.cell? ⟨b, 0, none⟩ = some (.pointer (some ⟨b, 0, none⟩)) := by rw [Lib.cell_of_heap hb2]; rfl
  have d1 : w2.cell? ⟨b, 1, none⟩ = some v := by rw [Lib.cell_of_heap hb2]; rfl
  have f1 : w2.frozen? ⟨b, 1, none⟩ = false := Lib.frozen_of_heap hb2 1
  obtain ⟨ao, n', cap, rfl⟩ : ∃ ao n' cap, v' = .slice ao n' cap := by
    rcases hown'.2 with ⟨hv, _⟩ | ⟨g, cap, cur, hv, _⟩
    · exact ⟨_, _, _, hv⟩
    · exact ⟨_, _, _, hv⟩
  go_wp2
  go_ret2
  refine ⟨rfl, ?_, ?_⟩
  · exact Lib.BuilderAt.put (T := 121) (e := 5) hB hb2 (bs' := bs ++ Lib.strCells s) (by simpa [Lib.strCells_length] using hown') (by decide)
  · exact (hb1.grown hgrow (by have := hb1.size; omega) (fun k hk => (hown.lt k hk).1)).setCell (p := ⟨b, 1, none⟩) hB _
end Go.Proofs.YtbbphklhnngjmaaGreatDoor

/- fields: Text, Size. -/
namespace Go.Proofs.YtbbphklhnngjmaaGreatDoor
open Go.RowKit

theorem own_below {w w' : World} {base size n : Nat} {e : TypeId} {v : Value} {xs : List Value} (h : w.ownsRow base e size v n xs) (hb : Below w.heap.size w w') : w'.ownsRow base e size v n xs := by
  obtain ⟨hl, h0 | ⟨g, cap, cur, hv, hg, hc, r⟩⟩ := h
  · exact ⟨hl, .inl h0⟩
  · exact ⟨hl, .inr ⟨g, cap, cur, hv, hg, by rw [hb.block g (Array.getElem?_eq_some_iff.1 hc).1]; exact hc, r⟩⟩
/-- A builder that holds these bytes. -/
def Bld (B b : Nat) (l : List UInt8) (w : World) : Prop := Lib.IsBuilder 121 5 B b (Lib.byteCells l) w
theorem bldAt_below {w w' : World} {B b : Nat} {p : Value} {bs : List Value} (h : Lib.BuilderAt 121 5 B b p bs w) (hb : Below w.heap.size w w') : Lib.BuilderAt 121 5 B b p bs w' := by
  obtain ⟨hB, v, hv, ho, hn⟩ := h
  exact ⟨hB, v, by rw [hb.block b (Array.getElem?_eq_some_iff.1 hv).1]; exact hv, own_below ho hb, hn⟩
theorem Bld.below {w w' : World} {B b : Nat} {l : List UInt8} (h : Bld B b l w) (hb : Below w.heap.size w w') : Bld B b l w' := h.imp (fun x => bldAt_below x hb) (fun x => bldAt_below x hb)
theorem Bld.lt {w : World} {B b : Nat} {l : List UInt8} (h : Bld B b l w) : b < w.heap.size := by
  rcases h with h | h <;> exact h.lt
/-- WriteString of a builder of bytes. -/
theorem writeB (B b : Nat) (l x : List UInt8) (w : World) (h : Bld B b l w) (hlen : l.length + x.length ≤ 140737488355328) (hBw : B ≤ w.heap.size) :
    Calls Tryz.prog 74 #[.pointer (some ⟨b, 0, none⟩), .string (bs x)] w fun e w' => e = .returned (.tuple #[.int .i64 (bs x).size, .nilIface]) ∧ Bld B b (l ++ x) w' ∧ Below B w w' := by
  refine (write74 B b (Lib.byteCells l) (bs x) w h (by rw [Lib.byteCells_length, bs_size]; exact hlen) hBw).mono ?_
  rintro e w' ⟨he, h1, h2⟩
  refine ⟨he, .inr ?_, h2⟩
  rw [Lib.byteCells_append]
  exact h1
/-- The text of fields. -/
def textL (fs : List Fld) : List UInt8 := fs.flatMap lineL
theorem textL_step {fs : List Fld} {j : Nat} (hj : j < fs.length) : textL (fs.take (j + 1)) = textL (fs.take j) ++ lineL fs[j] := by
  unfold textL
  rw [List.take_add_one, List.getElem?_eq_getElem hj, Option.toList_some, List.flatMap_append]
  simp
theorem textL_le {fs : List Fld} {j : Nat} : (textL (fs.take j)).length ≤ (textL fs).length := by
  conv => rhs; rw [← List.take_append_drop j fs]
  unfold textL
  rw [List.flatMap_append, List.length_append]
  omega
set_option maxHeartbeats 2000000 in
set_option maxRecDepth 100000 in
theorem text49 (a : Option Addr) (c : Nat) (fs : List Fld) (hfl : fs.length ≤ 1000000000) (hok : ∀ f ∈ fs, FldOk f) (hsum : (textL fs).length ≤ 100000000000) (w : World) (hf : IsFlds w a c fs) :
    Calls Tryz.prog 38 #[.slice a fs.length c] w fun e w' => e = .returned (.string (bs (textL fs))) ∧ Below w.heap.size w w' := by
  have HFF := Lib.hid hf
  have HOK := Lib.hid hok
  have HS := Lib.hid hsum
  obtain ⟨X, hX⟩ : ∃ X, X = bs (textL fs) := ⟨_, rfl⟩
  have HX : Hid ((⟨(textL fs).toArray⟩ : ByteArray) = X) := by show _ = _; rw [hX]; rfl
  rw [← hX]
  clear hX
  have B0 : Hid (Bld w.heap.size w.heap.size [] (w.alloc (.cells #[.pointer none, .slice none 0 0] 121))) := Lib.fresh_isBuilder _ _ w
  have L0 := below_alloc w (.cells #[.pointer none, .slice none 0 0] 121)
  clear hf hok hsum
  go_enter Tryz.func38, Tryz.ntmps38
  go_wp2_with fail
  go_loopw [8] (fun i wr => ∃ j : Nat, j ≤ fs.length ∧ i = .int .i64 (j : Int) ∧ Hid (Bld w.heap.size w.heap.size (textL (fs.take j)) wr) ∧ Below w.heap.size w wr) (fun i _ => fs.length - (intOf i).toNat)
  case atStart => exact ⟨0, Nat.zero_le _, rfl, B0, L0⟩
  case round =>
    clear B0 L0
    obtain ⟨j, hj, rfl, hB, hb⟩ := hrel
    by_cases hlt : j < fs.length
    · obtain h0 | ⟨bk, o, rfl, hbk, hc, hcell⟩ := HFF.out.below hb
      · subst h0; simp at hlt
      obtain ⟨c1, c2⟩ := hcell j fs[j] (by simp [hlt])
      have hfo := HOK.out fs[j] (List.getElem_mem hlt)
      have hsz : (textL (fs.take j)).length + (lineL fs[j]).length ≤ 140737488355328 := by
        have h1 := textL_le (fs := fs) (j := j + 1)
        rw [textL_step hlt, List.length_append] at h1
        have := HS.out
        omega
      have HN := Lib.hid (textL_step hlt)
      obtain ⟨f, hfe⟩ : ∃ f, f = fs[j] := ⟨_, rfl⟩
      rw [← hfe] at c1 c2 hfo hsz HN
      clear hcell hfe
      have HL := Lib.hid (fun W => line38 f hfo.1 hfo.2 W)
      have HW := Lib.hid (fun W h hw => writeB w.heap.size w.heap.size (textL (fs.take j)) (lineL f) W h hsz hw)
      obtain ⟨n, v⟩ := f
      generalize lineL (n, v) = ll at HL HW HN
      unfold fldV at HL
      simp only at c1 c2 HL
      have j1 : (j : Int) < fs.length := by omega
      clear hsz hfo
      go_wp2_with fail
      have LA := below_alloc wr (.cells #[.string (bs n), .string (bs v)] 62)
      refine (HL.out _).mono ?_
      rintro e w2 ⟨rfl, hb2⟩
      have b2 := LA.trans (hb2.mono LA.size)
      have B2 := hB.out.below b2
      have bb2 := hb.trans (b2.mono hb.size)
      clear LA hb2
      go_wp2_with fail
      refine (HW.out _ B2 bb2.size).mono ?_
      rintro e w3 ⟨rfl, B3, hb3⟩
      rw [← HN.out] at B3
      have HB3 := Lib.hid B3
      have bb3 := bb2.trans hb3
      clear hB B2 b2 B3 hb3 HL HW bb2
      go_wp2_with fail
      go_roundw
      case rel => exact ⟨j + 1, hlt, by go_num, HB3, bb3⟩
      case measure => simp [intOf]; omega
    · have hB2 := hB.out
      rw [List.take_of_length_le (by omega)] at hB2
      have HE := Lib.hid (Tryz.Builder_String_any w.heap.size w.heap.size (textL fs) wr hB2 hb.size)
      clear hB hB2
      rw [HX.out] at HE
      go_wp2_with fail
      refine HE.out.mono ?_
      rintro e w2 ⟨rfl, hb2⟩
      go_wp2_with fail
      go_ret
      exact ⟨rfl, hb.trans hb2⟩
end Go.Proofs.YtbbphklhnngjmaaGreatDoor

/- fields: slices.Grow, slices.Concat. -/
namespace Go.Proofs.YtbbphklhnngjmaaGreatDoor
open Go.RowKit

set_option maxHeartbeats 4000000 in
set_option maxRecDepth 100000 in
/-- Grow of the nil slice. -/
theorem grow94 (n : Nat) (hn : n ≤ 1000000000) (w : World) :
    Calls Tryz.prog 108 #[.slice none 0 0, .int .i64 n] w fun e w' => ∃ v, e = .returned v ∧ w'.ownsRow w.heap.size 62 2 v 0 [] ∧ Below w.heap.size w w' := by
  obtain ⟨i0, hi, hz0, hz1, hz2⟩ := info_parts infoFld
  by_cases h0 : n = 0
  · subst h0
    have e0 : ((0 : Nat) : Int) = 0 := rfl
    rw [e0]
    go_enter Tryz.func108, Tryz.ntmps108
    go_wp2_with fail
    go_ret
    exact ⟨_, rfl, World.ownsRow_nil _ _ _ _, Below.refl _ _⟩
  · have hold : (Builtin.firstCells i0.size 0 (.slice none 0 0)).run Tryz.prog w.drew = .ok #[] w.drew := run_firstCells_none w.drew i0.size 0 0 0
    obtain ⟨G, hG⟩ : ∃ G, G = grownCap w n 0 62 := ⟨_, rfl⟩
    have hG1 : n ≤ G := by rw [hG]; exact grownCap_ge w _ _ _
    have hG2 : G ≤ 9223372036854775807 := by
      have := grownCap_le_maxLen w n 0 62 (by unfold maxLen; omega)
      rw [← hG] at this
      unfold maxLen at this
      omega
    have hrz : ∀ ty, (Builtin.append_ #[31, 3] ty #[.slice none 0 0, .int .i64 (n : Int)]).run Tryz.prog w =
        .ok (.slice (some ⟨w.heap.size, 0, none⟩) n G) (w.drew.alloc (.cells (#[] ++ Builtin.zeroCells #[.string ⟨#[]⟩, .string ⟨#[]⟩] n ++ Builtin.zeroCells #[.string ⟨#[]⟩, .string ⟨#[]⟩] (G - n)) 62)) := fun ty => by
      have h := Lib.run_append_grow_zeros w 31 3 ty 62 i0 (.agg #[.string ⟨#[]⟩, .string ⟨#[]⟩]) .i64 .i64 Tryz.underlying31 Tryz.underlying3 hi hz0 none 0 0 [] (by simpa using hold) n (by omega) (by rw [hz1]; decide) (by omega) (by omega)
        (by rw [hz2]; omega) (by rw [hz2, Nat.zero_add]; exact growslice_fits (by omega) (by omega))
      rw [Nat.zero_add] at h
      rw [hG]
      exact h
    have h1 : ¬ ((n : Int) < 0) := by omega
    have h3 : wrap64 ((n : Int) - 0) = (n : Int) := by unfold wrap64; omega
    have h4 : (n : Int) > 0 := by omega
    have O : Hid ((w.drew.alloc (.cells (#[] ++ Builtin.zeroCells #[.string ⟨#[]⟩, .string ⟨#[]⟩] n ++ Builtin.zeroCells #[.string ⟨#[]⟩, .string ⟨#[]⟩] (G - n)) 62)).ownsRow w.heap.size 62 2 (.slice (some ⟨w.heap.size, 0, none⟩) 0 G) 0 []) := by
      refine ⟨rfl, .inr ⟨w.heap.size, G, _, rfl, Nat.le_refl _, heap_alloc_new w.drew _, Nat.zero_le _, by unfold maxLen; omega, ?_, by simp⟩⟩
      simp [Builtin.zeroCells]
      omega
    have L : Hid (Below w.heap.size w (w.drew.alloc (.cells (#[] ++ Builtin.zeroCells #[.string ⟨#[]⟩, .string ⟨#[]⟩] n ++ Builtin.zeroCells #[.string ⟨#[]⟩, .string ⟨#[]⟩] (G - n)) 62))) := (Below.refl w.heap.size w).drew.alloc (Nat.le_refl _) _
    clear hold hG hi hz0 hz1 hz2
    generalize World.alloc w.drew _ = w1 at *
    go_enter Tryz.func108, Tryz.ntmps108
    go_wp2_with (at_builtin; refine Lib.wpList_append_run _ rfl _ _ _ _ rfl _ _ rfl rfl _ _ (hrz _) ?_)
    all_goals (go_ret; exact ⟨_, rfl, O.out, L.out⟩)
end Go.Proofs.YtbbphklhnngjmaaGreatDoor

/- fields: slices.Concat. -/
namespace Go.Proofs.YtbbphklhnngjmaaGreatDoor
open Go.RowKit

/-- A part: where it lies, its capacity, its fields. -/
abbrev Part := Option Addr × Nat × List Fld
def partV (p : Part) : Value := .slice p.1 p.2.2.length p.2.1
def flatP (L : List Part) : List Fld := L.flatMap (·.2.2)
def PartOk (w : World) (p : Part) : Prop := IsFlds w p.1 p.2.1 p.2.2 ∧ (p.1 = none → p.2.1 = 0 ∧ p.2.2 = [])
theorem flatP_step {L : List Part} {j : Nat} (hj : j < L.length) : flatP (L.take (j + 1)) = flatP (L.take j) ++ L[j].2.2 := by
  unfold flatP
  rw [List.take_add_one, List.getElem?_eq_getElem hj, Option.toList_some, List.flatMap_append]
  simp
theorem flatP_le {L : List Part} {j : Nat} : (flatP (L.take j)).length ≤ (flatP L).length := by
  conv => rhs; rw [← List.take_append_drop j L]
  unfold flatP
  rw [List.flatMap_append, List.length_append]
  omega
theorem cellsF_append (a b : List Fld) : cellsF (a ++ b) = cellsF a ++ cellsF b := by simp [cellsF]
set_option maxHeartbeats 4000000 in
set_option maxRecDepth 100000 in
theorem concat73 (g : Nat) (L : List Part) (hL : L.length ≤ 1000) (hsum : (flatP L).length ≤ 1000000000) (w : World) (hg : g < w.heap.size) (hcell : ∀ (j : Nat) p, L[j]? = some p → w.cell? ⟨g, j, none⟩ = some (partV p)) (hok : ∀ p ∈ L, PartOk w p) :
    Calls Tryz.prog 82 #[.slice (some ⟨g, 0, none⟩) L.length L.length] w fun e w' => ∃ v, e = .returned v ∧ w'.ownsRow w.heap.size 62 2 v (flatP L).length (cellsF (flatP L)) ∧ Below w.heap.size w w' := by
  obtain ⟨i0, hi, hz0, hz1, hz2⟩ := info_parts infoFld
  have HC := Lib.hid hcell
  have HK := Lib.hid hok
  have HS := Lib.hid hsum
  have HG := Lib.hid (grow94 (flatP L).length hsum w)
  clear hcell hok hsum
  go_enter Tryz.func82, Tryz.ntmps82
  go_wp2_with fail
  go_loopw [3, 11] (fun s i wr => ∃ j : Nat, j ≤ L.length ∧ i = .int .i64 (j : Int) ∧ s = .int .i64 (((flatP (L.take j)).length : Nat) : Int) ∧ w = wr) (fun _ i _ => L.length - (intOf i).toNat)
  case atStart => exact ⟨0, Nat.zero_le _, rfl, rfl, rfl⟩
  case round =>
    obtain ⟨j, hj, rfl, rfl, rfl⟩ := hrel
    by_cases hlt : j < L.length
    · have cj := HC.out j L[j] (by simp [hlt])
      have hle := flatP_le (L := L) (j := j + 1)
      rw [flatP_step hlt, List.length_append] at hle
      have hst : Hid ((flatP (L.take (j + 1))).length = (flatP (L.take j)).length + L[j].2.2.length) := by show _ = _; rw [flatP_step hlt, List.length_append]
      have hs1 := HS.out
      obtain ⟨p, hp⟩ : ∃ p, p = L[j] := ⟨_, rfl⟩
      rw [← hp] at cj hle hst
      clear hp
      obtain ⟨a, c, fs⟩ := p
      simp only at hle hst
      have cj' : w.cell? ⟨g, j, none⟩ = some (.slice a fs.length c) := cj
      clear cj
      generalize (flatP (L.take j)).length = m at *
      generalize (flatP L).length = M at *
      have j1 : (j : Int) < L.length := by omega
      have m1 : wrap64 ((m : Int) + fs.length) = ((m + fs.length : Nat) : Int) := by unfold wrap64; omega
      have m2 : ¬ (((m + fs.length : Nat) : Int) < 0) := by omega
      go_wp2_with fail
      go_roundw
      case rel => exact ⟨j + 1, hlt, by go_num, by rw [hst.out, Int.natCast_add], by first | rfl | trivial⟩
      case measure => simp [intOf]; omega
    · obtain rfl : j = L.length := by omega
      have ht : flatP (L.take L.length) = flatP L := by rw [List.take_of_length_le (Nat.le_refl _)]
      rw [ht]
      clear ht
      have HX : Hid (∃ m, m = (flatP L).length) := ⟨_, rfl⟩
      go_wp2_with fail
      refine HG.out.mono ?_
      rintro e w1 ⟨v1, rfl, ho1, hb1⟩
      have HO1 := Lib.hid ho1
      have HB1 := Lib.hid hb1
      clear ho1 hb1 HG HX
      go_wp2_with fail
      go_loopw [6, 27] (fun v i wr => ∃ j : Nat, j ≤ L.length ∧ i = .int .i64 (j : Int) ∧ Hid (wr.ownsRow w.heap.size 62 2 v (flatP (L.take j)).length (cellsF (flatP (L.take j)))) ∧ Hid (Below w.heap.size w wr)) (fun _ i _ => L.length - (intOf i).toNat)
      case atStart => exact ⟨0, Nat.zero_le _, rfl, HO1.out, HB1.out⟩
      case round =>
        clear HO1 HB1
        obtain ⟨j, hj, rfl, ho, hb⟩ := hrel
        by_cases hlt : j < L.length
        · have cj := HC.out j L[j] (by simp [hlt])
          obtain ⟨hpf, hpn⟩ := HK.out L[j] (List.getElem_mem hlt)
          have hle := flatP_le (L := L) (j := j + 1)
          rw [flatP_step hlt, List.length_append] at hle
          have hst := Lib.hid (flatP_step hlt)
          have hs1 := HS.out
          rw [← (bcell hb.out).1 _ _ hg] at cj
          have hpw := hpf.below hb.out
          obtain ⟨p, hp⟩ : ∃ p, p = L[j] := ⟨_, rfl⟩
          rw [← hp] at cj hle hst hpn hpw
          clear hp hpf
          obtain ⟨a, c, fs⟩ := p
          simp only at hle hst hpn hpw
          have cj' : wr.cell? ⟨g, j, none⟩ = some (.slice a fs.length c) := cj
          clear cj
          have hgr := hb.out.size
          generalize flatP (L.take j) = F at *
          generalize (flatP L).length = M at *
          have j1 : (j : Int) < L.length := by omega
          have hg2 : g < wr.heap.size := by omega
          cases a with
          | none =>
            obtain ⟨rfl, rfl⟩ := hpn rfl
            go_wp2_with (at_builtin; refine wpList_append_own_none rfl _ _ 31 rfl w.heap.size 62 i0 2 Tryz.underlying31 hi _ _ _ rfl ho.out rfl ?_)
            go_roundw
            case rel => exact ⟨j + 1, hlt, by go_num, by rw [hst.out, List.append_nil]; exact ho, hb⟩
            case measure => simp [intOf]; omega
          | some ad =>
            have hcells : Hid (∀ (k : Nat) u, (cellsF fs)[k]? = some u → wr.cell? (ad.add k) = some u) := by
              intro k u hu
              obtain h0 | ⟨bk, o, h2, hbk, hc, hcl⟩ := hpw
              · subst h0; simp [cellsF] at hu
              · obtain rfl : ad = ⟨bk, o, none⟩ := by injection h2
                exact isFlds_cells hcl k u hu
            have HL := Lib.hid (cellsF_length fs)
            have HM : Hid (F.length + fs.length ≤ 1000000000) := by show _ ≤ _; omega
            clear hpw hpn hle hs1
            go_wp2_with (at_builtin; refine wpList_append_own _ rfl _ _ 31 rfl w.heap.size 62 i0 (.agg #[.string ⟨#[]⟩, .string ⟨#[]⟩]) 2 32 Tryz.underlying31 hi hz0 hz1 hz2 rfl (by decide) _ _ _ rfl ho.out ad fs.length c (cellsF fs) rfl HL.out hcells.out (cellsF_one fs) (by have := HM.out; unfold maxLen; omega) (by have := HM.out; omega) (by omega) ?_)
            intro v' w2 hown' hgrow _
            have hb2 : Hid (Below w.heap.size w w2) := hb.out.grown hgrow (by omega) (fun k hk => (ho.out.lt k hk).1)
            have HO2 : Hid (w2.ownsRow w.heap.size 62 2 v' (F ++ fs).length (cellsF (F ++ fs))) := by
              show World.ownsRow _ _ _ _ _ _ _
              rw [List.length_append, cellsF_append]
              exact hown'
            rw [← hst.out] at HO2
            clear hown' hgrow ho hb hcells
            go_wp2_with fail
            go_roundw
            case rel => exact ⟨j + 1, hlt, by go_num, HO2, hb2⟩
            case measure => simp [intOf]; omega
        · obtain rfl : j = L.length := by omega
          have ho2 := ho.out
          rw [List.take_of_length_le (Nat.le_refl _)] at ho2
          have HO := Lib.hid ho2
          clear ho ho2
          go_wp2_with fail
          go_ret
          exact ⟨_, rfl, HO.out, hb.out⟩
end Go.Proofs.YtbbphklhnngjmaaGreatDoor

/- fields: Add, Set. -/
namespace Go.Proofs.YtbbphklhnngjmaaGreatDoor
open Go.RowKit

theorem own_mono {w : World} {B B' size n : Nat} {e : TypeId} {v : Value} {xs : List Value} (h : w.ownsRow B e size v n xs) (hB : B' ≤ B) : w.ownsRow B' e size v n xs := by
  obtain ⟨hl, h0 | ⟨g, cap, cur, hv, hg, r⟩⟩ := h
  · exact ⟨hl, .inl h0⟩
  · exact ⟨hl, .inr ⟨g, cap, cur, hv, Nat.le_trans hB hg, r⟩⟩
theorem isFlds_new1 (w : World) (n v : List UInt8) (T : TypeId) : IsFlds (w.alloc (.cells #[.string (bs n), .string (bs v)] T)) (some ⟨w.heap.size, 0, none⟩) 1 [(n, v)] := by
  refine .inr ⟨w.heap.size, 0, rfl, by simp, by simp, fun j f hf => ?_⟩
  obtain rfl : j = 0 := by
    have := (List.getElem?_eq_some_iff.1 hf).1
    simp at this
    omega
  obtain rfl : (n, v) = f := by simpa using hf
  simp
set_option maxHeartbeats 4000000 in
set_option maxRecDepth 100000 in
theorem add48 (a : Option Addr) (c : Nat) (fs : List Fld) (n v : List UInt8) (hfl : fs.length ≤ 100000000) (ha : a = none → c = 0 ∧ fs = []) (w : World) (hf : IsFlds w a c fs) :
    Calls Tryz.prog 46 #[.slice a fs.length c, .string (bs n), .string (bs v)] w fun e w' => ∃ u, e = .returned u ∧ w'.ownsRow w.heap.size 62 2 u (fs ++ [(n, v)]).length (cellsF (fs ++ [(n, v)])) ∧ Below w.heap.size w w' := by
  have L1 := below_alloc w (.cells #[.string (bs n), .string (bs v)] 62)
  have F1 := isFlds_new1 w n v 62
  have L2 := below_alloc (w.alloc (.cells #[.string (bs n), .string (bs v)] 62)) (.cells #[.slice a fs.length c, .slice (some ⟨w.heap.size, 0, none⟩) 1 1] 31)
  have hfl2 : flatP [(a, c, fs), (some ⟨w.heap.size, 0, none⟩, 1, [(n, v)])] = fs ++ [(n, v)] := by simp [flatP]
  have hcon := concat73 (w.alloc (.cells #[.string (bs n), .string (bs v)] 62)).heap.size [(a, c, fs), (some ⟨w.heap.size, 0, none⟩, 1, [(n, v)])] (by simp) (by rw [hfl2]; simp; omega) ((w.alloc (.cells #[.string (bs n), .string (bs v)] 62)).alloc (.cells #[.slice a fs.length c, .slice (some ⟨w.heap.size, 0, none⟩) 1 1] 31)) (by simp)
    (fun j p hp => by
      match j, hp with
      | 0, hp => obtain rfl := Option.some.inj hp; simp [partV]
      | 1, hp => obtain rfl := Option.some.inj hp; simp [partV]
      | j + 2, hp => simp at hp)
    (fun p hp => by
      simp only [List.mem_cons, List.not_mem_nil, or_false] at hp
      rcases hp with rfl | rfl
      · exact ⟨(hf.below L1).below L2, ha⟩
      · exact ⟨F1.below L2, fun h => by cases h⟩)
  rw [hfl2, World.size_alloc] at hcon
  have HC := Lib.hid hcon
  have LL : Hid (Below w.heap.size w ((w.alloc (.cells #[.string (bs n), .string (bs v)] 62)).alloc (.cells #[.slice a fs.length c, .slice (some ⟨w.heap.size, 0, none⟩) 1 1] 31))) := L1.trans (L2.mono (by simp))
  clear hcon L1 L2 F1 hf ha hfl2
  generalize fs ++ [(n, v)] = out at *
  go_enter Tryz.func46, Tryz.ntmps46
  go_wp2_with fail
  refine HC.out.mono ?_
  rintro e w1 ⟨u, rfl, ho, hb⟩
  have hs : w.heap.size ≤ ((w.alloc (.cells #[.string (bs n), .string (bs v)] 62)).alloc (.cells #[.slice a fs.length c, .slice (some ⟨w.heap.size, 0, none⟩) 1 1] 31)).heap.size := by simp <;> omega
  have HB : Hid (Below w.heap.size w w1) := LL.out.trans (hb.mono hs)
  have HO : Hid (w1.ownsRow w.heap.size 62 2 u out.length (cellsF out)) := own_mono ho hs
  clear ho hb hs LL HC
  go_wp2_with fail
  go_ret
  exact ⟨_, rfl, HO.out, HB.out⟩
end Go.Proofs.YtbbphklhnngjmaaGreatDoor

/- fields: Set. -/
namespace Go.Proofs.YtbbphklhnngjmaaGreatDoor
open Go.RowKit

/-- The fields with the given one in place of all of its name. -/
def setF (n v : List UInt8) (fs : List Fld) : List Fld :=
  let i := findI [bs n] fs
  if 0 ≤ i then fs.take i.toNat ++ ((n, v) :: dropL [bs n] (fs.drop (i.toNat + 1))) else fs ++ [(n, v)]
/-- What holds while the region runs. -/
structure SetS (W : World) (bk o c i : Nat) (fs : List Fld) (n v : List UInt8) (ds : List Fld) (L : Nat → Bool) (x : Nat → Value) (w : World) : Prop where
  bel : Below W.heap.size W w
  p6 : L 6 = true → ∃ b, x 6 = .slice (some ⟨b, 0, none⟩) 1 1 ∧ IsFlds w (some ⟨b, 0, none⟩) 1 [(n, v)]
  p12 : L 12 = true → ∃ b, x 12 = .slice (some ⟨b, 0, none⟩) 1 1 ∧ IsStrs w (some ⟨b, 0, none⟩) 1 [bs n]
  p13 : L 13 = true → ∃ a' c', x 13 = .slice a' ds.length c' ∧ (a' = none → c' = 0 ∧ ds = []) ∧ IsFlds w a' c' ds
  p14 : L 14 = true → ∃ g b a' c', x 14 = .slice (some ⟨g, 0, none⟩) 3 3 ∧ g < w.heap.size ∧ w.cell? ⟨g, 0, none⟩ = some (.slice (some ⟨bk, o, none⟩) i c) ∧ w.cell? ⟨g, 1, none⟩ = some (.slice (some ⟨b, 0, none⟩) 1 1) ∧ w.cell? ⟨g, 2, none⟩ = some (.slice a' ds.length c') ∧ IsFlds w (some ⟨b, 0, none⟩) 1 [(n, v)] ∧ (a' = none → c' = 0 ∧ ds = []) ∧ IsFlds w a' c' ds
  p15 : L 15 = true → w.ownsRow W.heap.size 62 2 (x 15) (fs.take i ++ ((n, v) :: ds)).length (cellsF (fs.take i ++ ((n, v) :: ds)))
theorem SetS.below {W : World} {bk o c i : Nat} {fs : List Fld} {n v : List UInt8} {ds : List Fld} {L : Nat → Bool} {x : Nat → Value} {w w' : World} (h : SetS W bk o c i fs n v ds L x w) (hb : Below w.heap.size w w') : SetS W bk o c i fs n v ds L x w' := by
  refine ⟨h.bel.trans (hb.mono h.bel.size), fun e => ?_, fun e => ?_, fun e => ?_, fun e => ?_, fun e => own_below (h.p15 e) hb⟩
  · obtain ⟨b, h1, h2⟩ := h.p6 e; exact ⟨b, h1, h2.below hb⟩
  · obtain ⟨b, h1, h2⟩ := h.p12 e; exact ⟨b, h1, h2.below hb⟩
  · obtain ⟨a', c', h1, h2, h3⟩ := h.p13 e; exact ⟨a', c', h1, h2, h3.below hb⟩
  · obtain ⟨g, b, a', c', h1, h2, h3, h4, h5, h6, h7, h8⟩ := h.p14 e
    obtain ⟨hc, _⟩ := bcell hb
    exact ⟨g, b, a', c', h1, Nat.lt_of_lt_of_le h2 hb.size, by rw [hc _ _ h2]; exact h3, by rw [hc _ _ h2]; exact h4, by rw [hc _ _ h2]; exact h5, h6.below hb, h7, h8.below hb⟩
theorem SetS.keep {W : World} {bk o c i : Nat} {fs : List Fld} {n v : List UInt8} {ds : List Fld} {L : Nat → Bool} {x : Nat → Value} {w : World} (h : SetS W bk o c i fs n v ds L x w) (k : Nat) (u : Value) (h6 : k ≠ 6) (h12 : k ≠ 12) (h13 : k ≠ 13) (h14 : k ≠ 14) (h15 : k ≠ 15) :
    SetS W bk o c i fs n v ds (setL L k) (updV x k u) w := by
  refine ⟨h.bel, fun e => ?_, fun e => ?_, fun e => ?_, fun e => ?_, fun e => ?_⟩
  · simp only [setL, if_neg (Ne.symm h6)] at e; simp only [updV, if_neg (Ne.symm h6)]; exact h.p6 e
  · simp only [setL, if_neg (Ne.symm h12)] at e; simp only [updV, if_neg (Ne.symm h12)]; exact h.p12 e
  · simp only [setL, if_neg (Ne.symm h13)] at e; simp only [updV, if_neg (Ne.symm h13)]; exact h.p13 e
  · simp only [setL, if_neg (Ne.symm h14)] at e; simp only [updV, if_neg (Ne.symm h14)]; exact h.p14 e
  · simp only [setL, if_neg (Ne.symm h15)] at e; simp only [updV, if_neg (Ne.symm h15)]; exact h.p15 e
theorem IsFlds.take {w : World} {a : Option Addr} {c : Nat} {fs : List Fld} (h : IsFlds w a c fs) (i : Nat) : IsFlds w a c (fs.take i) := by
  obtain rfl | ⟨bk, o, ha, hlt, hc, hcell⟩ := h
  · exact .inl (by simp)
  · refine .inr ⟨bk, o, ha, hlt, by rw [List.length_take]; omega, fun j f hf => hcell j f ?_⟩
    rw [List.getElem?_take] at hf
    split at hf
    · exact hf
    · cases hf
theorem IsFlds.drop {w : World} {bk o c : Nat} {fs : List Fld} (h : IsFlds w (some ⟨bk, o, none⟩) c fs) (i : Nat) : IsFlds w (some ⟨bk, o + i * 2, none⟩) (c - i) (fs.drop i) := by
  obtain rfl | ⟨bk', o', ha, hlt, hc, hcell⟩ := h
  · exact .inl (by simp)
  · cases ha
    refine .inr ⟨bk, o + i * 2, rfl, hlt, by rw [List.length_drop]; omega, fun j f hf => ?_⟩
    rw [List.getElem?_drop] at hf
    have := hcell (i + j) f hf
    rw [Nat.add_mul] at this
    rw [Nat.add_assoc o, ]
    exact this

set_option maxHeartbeats 4000000 in
set_option maxRecDepth 100000 in
theorem set46 (a : Option Addr) (c : Nat) (fs : List Fld) (n v : List UInt8) (hfl : fs.length ≤ 100000000) (hcm : c ≤ 9223372036854775807) (ha : a = none → c = 0 ∧ fs = []) (hok : ∀ f ∈ fs, FldOk f) (w : World) (hf : IsFlds w a c fs) :
    Calls Tryz.prog 44 #[.slice a fs.length c, .string (bs n), .string (bs v)] w fun e w' => ∃ u, e = .returned u ∧ w'.ownsRow w.heap.size 62 2 u (setF n v fs).length (cellsF (setF n v fs)) ∧ Below w.heap.size w w' := by
  have HI := Lib.hid (index71 a c fs (bs n) (by omega) hok w hf)
  rcases findI_cases [bs n] fs with ⟨hi, hno⟩ | ⟨i, hil, hi, hyes, hno⟩
  · have hset : setF n v fs = fs ++ [(n, v)] := by unfold setF; simp [hi]
    rw [hset]
    rw [hi] at HI
    have HA := Lib.hid (fun W hb => add48 a c fs n v hfl ha W (hf.below hb))
    have hadd : ∀ W, Below w.heap.size w W → Calls Tryz.prog 46 #[.slice a fs.length c, .string (bs n), .string (bs v)] W fun e w' => ∃ u, e = .returned u ∧ w'.ownsRow w.heap.size 62 2 u (fs ++ [(n, v)]).length (cellsF (fs ++ [(n, v)])) ∧ Below w.heap.size w w' := fun W hb =>
      (HA.out W hb).mono fun e w' ⟨u, h1, h2, h3⟩ => ⟨u, h1, own_mono h2 hb.size, hb.trans (h3.mono hb.size)⟩
    have HD := Lib.hid hadd
    clear HA hadd hset hi hno hf ha hok
    generalize fs ++ [(n, v)] = out at *
    go_enter Tryz.func44, Tryz.ntmps44
    go_wp2_with fail
    refine HI.out.mono ?_
    rintro e W ⟨rfl, hb⟩
    go_wp2_with fail
    refine (HD.out W hb).mono ?_
    rintro e w2 ⟨u, rfl, ho, hb2⟩
    have HO := Lib.hid ho
    clear ho
    go_wp2_with fail
    go_ret
    exact ⟨_, rfl, HO.out, hb2⟩
  · rw [hi] at HI
    obtain h0 | ⟨bk, o, rfl, hbk, hc, hcell⟩ := hf
    · subst h0; simp at hil
    have hf : IsFlds w (some ⟨bk, o, none⟩) c fs := .inr ⟨bk, o, rfl, hbk, hc, hcell⟩
    obtain ⟨ds, hds⟩ : ∃ ds, ds = dropL [bs n] (fs.drop (i + 1)) := ⟨_, rfl⟩
    have hset : setF n v fs = fs.take i ++ ((n, v) :: ds) := by unfold setF; simp [hi, hds]
    rw [hset]
    have hdl : ds.length ≤ 100000000 := by
      have : ds.length ≤ (fs.drop (i + 1)).length := by rw [hds]; unfold dropL; exact List.length_filter_le _ _
      rw [List.length_drop] at this
      omega
    have HF := Lib.hid hf
    have HOK := Lib.hid hok
    have HDS := Lib.hid hds
    have HDL := Lib.hid hdl
    clear hset hds hdl hi hyes hno hcell ha hok
    have i1 : ((i : Int) < 0) = False := by simp <;> omega
    have i2 : (i : Int) < fs.length := by omega
    have i3 : (fs.length : Int) ≤ c := by omega
    have i4 : (c : Int) ≤ 9223372036854775807 := by omega
    have i5 : (fs.length : Int) ≤ 100000000 := by omega
    go_enter Tryz.func44, Tryz.ntmps44
    go_wp2_with fail
    refine HI.out.mono ?_
    rintro e W ⟨rfl, hb⟩
    have HF2 : Hid (IsFlds W (some ⟨bk, o, none⟩) c fs) := HF.out.below hb
    clear HF HI hf
    go_wp2_with fail
    have n1 : i ≤ c := by omega
    have E3 : IntKind.i64.wrap ((i : Int) + 1) = (i : Int) + 1 := IntWalk.i64_in _ (by omega)
    obtain ⟨TA, hta⟩ : ∃ TA : Option Addr, TA = if c = i + 1 then some ⟨bk, o, none⟩ else some ⟨bk, o + (i + 1) * 2, none⟩ := ⟨_, rfl⟩
    have HTA := Lib.hid hta
    have TN : Hid (TA ≠ none) := by show _ ≠ _; rw [hta]; split <;> exact fun h => nomatch h
    have TD : Hid (∀ W, IsFlds W (some ⟨bk, o, none⟩) c fs → IsFlds W TA (c - (i + 1)) (fs.drop (i + 1))) := fun W h => by
      rw [hta]
      by_cases he : c = i + 1
      · exact .inl (List.drop_eq_nil_of_le (by omega))
      · rw [if_neg he]; exact h.drop (i + 1)
    clear hta
    refine region_mixt 16 [some (.slice (some ⟨bk, o, none⟩) fs.length c), some (.int .i64 (i : Int)), some (.slice (some ⟨bk, o, none⟩) i c), some (.string (bs n)), some (.string (bs v)), some (.agg #[.string (bs n), .string (bs v)]), none, some (.slice (some ⟨bk, o, none⟩) fs.length c), some (.int .i64 (i : Int)), some (.int .i64 ((i : Int) + 1)), some (.slice TA (fs.length - (i + 1)) (c - (i + 1))), some (.string (bs n)), none, none, none, none]
      [[false, false, false, false, false, false, false, false, false, false, false, false, false, false, false, false], [false, false, false, false, false, false, false, false, false, false, false, false, false, false, false, false], [true, true, false, false, false, false, false, false, false, false, false, false, false, false, false, false], [false, false, false, false, false, false, false, false, false, false, false, false, false, false, false, false], [false, false, false, false, false, false, false, false, false, false, false, false, false, false, false, false], [false, false, false, true, true, false, false, false, false, false, false, false, false, false, false, false], [false, false, false, false, false, true, false, false, false, false, false, false, false, false, false, false], [false, false, false, false, false, false, false, false, false, false, false, false, false, false, false, false], [false, false, false, false, false, false, false, false, false, false, false, false, false, false, false, false], [false, false, false, false, false, false, false, false, true, false, false, false, false, false, false, false], [false, false, false, false, false, false, false, true, false, true, false, false, false, false, false, false], [false, false, false, false, false, false, false, false, false, false, false, false, false, false, false, false], [false, false, false, false, false, false, false, false, false, false, false, true, false, false, false, false], [false, false, false, false, false, false, false, false, false, false, true, false, true, false, false, false], [false, false, true, false, false, false, true, false, false, false, false, false, false, true, false, false], [false, false, false, false, false, false, false, false, false, false, false, false, false, true, true, false]]
      (fun L x w1 => SetS W bk o c i fs n v ds L x w1)
      (by kernel_rfl) (by kernel_rfl) (by kernel_rfl) (by kernel_rfl) (by kernel_rfl) (by decide) ?_ ?_ ?_
    · intro _
      exact ⟨(Below.refl _ _).drew, fun h => (by cases h), fun h => (by cases h), fun h => (by cases h), fun h => (by cases h), fun h => (by cases h)⟩
    · simp only [List.take_succ_cons, List.take_zero]
      refine ⟨?_, ?_, ?_, ?_, ?_, ?_, ?_, ?_, ?_, ?_, ?_, ?_, ?_, ?_, ?_, ?_, trivial⟩
      all_goals
        intro L x w9 hS hl hp K hK
        have hs : SetS W bk o c i fs n v ds L x w9 := hS
        clear hS
        replace hK := hK.out
        simp only [actMix, pickV, List.tail_cons, List.headD_cons, Act.put, List.setIfInBounds_toArray, List.set_cons_zero, List.set_cons_succ] at hK ⊢
      iterate 2
        · clear hp
          go_simp
          with_reducible refine hK _ ?_
          exact hs.keep _ _ (by decide) (by decide) (by decide) (by decide) (by decide)
      · clear hp
        go_simp
        with_reducible refine hK _ ?_
        exact hs.keep _ _ (by decide) (by decide) (by decide) (by decide) (by decide)
      iterate 3
        · clear hp
          go_simp
          with_reducible refine hK _ ?_
          exact hs.keep _ _ (by decide) (by decide) (by decide) (by decide) (by decide)
      · clear hp
        go_simp
        with_reducible refine hK _ _ ?_
        have hb8 := below_alloc w9 (.cells #[.string (bs n), .string (bs v)] 62)
        have hs2 := hs.below hb8
        refine ⟨hs2.bel, fun _ => ⟨w9.heap.size, by simp [updV], isFlds_new1 w9 n v _⟩, fun h => ?_, fun h => ?_, fun h => ?_, fun h => ?_⟩
        · simpa [updV] using hs2.p12 (by simpa [setL] using h)
        · simpa [updV] using hs2.p13 (by simpa [setL] using h)
        · simpa [updV] using hs2.p14 (by simpa [setL] using h)
        · simpa [updV] using hs2.p15 (by simpa [setL] using h)
      iterate 2
        · clear hp
          go_simp
          with_reducible refine hK _ ?_
          exact hs.keep _ _ (by decide) (by decide) (by decide) (by decide) (by decide)
      · clear hp
        have e3 := E3
        go_simp
        with_reducible refine hK _ ?_
        exact hs.keep _ _ (by decide) (by decide) (by decide) (by decide) (by decide)
      · clear hp
        go_simp
        rw [if_pos ⟨by omega, by omega⟩, ← HTA.out]
        simp only [Oper.upon_value, Act.put, List.setIfInBounds_toArray, List.set_cons_zero, List.set_cons_succ]
        with_reducible refine hK _ ?_
        exact hs.keep _ _ (by decide) (by decide) (by decide) (by decide) (by decide)
      · clear hp
        go_simp
        with_reducible refine hK _ ?_
        exact hs.keep _ _ (by decide) (by decide) (by decide) (by decide) (by decide)
      · clear hp
        go_simp
        with_reducible refine hK _ _ ?_
        have hb8 := below_alloc w9 (.cells #[.string (bs n)] 9)
        have hs2 := hs.below hb8
        refine ⟨hs2.bel, fun h => ?_, fun _ => ⟨w9.heap.size, by simp [updV], isStrs_new1 w9 (bs n) _⟩, fun h => ?_, fun h => ?_, fun h => ?_⟩
        · simpa [updV] using hs2.p6 (by simpa [setL] using h)
        · simpa [updV] using hs2.p13 (by simpa [setL] using h)
        · simpa [updV] using hs2.p14 (by simpa [setL] using h)
        · simpa [updV] using hs2.p15 (by simpa [setL] using h)
      · have h12 : L 12 = true := allL_mem hp 12 (by decide +kernel)
        obtain ⟨b12, hx12, hS12⟩ := hs.p12 h12
        have hf9 : IsFlds w9 (some ⟨bk, o, none⟩) c fs := HF2.out.below hs.bel
        clear hp
        rw [hx12] at hK ⊢
        go_simp
        have hdrop := drop55 TA (c - (i + 1)) (fs.drop (i + 1)) (some ⟨b12, 0, none⟩) 1 [bs n] (by rw [List.length_drop]; omega) (by simp) (fun h => absurd h TN.out) (fun f hf => HOK.out f (List.mem_of_mem_drop hf)) w9 (TD.out _ hf9) hS12
        rw [List.length_drop, ← HDS.out] at hdrop
        refine hdrop.mono ?_
        rintro e w8 ⟨a', c', rfl, hn8, hf8, hb8⟩
        have hs2 := hs.below hb8
        with_reducible refine hK _ _ ?_
        refine ⟨hs2.bel, fun h => ?_, fun h => ?_, fun _ => ⟨a', c', by simp [updV], hn8, hf8⟩, fun h => ?_, fun h => ?_⟩
        · simpa [updV] using hs2.p6 (by simpa [setL] using h)
        · simpa [updV] using hs2.p12 (by simpa [setL] using h)
        · simpa [updV] using hs2.p14 (by simpa [setL] using h)
        · simpa [updV] using hs2.p15 (by simpa [setL] using h)
      · have h6 : L 6 = true := allL_mem hp 6 (by decide +kernel)
        have h13 : L 13 = true := allL_mem hp 13 (by decide +kernel)
        obtain ⟨b6, hx6, hS6⟩ := hs.p6 h6
        obtain ⟨a', c', hx13, hn13, hS13⟩ := hs.p13 h13
        clear hp
        rw [hx6, hx13] at hK ⊢
        go_simp
        with_reducible refine hK _ _ ?_
        have hb8 := below_alloc w9 (.cells #[.slice (some ⟨bk, o, none⟩) i c, .slice (some ⟨b6, 0, none⟩) 1 1, .slice a' ds.length c'] 31)
        have hs2 := hs.below hb8
        refine ⟨hs2.bel, fun h => ?_, fun h => ?_, fun h => ?_, fun _ => ⟨w9.heap.size, b6, a', c', by simp [updV], by simp, by simp, by simp, by simp, hS6.below hb8, hn13, hS13.below hb8⟩, fun h => ?_⟩
        · simpa [updV] using hs2.p6 (by simpa [setL] using h)
        · simpa [updV] using hs2.p12 (by simpa [setL] using h)
        · simpa [updV] using hs2.p13 (by simpa [setL] using h)
        · simpa [updV] using hs2.p15 (by simpa [setL] using h)
      · have h14 : L 14 = true := allL_mem hp 14 (by decide +kernel)
        obtain ⟨g, b6, a', c', hx14, hg9, hc0, hc1, hc2, hS6, hn13, hS13⟩ := hs.p14 h14
        clear hp
        rw [hx14] at hK ⊢
        go_simp
        have hfp : flatP [(some ⟨bk, o, none⟩, c, fs.take i), (some ⟨b6, 0, none⟩, 1, [(n, v)]), (a', c', ds)] = fs.take i ++ ((n, v) :: ds) := by simp [flatP]
        have hlt9 : (fs.take i).length = i := by rw [List.length_take]; omega
        have hcon := concat73 g [(some ⟨bk, o, none⟩, c, fs.take i), (some ⟨b6, 0, none⟩, 1, [(n, v)]), (a', c', ds)] (by simp) (by have := HDL.out; rw [hfp, List.length_append, hlt9, List.length_cons]; omega) w9 hg9
          (fun j p hp => by
            match j, hp with
            | 0, hp => obtain rfl := Option.some.inj hp; rw [hc0]; simp only [partV, hlt9]
            | 1, hp => obtain rfl := Option.some.inj hp; rw [hc1]; rfl
            | 2, hp => obtain rfl := Option.some.inj hp; rw [hc2]; rfl
            | j + 3, hp => simp at hp)
          (fun p hp => by
            simp only [List.mem_cons, List.not_mem_nil, or_false] at hp
            rcases hp with rfl | rfl | rfl
            · exact ⟨(HF2.out.below hs.bel).take i, fun h => by cases h⟩
            · exact ⟨hS6, fun h => by cases h⟩
            · exact ⟨hS13, hn13⟩)
        rw [hfp] at hcon
        refine hcon.mono ?_
        rintro e w8 ⟨u, rfl, ho8, hb8⟩
        have hs2 := hs.below hb8
        with_reducible refine hK _ _ ?_
        refine ⟨hs2.bel, fun h => ?_, fun h => ?_, fun h => ?_, fun h => ?_, fun _ => ?_⟩
        · simpa [updV] using hs2.p6 (by simpa [setL] using h)
        · simpa [updV] using hs2.p12 (by simpa [setL] using h)
        · simpa [updV] using hs2.p13 (by simpa [setL] using h)
        · simpa [updV] using hs2.p14 (by simpa [setL] using h)
        · have := own_mono ho8 hs.bel.size
          simpa [updV] using this
    · intro L x w9 hS hL
      have hs : SetS W bk o c i fs n v ds L x w9 := hS
      have HO := Lib.hid (own_mono (hs.p15 (hL 15 (by decide))) hb.size)
      have hbel := hb.trans (hs.bel.mono hb.size)
      clear hS hs hL
      simp only [actMix, pickV, List.tail_cons, List.headD_cons, Act.put, List.setIfInBounds_toArray, List.set_cons_zero, List.set_cons_succ, List.replicate_succ, List.replicate_zero, List.drop_succ_cons, List.drop_zero, List.take_succ_cons, List.take_zero] 
      generalize x 15 = u at *
      go_wp2_with fail
      go_ret
      exact ⟨_, rfl, HO.out, hbel⟩
end Go.Proofs.YtbbphklhnngjmaaGreatDoor

/- stewardlaw06.Own. -/
namespace Go.Proofs.YtbbphklhnngjmaaGreatDoor
open Go.RowKit

theorem cells_new1 (w : World) (n v : ByteArray) (T : TypeId) : ∀ (k : Nat) u, [Value.string n, .string v][k]? = some u → (w.alloc (.cells #[.string n, .string v] T)).cell? ((⟨w.heap.size, 0, none⟩ : Addr).add k) = some u := by
  intro k u hu
  rw [Addr.add_mid]
  match k, hu with
  | 0, hu => obtain rfl := Option.some.inj hu; simp
  | 1, hu => obtain rfl := Option.some.inj hu; simp
  | k + 2, hu => simp at hu
theorem cellsF_step {fs : List Fld} {j : Nat} (hj : j < fs.length) : cellsF (fs.take (j + 1)) = cellsF (fs.take j) ++ [.string (bs fs[j].1), .string (bs fs[j].2)] := by
  rw [List.take_add_one, List.getElem?_eq_getElem hj, Option.toList_some, cellsF_append]
  rfl
set_option maxHeartbeats 4000000 in
set_option maxRecDepth 100000 in
theorem own40 (a : Option Addr) (c : Nat) (fs : List Fld) (hfl : fs.length ≤ 1000000) (w : World) (hf : IsFlds w a c fs) :
    Calls Tryz.prog 36 #[.slice a fs.length c] w fun e w' => ∃ u, e = .returned u ∧ w'.ownsRow w.heap.size 62 2 u fs.length (cellsF fs) ∧ Below w.heap.size w w' := by
  obtain ⟨i0, hi, hz0, hz1, hz2⟩ := info_parts infoFld
  have HFF := Lib.hid hf
  clear hf
  go_enter Tryz.func36, Tryz.ntmps36
  go_wp2_with fail
  go_loopw [3, 8] (fun v i wr => ∃ j : Nat, j ≤ fs.length ∧ i = .int .i64 (j : Int) ∧ Hid (wr.ownsRow w.heap.size 62 2 v j (cellsF (fs.take j))) ∧ Hid (Below w.heap.size w wr)) (fun _ i _ => fs.length - (intOf i).toNat)
  case atStart => exact ⟨0, Nat.zero_le _, rfl, World.ownsRow_nil _ _ _ _, Below.refl _ _⟩
  case round =>
    obtain ⟨j, hj, rfl, ho, hb⟩ := hrel
    by_cases hlt : j < fs.length
    · obtain h0 | ⟨bk, o, rfl, hbk, hc, hcell⟩ := HFF.out.below hb.out
      · subst h0; simp at hlt
      obtain ⟨c1, c2⟩ := hcell j fs[j] (by simp [hlt])
      have hst := Lib.hid (cellsF_step hlt)
      obtain ⟨f, hfe⟩ : ∃ f, f = fs[j] := ⟨_, rfl⟩
      rw [← hfe] at c1 c2 hst
      clear hcell hfe
      obtain ⟨n, v⟩ := f
      simp only at c1 c2 hst
      generalize bs n = N at *
      generalize bs v = V at *
      have j1 : (j : Int) < fs.length := by omega
      have hsz : (wr.alloc (.cells #[.string N, .string V] 53)).heap.size = wr.heap.size + 1 := World.size_alloc _ _
      have hnews := cells_new1 (wr.alloc (.cells #[.string N, .string V] 53)) N V 62
      rw [hsz] at hnews
      have HNW := Lib.hid hnews
      have HO2 : Hid (((wr.alloc (.cells #[.string N, .string V] 53)).alloc (.cells #[.string N, .string V] 62)).ownsRow w.heap.size 62 2 _ j (cellsF (fs.take j))) := (ho.out.alloc _).alloc _
      have hgr := hb.out.size
      have hb2 : Hid (Below w.heap.size w ((wr.alloc (.cells #[.string N, .string V] 53)).alloc (.cells #[.string N, .string V] 62))) := (hb.out.alloc hgr _).alloc (by rw [hsz]; omega) _
      clear hnews ho hb
      go_wp2_with (at_builtin; refine wpList_append_own _ rfl _ _ 31 rfl w.heap.size 62 i0 (.agg #[.string ⟨#[]⟩, .string ⟨#[]⟩]) 2 32 Tryz.underlying31 hi hz0 hz1 hz2 rfl (by decide) _ _ _ rfl HO2.out ⟨wr.heap.size + 1, 0, none⟩ 1 1 [.string N, .string V] rfl rfl HNW.out (by intro u hu; simp at hu; rcases hu with rfl | rfl <;> rfl) (by unfold maxLen; omega) (by omega) (by simp; omega) ?_)
      intro v' w2 hown' hgrow _
      have hb3 : Hid (Below w.heap.size w w2) := hb2.out.grown hgrow hb2.out.size (fun k hk => (HO2.out.lt k hk).1)
      rw [← hst.out] at hown'
      have HO3 := Lib.hid hown'
      clear hown' hgrow hb2 HO2 HNW hst
      go_wp2_with fail
      go_roundw
      case rel => exact ⟨j + 1, hlt, by go_num, HO3, hb3⟩
      case measure => simp [intOf]; omega
    · obtain rfl : j = fs.length := by omega
      have ho2 := ho.out
      rw [List.take_of_length_le (Nat.le_refl _)] at ho2
      have HO := Lib.hid ho2
      clear ho ho2
      go_wp2_with fail
      go_ret
      exact ⟨_, rfl, HO.out, hb.out⟩
end Go.Proofs.YtbbphklhnngjmaaGreatDoor

/- request: a head in memory; a field line. -/
namespace Go.Proofs.YtbbphklhnngjmaaGreatDoor
open Go.RowKit

/-- What holds while a field is put behind the others. -/
structure AddS (G : Nat → Prop) (T : TypeId) (rest : List Value) (w0 : World) (g : Nat) (L H C B st : Int) (f : ByteArray) (fs : List Fld) (sz : Nat) (cur : List UInt8) (cr : Bool) (e : Int) (rv ln : Value) (N V : List UInt8) (S : (Nat → Bool)) (x : Nat → Value) (w : World) : Prop where
  a : S 7 = false → Below w0.heap.size w0 w
  o : S 6 = true → S 5 = true
  b : S 6 = true → S 7 = false → ∃ b, x 6 = .slice (some ⟨b, 0, none⟩) 1 1 ∧ ∀ (k : Nat) u, [Value.string (bs N), .string (bs V)][k]? = some u → w.cell? ((⟨b, 0, none⟩ : Addr).add k) = some u
  d : S 7 = true → (S 4 = true ∧ S 6 = true) ∧ HeAt G T rest (w.setCell ⟨g, 6, none⟩ (x 7)) g L H C B st f (fs ++ [(N, V)]) sz cur cr e (x 7) ln ∧ Row w g T (heCells L H C B st f rv sz ln cr e rest) ∧ Keep G w0 (w.setCell ⟨g, 6, none⟩ (x 7)) ∧ ∃ va vc, x 7 = .slice va (fs.length + 1) vc
theorem AddS.keep {G : Nat → Prop} {T : TypeId} {rest : List Value} {w0 : World} {g : Nat} {L H C B st : Int} {f : ByteArray} {fs : List Fld} {sz : Nat} {cur : List UInt8} {cr : Bool} {e : Int} {rv ln : Value} {N V : List UInt8} {S : (Nat → Bool)} {x : Nat → Value} {w : World} (h : AddS G T rest w0 g L H C B st f fs sz cur cr e rv ln N V S x w) (i : Nat) (u : Value) (h6 : i ≠ 6) (h7 : i ≠ 7) : AddS G T rest w0 g L H C B st f fs sz cur cr e rv ln N V (setL S i) (updV x i u) w := by
  have e6 : setL S i 6 = S 6 := by simp only [setL, if_neg (Ne.symm h6)]
  have e7 : setL S i 7 = S 7 := by simp only [setL, if_neg (Ne.symm h7)]
  have e4 : S 4 = true → setL S i 4 = true := fun h => by simp only [setL]; split; rfl; exact h
  have e5 : S 5 = true → setL S i 5 = true := fun h => by simp only [setL]; split; rfl; exact h
  have x6 : updV x i u 6 = x 6 := by simp only [updV, if_neg (Ne.symm h6)]
  have x7 : updV x i u 7 = x 7 := by simp only [updV, if_neg (Ne.symm h7)]
  refine ⟨by rw [e7]; exact h.a, by rw [e6]; exact fun q => e5 (h.o q), by rw [e6, e7, x6]; exact h.b, ?_⟩
  rw [e6, e7, x7]
  intro q
  exact ⟨⟨e4 (h.d q).1.1, (h.d q).1.2⟩, (h.d q).2⟩
theorem cellsF_snoc (fs : List Fld) (N V : List UInt8) : cellsF fs ++ [.string (bs N), .string (bs V)] = cellsF (fs ++ [(N, V)]) := by simp [cellsF]
theorem infoFldr : (Tryz.prog.info? 62).map (fun i => (i.zero, i.size, i.bytes)) = some (some (.agg #[.string ⟨#[]⟩, .string ⟨#[]⟩]), 2, 32) := by kernel_rfl
set_option maxRecDepth 100000 in
set_option maxHeartbeats 4000000 in
theorem hadd61 (G : Nat → Prop) (T : TypeId) (rest : List Value) (g : Nat) (L H C B st : Int) (f : ByteArray) (fs : List Fld) (sz : Nat) (cur : List UInt8) (cr : Bool) (e : Int) (s : ByteArray) (N V : List UInt8) (e1 E : Int) (he1 : e1 = 0 ∨ e1 = 2) (hp : parseV s.data.toList = .tuple #[fldV (N, V), .int .i64 e1])
    (hE : E = if H < (sz : Int) + ((s.size : Int) + 2) ∨ C < (fs.length : Int) + 1 then 4 else e1) (hsz : sz + s.size ≤ 1000000000) (hfl : fs.length ≤ 1000000000) (w : World) (h : He G T rest w g L H C B st f fs sz cur cr e) (hu : Up G w) (hM : MaxL w) :
    Calls Tryz.prog 166 #[.pointer (some ⟨g, 0, none⟩), .string s] w fun r w' => r = .returned (.tuple #[]) ∧ (if E = 0 then He G T rest w' g L H C B st f (fs ++ [(N, V)]) (sz + (s.size + 2)) cur cr e else He G T rest w' g 0 0 0 0 3 ⟨#[]⟩ [] 0 [] false E) ∧ Keep G w w' := by
  obtain ⟨i0, hi, hz0, hz1, hz2⟩ := info_parts infoFldr
  obtain ⟨rv, ln, h⟩ := h
  have HD := Lib.hid h
  have HU := Lib.hid hu
  have HP := Lib.hid (parse36 s (by omega) w hM)
  rw [hp] at HP
  unfold fldV at HP
  simp only at HP
  clear h hu hM hp
  go_enter Tryz.func166, Tryz.ntmps166
  go_wp2_with fail
  with_reducible refine HP.out.mono ?_
  rintro e9 wA ⟨rfl, hbA⟩
  have cF0 : (wA.alloc (.cells #[.string (bs N), .string (bs V)] 62)).cell? ⟨wA.heap.size, 0, none⟩ = some (.string (bs N)) := by simp
  have cF1 : (wA.alloc (.cells #[.string (bs N), .string (bs V)] 62)).cell? ⟨wA.heap.size, 1, none⟩ = some (.string (bs V)) := by simp
  have hlt : wA.heap.size < (wA.alloc (.cells #[.string (bs N), .string (bs V)] 62)).heap.size := by simp
  have hb0 := hbA.alloc hbA.size (.cells #[.string (bs N), .string (bs V)] 62)
  go_upto_region 1 with fail
  obtain ⟨bF, hbF⟩ : ∃ bF, bF = wA.heap.size := ⟨_, rfl⟩
  rw [← hbF] at cF0 cF1 hlt ⊢
  generalize wA.alloc (.cells #[.string (bs N), .string (bs V)] 62) = w0 at *
  have HD0 := Lib.hid (HD.out.below hb0)
  have HU0 := Lib.hid (HU.out.below hb0)
  have HB0 := Lib.hid (Keep.of_below (G := G) hb0)
  clear hbF hbA hb0 HD HU HP
  refine region_mixt 8 [some (.pointer (some ⟨g, 0, none⟩)), some (.pointer (some ⟨g, 0, none⟩)), some (.pointer (some ⟨g, 0, none⟩)), some (.pointer (some ⟨g, 6, none⟩)), some (rv), some (.agg #[.string (bs N), .string (bs V)]), none, none]
    [[false, false, false, false, false, false, false, false], [false, false, false, false, false, false, false, false], [false, true, false, false, false, false, false, false], [false, false, true, false, false, false, false, false], [false, false, false, true, false, false, false, false], [false, false, false, false, false, false, false, false], [false, false, false, false, false, true, false, false], [false, false, false, false, true, false, true, false]]
    (fun L1 x w1 => AddS G T rest w0 g L H C B st f fs sz cur cr e rv ln N V L1 x w1)
    (by kernel_rfl) (by kernel_rfl) (by kernel_rfl) (by kernel_rfl) (by kernel_rfl) (by decide) ?_ ?_ ?_
  · intro _
    exact ⟨fun _ => ⟨rfl, rfl, rfl, Nat.le_refl _, fun _ _ => rfl⟩, fun h => (by cases h), fun h => (by cases h), fun h => (by cases h)⟩
  · simp only [List.take_succ_cons, List.take_zero]
    refine ⟨?_, ?_, ?_, ?_, ?_, ?_, ?_, ?_, trivial⟩
    all_goals
      intro S x w9 hS hl hp K hK
      have hs : AddS G T rest w0 g L H C B st f fs sz cur cr e rv ln N V S x w9 := hS
      clear hS
      replace hK := hK.out
      simp only [actMix, pickV, List.tail_cons, List.headD_cons, Act.put, List.setIfInBounds_toArray, List.set_cons_zero, List.set_cons_succ] at hK ⊢
    iterate 4
      · clear hp
        go_simp
        with_reducible refine hK _ ?_
        exact hs.keep _ _ (by decide) (by decide)
    · have h7 : S 7 = false := by
        cases h : S 7 with
        | false => rfl
        | true => have := (hs.d h).1.1; rw [hl] at this; cases this
      have c6 := (HD0.out.below (hs.a h7)).c.2.2.2.2.2.2.1
      clear hp
      go_simp
      with_reducible refine hK _ ?_
      exact hs.keep _ _ (by decide) (by decide)
    · have h7 : S 7 = false := by
        cases h : S 7 with
        | false => rfl
        | true => have := hs.o (hs.d h).1.2; rw [hl] at this; cases this
      have r0 : w9.cell? ⟨bF, 0, none⟩ = some (.string (bs N)) := by rw [(bcell (hs.a h7)).1 _ _ hlt]; exact cF0
      have r1 : w9.cell? ⟨bF, 1, none⟩ = some (.string (bs V)) := by rw [(bcell (hs.a h7)).1 _ _ hlt]; exact cF1
      clear hp
      go_simp
      with_reducible refine hK _ ?_
      exact hs.keep _ _ (by decide) (by decide)
    · have h7 : S 7 = false := by
        cases h : S 7 with
        | false => rfl
        | true => have := (hs.d h).1.2; rw [hl] at this; cases this
      have h5 : S 5 = true := allL_mem hp 5 (by decide +kernel)
      clear hp
      go_simp
      with_reducible refine hK _ _ ?_
      have hs9 := (hs.a h7).size
      refine ⟨fun _ => (hs.a h7).alloc hs9 _, fun _ => by simp [setL, h5], fun _ _ => ⟨w9.heap.size, by simp [updV], cells_new1 w9 (bs N) (bs V) _⟩, fun h => ?_⟩
      simp [setL, h7] at h
    · have h4 : S 4 = true := allL_mem hp 4 (by decide +kernel)
      have h6 : S 6 = true := allL_mem hp 6 (by decide +kernel)
      obtain ⟨b9, hx9, hc9⟩ := hs.b h6 hl
      have hd9 := HD0.out.below (hs.a hl)
      have hu9 := HU0.out.below (hs.a hl)
      clear hp
      rw [hx9] at hK ⊢
      rw [if_pos (by rfl)]
      refine wp_append_at w9 _ _ 31 rfl 0 62 i0 (.agg #[.string ⟨#[]⟩, .string ⟨#[]⟩]) 2 32 Tryz.underlying31 hi hz0 hz1 hz2 rfl (by decide) _ _ _ rfl hd9.ro ⟨b9, 0, none⟩ 1 1 [.string (bs N), .string (bs V)] rfl rfl hc9 (by intro u hu; simp at hu; rcases hu with rfl | rfl <;> rfl) (by unfold maxLen; omega) (by omega) (Nat.zero_le _) ?_
      intro v' w1 hown1 hgrow hat
      rw [cellsF_snoc] at hown1
      obtain ⟨va, vc, hv⟩ := own_slice hown1
      have hown2 := own_len hown1 (show fs.length + 1 = (fs ++ [(N, V)]).length by simp)
      obtain ⟨q1, q2, q3, _⟩ := hd9.grewR hgrow rfl hat hu9 hown2
      simp only [Act.put, List.setIfInBounds_toArray, List.set_cons_zero, List.set_cons_succ]
      with_reducible refine hK _ _ ?_
      refine ⟨fun h => ?_, fun _ => ?_, fun _ h => ?_, fun _ => ⟨⟨by simp [setL, h4], by simp [setL, h6]⟩, by simpa [updV] using q1, q2, by simpa [updV] using (Keep.of_below (hs.a hl)).trans q3, va, vc, by simpa [updV] using hv⟩⟩
      · simp [setL] at h
      · have := hs.o h6
        simp [setL, this]
      · simp [setL] at h
  intro S x w9 hS hL
  have hs : AddS G T rest w0 g L H C B st f fs sz cur cr e rv ln N V S x w9 := hS
  obtain ⟨_, q1, q2, q3, va, vc, hv⟩ := hs.d (hL 7 (by decide))
  have c6 : w9.cell? ⟨g, 6, none⟩ = some rv := (q2.cell 6).trans (by simp [heCells, heL])
  have f6 := q2.free 6
  rw [hv] at q1 q3
  have HQ1 := Lib.hid q1
  have HQ3 := Lib.hid (HB0.out.trans q3)
  clear hS hL hs q1 q2 q3 HD0 HU0 HB0 cF0 cF1 hlt hi hz0 hz1 hz2
  simp only [actMix, pickV, List.tail_cons, List.headD_cons, Act.put, List.setIfInBounds_toArray, List.set_cons_zero, List.set_cons_succ, List.replicate_succ, List.replicate_zero, List.drop_succ_cons, List.drop_zero, List.take_succ_cons, List.take_zero]
  rw [hv]
  clear hv
  go_upto_region 2 with fail
  clear c6 f6
  generalize w9.setCell ⟨g, 6, none⟩ (.slice va (fs.length + 1) vc) = w2 at *
  have c7 := HQ1.out.c.2.2.2.2.2.2.2.1
  have f7 := HQ1.out.row.free 7
  have HQ2 : Hid (HeAt G T rest (w2.setCell ⟨g, 7, none⟩ (.int .i64 ((sz + (s.size + 2) : Nat) : Int))) g L H C B st f (fs ++ [(N, V)]) (sz + (s.size + 2)) cur cr e (.slice va (fs.length + 1) vc) ln) := HQ1.out.set7 _
  have HQ4 := Lib.hid (HQ3.out.trans (Keep.setCell w2 (p := ⟨g, 7, none⟩) HQ1.out.gG (.int .i64 ((sz + (s.size + 2) : Nat) : Int))))
  obtain ⟨z, hz⟩ : ∃ z, z = sz + (s.size + 2) := ⟨_, rfl⟩
  have hzi : (sz : Int) + ((s.size : Int) + 2) = (z : Int) := by omega
  rw [hzi] at hE
  rw [← hz] at HQ2 HQ4
  have HZ := Lib.hid hz
  have hzz : z ≤ 1000000002 := by omega
  clear HQ1 HQ3 hz
  go_upto_region 3 with fail
  clear c7 f7
  generalize w2.setCell ⟨g, 7, none⟩ (.int .i64 (z : Int)) = w3 at *
  obtain ⟨c0, c1, c2, c3, c4, c5, c6, c7, c8, c9, c10⟩ := HQ2.out.c
  clear c0 c3 c4 c5 c8 c9 c10
  have HF := Lib.hid (fun (W : World) (x : Int) (h : He G T rest W g L H C B st f (fs ++ [(N, V)]) z cur cr e) => hfail40 G T rest g L H C B st f (fs ++ [(N, V)]) z cur cr e x W h)
  have DN : ∀ k, Below w3.heap.size w3 (w3.drewN k) := fun k => ⟨rfl, rfl, rfl, Nat.le_refl _, fun _ _ => rfl⟩
  have HDN := Lib.hid DN
  clear DN
  have hfl2 : ((fs.length + 1 : Nat) : Int) = (fs.length : Int) + 1 := by omega
  by_cases ha : H < (z : Int)
  · rw [if_pos (.inl ha)] at hE
    subst hE
    have h1 : decide (H < (z : Int)) = true := decide_eq_true ha
    go_quiet (fail)
    go_wp2_with fail
    with_reducible refine (HF.out _ _ (HQ2.out.below (HDN.out _)).he).mono ?_
    rintro e9 w' ⟨rfl, hd, hk⟩
    go_wp2_with fail
    go_end0
    exact ⟨rfl, hd, (HQ4.out.trans (.of_below (HDN.out _))).trans hk⟩
  · by_cases hb : C < (fs.length : Int) + 1
    · rw [if_pos (.inr hb)] at hE
      subst hE
      have h1 : decide (H < (z : Int)) = false := decide_eq_false ha
      have h2 : decide (C < (fs.length : Int) + 1) = true := decide_eq_true hb
      go_quiet (fail)
      go_wp2_with fail
      with_reducible refine (HF.out _ _ (HQ2.out.below (HDN.out _)).he).mono ?_
      rintro e9 w' ⟨rfl, hd, hk⟩
      go_wp2_with fail
      go_end0
      exact ⟨rfl, hd, (HQ4.out.trans (.of_below (HDN.out _))).trans hk⟩
    · rw [if_neg (by rintro (h | h); (· exact ha h); (· exact hb h))] at hE
      subst hE
      have h1 : decide (H < (z : Int)) = false := decide_eq_false ha
      have h2 : decide (C < (fs.length : Int) + 1) = false := decide_eq_false hb
      rcases he1 with rfl | rfl
      · go_quiet (fail)
        go_wp2_with fail
        go_end0
        rw [← HZ.out]
        exact ⟨rfl, (HQ2.out.below (HDN.out _)).he, HQ4.out.trans (.of_below (HDN.out _))⟩
      · skip
        go_quiet (fail)
        go_wp2_with fail
        with_reducible refine (HF.out _ _ (HQ2.out.below (HDN.out _)).he).mono ?_
        rintro e9 w' ⟨rfl, hd, hk⟩
        go_wp2_with fail
        go_end0
        exact ⟨rfl, hd, (HQ4.out.trans (.of_below (HDN.out _))).trans hk⟩
end Go.Proofs.YtbbphklhnngjmaaGreatDoor

/- request: a head in memory; a line's end, a byte. -/
namespace Go.Proofs.YtbbphklhnngjmaaGreatDoor
open Go.RowKit

def EndTo (E : Int) (A B : Prop) : Prop := if E = 0 then A else B
theorem own_anyH (a : Option Addr) (c n m : Nat) : (Value.slice a n c).ownBlock = (Value.slice a m c).ownBlock := by cases a <;> rfl
theorem own_zeroH {w : World} {e : TypeId} {n : Nat} {a : Option Addr} {c : Nat} {xs : List Value} (h : w.ownsRow 0 e 1 (.slice a n c) n xs) : w.ownsRow 0 e 1 (.slice a 0 c) ([] : List UInt8).length (byteVals []) := by
  obtain ⟨hl, ⟨h0, hn⟩ | ⟨g, cap, cur, hv, hb, hc, hn, hm, hs, ht⟩⟩ := h
  · injection h0 with h1 h2 h3
    subst h1 h3
    exact ⟨rfl, .inl ⟨rfl, rfl⟩⟩
  · injection hv with h1 h2 h3
    subst h1 h3
    exact ⟨rfl, .inr ⟨g, _, cur, rfl, hb, hc, Nat.zero_le _, hm, hs, by simp [byteVals]⟩⟩
set_option maxRecDepth 100000 in
set_option maxHeartbeats 2000000 in
/-- The first line's end. -/
theorem hend0 (G : Nat → Prop) (T : TypeId) (rest : List Value) (g : Nat) (L H C B : Int) (f : ByteArray) (fs : List Fld) (sz : Nat) (cur : List UInt8) (cr : Bool) (e : Int) (w : World) (h : He G T rest w g L H C B 0 f fs sz cur cr e) :
    Calls Tryz.prog 147 #[.pointer (some ⟨g, 0, none⟩)] w fun r w' => r = .returned (.tuple #[]) ∧ He G T rest w' g L H C B 1 (bs cur) fs sz [] false e ∧ Keep G w w' := by
  obtain ⟨rv, ln, h⟩ := h
  obtain ⟨c0, c1, c2, c3, c4, c5, c6, c7, c8, c9, c10⟩ := h.c
  have f4 := h.row.free 4
  have f5 := h.row.free 5
  have f8 := h.row.free 8
  have f9 := h.row.free 9
  have hcv := own_string w 0 _ _ h.lo
  obtain ⟨la, lc, rfl⟩ := own_slice h.lo
  have HD := Lib.hid h
  have HD1 : Hid (HeAt G T rest ((w.setCell ⟨g, 8, none⟩ (.slice la 0 lc)).setCell ⟨g, 9, none⟩ (.bool false)) g L H C B 0 f fs sz [] false e rv (.slice la 0 lc)) :=
    (h.set8 (own_zeroH h.lo) (fun j hj => h.lG j ((own_anyH la lc cur.length 0).trans hj))).set9 false
  have K : ∀ (v : World) (i : Nat) (u : Value), Keep G v (v.setCell ⟨g, i, none⟩ u) := fun v i u => Keep.setCell v (p := ⟨g, i, none⟩) HD.out.gG u
  have HK := Lib.hid K
  obtain ⟨x, hx⟩ : ∃ x, x = (⟨cur.toArray⟩ : ByteArray) := ⟨_, rfl⟩
  rw [← hx] at hcv
  have hxb : x = bs cur := hx
  have HX := Lib.hid hxb
  have HR : Hid (HeAt G T rest ((((w.setCell ⟨g, 8, none⟩ (.slice la 0 lc)).setCell ⟨g, 9, none⟩ (.bool false)).setCell ⟨g, 5, none⟩ (.string x)).setCell ⟨g, 4, none⟩ (.int .i64 1)) g L H C B 1 x fs sz [] false e rv (.slice la 0 lc)) := (HD1.out.set5 x).set4 1
  clear h K c0 c1 c2 c3 c6 c7 c10 hx hxb HD1
  go_enter Tryz.func147, Tryz.ntmps147
  go_wp2_with fail
  go_end0
  rw [← HX.out]
  exact ⟨rfl, HR.out.he, (((HK.out _ _ _).trans (HK.out _ _ _)).trans (HK.out _ _ _)).trans (HK.out _ _ _)⟩
set_option maxRecDepth 100000 in
set_option maxHeartbeats 2000000 in
/-- The empty line's end. -/
theorem hend1 (G : Nat → Prop) (T : TypeId) (rest : List Value) (g : Nat) (L H C B : Int) (f : ByteArray) (fs : List Fld) (sz : Nat) (cur : List UInt8) (cr : Bool) (e : Int) (h0 : cur = []) (w : World) (h : He G T rest w g L H C B 1 f fs sz cur cr e) :
    Calls Tryz.prog 147 #[.pointer (some ⟨g, 0, none⟩)] w fun r w' => r = .returned (.tuple #[]) ∧ He G T rest w' g L H C B 2 f fs sz [] false e ∧ Keep G w w' := by
  obtain ⟨rv, ln, h⟩ := h
  obtain ⟨c0, c1, c2, c3, c4, c5, c6, c7, c8, c9, c10⟩ := h.c
  have f4 := h.row.free 4
  have f5 := h.row.free 5
  have f8 := h.row.free 8
  have f9 := h.row.free 9
  have hcv := own_string w 0 _ _ h.lo
  obtain ⟨la, lc, rfl⟩ := own_slice h.lo
  have HD := Lib.hid h
  have HD1 : Hid (HeAt G T rest ((w.setCell ⟨g, 8, none⟩ (.slice la 0 lc)).setCell ⟨g, 9, none⟩ (.bool false)) g L H C B 1 f fs sz [] false e rv (.slice la 0 lc)) :=
    (h.set8 (own_zeroH h.lo) (fun j hj => h.lG j ((own_anyH la lc cur.length 0).trans hj))).set9 false
  have K : ∀ (v : World) (i : Nat) (u : Value), Keep G v (v.setCell ⟨g, i, none⟩ u) := fun v i u => Keep.setCell v (p := ⟨g, i, none⟩) HD.out.gG u
  have HK := Lib.hid K
  obtain ⟨x, hx⟩ : ∃ x, x = (⟨cur.toArray⟩ : ByteArray) := ⟨_, rfl⟩
  rw [← hx] at hcv
  have hxe : x = ⟨#[]⟩ := by rw [hx, h0]
  have HR : Hid (HeAt G T rest (((w.setCell ⟨g, 8, none⟩ (.slice la 0 lc)).setCell ⟨g, 9, none⟩ (.bool false)).setCell ⟨g, 4, none⟩ (.int .i64 2)) g L H C B 2 f fs sz [] false e rv (.slice la 0 lc)) := HD1.out.set4 2
  clear h K c0 c1 c2 c3 c6 c7 c10 HD1
  subst hxe
  clear hx h0
  go_enter Tryz.func147, Tryz.ntmps147
  go_wp2_with fail
  go_end0
  exact ⟨rfl, HR.out.he, ((HK.out _ _ _).trans (HK.out _ _ _)).trans (HK.out _ _ _)⟩
set_option maxRecDepth 100000 in
set_option maxHeartbeats 2000000 in
/-- A field line's end. -/
theorem hend2 (G : Nat → Prop) (T : TypeId) (rest : List Value) (g : Nat) (L H C B : Int) (f : ByteArray) (fs : List Fld) (sz : Nat) (cur : List UInt8) (cr : Bool) (e : Int) (h0 : cur ≠ []) (N V : List UInt8) (e1 E : Int) (he1 : e1 = 0 ∨ e1 = 2) (hp : parseV cur = .tuple #[fldV (N, V), .int .i64 e1])
    (hE : E = if H < (sz : Int) + ((cur.length : Int) + 2) ∨ C < (fs.length : Int) + 1 then 4 else e1) (hsz : sz + cur.length ≤ 1000000000) (hfl : fs.length ≤ 1000000000) (w : World) (h : He G T rest w g L H C B 1 f fs sz cur cr e) (hu : Up G w) (hM : ∀ w', Keep G w w' → MaxL w') :
    Calls Tryz.prog 147 #[.pointer (some ⟨g, 0, none⟩)] w fun r w' => r = .returned (.tuple #[]) ∧ EndTo E (He G T rest w' g L H C B 1 f (fs ++ [(N, V)]) (sz + (cur.length + 2)) [] false e) (He G T rest w' g 0 0 0 0 3 ⟨#[]⟩ [] 0 [] false E) ∧ Keep G w w' := by
  obtain ⟨rv, ln, h⟩ := h
  obtain ⟨c0, c1, c2, c3, c4, c5, c6, c7, c8, c9, c10⟩ := h.c
  have f4 := h.row.free 4
  have f5 := h.row.free 5
  have f8 := h.row.free 8
  have f9 := h.row.free 9
  have hcv := own_string w 0 _ _ h.lo
  obtain ⟨la, lc, rfl⟩ := own_slice h.lo
  have HD := Lib.hid h
  have HD1 : Hid (HeAt G T rest ((w.setCell ⟨g, 8, none⟩ (.slice la 0 lc)).setCell ⟨g, 9, none⟩ (.bool false)) g L H C B 1 f fs sz [] false e rv (.slice la 0 lc)) :=
    (h.set8 (own_zeroH h.lo) (fun j hj => h.lG j ((own_anyH la lc cur.length 0).trans hj))).set9 false
  have K : ∀ (v : World) (i : Nat) (u : Value), Keep G v (v.setCell ⟨g, i, none⟩ u) := fun v i u => Keep.setCell v (p := ⟨g, i, none⟩) HD.out.gG u
  have HK := Lib.hid K
  obtain ⟨x, hx⟩ : ∃ x, x = (⟨cur.toArray⟩ : ByteArray) := ⟨_, rfl⟩
  rw [← hx] at hcv
  have hxb : x = bs cur := hx
  have hxz : x.size = cur.length := by rw [hxb, bs_size]
  have hxl : x.data.toList = cur := by rw [hxb, bs_list]
  have hne : 0 < x.size := by rw [hxz]; exact List.length_pos_iff.2 h0
  have e1' := emp_false x hne
  have hk2 : Keep G w ((w.setCell ⟨g, 8, none⟩ (.slice la 0 lc)).setCell ⟨g, 9, none⟩ (.bool false)) := (K _ _ _).trans (K _ _ _)
  have HA := Lib.hid (hadd61 G T rest g L H C B 1 f fs sz [] false e x N V e1 E he1 (by rw [hxl]; exact hp) (by rw [hxz]; exact hE) (by rw [hxz]; exact hsz) hfl _ HD1.out.he (hu.keep hk2) (hM _ hk2))
  rw [hxz] at HA
  have HK2 := Lib.hid hk2
  clear h K c0 c1 c2 c3 c6 c7 c10 HD1 hx hxb hxz hxl h0 hp hE hu hM hk2 he1 HK HD
  go_enter Tryz.func147, Tryz.ntmps147
  go_wp2_with fail
  with_reducible refine HA.out.mono ?_
  rintro e9 w9 ⟨rfl, hd, hk⟩
  have HD9 : Hid (EndTo E (He G T rest w9 g L H C B 1 f (fs ++ [(N, V)]) (sz + (cur.length + 2)) [] false e) (He G T rest w9 g 0 0 0 0 3 ⟨#[]⟩ [] 0 [] false E)) := hd
  clear hd
  go_wp2_with fail
  go_end0
  exact ⟨rfl, HD9.out, HK2.out.trans hk⟩
end Go.Proofs.YtbbphklhnngjmaaGreatDoor

/- request: a head in memory at a machine's place; take. -/
namespace Go.Proofs.YtbbphklhnngjmaaGreatDoor
open Go.RowKit

/-- A head's fields, for a machine's place. -/
inductive HeRep (M : HdL) (b : Int) : HdS → Int → Int → Int → Int → Int → ByteArray → List Fld → Nat → List UInt8 → Bool → Int → Prop
  | line0 (cur : List UInt8) (cr : Bool) : HeRep M b (.line none [] 0 cur cr) (max 0 M.line) (max 0 M.head) (max 0 M.count) b 0 ⟨#[]⟩ [] 0 cur cr 0
  | line1 (s : List UInt8) (fs : List Fld) (sz : Nat) (cur : List UInt8) (cr : Bool) : HeRep M b (.line (some s) fs sz cur cr) (max 0 M.line) (max 0 M.head) (max 0 M.count) b 1 (bs s) fs sz cur cr 0
  | done (s : List UInt8) (fs : List Fld) (sz : Nat) : HeRep M b (.done s fs) (max 0 M.line) (max 0 M.head) (max 0 M.count) b 2 (bs s) fs sz [] false 0
  | err (e : Int) (h0 : e ≠ 0) : HeRep M b (.err e) 0 0 0 0 3 ⟨#[]⟩ [] 0 [] false e
/-- A head in memory that stands at a machine's place. -/
def HeS (G : Nat → Prop) (T : TypeId) (rest : List Value) (w : World) (g : Nat) (M : HdL) (b : Int) (σ : HdS) : Prop :=
  ∃ L H C b' st f fs sz cur cr e, HeRep M b σ L H C b' st f fs sz cur cr e ∧ He G T rest w g L H C b' st f fs sz cur cr e
section
variable {G : Nat → Prop} {T : TypeId} {rest : List Value} {w w' : World} {g : Nat} {M : HdL} {b : Int} {σ : HdS}
theorem HeS.below (h : HeS G T rest w g M b σ) (hb : Below w.heap.size w w') : HeS G T rest w' g M b σ := by
  obtain ⟨L, H, C, b', st, f, fs, sz, cur, cr, e, hr, hd⟩ := h
  exact ⟨L, H, C, b', st, f, fs, sz, cur, cr, e, hr, hd.below hb⟩
theorem HeS.less (h : HeS G T rest w g M b σ) : HeS (fun j => G j ∧ j < w.heap.size) T rest w g M b σ := by
  obtain ⟨L, H, C, b', st, f, fs, sz, cur, cr, e, hr, hd⟩ := h
  exact ⟨L, H, C, b', st, f, fs, sz, cur, cr, e, hr, hd.less⟩
theorem HeS.more {G' : Nat → Prop} (h : HeS G T rest w g M b σ) (hg : ∀ j, j < w.heap.size → G j → G' j) : HeS G' T rest w g M b σ := by
  obtain ⟨L, H, C, b', st, f, fs, sz, cur, cr, e, hr, hd⟩ := h
  exact ⟨L, H, C, b', st, f, fs, sz, cur, cr, e, hr, hd.more hg⟩
end
def HdS.wt : HdS → Nat
  | .line _ fs sz cur _ => sz + cur.length + fs.length
  | .done _ fs => fs.length
  | .err _ => 0
def anyFirst : List UInt8 → Bool := fun _ => true
theorem wt_step (M : HdL) (σ : HdS) (c : UInt8) : (M.step anyFirst σ c).wt ≤ σ.wt + 4 := by
  cases σ with
  | done f fs => exact Nat.le_add_right _ _
  | err e => exact Nat.zero_le _
  | line fo fs sz cur cr =>
    simp only [HdL.step]
    split
    · split
      · cases fo with
        | none => simp [HdL.close, HdS.wt, anyFirst]
        | some f =>
          simp only [HdL.close]
          split
          · simp only [HdS.wt]; omega
          · split
            · exact Nat.zero_le _
            · split
              · exact Nat.zero_le _
              · simp only [HdS.wt, List.length_nil, List.length_append, List.length_singleton]; omega
      · exact Nat.zero_le _
    · split
      · exact Nat.zero_le _
      · split
        · simp only [HdS.wt]; omega
        · split
          · exact Nat.zero_le _
          · simp only [HdS.wt, List.length_append, List.length_singleton]; omega
section
variable (G : Nat → Prop) (T : TypeId) (rest : List Value) (g : Nat) (L H C B st : Int) (f : ByteArray) (fs : List Fld) (sz : Nat) (cur : List UInt8) (e : Int)
set_option maxHeartbeats 1000000 in
theorem htake_fail (cr : Bool) (c : UInt8) (hc : (cr != decide (c = 10)) = true) (w : World) (h : He G T rest w g L H C B st f fs sz cur cr e) :
    Calls Tryz.prog 128 #[.pointer (some ⟨g, 0, none⟩), .int .u8 (c.toNat : Int)] w fun r w' => r = .returned (.tuple #[]) ∧ He G T rest w' g 0 0 0 0 3 ⟨#[]⟩ [] 0 [] false 2 ∧ Keep G w w' := by
  have HX := Lib.hid (hfail40 G T rest g L H C B st f fs sz cur cr e 2 w h)
  obtain ⟨rv, ln, h⟩ := h
  have c9 := h.c.2.2.2.2.2.2.2.2.2.1
  have hd : ((c.toNat : Int) == 10) = decide (c = 10) := by
    by_cases h : c = 10
    · subst h; rfl
    · rw [decide_eq_false h]
      exact beq_eq_false_iff_ne.2 (fun e => h (UInt8.toNat_inj.1 (by have : (10 : UInt8).toNat = 10 := rfl; omega)))
  obtain ⟨q, hq⟩ : ∃ q, decide (c = 10) = q := ⟨_, rfl⟩
  rw [hq] at hc hd
  clear h hq
  have hq2 : (cr = true ∧ q = false) ∨ (cr = false ∧ q = true) := by cases cr <;> cases q <;> simp at hc ⊢
  clear hc
  rcases hq2 with ⟨rfl, rfl⟩ | ⟨rfl, rfl⟩
  · go_enter Tryz.func128, Tryz.ntmps128
    go_wp2_with fail
    with_reducible refine HX.out.mono ?_
    rintro e9 w9 ⟨rfl, hd9, hk9⟩
    go_wp2_with fail
    go_end0
    exact ⟨rfl, hd9, hk9⟩
  · go_enter Tryz.func128, Tryz.ntmps128
    go_wp2_with fail
    with_reducible refine HX.out.mono ?_
    rintro e9 w9 ⟨rfl, hd9, hk9⟩
    go_wp2_with fail
    go_end0
    exact ⟨rfl, hd9, hk9⟩
set_option maxHeartbeats 1000000 in
theorem htake_end (P : World → Prop) (w : World) (h : He G T rest w g L H C B st f fs sz cur true e) (hc : Calls Tryz.prog 147 #[.pointer (some ⟨g, 0, none⟩)] w fun r w' => r = .returned (.tuple #[]) ∧ P w') :
    Calls Tryz.prog 128 #[.pointer (some ⟨g, 0, none⟩), .int .u8 10] w fun r w' => r = .returned (.tuple #[]) ∧ P w' := by
  have HX := Lib.hid hc
  obtain ⟨rv, ln, h⟩ := h
  have c9 := h.c.2.2.2.2.2.2.2.2.2.1
  clear h hc
  go_enter Tryz.func128, Tryz.ntmps128
  go_wp2_with fail
  with_reducible refine HX.out.mono ?_
  rintro e9 w9 ⟨rfl, hp9⟩
  go_wp2_with fail
  go_end0
  exact ⟨rfl, hp9⟩
set_option maxHeartbeats 1000000 in
theorem htake_cr (w : World) (h : He G T rest w g L H C B st f fs sz cur false e) :
    Calls Tryz.prog 128 #[.pointer (some ⟨g, 0, none⟩), .int .u8 13] w fun r w' => r = .returned (.tuple #[]) ∧ He G T rest w' g L H C B st f fs sz cur true e ∧ Keep G w w' := by
  obtain ⟨rv, ln, h⟩ := h
  have c9 := h.c.2.2.2.2.2.2.2.2.2.1
  have f9 := h.row.free 9
  have HD := Lib.hid h
  clear h
  go_enter Tryz.func128, Tryz.ntmps128
  go_wp2_with fail
  go_end0
  exact ⟨rfl, (HD.out.set9 true).he, Keep.setCell w (p := ⟨g, 9, none⟩) HD.out.gG _⟩
set_option maxHeartbeats 1000000 in
theorem htake_ext (P : World → Prop) (c : UInt8) (h10 : c ≠ 10) (h13 : c ≠ 13) (w : World) (h : He G T rest w g L H C B st f fs sz cur false e) (hc : Calls Tryz.prog 148 #[.pointer (some ⟨g, 0, none⟩), .int .u8 (c.toNat : Int)] w fun r w' => r = .returned (.tuple #[]) ∧ P w') :
    Calls Tryz.prog 128 #[.pointer (some ⟨g, 0, none⟩), .int .u8 (c.toNat : Int)] w fun r w' => r = .returned (.tuple #[]) ∧ P w' := by
  have HX := Lib.hid hc
  obtain ⟨rv, ln, h⟩ := h
  have c9 := h.c.2.2.2.2.2.2.2.2.2.1
  have n10 : ((c.toNat : Int) == 10) = false := beq_eq_false_iff_ne.2 (fun e => h10 (UInt8.toNat_inj.1 (by have : (10 : UInt8).toNat = 10 := rfl; omega)))
  have n13 : ((c.toNat : Int) == 13) = false := beq_eq_false_iff_ne.2 (fun e => h13 (UInt8.toNat_inj.1 (by have : (13 : UInt8).toNat = 13 := rfl; omega)))
  clear h hc h10 h13
  go_enter Tryz.func128, Tryz.ntmps128
  go_wp2_with fail
  with_reducible refine HX.out.mono ?_
  rintro e9 w9 ⟨rfl, hp9⟩
  go_wp2_with fail
  go_end0
  exact ⟨rfl, hp9⟩
end
/-- take, at a place that isn't an end. -/
theorem htake_s (G : Nat → Prop) (T : TypeId) (rest : List Value) (g : Nat) (M : HdL) (b : Int) (σ : HdS) (hh : σ.halt = false) (hwt : σ.wt ≤ 1000000000) (c : UInt8) (w : World) (h : HeS G T rest w g M b σ) (hu : Up G w) (hM : ∀ w', Keep G w w' → MaxL w') :
    Calls Tryz.prog 128 #[.pointer (some ⟨g, 0, none⟩), .int .u8 (c.toNat : Int)] w fun r w' => r = .returned (.tuple #[]) ∧ HeS G T rest w' g M b (M.step anyFirst σ c) ∧ Keep G w w' := by
  have ERR : ∀ e : Int, e ≠ 0 → ∀ w', He G T rest w' g 0 0 0 0 3 ⟨#[]⟩ [] 0 [] false e → HeS G T rest w' g M b (.err e) := fun e he w' h => ⟨_, _, _, _, _, _, _, _, _, _, _, .err e he, h⟩
  obtain ⟨L, H, C, b', st, f, fs, sz, cur, cr, e, hr, hd⟩ := h
  cases hr with
  | done s fs sz => cases hh
  | err e h0 => cases hh
  | line0 cur cr =>
    simp only [HdS.wt, List.length_nil] at hwt
    cases cr with
    | true =>
      by_cases h10 : c = 10
      · subst h10
        have hs : M.step anyFirst (.line none [] 0 cur true) 10 = .line (some cur) [] 0 [] false := rfl
        rw [hs]
        refine (htake_end G T rest g _ _ _ _ _ _ _ _ _ _ _ w hd (hend0 G T rest g _ _ _ _ _ _ _ _ _ _ w hd)).mono ?_
        rintro r w' ⟨rfl, h1, h2⟩
        exact ⟨rfl, ⟨_, _, _, _, _, _, _, _, _, _, _, .line1 cur [] 0 [] false, h1⟩, h2⟩
      · have hs : M.step anyFirst (.line none [] 0 cur true) c = .err 2 := by simp only [HdL.step]; rw [if_pos trivial, if_neg h10]
        rw [hs]
        refine (htake_fail G T rest g _ _ _ _ _ _ _ _ _ _ true c (by simp [h10]) w hd).mono ?_
        rintro r w' ⟨rfl, h1, h2⟩
        exact ⟨rfl, ERR 2 (by decide) _ h1, h2⟩
    | false =>
      by_cases h10 : c = 10
      · subst h10
        have hs : M.step anyFirst (.line none [] 0 cur false) 10 = .err 2 := rfl
        rw [hs]
        refine (htake_fail G T rest g _ _ _ _ _ _ _ _ _ _ false 10 (by simp) w hd).mono ?_
        rintro r w' ⟨rfl, h1, h2⟩
        exact ⟨rfl, ERR 2 (by decide) _ h1, h2⟩
      · by_cases h13 : c = 13
        · subst h13
          have hs : M.step anyFirst (.line none [] 0 cur false) 13 = .line none [] 0 cur true := rfl
          rw [hs]
          refine (htake_cr G T rest g _ _ _ _ _ _ _ _ _ _ w hd).mono ?_
          rintro r w' ⟨rfl, h1, h2⟩
          exact ⟨rfl, ⟨_, _, _, _, _, _, _, _, _, _, _, .line0 cur true, h1⟩, h2⟩
        · by_cases hlong : max 0 M.line ≤ (cur.length : Int)
          · have hs : M.step anyFirst (.line none [] 0 cur false) c = .err 4 := by
              simp only [HdL.step]
              rw [if_neg (by decide), if_neg h10, if_neg h13]
              exact if_pos hlong
            rw [hs]
            refine (htake_ext G T rest g _ _ _ _ _ _ _ _ _ _ _ c h10 h13 w hd (hext42 G T rest g _ _ _ _ _ _ _ _ _ _ _ c true (.inl ⟨rfl, (decide_eq_true (by omega)).symm⟩) (by omega) w hd hu)).mono ?_
            rintro r w' ⟨rfl, h1, h2⟩
            exact ⟨rfl, ERR 4 (by decide) _ h1, h2⟩
          · have hs : M.step anyFirst (.line none [] 0 cur false) c = .line none [] 0 (cur ++ [c]) false := by
              simp only [HdL.step]
              rw [if_neg (by decide), if_neg h10, if_neg h13]
              exact if_neg hlong
            rw [hs]
            refine (htake_ext G T rest g _ _ _ _ _ _ _ _ _ _ _ c h10 h13 w hd (hext42 G T rest g _ _ _ _ _ _ _ _ _ _ _ c false (.inl ⟨rfl, (decide_eq_false (by omega)).symm⟩) (by omega) w hd hu)).mono ?_
            rintro r w' ⟨rfl, h1, h2⟩
            exact ⟨rfl, ⟨_, _, _, _, _, _, _, _, _, _, _, .line0 (cur ++ [c]) false, h1⟩, h2⟩
  | line1 s fs sz cur cr =>
    simp only [HdS.wt] at hwt
    cases cr with
    | true =>
      by_cases h10 : c = 10
      · subst h10
        have hs : M.step anyFirst (.line (some s) fs sz cur true) 10 = M.close anyFirst (some s) fs sz cur := rfl
        rw [hs]
        by_cases h0 : cur = []
        · have hc : M.close anyFirst (some s) fs sz cur = .done s fs := by simp only [HdL.close]; rw [if_pos h0]
          rw [hc]
          refine (htake_end G T rest g _ _ _ _ _ _ _ _ _ _ _ w hd (hend1 G T rest g _ _ _ _ _ _ _ _ _ _ h0 w hd)).mono ?_
          rintro r w' ⟨rfl, h1, h2⟩
          exact ⟨rfl, ⟨_, _, _, _, _, _, _, _, _, _, _, .done s fs sz, h1⟩, h2⟩
        · have hpv : ∃ (N V : List UInt8) (e1 : Int), parseV cur = .tuple #[fldV (N, V), .int .i64 e1] ∧ ((e1 = 0 ∧ parseL cur = some (N, V)) ∨ (e1 = 2 ∧ parseL cur = none)) := by
            unfold parseV
            cases hp : parseL cur with
            | none => exact ⟨[], [], 2, rfl, .inr ⟨rfl, rfl⟩⟩
            | some g => exact ⟨g.1, g.2, 0, rfl, .inl ⟨rfl, rfl⟩⟩
          obtain ⟨N, V, e1, hp, hcase⟩ := hpv
          obtain ⟨E, hE⟩ : ∃ E : Int, E = if max 0 M.head < (sz : Int) + ((cur.length : Int) + 2) ∨ max 0 M.count < (fs.length : Int) + 1 then 4 else e1 := ⟨_, rfl⟩
          refine (htake_end G T rest g _ _ _ _ _ _ _ _ _ _ _ w hd (hend2 G T rest g _ _ _ _ _ _ _ _ _ _ h0 N V e1 E (hcase.imp (·.1) (·.1)) hp hE (by omega) (by omega) w hd hu hM)).mono ?_
          rintro r w' ⟨rfl, h1, h2⟩
          refine ⟨rfl, ?_, h2⟩
          by_cases hbig : max 0 M.head < (sz : Int) + ((cur.length : Int) + 2) ∨ max 0 M.count < (fs.length : Int) + 1
          · have hc : M.close anyFirst (some s) fs sz cur = .err 4 := by
              simp only [HdL.close]
              rw [if_neg h0, if_pos]
              rcases hbig with h | h
              · left; omega
              · right; omega
            rw [hc]
            rw [if_pos hbig] at hE
            subst hE
            exact ERR 4 (by decide) _ h1
          · rw [if_neg hbig] at hE
            subst hE
            have hnb : ¬ (max 0 M.head < ((sz + cur.length + 2 : Nat) : Int) ∨ max 0 M.count ≤ (fs.length : Int)) := by
              rintro (h | h)
              · exact hbig (.inl (by omega))
              · exact hbig (.inr (by omega))
            rcases hcase with ⟨rfl, hl⟩ | ⟨rfl, hl⟩
            · have hc : M.close anyFirst (some s) fs sz cur = .line (some s) (fs ++ [(N, V)]) (sz + cur.length + 2) [] false := by
                simp only [HdL.close]
                rw [if_neg h0, if_neg hnb, hl]
              rw [hc]
              exact ⟨_, _, _, _, _, _, _, _, _, _, _, .line1 s (fs ++ [(N, V)]) (sz + cur.length + 2) [] false, h1⟩
            · have hc : M.close anyFirst (some s) fs sz cur = .err 2 := by
                simp only [HdL.close]
                rw [if_neg h0, if_neg hnb, hl]
              rw [hc]
              exact ERR 2 (by decide) _ h1
      · have hs : M.step anyFirst (.line (some s) fs sz cur true) c = .err 2 := by simp only [HdL.step]; rw [if_pos trivial, if_neg h10]
        rw [hs]
        refine (htake_fail G T rest g _ _ _ _ _ _ _ _ _ _ true c (by simp [h10]) w hd).mono ?_
        rintro r w' ⟨rfl, h1, h2⟩
        exact ⟨rfl, ERR 2 (by decide) _ h1, h2⟩
    | false =>
      by_cases h10 : c = 10
      · subst h10
        have hs : M.step anyFirst (.line (some s) fs sz cur false) 10 = .err 2 := rfl
        rw [hs]
        refine (htake_fail G T rest g _ _ _ _ _ _ _ _ _ _ false 10 (by simp) w hd).mono ?_
        rintro r w' ⟨rfl, h1, h2⟩
        exact ⟨rfl, ERR 2 (by decide) _ h1, h2⟩
      · by_cases h13 : c = 13
        · subst h13
          have hs : M.step anyFirst (.line (some s) fs sz cur false) 13 = .line (some s) fs sz cur true := rfl
          rw [hs]
          refine (htake_cr G T rest g _ _ _ _ _ _ _ _ _ _ w hd).mono ?_
          rintro r w' ⟨rfl, h1, h2⟩
          exact ⟨rfl, ⟨_, _, _, _, _, _, _, _, _, _, _, .line1 s fs sz cur true, h1⟩, h2⟩
        · by_cases hlong : max 0 M.head - sz ≤ (cur.length : Int)
          · have hs : M.step anyFirst (.line (some s) fs sz cur false) c = .err 4 := by
              simp only [HdL.step]
              rw [if_neg (by decide), if_neg h10, if_neg h13]
              exact if_pos hlong
            rw [hs]
            refine (htake_ext G T rest g _ _ _ _ _ _ _ _ _ _ _ c h10 h13 w hd (hext42 G T rest g _ _ _ _ _ _ _ _ _ _ _ c true (.inr ⟨rfl, (decide_eq_true (by omega)).symm⟩) (by omega) w hd hu)).mono ?_
            rintro r w' ⟨rfl, h1, h2⟩
            exact ⟨rfl, ERR 4 (by decide) _ h1, h2⟩
          · have hs : M.step anyFirst (.line (some s) fs sz cur false) c = .line (some s) fs sz (cur ++ [c]) false := by
              simp only [HdL.step]
              rw [if_neg (by decide), if_neg h10, if_neg h13]
              exact if_neg hlong
            rw [hs]
            refine (htake_ext G T rest g _ _ _ _ _ _ _ _ _ _ _ c h10 h13 w hd (hext42 G T rest g _ _ _ _ _ _ _ _ _ _ _ c false (.inr ⟨rfl, (decide_eq_false (by omega)).symm⟩) (by omega) w hd hu)).mono ?_
            rintro r w' ⟨rfl, h1, h2⟩
            exact ⟨rfl, ⟨_, _, _, _, _, _, _, _, _, _, _, .line1 s fs sz (cur ++ [c]) false, h1⟩, h2⟩
end Go.Proofs.YtbbphklhnngjmaaGreatDoor

