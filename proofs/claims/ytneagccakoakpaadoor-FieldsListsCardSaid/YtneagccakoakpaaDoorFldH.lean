/- fields: Text, Size. -/
import Derived.Test.YtneagccakoakpaaDoorFldG
import Derived.Lib.UnsafeStr
namespace Go.Proofs.YtneagccakoakpaaDoor
open Go.RowKit

theorem own_below {w w' : World} {base size n : Nat} {e : TypeId} {v : Value} {xs : List Value} (h : w.ownsRow base e size v n xs) (hb : Below w.heap.size w w') : w'.ownsRow base e size v n xs := by
  obtain ⟨hl, h0 | ⟨g, cap, cur, hv, hg, hc, r⟩⟩ := h
  · exact ⟨hl, .inl h0⟩
  · exact ⟨hl, .inr ⟨g, cap, cur, hv, hg, by rw [hb.block g (Array.getElem?_eq_some_iff.1 hc).1]; exact hc, r⟩⟩
/-- A builder that holds these bytes. -/
def Bld (B b : Nat) (l : List UInt8) (w : World) : Prop := Lib.IsBuilder 90 5 B b (Lib.byteCells l) w
theorem bldAt_below {w w' : World} {B b : Nat} {p : Value} {bs : List Value} (h : Lib.BuilderAt 90 5 B b p bs w) (hb : Below w.heap.size w w') : Lib.BuilderAt 90 5 B b p bs w' := by
  obtain ⟨hB, v, hv, ho, hn⟩ := h
  exact ⟨hB, v, by rw [hb.block b (Array.getElem?_eq_some_iff.1 hv).1]; exact hv, own_below ho hb, hn⟩
theorem Bld.below {w w' : World} {B b : Nat} {l : List UInt8} (h : Bld B b l w) (hb : Below w.heap.size w w') : Bld B b l w' := h.imp (fun x => bldAt_below x hb) (fun x => bldAt_below x hb)
theorem Bld.lt {w : World} {B b : Nat} {l : List UInt8} (h : Bld B b l w) : b < w.heap.size := by
  rcases h with h | h <;> exact h.lt
/-- WriteString of a builder of bytes. -/
theorem writeB (B b : Nat) (l x : List UInt8) (w : World) (h : Bld B b l w) (hlen : l.length + x.length ≤ 140737488355328) (hBw : B ≤ w.heap.size) :
    Calls Tryd.prog 74 #[.pointer (some ⟨b, 0, none⟩), .string (bs x)] w fun e w' => e = .returned (.tuple #[.int .i64 (bs x).size, .nilIface]) ∧ Bld B b (l ++ x) w' ∧ Below B w w' := by
  refine (write74 B b (Lib.byteCells l) (bs x) w h (by rw [Lib.byteCells_length, bs_size]; exact hlen) hBw).mono ?_
  rintro e w' ⟨he, h1, h2⟩
  refine ⟨he, .inr ?_, h2⟩
  rw [Lib.byteCells_append]
  exact h1
/-- The text of fields. -/
def textL (fs : List Fld) : List UInt8 := fs.flatMap lineL
theorem textL_step {fs : List Fld} {j : Nat} (hj : j < fs.length) : textL (fs.take (j + 1)) = textL (fs.take j) ++ lineL fs[j] := by
  unfold textL
  rw [List.take_add_one, List.getElem?_eq_getElem hj, Option.toList_some, List.flatMap_append]
  simp
theorem textL_le {fs : List Fld} {j : Nat} : (textL (fs.take j)).length ≤ (textL fs).length := by
  conv => rhs; rw [← List.take_append_drop j fs]
  unfold textL
  rw [List.flatMap_append, List.length_append]
  omega
set_option maxHeartbeats 2000000 in
set_option maxRecDepth 100000 in
theorem text49 (a : Option Addr) (c : Nat) (fs : List Fld) (hfl : fs.length ≤ 1000000000) (hok : ∀ f ∈ fs, FldOk f) (hsum : (textL fs).length ≤ 100000000000) (w : World) (hf : IsFlds w a c fs) :
    Calls Tryd.prog 49 #[.slice a fs.length c] w fun e w' => e = .returned (.string (bs (textL fs))) ∧ Below w.heap.size w w' := by
  have HFF := Lib.hid hf
  have HOK := Lib.hid hok
  have HS := Lib.hid hsum
  obtain ⟨X, hX⟩ : ∃ X, X = bs (textL fs) := ⟨_, rfl⟩
  have HX : Hid ((⟨(textL fs).toArray⟩ : ByteArray) = X) := by show _ = _; rw [hX]; rfl
  rw [← hX]
  clear hX
  have B0 : Hid (Bld w.heap.size w.heap.size [] (w.alloc (.cells #[.pointer none, .slice none 0 0] 90))) := Lib.fresh_isBuilder _ _ w
  have L0 := below_alloc w (.cells #[.pointer none, .slice none 0 0] 90)
  clear hf hok hsum
  go_enter Tryd.func49, Tryd.ntmps49
  go_wp2_with fail
  go_loopw [8] (fun i wr => ∃ j : Nat, j ≤ fs.length ∧ i = .int .i64 (j : Int) ∧ Hid (Bld w.heap.size w.heap.size (textL (fs.take j)) wr) ∧ Below w.heap.size w wr) (fun i _ => fs.length - (intOf i).toNat)
  case atStart => exact ⟨0, Nat.zero_le _, rfl, B0, L0⟩
  case round =>
    clear B0 L0
    obtain ⟨j, hj, rfl, hB, hb⟩ := hrel
    by_cases hlt : j < fs.length
    · obtain h0 | ⟨bk, o, rfl, hbk, hc, hcell⟩ := HFF.out.below hb
      · subst h0; simp at hlt
      obtain ⟨c1, c2⟩ := hcell j fs[j] (by simp [hlt])
      have hfo := HOK.out fs[j] (List.getElem_mem hlt)
      have hsz : (textL (fs.take j)).length + (lineL fs[j]).length ≤ 140737488355328 := by
        have h1 := textL_le (fs := fs) (j := j + 1)
        rw [textL_step hlt, List.length_append] at h1
        have := HS.out
        omega
      have HN := Lib.hid (textL_step hlt)
      obtain ⟨f, hfe⟩ : ∃ f, f = fs[j] := ⟨_, rfl⟩
      rw [← hfe] at c1 c2 hfo hsz HN
      clear hcell hfe
      have HL := Lib.hid (fun W => line38 f hfo.1 hfo.2 W)
      have HW := Lib.hid (fun W h hw => writeB w.heap.size w.heap.size (textL (fs.take j)) (lineL f) W h hsz hw)
      obtain ⟨n, v⟩ := f
      generalize lineL (n, v) = ll at HL HW HN
      unfold fldV at HL
      simp only at c1 c2 HL
      have j1 : (j : Int) < fs.length := by omega
      clear hsz hfo
      go_wp2_with fail
      have LA := below_alloc wr (.cells #[.string (bs n), .string (bs v)] 42)
      refine (HL.out _).mono ?_
      rintro e w2 ⟨rfl, hb2⟩
      have b2 := LA.trans (hb2.mono LA.size)
      have B2 := hB.out.below b2
      have bb2 := hb.trans (b2.mono hb.size)
      clear LA hb2
      go_wp2_with fail
      refine (HW.out _ B2 bb2.size).mono ?_
      rintro e w3 ⟨rfl, B3, hb3⟩
      rw [← HN.out] at B3
      have HB3 := Lib.hid B3
      have bb3 := bb2.trans hb3
      clear hB B2 b2 B3 hb3 HL HW bb2
      go_wp2_with fail
      go_roundw
      case rel => exact ⟨j + 1, hlt, by go_num, HB3, bb3⟩
      case measure => simp [intOf]; omega
    · have hB2 := hB.out
      rw [List.take_of_length_le (by omega)] at hB2
      have HE := Lib.hid (Tryd.Builder_String_any w.heap.size w.heap.size (textL fs) wr hB2 hb.size)
      clear hB hB2
      rw [HX.out] at HE
      go_wp2_with fail
      refine HE.out.mono ?_
      rintro e w2 ⟨rfl, hb2⟩
      go_wp2_with fail
      go_ret
      exact ⟨rfl, hb.trans hb2⟩
end Go.Proofs.YtneagccakoakpaaDoor
