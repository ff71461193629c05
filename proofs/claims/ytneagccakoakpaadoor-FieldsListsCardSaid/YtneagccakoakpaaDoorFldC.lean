/- Slices of fields; has, IndexFunc. -/
import Derived.Test.YtneagccakoakpaaDoorFldB
import Derived.Test.YtneagccakoakpaaDoorIsS
namespace Go.Proofs.YtneagccakoakpaaDoor
open Go.RowKit

/-- A slice that reads as these fields. -/
def IsFlds (w : World) (a : Option Addr) (c : Nat) (fs : List Fld) : Prop :=
  fs = [] ∨ ∃ bk o, a = some ⟨bk, o, none⟩ ∧ bk < w.heap.size ∧ fs.length ≤ c ∧ ∀ (j : Nat) f, fs[j]? = some f → w.cell? ⟨bk, o + j * 2, none⟩ = some (.string (bs f.1)) ∧ w.cell? ⟨bk, o + j * 2 + 1, none⟩ = some (.string (bs f.2))
theorem IsFlds.below {w w' : World} {a : Option Addr} {c : Nat} {fs : List Fld} (h : IsFlds w a c fs) (hb : Below w.heap.size w w') : IsFlds w' a c fs := by
  obtain h | ⟨bk, o, ha, hlt, hc, hcell⟩ := h
  · exact .inl h
  · obtain ⟨hc', _⟩ := bcell hb
    exact .inr ⟨bk, o, ha, Nat.lt_of_lt_of_le hlt hb.size, hc, fun j f hf => by rw [hc' _ _ hlt, hc' _ _ hlt]; exact hcell j f hf⟩
/-- Is a field's name among these? -/
def hasB (xs : List ByteArray) (f : Fld) : Bool := xs.any fun x => decide (x.data.toList.map lowC = f.1.map lowC)
theorem hasB_no {xs : List ByteArray} {f : Fld} {j : Nat} (hj : j < xs.length) (h : hasB (xs.take j) f = false) (hq : decide (xs[j].data.toList.map lowC = f.1.map lowC) = false) : hasB (xs.take (j + 1)) f = false := by
  unfold hasB at h ⊢
  rw [List.take_add_one, List.getElem?_eq_getElem hj, Option.toList_some, List.any_append, h]
  simp only [List.any_cons, List.any_nil, Bool.or_false, Bool.false_or]
  exact hq
theorem hasB_yes {xs : List ByteArray} {f : Fld} {j : Nat} (hj : j < xs.length) (hq : decide (xs[j].data.toList.map lowC = f.1.map lowC) = true) : hasB xs f = true := by
  unfold hasB
  rw [List.any_eq_true]
  exact ⟨xs[j], List.getElem_mem hj, hq⟩
set_option maxRecDepth 100000 in
set_option maxHeartbeats 2000000 in
theorem has72 (a : Option Addr) (c : Nat) (xs : List ByteArray) (f : Fld) (hx1 : xs.length ≤ 1000000000) (h1 : f.1.length ≤ 4000000000) (R : Bool) (hR : R = hasB xs f) (w : World) (hx : IsStrs w a c xs) :
    Calls Tryd.prog 72 #[.slice a xs.length c, fldV f] w fun e w' => e = .returned (.bool R) ∧ Below w.heap.size w w' := by
  have HR := Lib.hid hR
  have HX := Lib.hid hx
  obtain ⟨n, v⟩ := f
  have L0 := below_alloc w (.cells #[.string (bs n), .string (bs v)] 42)
  have c0 : (w.alloc (.cells #[.string (bs n), .string (bs v)] 42)).cell? ⟨w.heap.size, 0, none⟩ = some (.string (bs n)) := by simp
  have hz0 : w.heap.size < (w.alloc (.cells #[.string (bs n), .string (bs v)] 42)).heap.size := by simp
  clear hR hx
  unfold fldV
  simp only
  simp only at h1
  go_enter Tryd.func72, Tryd.ntmps72
  go_wp2_with fail
  generalize World.alloc w _ = w0 at *
  go_loopw [9] (fun i wr => ∃ j : Nat, j ≤ xs.length ∧ i = .int .i64 (j : Int) ∧ Hid (hasB (xs.take j) (n, v) = false) ∧ Below w.heap.size w wr ∧ Below w0.heap.size w0 wr) (fun i _ => xs.length - (intOf i).toNat)
  case atStart => exact ⟨0, Nat.zero_le _, rfl, by simp [Hid, hasB], L0, Below.refl _ _⟩
  case round =>
    obtain ⟨j, hj, rfl, hno, hb, hb0⟩ := hrel
    by_cases hlt : j < xs.length
    · obtain h0 | ⟨bk, o, rfl, hbk, hc, hcell⟩ := HX.out.below hb
      · subst h0; simp at hlt
      have cj := hcell j xs[j] (by simp [hlt])
      have cn : wr.cell? ⟨w.heap.size, 0, none⟩ = some (.string (bs n)) := by rw [(bcell hb0).1 _ _ hz0]; exact c0
      obtain ⟨q, hq⟩ : ∃ q, q = decide (xs[j].data.toList.map lowC = n.map lowC) := ⟨_, rfl⟩
      have HF := Lib.hid (fun W => fold22 xs[j] (bs n) (by rw [bs_size]; omega) q hq W)
      have HN : Hid (q = false → hasB (xs.take (j + 1)) (n, v) = false) := fun e => hasB_no hlt hno.out (hq ▸ e)
      have HY : Hid (q = true → hasB xs (n, v) = true) := fun e => hasB_yes hlt (hq ▸ e)
      clear hcell hq
      generalize xs[j] = x at cj HF
      go_wp2_with fail
      refine (HF.out wr).mono ?_
      rintro e w2 ⟨rfl, hb2⟩
      have b2 := hb.trans (hb2.mono hb.size)
      have b20 := hb0.trans (hb2.mono hb0.size)
      cases q
      · have HN2 := Lib.hid (HN.out rfl)
        clear HN HY
        go_wp2_with fail
        go_roundw
        case rel => exact ⟨j + 1, hlt, by go_num, HN2, b2, b20⟩
        case measure => simp [intOf]; omega
      · have HY2 := Lib.hid (HY.out rfl)
        clear HN HY
        go_wp2_with fail
        go_ret
        exact ⟨by rw [HR.out, HY2.out]; rfl, b2⟩
    · have hn := hno.out
      rw [List.take_of_length_le (by omega)] at hn
      have HN := Lib.hid hn
      clear hn hno
      go_wp2_with fail
      go_ret
      exact ⟨by rw [HR.out, HN.out]; rfl, hb⟩
/-- The first place of a field with such a name; -1: there is none. -/
def findI (xs : List ByteArray) (fs : List Fld) : Int := match fs.findIdx? (hasB xs) with
  | some i => (i : Int)
  | none => -1
theorem findI_no {xs : List ByteArray} {fs : List Fld} (h : ∀ f ∈ fs, hasB xs f = false) : findI xs fs = -1 := by
  unfold findI
  rw [List.findIdx?_eq_none_iff.2 h]
theorem findI_at {xs : List ByteArray} {fs : List Fld} {j : Nat} (hj : j < fs.length) (h : ∀ f ∈ fs.take j, hasB xs f = false) (hq : hasB xs fs[j] = true) : findI xs fs = (j : Int) := by
  have : fs.findIdx? (hasB xs) = some j := by
    rw [List.findIdx?_eq_some_iff_getElem]
    refine ⟨hj, hq, fun i hi => ?_⟩
    have hm : fs[i] ∈ fs.take j := by
      rw [List.mem_take_iff_getElem]
      exact ⟨i, by omega, rfl⟩
    simp [h _ hm]
  unfold findI
  rw [this]
/-- Fields of a bounded length. -/
def FldOk (f : Fld) : Prop := f.1.length ≤ 4000000000 ∧ f.2.length ≤ 4000000000
/-- The function value: has of these names. -/
def hasV (a : Option Addr) (n c : Nat) : Value := .func (.func 72) #[.slice a n c] #[]
set_option maxRecDepth 100000 in
set_option maxHeartbeats 2000000 in
theorem index93 (a : Option Addr) (c : Nat) (fs : List Fld) (b : Option Addr) (d : Nat) (xs : List ByteArray) (hfl : fs.length ≤ 1000000000) (hx1 : xs.length ≤ 1000000000) (hok : ∀ f ∈ fs, FldOk f) (w : World) (hf : IsFlds w a c fs) (hx : IsStrs w b d xs) :
    Calls Tryd.prog 93 #[.slice a fs.length c, hasV b xs.length d] w fun e w' => e = .returned (.int .i64 (findI xs fs)) ∧ Below w.heap.size w w' := by
  obtain ⟨R, hR⟩ : ∃ R, R = findI xs fs := ⟨_, rfl⟩
  rw [← hR]
  have HR := Lib.hid hR
  have HX := Lib.hid hx
  have HFF := Lib.hid hf
  have HOK := Lib.hid hok
  clear hR hx hf hok
  unfold hasV
  go_enter Tryd.func93, Tryd.ntmps93
  go_wp2_with fail
  go_loopw [8] (fun i wr => ∃ j : Nat, j ≤ fs.length ∧ i = .int .i64 (j : Int) ∧ Hid (∀ f ∈ fs.take j, hasB xs f = false) ∧ Below w.heap.size w wr) (fun i _ => fs.length - (intOf i).toNat)
  case atStart => exact ⟨0, Nat.zero_le _, rfl, (fun f hf => by simp at hf), Below.refl _ _⟩
  case round =>
    obtain ⟨j, hj, rfl, hno, hb⟩ := hrel
    by_cases hlt : j < fs.length
    · obtain h0 | ⟨bk, o, rfl, hbk, hc, hcell⟩ := HFF.out.below hb
      · subst h0; simp at hlt
      obtain ⟨c1, c2⟩ := hcell j fs[j] (by simp [hlt])
      have hfo := HOK.out fs[j] (List.getElem_mem hlt)
      obtain ⟨q, hq⟩ : ∃ q, q = hasB xs fs[j] := ⟨_, rfl⟩
      have HF := Lib.hid (has72 b d xs fs[j] hx1 hfo.1 q hq wr (HX.out.below hb))
      have HN : Hid (q = false → ∀ f ∈ fs.take (j + 1), hasB xs f = false) := fun e f hf => by
        rw [List.take_add_one, List.getElem?_eq_getElem hlt, Option.toList_some, List.mem_append] at hf
        rcases hf with hf | hf
        · exact hno.out f hf
        · rw [List.mem_singleton] at hf; subst hf; rw [← hq, e]
      have HY : Hid (q = true → R = (j : Int)) := fun e => by rw [HR.out]; exact findI_at hlt hno.out (hq ▸ e)
      obtain ⟨f, hfe⟩ : ∃ f, f = fs[j] := ⟨_, rfl⟩
      rw [← hfe] at c1 c2 HF
      clear hcell hq hfo hfe
      obtain ⟨n, v⟩ := f
      have HF2 : Hid (Calls Tryd.prog 72 #[.slice b xs.length d, .agg #[.string (bs n), .string (bs v)]] wr fun e w' => e = .returned (.bool q) ∧ Below wr.heap.size wr w') := HF.out
      have c1' : wr.cell? ⟨bk, o + j * 2, none⟩ = some (.string (bs n)) := c1
      have c2' : wr.cell? ⟨bk, o + j * 2 + 1, none⟩ = some (.string (bs v)) := c2
      clear c1 c2 HF
      have j1 : (j : Int) < fs.length := by omega
      go_wp2_with fail
      refine HF2.out.mono ?_
      rintro e w2 ⟨rfl, hb2⟩
      have b2 := hb.trans (hb2.mono hb.size)
      cases q
      · have HN2 := Lib.hid (HN.out rfl)
        clear HN HY
        go_wp2_with fail
        go_roundw
        case rel => exact ⟨j + 1, hlt, by go_num, HN2, b2⟩
        case measure => simp [intOf]; omega
      · have HY2 := Lib.hid (HY.out rfl)
        clear HN HY
        go_wp2_with fail
        go_ret
        exact ⟨by rw [HY2.out]; rfl, b2⟩
    · have hn := hno.out
      rw [List.take_of_length_le (by omega)] at hn
      have HN : Hid (R = -1) := by
        have e := HR.out
        rw [findI_no hn] at e
        exact e
      clear hn hno
      go_wp2_with fail
      go_ret
      exact ⟨by rw [HN.out]; rfl, hb⟩
end Go.Proofs.YtneagccakoakpaaDoor
