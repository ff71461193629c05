/- Packed: FldD, FldE, FldF, FldG, FldH, FldI, FldJ, FldK, FldL, FldN, FldO, FldP. -/
import Derived.Lib.SliceRun
import Derived.Laws.IdiomCopy
import Derived.Laws.OwnMore
import Derived.Deep.MidRow
import Derived.Lib.Builder
import Derived.Lib.AppendStr
import Derived.Laws.Externs
import Derived.Lib.UnsafeStr
import Derived.Lib.AppendZerosOnto
import Derived.Laws.AppendOwnNone
import Derived.BigQuiet
import Derived.Test.YtbbphklhnngjmaaGreatDoorR05
import Derived.Test.YtbbphklhnngjmaaGreatDoorR08
import Derived.Test.YtbbphklhnngjmaaGreatDoorShelf
/- fields: slices.Clone, slices.DeleteFunc, Drop. -/
namespace Go.Proofs.YtbbphklhnngjmaaGreatDoor
open Go.RowKit

/-- The cells of fields. -/
def cellsF (fs : List Fld) : List Value := fs.flatMap fun f => [.string (bs f.1), .string (bs f.2)]
theorem cellsF_length (fs : List Fld) : (cellsF fs).length = fs.length * 2 := by
  induction fs with
  | nil => rfl
  | cons f r ih => simp [cellsF] at ih ⊢; omega
theorem cellsF_at : ∀ (fs : List Fld) (j : Nat) (f : Fld), fs[j]? = some f → (cellsF fs)[j * 2]? = some (.string (bs f.1)) ∧ (cellsF fs)[j * 2 + 1]? = some (.string (bs f.2))
  | [], j, f, h => by simp at h
  | g :: r, 0, f, h => by
    obtain rfl : g = f := by simpa using h
    simp [cellsF]
  | g :: r, j + 1, f, h => by
    have ih := cellsF_at r j f (by simpa using h)
    have e : cellsF (g :: r) = .string (bs g.1) :: .string (bs g.2) :: cellsF r := rfl
    rw [e, show (j + 1) * 2 = j * 2 + 1 + 1 by omega, show j * 2 + 1 + 1 + 1 = (j * 2 + 1) + 1 + 1 by omega]
    simpa using ih
theorem cellsF_one (fs : List Fld) : ∀ u ∈ cellsF fs, u.oneCell' = true := by
  intro u hu
  unfold cellsF at hu
  obtain ⟨f, _, hf⟩ := List.mem_flatMap.1 hu
  simp at hf
  rcases hf with rfl | rfl <;> rfl
theorem isFlds_cells {w : World} {bk o : Nat} {fs : List Fld} (hcell : ∀ (j : Nat) f, fs[j]? = some f → w.cell? ⟨bk, o + j * 2, none⟩ = some (.string (bs f.1)) ∧ w.cell? ⟨bk, o + j * 2 + 1, none⟩ = some (.string (bs f.2))) :
    ∀ (k : Nat) u, (cellsF fs)[k]? = some u → w.cell? ((⟨bk, o, none⟩ : Addr).add k) = some u := by
  intro k u hu
  rw [Addr.add_mid]
  have hk := (List.getElem?_eq_some_iff.1 hu).1
  rw [cellsF_length] at hk
  have hj : k / 2 < fs.length := by omega
  have hf := List.getElem?_eq_getElem hj
  obtain ⟨h1, h2⟩ := hcell (k / 2) _ hf
  obtain ⟨g1, g2⟩ := cellsF_at fs (k / 2) _ hf
  rcases Nat.mod_two_eq_zero_or_one k with hm | hm
  · have e : k / 2 * 2 = k := by omega
    rw [e] at h1 g1
    rw [h1, ← hu, g1]
  · have e : k / 2 * 2 + 1 = k := by omega
    rw [show o + k / 2 * 2 + 1 = o + (k / 2 * 2 + 1) by omega, e] at h2
    rw [e] at g2
    rw [h2, ← hu, g2]
theorem infoFld : (Tryz.prog.info? 62).map (fun i => (i.zero, i.size, i.bytes)) = some (some (.agg #[.string ⟨#[]⟩, .string ⟨#[]⟩]), 2, 32) := by kernel_rfl
/-- A row that owns fields reads as them. -/
theorem own_isFlds {w : World} {base : Nat} {v : Value} {fs : List Fld} (h : w.ownsRow base 62 2 v fs.length (cellsF fs)) : ∃ a c, v = .slice a fs.length c ∧ IsFlds w a c fs := by
  obtain ⟨_, ⟨rfl, h0⟩ | ⟨g, cap, cur, rfl, _, hg, hcap, _, hcs, htk⟩⟩ := h
  · obtain rfl : fs = [] := List.eq_nil_of_length_eq_zero h0
    exact ⟨none, 0, rfl, .inl rfl⟩
  · refine ⟨some ⟨g, 0, none⟩, cap, rfl, .inr ⟨g, 0, rfl, (Array.getElem?_eq_some_iff.1 hg).1, hcap, fun j f hf => ?_⟩⟩
    obtain ⟨g1, g2⟩ := cellsF_at fs j f hf
    have hj := (List.getElem?_eq_some_iff.1 hf).1
    rw [← htk, List.getElem?_take, if_pos (by omega)] at g1 g2
    rw [Nat.zero_add]
    simp only [Array.getElem?_toList] at g1 g2
    exact ⟨by simp [World.cell?, hg, g1], by simp [World.cell?, hg, g2]⟩

set_option maxRecDepth 100000 in
set_option maxHeartbeats 2000000 in
theorem clone77 (a : Option Addr) (c : Nat) (fs : List Fld) (hfl : fs.length ≤ 1000000000) (ha : a = none → c = 0 ∧ fs = []) (w : World) (hf : IsFlds w a c fs) :
    Calls Tryz.prog 98 #[.slice a fs.length c] w fun e w' => ∃ v, e = .returned v ∧ w'.ownsRow w.heap.size 62 2 v fs.length (cellsF fs) ∧ Below w.heap.size w w' := by
  obtain ⟨i0, hi, hz0, hz1, hz2⟩ := info_parts infoFld
  have hnil := fun W (x : Option Addr) (n c' : Nat) => Lib.run_eql_slice_nil (P := Tryz.prog) W 31 62 x n c' 0 0 Tryz.underlying31
  cases a with
  | none =>
    obtain ⟨rfl, rfl⟩ := ha rfl
    have h1 := fun W => hnil W none 0 0
    clear hnil hf
    go_enter Tryz.func98, Tryz.ntmps98
    go_wp2_with fail
    go_ret
    exact ⟨_, rfl, World.ownsRow_nil _ _ _ _, Below.refl _ _⟩
  | some ad =>
    have h1 := fun W => hnil W (some ad) fs.length c
    have HF := Lib.hid hf
    have O0 : Hid ((w.alloc (.cells #[] 62)).ownsRow w.heap.size 62 2 (.slice (some ⟨w.heap.size, 0, none⟩) 0 0) 0 []) := World.ownsRow_lit w #[] 0 (Nat.le_refl _) (by decide) (by simp)
    have L0 := below_alloc w (.cells #[] 62)
    have hcells : Hid (∀ (k : Nat) u, (cellsF fs)[k]? = some u → (w.alloc (.cells #[] 62)).cell? (ad.add k) = some u) := by
      intro k u hu
      obtain h0 | ⟨bk, o, h2, hbk, hc, hcell⟩ := HF.out.below L0
      · subst h0; simp [cellsF] at hu
      · obtain rfl : ad = ⟨bk, o, none⟩ := by injection h2
        exact isFlds_cells hcell k u hu
    have hlen := cellsF_length fs
    have HL := Lib.hid hlen
    clear hnil hf ha hlen HF
    go_enter Tryz.func98, Tryz.ntmps98
    go_wp2_with (at_builtin; refine wpList_append_own _ rfl _ _ 31 rfl w.heap.size 62 i0 (.agg #[.string ⟨#[]⟩, .string ⟨#[]⟩]) 2 32 Tryz.underlying31 hi hz0 hz1 hz2 rfl (by decide) _ _ _ rfl O0.out ad fs.length c (cellsF fs) rfl HL.out hcells.out (cellsF_one fs) (by unfold maxLen; omega) (by omega) (by simp) ?_)
    intro v' w1 hown' hgrow _
    have hb1 : Below w.heap.size w w1 := L0.grown hgrow (by simp) (fun k hk => by simp [Value.ownBlock] at hk; omega)
    have HO := Lib.hid hown'
    clear hown' hgrow O0 hcells
    go_wp2_with fail
    go_ret
    exact ⟨_, rfl, HO.out, hb1⟩
end Go.Proofs.YtbbphklhnngjmaaGreatDoor

/- fields: slices.DeleteFunc, Drop. -/
namespace Go.Proofs.YtbbphklhnngjmaaGreatDoor
open Go.RowKit

/-- What is left without these names. -/
def dropL (xs : List ByteArray) (fs : List Fld) : List Fld := fs.filter fun f => !hasB xs f
/-- The two cells of a place. -/
def PairAt (w : World) (g k : Nat) (f : Fld) : Prop := w.cell? ⟨g, k * 2, none⟩ = some (.string (bs f.1)) ∧ w.cell? ⟨g, k * 2 + 1, none⟩ = some (.string (bs f.2))
/-- A block of places that may be written. -/
def Open2 (w : World) (g n : Nat) : Prop := g < w.heap.size ∧ ∀ k, k < n * 2 → (w.cell? ⟨g, k, none⟩).isSome = true ∧ w.frozen? ⟨g, k, none⟩ = false
theorem PairAt.below {w w' : World} {g k : Nat} {f : Fld} (h : PairAt w g k f) (hb : Below w.heap.size w w') (hg : g < w.heap.size) : PairAt w' g k f := by
  obtain ⟨hc, _⟩ := bcell hb
  exact ⟨(hc _ _ hg).trans h.1, (hc _ _ hg).trans h.2⟩
theorem Open2.below {w w' : World} {g n : Nat} (h : Open2 w g n) (hb : Below w.heap.size w w') : Open2 w' g n := by
  obtain ⟨hc, hf⟩ := bcell hb
  exact ⟨Nat.lt_of_lt_of_le h.1 hb.size, fun k hk => by rw [hc _ _ h.1, hf _ _ h.1]; exact h.2 k hk⟩
theorem Open2.set {w : World} {g n : Nat} (h : Open2 w g n) (p : Nat) (v : Value) : Open2 (w.setCell ⟨g, p, none⟩ v) g n := by
  refine ⟨by simpa [World.setCell] using h.1, fun k hk => ?_⟩
  obtain ⟨h1, h2⟩ := h.2 k hk
  refine ⟨?_, by rw [World.frozen?_setCell]; exact h2⟩
  by_cases e : k = p
  · subst e
    obtain ⟨u, hu⟩ := Option.isSome_iff_exists.1 h1
    rw [World.cell?_setCell_same _ _ _ hu]; rfl
  · rw [World.cell?_setCell_other _ _ _ _ (by simp <;> omega)]; exact h1
theorem PairAt.set {w : World} {g k : Nat} {f : Fld} (h : PairAt w g k f) (p : Nat) (v : Value) (hp : p ≠ k * 2 ∧ p ≠ k * 2 + 1) : PairAt (w.setCell ⟨g, p, none⟩ v) g k f :=
  ⟨by rw [World.cell?_setCell_other _ _ _ _ (by simp <;> omega)]; exact h.1, by rw [World.cell?_setCell_other _ _ _ _ (by simp <;> omega)]; exact h.2⟩
theorem PairAt.put {w : World} {g n k : Nat} (h : Open2 w g n) (hk : k < n) (f : Fld) : PairAt ((w.setCell ⟨g, k * 2, none⟩ (.string (bs f.1))).setCell ⟨g, k * 2 + 1, none⟩ (.string (bs f.2))) g k f := by
  obtain ⟨u, hu⟩ := Option.isSome_iff_exists.1 (h.2 (k * 2) (by omega)).1
  obtain ⟨u2, hu2⟩ := Option.isSome_iff_exists.1 ((h.set (k * 2) (.string (bs f.1))).2 (k * 2 + 1) (by omega)).1
  refine ⟨?_, World.cell?_setCell_same _ _ _ hu2⟩
  rw [World.cell?_setCell_other _ _ _ _ (by simp <;> omega)]
  exact World.cell?_setCell_same _ _ _ hu
theorem dropL_step_keep {xs : List ByteArray} {fs : List Fld} {j : Nat} (hj : j < fs.length) (h : hasB xs fs[j] = false) : dropL xs (fs.take (j + 1)) = dropL xs (fs.take j) ++ [fs[j]] := by
  unfold dropL
  rw [List.take_add_one, List.getElem?_eq_getElem hj, Option.toList_some, List.filter_append]
  simp [h]
theorem dropL_step_drop {xs : List ByteArray} {fs : List Fld} {j : Nat} (hj : j < fs.length) (h : hasB xs fs[j] = true) : dropL xs (fs.take (j + 1)) = dropL xs (fs.take j) := by
  unfold dropL
  rw [List.take_add_one, List.getElem?_eq_getElem hj, Option.toList_some, List.filter_append]
  simp [h]
theorem dropL_none {xs : List ByteArray} {fs : List Fld} (h : ∀ f ∈ fs, hasB xs f = false) : dropL xs fs = fs := by
  unfold dropL
  rw [List.filter_eq_self]
  intro f hf
  simp [h f hf]
theorem findI_cases (xs : List ByteArray) (fs : List Fld) : (findI xs fs = -1 ∧ ∀ f ∈ fs, hasB xs f = false) ∨ ∃ i, ∃ h : i < fs.length, findI xs fs = (i : Int) ∧ hasB xs fs[i] = true ∧ ∀ f ∈ fs.take i, hasB xs f = false := by
  unfold findI
  cases hfi : fs.findIdx? (hasB xs) with
  | none => exact .inl ⟨rfl, List.findIdx?_eq_none_iff.1 hfi⟩
  | some i =>
    obtain ⟨h, h1, h2⟩ := List.findIdx?_eq_some_iff_getElem.1 hfi
    refine .inr ⟨i, h, rfl, h1, fun f hf => ?_⟩
    obtain ⟨k, hk, rfl⟩ := List.mem_take_iff_getElem.1 hf
    have := h2 k (by omega)
    simpa using this
/-- clear on places. -/
theorem run_clear2 (w : World) (ty : TypeId) (b o n c : Nat) (hn : 0 < n) (hc : ∀ j, j < n * 2 → (w.cell? ⟨b, o + j, none⟩).isSome = true) (hf : ∀ j, j < n * 2 → w.frozen? ⟨b, o + j, none⟩ = false) :
    (Builtin.clear_ #[31] ty #[.slice (some ⟨b, o, none⟩) n c]).run Tryz.prog w = .ok (.tuple #[]) (w.setCells b o (Builtin.zeroCells #[.string ⟨#[]⟩, .string ⟨#[]⟩] n).toList) := by
  have hv : ∀ w, (zeroValue 62).run Tryz.prog w = .ok (.agg #[.string ⟨#[]⟩, .string ⟨#[]⟩]) w := fun w => by kernel_rfl
  have hz : (Builtin.zeroCells #[Value.string ⟨#[]⟩, .string ⟨#[]⟩] n).toList.length = n * 2 := by simp [Builtin.zeroCells]
  have hone : ∀ v ∈ (Builtin.zeroCells #[Value.string ⟨#[]⟩, .string ⟨#[]⟩] n).toList, v.oneCell' = true := by
    intro v hv'
    simp [Builtin.zeroCells] at hv'
    obtain ⟨i, _, rfl⟩ := hv'
    rcases Nat.mod_two_eq_zero_or_one i with h | h <;> rw [h] <;> rfl
  have hst := run_storeCells_cells (P := Tryz.prog) b o (Builtin.zeroCells #[Value.string ⟨#[]⟩, .string ⟨#[]⟩] n).toList 0 w (by rw [hz]; simpa using hc) (by rw [hz]; simpa using hf) hone
  simp only [Nat.add_zero] at hst
  obtain ⟨m, rfl⟩ : ∃ m, n = m + 1 := ⟨n - 1, by omega⟩
  simp [Builtin.clear_, run_underlying Tryz.underlying31, hv, Value.cells, hst]
theorem cell_setCells_before (g : Nat) : ∀ (vs : List Value) (o : Nat) (w : World) (k : Nat), k < o → (w.setCells g o vs).cell? ⟨g, k, none⟩ = w.cell? ⟨g, k, none⟩
  | [], _, _, _, _ => rfl
  | v :: r, o, w, k, h => by
    have ih := cell_setCells_before g r (o + 1) (w.setCell ⟨g, o, none⟩ v) k (by omega)
    have e : w.setCells g o (v :: r) = (w.setCell ⟨g, o, none⟩ v).setCells g (o + 1) r := rfl
    rw [e, ih, World.cell?_setCell_other _ _ _ _ (by simp <;> omega)]
theorem size_setCells (g : Nat) : ∀ (vs : List Value) (o : Nat) (w : World), (w.setCells g o vs).heap.size = w.heap.size
  | [], _, _ => rfl
  | v :: r, o, w => by
    have e : w.setCells g o (v :: r) = (w.setCell ⟨g, o, none⟩ v).setCells g (o + 1) r := rfl
    rw [e, size_setCells g r]
    simp
theorem below_setCells {B : Nat} {a : World} (g : Nat) (hg : B ≤ g) : ∀ (vs : List Value) (o : Nat) (w : World), Below B a w → Below B a (w.setCells g o vs)
  | [], _, _, h => h
  | v :: r, o, _, h => below_setCells g hg r (o + 1) _ (h.setCell (p := ⟨g, o, none⟩) hg v)

set_option maxRecDepth 1000000 in
set_option maxHeartbeats 4000000 in
theorem delete76 (w0 : World) (g cap : Nat) (fs : List Fld) (b : Option Addr) (d : Nat) (xs : List ByteArray) (hfl : fs.length ≤ 1000000000) (hx1 : xs.length ≤ 1000000000) (hok : ∀ f ∈ fs, FldOk f) (hx : IsStrs w0 b d xs) (hg : w0.heap.size ≤ g) (hcap : fs.length ≤ cap)
    (w : World) (hbl : Below w0.heap.size w0 w) (hop : Open2 w g fs.length) (hp : ∀ (k : Nat) f, fs[k]? = some f → PairAt w g k f) :
    Calls Tryz.prog 103 #[.slice (some ⟨g, 0, none⟩) fs.length cap, hasV b xs.length d] w fun e w' =>
      e = .returned (.slice (some ⟨g, 0, none⟩) (dropL xs fs).length cap) ∧ IsFlds w' (some ⟨g, 0, none⟩) cap (dropL xs fs) ∧ Below w0.heap.size w0 w' := by
  have hif : IsFlds w (some ⟨g, 0, none⟩) cap fs := .inr ⟨g, 0, rfl, hop.1, hcap, fun j f hf => by rw [Nat.zero_add]; exact hp j f hf⟩
  have HI := Lib.hid (index93 (some ⟨g, 0, none⟩) cap fs b d xs hfl hx1 hok w hif (hx.below hbl))
  obtain ⟨V, hV⟩ : ∃ V, V = hasV b xs.length d := ⟨_, rfl⟩
  rw [← hV] at HI ⊢
  have HV := Lib.hid hV
  have HX := Lib.hid hx
  have HOK := Lib.hid hok
  have HOP := Lib.hid hop
  have HP := Lib.hid hp
  clear hV hx hok hop hp hif
  rcases findI_cases xs fs with ⟨hi, hno⟩ | ⟨i, hil, hi, hyes, hno⟩
  · rw [hi] at HI
    have hd := dropL_none hno
    have HD := Lib.hid hd
    rw [hd]
    clear hi hno hd
    go_enter Tryz.func103, Tryz.ntmps103
    go_wp2_with fail
    refine HI.out.mono ?_
    rintro e w1 ⟨rfl, hb1⟩
    go_wp2_with fail
    go_ret
    refine ⟨rfl, ?_, hbl.trans (hb1.mono hbl.size)⟩
    have : IsFlds w (some ⟨g, 0, none⟩) cap fs := .inr ⟨g, 0, rfl, HOP.out.1, hcap, fun j f hf => by rw [Nat.zero_add]; exact HP.out j f hf⟩
    exact this.below hb1
  · rw [hi] at HI
    have ht : dropL xs (fs.take (i + 1)) = fs.take i := by rw [dropL_step_drop hil hyes, dropL_none hno]
    have hl : i = (dropL xs (fs.take (i + 1))).length := by rw [ht, List.length_take]; omega
    have HT := Lib.hid ht
    have HL := Lib.hid hl
    have i1 : ((i : Int) == -1) = false := beq_eq_false_iff_ne.2 (by omega)
    clear hi hno hyes ht hl
    go_enter Tryz.func103, Tryz.ntmps103
    go_wp2_with fail
    refine HI.out.mono ?_
    rintro e w1 ⟨rfl, hb1⟩
    have b1 := hbl.trans (hb1.mono hbl.size)
    have O1 : Hid (Open2 w1 g fs.length) := HOP.out.below hb1
    have P1 : Hid (∀ (k : Nat) f, fs[k]? = some f → PairAt w1 g k f) := fun k f hf => (HP.out k f hf).below hb1 HOP.out.1
    go_wp2_with fail
    clear i1 hbl hb1
    go_loopw [5, 6] (fun vi vj wr => ∃ i j : Nat, vi = .int .i64 (i : Int) ∧ vj = .int .i64 (j : Int) ∧ i < j ∧ j ≤ fs.length ∧ Hid (i = (dropL xs (fs.take j)).length) ∧ Hid (Open2 wr g fs.length) ∧ Hid (∀ (k : Nat) f, (dropL xs (fs.take j))[k]? = some f → PairAt wr g k f) ∧ Hid (∀ (k : Nat) f, j ≤ k → fs[k]? = some f → PairAt wr g k f) ∧ Below w0.heap.size w0 wr)
      (fun _ vj _ => fs.length - (intOf vj).toNat)
    case atStart =>
      refine ⟨i, i + 1, rfl, by first | rfl | go_num, by omega, by omega, HL, O1, ?_, fun k f _ hf => P1.out k f hf, b1⟩
      show ∀ _ _, _
      rw [HT.out]
      intro k f hf
      rw [List.getElem?_take] at hf
      split at hf
      · exact P1.out k f hf
      · cases hf
    case round =>
      clear O1 P1 b1 HL HT hil HI HOP HP
      obtain ⟨i, j, rfl, rfl, hij, hj, hlen, hO, hK, hS, hb⟩ := hrel
      by_cases hlt : j < fs.length
      · obtain ⟨c1, c2⟩ := hS.out j fs[j] (Nat.le_refl _) (by simp [hlt])
        have hgl := hO.out.1
        have hfo := HOK.out fs[j] (List.getElem_mem hlt)
        obtain ⟨q, hq⟩ : ∃ q, q = hasB xs fs[j] := ⟨_, rfl⟩
        obtain ⟨f, hfe⟩ : ∃ f, f = fs[j] := ⟨_, rfl⟩
        have HKeep : Hid (q = false → dropL xs (fs.take (j + 1)) = dropL xs (fs.take j) ++ [f]) := fun e => by rw [hfe]; exact dropL_step_keep hlt (hq ▸ e)
        have HDrop : Hid (q = true → dropL xs (fs.take (j + 1)) = dropL xs (fs.take j)) := fun e => dropL_step_drop hlt (hq ▸ e)
        rw [← hfe] at c1 c2 hfo hq
        clear hfe
        obtain ⟨n, v⟩ := f
        have HC := Lib.hid (fun W hW => has72 b d xs (n, v) hx1 hfo.1 q hq W hW)
        clear hq hfo
        simp only at c1 c2
        have j1 : (j : Int) < fs.length := by omega
        rw [HV.out]
        unfold hasV
        go_wp2_with fail
        have bA := hb.alloc hb.size (.cells #[.string (bs n), .string (bs v)] 62)
        have LA := below_alloc wr (.cells #[.string (bs n), .string (bs v)] 62)
        have e0 : (wr.alloc (.cells #[.string (bs n), .string (bs v)] 62)).cell? ⟨wr.heap.size, 0, none⟩ = some (.string (bs n)) := by simp
        have e1 : (wr.alloc (.cells #[.string (bs n), .string (bs v)] 62)).cell? ⟨wr.heap.size, 1, none⟩ = some (.string (bs v)) := by simp
        have hzz : wr.heap.size < (wr.alloc (.cells #[.string (bs n), .string (bs v)] 62)).heap.size := by simp
        have HXA : Hid (IsStrs (wr.alloc (.cells #[.string (bs n), .string (bs v)] 62)) b d xs) := HX.out.below bA
        refine (HC.out _ HXA.out).mono ?_
        rintro e w2 ⟨rfl, hb2⟩
        have b2 := bA.trans (hb2.mono bA.size)
        have bl2 : Below wr.heap.size wr w2 := LA.trans (hb2.mono LA.size)
        have f0 : w2.cell? ⟨wr.heap.size, 0, none⟩ = some (.string (bs n)) := by rw [(bcell hb2).1 _ _ hzz, e0]
        have f1 : w2.cell? ⟨wr.heap.size, 1, none⟩ = some (.string (bs v)) := by rw [(bcell hb2).1 _ _ hzz, e1]
        have O2 : Hid (Open2 w2 g fs.length) := hO.out.below bl2
        have K2 : Hid (∀ (k : Nat) f, (dropL xs (fs.take j))[k]? = some f → PairAt w2 g k f) := fun k f hf => (hK.out k f hf).below bl2 hgl
        have S2 : Hid (∀ (k : Nat) f, j ≤ k → fs[k]? = some f → PairAt w2 g k f) := fun k f hk hf => (hS.out k f hk hf).below bl2 hgl
        clear e0 e1 hzz HXA bA LA hb2 hO hK hS c1 c2 HC hb
        cases q
        · have HK3 := Lib.hid (HKeep.out rfl)
          clear HKeep HDrop
          obtain ⟨u0, hu0⟩ := Option.isSome_iff_exists.1 (O2.out.2 (i * 2) (by omega)).1
          obtain ⟨u1, hu1⟩ := Option.isSome_iff_exists.1 (O2.out.2 (i * 2 + 1) (by omega)).1
          have z0 := (O2.out.2 (i * 2) (by omega)).2
          have z1 := (O2.out.2 (i * 2 + 1) (by omega)).2
          have ii : (i : Int) < fs.length := by omega
          have hput := PairAt.put O2.out (show i < fs.length by omega) (n, v)
          have O3 : Hid (Open2 ((w2.setCell ⟨g, i * 2, none⟩ (.string (bs n))).setCell ⟨g, i * 2 + 1, none⟩ (.string (bs v))) g fs.length) := (O2.out.set _ _).set _ _
          have hl3 : Hid (i + 1 = (dropL xs (fs.take (j + 1))).length) := by
            show i + 1 = _
            rw [HK3.out, List.length_append, ← hlen.out]; rfl
          have K3 : Hid (∀ (k : Nat) f, (dropL xs (fs.take (j + 1)))[k]? = some f → PairAt ((w2.setCell ⟨g, i * 2, none⟩ (.string (bs n))).setCell ⟨g, i * 2 + 1, none⟩ (.string (bs v))) g k f) := by
            intro k f hf
            rw [HK3.out] at hf
            by_cases hk : k < i
            · rw [List.getElem?_append_left (by rw [← hlen.out]; exact hk)] at hf
              exact ((K2.out k f hf).set _ _ (by omega)).set _ _ (by omega)
            · rw [List.getElem?_append_right (by rw [← hlen.out]; omega), ← hlen.out] at hf
              have hk0 : k - i = 0 := by
                have := (List.getElem?_eq_some_iff.1 hf).1
                simp at this
                omega
              rw [hk0] at hf
              obtain rfl : (n, v) = f := by simpa using hf
              obtain rfl : k = i := by omega
              exact hput
          have S3 : Hid (∀ (k : Nat) f, j + 1 ≤ k → fs[k]? = some f → PairAt ((w2.setCell ⟨g, i * 2, none⟩ (.string (bs n))).setCell ⟨g, i * 2 + 1, none⟩ (.string (bs v))) g k f) := fun k f hk hf =>
            ((S2.out k f (by omega) hf).set _ _ (by omega)).set _ _ (by omega)
          have b3 := (b2.setCell (p := ⟨g, i * 2, none⟩) hg (.string (bs n))).setCell (p := ⟨g, i * 2 + 1, none⟩) hg (.string (bs v))
          clear hput O2 K2 S2 hlen HK3
          go_wp2_with fail
          go_roundw
          case rel => exact ⟨i + 1, j + 1, by go_num, by go_num, by omega, hlt, hl3, O3, K3, S3, b3⟩
          case measure => simp [intOf]; omega
        · have HD3 := Lib.hid (HDrop.out rfl)
          clear HKeep HDrop
          have hl3 : Hid (i = (dropL xs (fs.take (j + 1))).length) := by show i = _; rw [HD3.out]; exact hlen.out
          have K3 : Hid (∀ (k : Nat) f, (dropL xs (fs.take (j + 1)))[k]? = some f → PairAt w2 g k f) := by
            intro k f hf
            rw [HD3.out] at hf
            exact K2.out k f hf
          have S3 : Hid (∀ (k : Nat) f, j + 1 ≤ k → fs[k]? = some f → PairAt w2 g k f) := fun k f hk hf => S2.out k f (by omega) hf
          clear K2 S2 hlen HD3
          go_wp2_with fail
          go_roundw
          case rel => exact ⟨i, j + 1, rfl, by go_num, by omega, hlt, hl3, O2, K3, S3, b2⟩
          case measure => simp [intOf]; omega
      · obtain rfl : j = fs.length := by omega
        have hK2 := hK.out
        have hl2 := hlen.out
        rw [List.take_of_length_le (Nat.le_refl _)] at hK2 hl2
        have hclr := run_clear2 wr 0 g (i * 2) (fs.length - i) (cap - i) (by omega) (fun k hk => (hO.out.2 _ (by omega)).1) (fun k hk => (hO.out.2 _ (by omega)).2)
        have HKK := Lib.hid hK2
        have HLL := Lib.hid hl2
        have ii : (i : Int) ≤ fs.length := by omega
        have ic : (i : Int) ≤ cap := by omega
        have i00 : (0 : Int) ≤ i := by omega
        have hcc : (fs.length : Int) ≤ cap := by omega
        have hgl := hO.out.1
        have hbz : Below w0.heap.size w0 (wr.setCells g (i * 2) (Builtin.zeroCells #[.string ⟨#[]⟩, .string ⟨#[]⟩] (fs.length - i)).toList) := below_setCells g hg _ _ _ hb
        clear hK2 hl2 hK hlen hS
        have hsz : g < (wr.setCells g (i * 2) (Builtin.zeroCells #[.string ⟨#[]⟩, .string ⟨#[]⟩] (fs.length - i)).toList).heap.size := Nat.lt_of_lt_of_le (Nat.lt_of_lt_of_le hgl (Nat.le_of_eq (size_setCells g _ _ _).symm)) (Nat.le_refl _)
        go_wp2_with fail
        go_ret
        refine ⟨by rw [← HLL.out]; rfl, ?_, hbz⟩
        have hcl : (dropL xs fs).length ≤ cap := by have := HLL.out; omega
        refine .inr ⟨g, 0, rfl, hsz, hcl, fun k f hf => ?_⟩
        have hki : k < i := by have := (List.getElem?_eq_some_iff.1 hf).1; have := HLL.out; omega
        obtain ⟨p0, p1⟩ := HKK.out k f hf
        rw [Nat.zero_add]
        exact ⟨by rw [cell_setCells_before g _ _ _ _ (by omega)]; exact p0, by rw [cell_setCells_before g _ _ _ _ (by omega)]; exact p1⟩
end Go.Proofs.YtbbphklhnngjmaaGreatDoor

/- fields: Drop, index, Get, Has. -/
namespace Go.Proofs.YtbbphklhnngjmaaGreatDoor
open Go.RowKit

/-- A row that owns fields: nil, or places that may be written. -/
theorem own_open {w : World} {base : Nat} {v : Value} {fs : List Fld} (h : w.ownsRow base 62 2 v fs.length (cellsF fs)) :
    (v = .slice none 0 0 ∧ fs = []) ∨ ∃ g cap, v = .slice (some ⟨g, 0, none⟩) fs.length cap ∧ base ≤ g ∧ fs.length ≤ cap ∧ Open2 w g fs.length ∧ ∀ (k : Nat) f, fs[k]? = some f → PairAt w g k f := by
  obtain ⟨_, ⟨rfl, h0⟩ | ⟨g, cap, cur, rfl, hbg, hg, hcap, _, hcs, htk⟩⟩ := h
  · exact .inl ⟨rfl, List.eq_nil_of_length_eq_zero h0⟩
  · refine .inr ⟨g, cap, rfl, hbg, hcap, ⟨(Array.getElem?_eq_some_iff.1 hg).1, fun k hk => ?_⟩, fun k f hf => ?_⟩
    · have hks : k < cur.size := by omega
      exact ⟨by simp [World.cell?, hg, hks], by simp [World.frozen?, hg]⟩
    · obtain ⟨g1, g2⟩ := cellsF_at fs k f hf
      have hj := (List.getElem?_eq_some_iff.1 hf).1
      rw [← htk, List.getElem?_take, if_pos (by omega)] at g1 g2
      simp only [Array.getElem?_toList] at g1 g2
      exact ⟨by simp [World.cell?, hg, g1], by simp [World.cell?, hg, g2]⟩
set_option maxRecDepth 100000 in
set_option maxHeartbeats 2000000 in
theorem delete76_nil (b : Option Addr) (d : Nat) (xs : List ByteArray) (hx1 : xs.length ≤ 1000000000) (w : World) (hx : IsStrs w b d xs) :
    Calls Tryz.prog 103 #[.slice none 0 0, hasV b xs.length d] w fun e w' => e = .returned (.slice none 0 0) ∧ Below w.heap.size w w' := by
  have HI := Lib.hid (index93 none 0 [] b d xs (by simp) hx1 (by simp) w (.inl rfl) hx)
  have e0 : findI xs [] = -1 := rfl
  rw [e0] at HI
  obtain ⟨V, hV⟩ : ∃ V, V = hasV b xs.length d := ⟨_, rfl⟩
  rw [← hV] at HI ⊢
  clear hV hx e0
  go_enter Tryz.func103, Tryz.ntmps103
  go_wp2_with fail
  refine HI.out.mono ?_
  rintro e w1 ⟨rfl, hb1⟩
  go_wp2_with fail
  go_ret
  exact ⟨rfl, hb1⟩
set_option maxRecDepth 100000 in
set_option maxHeartbeats 2000000 in
theorem drop55 (a : Option Addr) (c : Nat) (fs : List Fld) (b : Option Addr) (d : Nat) (xs : List ByteArray) (hfl : fs.length ≤ 1000000000) (hx1 : xs.length ≤ 1000000000) (ha : a = none → c = 0 ∧ fs = []) (hok : ∀ f ∈ fs, FldOk f) (w : World) (hf : IsFlds w a c fs) (hx : IsStrs w b d xs) :
    Calls Tryz.prog 78 #[.slice a fs.length c, .slice b xs.length d] w fun e w' => ∃ a' c', e = .returned (.slice a' (dropL xs fs).length c') ∧ (a' = none → c' = 0 ∧ dropL xs fs = []) ∧ IsFlds w' a' c' (dropL xs fs) ∧ Below w.heap.size w w' := by
  have HX := Lib.hid hx
  have HC := Lib.hid (clone77 a c fs hfl ha w hf)
  have HOK := Lib.hid hok
  clear hx hf ha hok
  go_enter Tryz.func78, Tryz.ntmps78
  go_wp2_with fail
  refine HC.out.mono ?_
  rintro e w1 ⟨v, rfl, hown, hb1⟩
  have X1 : Hid (IsStrs w1 b d xs) := HX.out.below hb1
  obtain ⟨rfl, rfl⟩ | ⟨g, cap, rfl, hg, hcap, hop, hpa⟩ := own_open hown
  · have HD := Lib.hid (delete76_nil b d xs hx1 w1 X1.out)
    unfold hasV at HD
    clear HX HC HOK hown
    go_wp2_with fail
    refine HD.out.mono ?_
    rintro e w2 ⟨rfl, hb2⟩
    go_wp2_with fail
    go_ret
    exact ⟨none, 0, rfl, fun _ => ⟨rfl, rfl⟩, .inl rfl, hb1.trans (hb2.mono hb1.size)⟩
  · have HD := Lib.hid (delete76 w g cap fs b d xs hfl hx1 HOK.out HX.out hg hcap w1 hb1 hop hpa)
    unfold hasV at HD
    clear HX HC HOK hown hop hpa X1
    go_wp2_with fail
    refine HD.out.mono ?_
    rintro e w2 ⟨rfl, hfl2, hb2⟩
    have HF2 := Lib.hid hfl2
    clear hfl2 HD
    go_wp2_with fail
    go_ret
    exact ⟨some ⟨g, 0, none⟩, cap, rfl, (fun h => by cases h), HF2.out, hb2⟩
/-- One name that is asked for. -/
theorem isStrs_new1 (w : World) (x : ByteArray) (T : TypeId) : IsStrs (w.alloc (.cells #[.string x] T)) (some ⟨w.heap.size, 0, none⟩) 1 [x] := by
  refine .inr ⟨w.heap.size, 0, rfl, by simp, by simp, fun j y hy => ?_⟩
  obtain rfl : j = 0 := by
    have := (List.getElem?_eq_some_iff.1 hy).1
    simp at this
    omega
  obtain rfl : x = y := by simpa using hy
  simp
set_option maxRecDepth 100000 in
set_option maxHeartbeats 2000000 in
theorem index71 (a : Option Addr) (c : Nat) (fs : List Fld) (n : ByteArray) (hfl : fs.length ≤ 1000000000) (hok : ∀ f ∈ fs, FldOk f) (w : World) (hf : IsFlds w a c fs) :
    Calls Tryz.prog 81 #[.slice a fs.length c, .string n] w fun e w' => e = .returned (.int .i64 (findI [n] fs)) ∧ Below w.heap.size w w' := by
  have L0 := below_alloc w (.cells #[.string n] 9)
  have HI := Lib.hid (index93 a c fs (some ⟨w.heap.size, 0, none⟩) 1 [n] hfl (by simp) hok (w.alloc (.cells #[.string n] 9)) (hf.below L0) (isStrs_new1 w n _))
  obtain ⟨R, hR⟩ : ∃ R, R = findI [n] fs := ⟨_, rfl⟩
  rw [← hR] at HI ⊢
  unfold hasV at HI
  clear hf hok hR
  go_enter Tryz.func81, Tryz.ntmps81
  go_wp2_with fail
  refine HI.out.mono ?_
  rintro e w1 ⟨rfl, hb1⟩
  go_wp2_with fail
  go_ret
  exact ⟨rfl, L0.trans (hb1.mono L0.size)⟩
end Go.Proofs.YtbbphklhnngjmaaGreatDoor

/- strings.Builder: copyCheck, WriteString. -/
namespace Go.Proofs.YtbbphklhnngjmaaGreatDoor
open Go.RowKit

theorem sizeBld : (Tryz.prog.info? 121).map (·.size) = some 2 := by kernel_rfl
theorem liesBld : liesAt Tryz.prog Tryz.prog.depth 121 (2 / Tryz.prog.cellsOf 121) 0 121 1 = true := by kernel_rfl
theorem infoByt : (Tryz.prog.info? 5).map (fun i => (i.zero, i.size, i.bytes)) = some (some (.int .u8 0), 1, 1) := by kernel_rfl
set_option maxHeartbeats 1000000 in
set_option maxRecDepth 100000 in
theorem copy95_used (b : Nat) (w : World) (h0 : w.cell? ⟨b, 0, none⟩ = some (.pointer (some ⟨b, 0, none⟩))) :
    Calls Tryz.prog 101 #[.pointer (some ⟨b, 0, none⟩)] w fun e w' => e = .returned (.tuple #[]) ∧ w' = w := by
  obtain ⟨j, hj, _⟩ := Option.map_eq_some_iff.1 sizeBld
  go_enter Tryz.func101, Tryz.ntmps101
  go_wp2
  rw [Lib.run_neq_ptr_same w _ Tryz.underlying119 hj]
  go_wp2
  go_end0
  exact ⟨rfl, rfl⟩
set_option maxHeartbeats 1000000 in
set_option maxRecDepth 100000 in
theorem copy95_fresh (b : Nat) (w : World) (h0 : w.cell? ⟨b, 0, none⟩ = some (.pointer none)) (hsh : w.shape? b = some (121, 2)) (hfz : w.frozen? ⟨b, 0, none⟩ = false) :
    Calls Tryz.prog 101 #[.pointer (some ⟨b, 0, none⟩)] w fun e w' => e = .returned (.tuple #[]) ∧ w' = w.setCell ⟨b, 0, none⟩ (.pointer (some ⟨b, 0, none⟩)) := by
  obtain ⟨j, hj, hjs⟩ := Option.map_eq_some_iff.1 sizeBld
  go_enter Tryz.func101, Tryz.ntmps101
  go_wp2
  rw [Lib.run_to_unsafe w ⟨b, 0, none⟩ Tryz.underlying119 Tryz.underlying158 hj (by rw [hjs]; decide) hsh (Nat.zero_lt_succ 1)]
  simp only [Result.andThen]
  rw [Oper.upon_value]
  go_wp2
  rw [run_callFunc_extern Tryz.func122 (by kernel_rfl) (by kernel_rfl) (by kernel_rfl) (e := Extern.AbiNoEscape.same) (by kernel_rfl)]
  rw [Lib.run_noEscape]
  simp only [Result.andThen]
  rw [Oper.upon_value]
  go_wp2
  rw [Lib.run_from_unsafe w ⟨b, 0, none⟩ Tryz.underlying158 Tryz.underlying119 hj hsh liesBld]
  simp only [Result.andThen]
  rw [Oper.upon_value]
  go_wp2
  go_end0
  exact ⟨rfl, rfl⟩
theorem copy95 (B b : Nat) (bs : List Value) (w : World) (h : Lib.IsBuilder 121 5 B b bs w) :
    Calls Tryz.prog 101 #[.pointer (some ⟨b, 0, none⟩)] w fun e w' => e = .returned (.tuple #[]) ∧ (Lib.BuilderAt 121 5 B b (.pointer (some ⟨b, 0, none⟩)) bs w' ∧ Below B w w') := by
  rcases h with h | h
  · refine (copy95_fresh b w h.cell0 h.shape h.frozen0).mono ?_
    rintro e w' ⟨rfl, rfl⟩
    exact ⟨rfl, h.used _, (Below.refl B w).setCell (p := ⟨b, 0, none⟩) h.1 _⟩
  · refine (copy95_used b w h.cell0).mono ?_
    rintro e w' ⟨rfl, rfl⟩
    exact ⟨rfl, h, Below.refl B _⟩
set_option maxHeartbeats 2000000 in
set_option maxRecDepth 100000 in
theorem write74 (B b : Nat) (bs : List Value) (s : ByteArray) (w : World) (h : Lib.IsBuilder 121 5 B b bs w) (hlen : bs.length + s.size ≤ 140737488355328) (hBw : B ≤ w.heap.size) :
    Calls Tryz.prog 74 #[.pointer (some ⟨b, 0, none⟩), .string s] w fun e w' => e = .returned (.tuple #[.int .i64 s.size, .nilIface]) ∧ (Lib.BuilderAt 121 5 B b (.pointer (some ⟨b, 0, none⟩)) (bs ++ Lib.strCells s) w' ∧ Below B w w') := by
  obtain ⟨i0, hi, hz0, hz1, hz2⟩ := info_parts infoByt
  have HC := Lib.hid (copy95 B b bs w h)
  go_enter Tryz.func74, Tryz.ntmps74
  go_wp2_with fail
  refine HC.out.mono ?_
  rintro e w1 ⟨rfl, h1, hb1⟩
  obtain ⟨hB, v, hbk, hown, hne⟩ := h1
  have c0 : w1.cell? ⟨b, 0, none⟩ = some (.pointer (some ⟨b, 0, none⟩)) := by rw [Lib.cell_of_heap hbk]; rfl
  have c1 : w1.cell? ⟨b, 1, none⟩ = some v := by rw [Lib.cell_of_heap hbk]; rfl
  go_wp2_with (at_builtin; refine Lib.wpList_append_own_string _ rfl _ _ 101 9 rfl B 5 i0 Tryz.underlying101 Tryz.underlying9 hi hz0 hz1 hz2 _ _ _ rfl hown s rfl (by unfold maxLen; omega) (by omega) (by have := hb1.size; omega) ?_)
  intro v' w2 hown' hgrow _
  have hlt : b < w1.heap.size := (Array.getElem?_eq_some_iff.1 hbk).1
  have hb2 : w2.heap[b]? = some (.cells #[.pointer (some ⟨b, 0, none⟩), v] 121 (0, 0)) := by
    rw [hgrow.block b hlt (fun e => hne e.symm)]
    exact hbk
  have d0 : w2.cell? ⟨b, 0, none⟩ = some (.pointer (some ⟨b, 0, none⟩)) := by rw [Lib.cell_of_heap hb2]; rfl
  have d1 : w2.cell? ⟨b, 1, none⟩ = some v := by rw [Lib.cell_of_heap hb2]; rfl
  have f1 : w2.frozen? ⟨b, 1, none⟩ = false := Lib.frozen_of_heap hb2 1
  obtain ⟨ao, n', cap, rfl⟩ : ∃ ao n' cap, v' = .slice ao n' cap := by
    rcases hown'.2 with ⟨hv, _⟩ | ⟨g, cap, cur, hv, _⟩
    · exact ⟨_, _, _, hv⟩
    · exact ⟨_, _, _, hv⟩
  go_wp2
  go_ret2
  refine ⟨rfl, ?_, ?_⟩
  · exact Lib.BuilderAt.put (T := 121) (e := 5) hB hb2 (bs' := bs ++ Lib.strCells s) (by simpa [Lib.strCells_length] using hown') (by decide)
  · exact (hb1.grown hgrow (by have := hb1.size; omega) (fun k hk => (hown.lt k hk).1)).setCell (p := ⟨b, 1, none⟩) hB _
end Go.Proofs.YtbbphklhnngjmaaGreatDoor

/- fields: Text, Size. -/
namespace Go.Proofs.YtbbphklhnngjmaaGreatDoor
open Go.RowKit

theorem own_below {w w' : World} {base size n : Nat} {e : TypeId} {v : Value} {xs : List Value} (h : w.ownsRow base e size v n xs) (hb : Below w.heap.size w w') : w'.ownsRow base e size v n xs := by
  obtain ⟨hl, h0 | ⟨g, cap, cur, hv, hg, hc, r⟩⟩ := h
  · exact ⟨hl, .inl h0⟩
  · exact ⟨hl, .inr ⟨g, cap, cur, hv, hg, by rw [hb.block g (Array.getElem?_eq_some_iff.1 hc).1]; exact hc, r⟩⟩
/-- A builder that holds these bytes. -/
def Bld (B b : Nat) (l : List UInt8) (w : World) : Prop := Lib.IsBuilder 121 5 B b (Lib.byteCells l) w
theorem bldAt_below {w w' : World} {B b : Nat} {p : Value} {bs : List Value} (h : Lib.BuilderAt 121 5 B b p bs w) (hb : Below w.heap.size w w') : Lib.BuilderAt 121 5 B b p bs w' := by
  obtain ⟨hB, v, hv, ho, hn⟩ := h
  exact ⟨hB, v, by rw [hb.block b (Array.getElem?_eq_some_iff.1 hv).1]; exact hv, own_below ho hb, hn⟩
theorem Bld.below {w w' : World} {B b : Nat} {l : List UInt8} (h : Bld B b l w) (hb : Below w.heap.size w w') : Bld B b l w' := h.imp (fun x => bldAt_below x hb) (fun x => bldAt_below x hb)
theorem Bld.lt {w : World} {B b : Nat} {l : List UInt8} (h : Bld B b l w) : b < w.heap.size := by
  rcases h with h | h <;> exact h.lt
/-- WriteString of a builder of bytes. -/
theorem writeB (B b : Nat) (l x : List UInt8) (w : World) (h : Bld B b l w) (hlen : l.length + x.length ≤ 140737488355328) (hBw : B ≤ w.heap.size) :
    Calls Tryz.prog 74 #[.pointer (some ⟨b, 0, none⟩), .string (bs x)] w fun e w' => e = .returned (.tuple #[.int .i64 (bs x).size, .nilIface]) ∧ Bld B b (l ++ x) w' ∧ Below B w w' := by
  refine (write74 B b (Lib.byteCells l) (bs x) w h (by rw [Lib.byteCells_length, bs_size]; exact hlen) hBw).mono ?_
  rintro e w' ⟨he, h1, h2⟩
  refine ⟨he, .inr ?_, h2⟩
  rw [Lib.byteCells_append]
  exact h1
/-- The text of fields. -/
def textL (fs : List Fld) : List UInt8 := fs.flatMap lineL
theorem textL_step {fs : List Fld} {j : Nat} (hj : j < fs.length) : textL (fs.take (j + 1)) = textL (fs.take j) ++ lineL fs[j] := by
  unfold textL
  rw [List.take_add_one, List.getElem?_eq_getElem hj, Option.toList_some, List.flatMap_append]
  simp
theorem textL_le {fs : List Fld} {j : Nat} : (textL (fs.take j)).length ≤ (textL fs).length := by
  conv => rhs; rw [← List.take_append_drop j fs]
  unfold textL
  rw [List.flatMap_append, List.length_append]
  omega
set_option maxHeartbeats 2000000 in
set_option maxRecDepth 100000 in
theorem text49 (a : Option Addr) (c : Nat) (fs : List Fld) (hfl : fs.length ≤ 1000000000) (hok : ∀ f ∈ fs, FldOk f) (hsum : (textL fs).length ≤ 100000000000) (w : World) (hf : IsFlds w a c fs) :
    Calls Tryz.prog 38 #[.slice a fs.length c] w fun e w' => e = .returned (.string (bs (textL fs))) ∧ Below w.heap.size w w' := by
  have HFF := Lib.hid hf
  have HOK := Lib.hid hok
  have HS := Lib.hid hsum
  obtain ⟨X, hX⟩ : ∃ X, X = bs (textL fs) := ⟨_, rfl⟩
  have HX : Hid ((⟨(textL fs).toArray⟩ : ByteArray) = X) := by show _ = _; rw [hX]; rfl
  rw [← hX]
  clear hX
  have B0 : Hid (Bld w.heap.size w.heap.size [] (w.alloc (.cells #[.pointer none, .slice none 0 0] 121))) := Lib.fresh_isBuilder _ _ w
  have L0 := below_alloc w (.cells #[.pointer none, .slice none 0 0] 121)
  clear hf hok hsum
  go_enter Tryz.func38, Tryz.ntmps38
  go_wp2_with fail
  go_loopw [8] (fun i wr => ∃ j : Nat, j ≤ fs.length ∧ i = .int .i64 (j : Int) ∧ Hid (Bld w.heap.size w.heap.size (textL (fs.take j)) wr) ∧ Below w.heap.size w wr) (fun i _ => fs.length - (intOf i).toNat)
  case atStart => exact ⟨0, Nat.zero_le _, rfl, B0, L0⟩
  case round =>
    clear B0 L0
    obtain ⟨j, hj, rfl, hB, hb⟩ := hrel
    by_cases hlt : j < fs.length
    · obtain h0 | ⟨bk, o, rfl, hbk, hc, hcell⟩ := HFF.out.below hb
      · subst h0; simp at hlt
      obtain ⟨c1, c2⟩ := hcell j fs[j] (by simp [hlt])
      have hfo := HOK.out fs[j] (List.getElem_mem hlt)
      have hsz : (textL (fs.take j)).length + (lineL fs[j]).length ≤ 140737488355328 := by
        have h1 := textL_le (fs := fs) (j := j + 1)
        rw [textL_step hlt, List.length_append] at h1
        have := HS.out
        omega
      have HN := Lib.hid (textL_step hlt)
      obtain ⟨f, hfe⟩ : ∃ f, f = fs[j] := ⟨_, rfl⟩
      rw [← hfe] at c1 c2 hfo hsz HN
      clear hcell hfe
      have HL := Lib.hid (fun W => line38 f hfo.1 hfo.2 W)
      have HW := Lib.hid (fun W h hw => writeB w.heap.size w.heap.size (textL (fs.take j)) (lineL f) W h hsz hw)
      obtain ⟨n, v⟩ := f
      generalize lineL (n, v) = ll at HL HW HN
      unfold fldV at HL
      simp only at c1 c2 HL
      have j1 : (j : Int) < fs.length := by omega
      clear hsz hfo
      go_wp2_with fail
      have LA := below_alloc wr (.cells #[.string (bs n), .string (bs v)] 62)
      refine (HL.out _).mono ?_
      rintro e w2 ⟨rfl, hb2⟩
      have b2 := LA.trans (hb2.mono LA.size)
      have B2 := hB.out.below b2
      have bb2 := hb.trans (b2.mono hb.size)
      clear LA hb2
      go_wp2_with fail
      refine (HW.out _ B2 bb2.size).mono ?_
      rintro e w3 ⟨rfl, B3, hb3⟩
      rw [← HN.out] at B3
      have HB3 := Lib.hid B3
      have bb3 := bb2.trans hb3
      clear hB B2 b2 B3 hb3 HL HW bb2
      go_wp2_with fail
      go_roundw
      case rel => exact ⟨j + 1, hlt, by go_num, HB3, bb3⟩
      case measure => simp [intOf]; omega
    · have hB2 := hB.out
      rw [List.take_of_length_le (by omega)] at hB2
      have HE := Lib.hid (Tryz.Builder_String_any w.heap.size w.heap.size (textL fs) wr hB2 hb.size)
      clear hB hB2
      rw [HX.out] at HE
      go_wp2_with fail
      refine HE.out.mono ?_
      rintro e w2 ⟨rfl, hb2⟩
      go_wp2_with fail
      go_ret
      exact ⟨rfl, hb.trans hb2⟩
end Go.Proofs.YtbbphklhnngjmaaGreatDoor

/- fields: slices.Grow, slices.Concat. -/
namespace Go.Proofs.YtbbphklhnngjmaaGreatDoor
open Go.RowKit

set_option maxHeartbeats 4000000 in
set_option maxRecDepth 100000 in
/-- Grow of the nil slice. -/
theorem grow94 (n : Nat) (hn : n ≤ 1000000000) (w : World) :
    Calls Tryz.prog 108 #[.slice none 0 0, .int .i64 n] w fun e w' => ∃ v, e = .returned v ∧ w'.ownsRow w.heap.size 62 2 v 0 [] ∧ Below w.heap.size w w' := by
  obtain ⟨i0, hi, hz0, hz1, hz2⟩ := info_parts infoFld
  by_cases h0 : n = 0
  · subst h0
    have e0 : ((0 : Nat) : Int) = 0 := rfl
    rw [e0]
    go_enter Tryz.func108, Tryz.ntmps108
    go_wp2_with fail
    go_ret
    exact ⟨_, rfl, World.ownsRow_nil _ _ _ _, Below.refl _ _⟩
  · have hold : (Builtin.firstCells i0.size 0 (.slice none 0 0)).run Tryz.prog w.drew = .ok #[] w.drew := run_firstCells_none w.drew i0.size 0 0 0
    obtain ⟨G, hG⟩ : ∃ G, G = grownCap w n 0 62 := ⟨_, rfl⟩
    have hG1 : n ≤ G := by rw [hG]; exact grownCap_ge w _ _ _
    have hG2 : G ≤ 9223372036854775807 := by
      have := grownCap_le_maxLen w n 0 62 (by unfold maxLen; omega)
      rw [← hG] at this
      unfold maxLen at this
      omega
    have hrz : ∀ ty, (Builtin.append_ #[31, 3] ty #[.slice none 0 0, .int .i64 (n : Int)]).run Tryz.prog w =
        .ok (.slice (some ⟨w.heap.size, 0, none⟩) n G) (w.drew.alloc (.cells (#[] ++ Builtin.zeroCells #[.string ⟨#[]⟩, .string ⟨#[]⟩] n ++ Builtin.zeroCells #[.string ⟨#[]⟩, .string ⟨#[]⟩] (G - n)) 62)) := fun ty => by
      have h := Lib.run_append_grow_zeros w 31 3 ty 62 i0 (.agg #[.string ⟨#[]⟩, .string ⟨#[]⟩]) .i64 .i64 Tryz.underlying31 Tryz.underlying3 hi hz0 none 0 0 [] (by simpa using hold) n (by omega) (by rw [hz1]; decide) (by omega) (by omega)
        (by rw [hz2]; omega) (by rw [hz2, Nat.zero_add]; exact growslice_fits (by omega) (by omega))
      rw [Nat.zero_add] at h
      rw [hG]
      exact h
    have h1 : ¬ ((n : Int) < 0) := by omega
    have h3 : wrap64 ((n : Int) - 0) = (n : Int) := by unfold wrap64; omega
    have h4 : (n : Int) > 0 := by omega
    have O : Hid ((w.drew.alloc (.cells (#[] ++ Builtin.zeroCells #[.string ⟨#[]⟩, .string ⟨#[]⟩] n ++ Builtin.zeroCells #[.string ⟨#[]⟩, .string ⟨#[]⟩] (G - n)) 62)).ownsRow w.heap.size 62 2 (.slice (some ⟨w.heap.size, 0, none⟩) 0 G) 0 []) := by
      refine ⟨rfl, .inr ⟨w.heap.size, G, _, rfl, Nat.le_refl _, heap_alloc_new w.drew _, Nat.zero_le _, by unfold maxLen; omega, ?_, by simp⟩⟩
      simp [Builtin.zeroCells]
      omega
    have L : Hid (Below w.heap.size w (w.drew.alloc (.cells (#[] ++ Builtin.zeroCells #[.string ⟨#[]⟩, .string ⟨#[]⟩] n ++ Builtin.zeroCells #[.string ⟨#[]⟩, .string ⟨#[]⟩] (G - n)) 62))) := (Below.refl w.heap.size w).drew.alloc (Nat.le_refl _) _
    clear hold hG hi hz0 hz1 hz2
    generalize World.alloc w.drew _ = w1 at *
    go_enter Tryz.func108, Tryz.ntmps108
    go_wp2_with (at_builtin; refine Lib.wpList_append_run _ rfl _ _ _ _ rfl _ _ rfl rfl _ _ (hrz _) ?_)
    all_goals (go_ret; exact ⟨_, rfl, O.out, L.out⟩)
end Go.Proofs.YtbbphklhnngjmaaGreatDoor

/- fields: slices.Concat. -/
namespace Go.Proofs.YtbbphklhnngjmaaGreatDoor
open Go.RowKit

/-- A part: where it lies, its capacity, its fields. -/
abbrev Part := Option Addr × Nat × List Fld
def partV (p : Part) : Value := .slice p.1 p.2.2.length p.2.1
def flatP (L : List Part) : List Fld := L.flatMap (·.2.2)
def PartOk (w : World) (p : Part) : Prop := IsFlds w p.1 p.2.1 p.2.2 ∧ (p.1 = none → p.2.1 = 0 ∧ p.2.2 = [])
theorem flatP_step {L : List Part} {j : Nat} (hj : j < L.length) : flatP (L.take (j + 1)) = flatP (L.take j) ++ L[j].2.2 := by
  unfold flatP
  rw [List.take_add_one, List.getElem?_eq_getElem hj, Option.toList_some, List.flatMap_append]
  simp
theorem flatP_le {L : List Part} {j : Nat} : (flatP (L.take j)).length ≤ (flatP L).length := by
  conv => rhs; rw [← List.take_append_drop j L]
  unfold flatP
  rw [List.flatMap_append, List.length_append]
  omega
theorem cellsF_append (a b : List Fld) : cellsF (a ++ b) = cellsF a ++ cellsF b := by simp [cellsF]
set_option maxHeartbeats 4000000 in
set_option maxRecDepth 100000 in
theorem concat73 (g : Nat) (L : List Part) (hL : L.length ≤ 1000) (hsum : (flatP L).length ≤ 1000000000) (w : World) (hg : g < w.heap.size) (hcell : ∀ (j : Nat) p, L[j]? = some p → w.cell? ⟨g, j, none⟩ = some (partV p)) (hok : ∀ p ∈ L, PartOk w p) :
    Calls Tryz.prog 82 #[.slice (some ⟨g, 0, none⟩) L.length L.length] w fun e w' => ∃ v, e = .returned v ∧ w'.ownsRow w.heap.size 62 2 v (flatP L).length (cellsF (flatP L)) ∧ Below w.heap.size w w' := by
  obtain ⟨i0, hi, hz0, hz1, hz2⟩ := info_parts infoFld
  have HC := Lib.hid hcell
  have HK := Lib.hid hok
  have HS := Lib.hid hsum
  have HG := Lib.hid (grow94 (flatP L).length hsum w)
  clear hcell hok hsum
  go_enter Tryz.func82, Tryz.ntmps82
  go_wp2_with fail
  go_loopw [3, 11] (fun s i wr => ∃ j : Nat, j ≤ L.length ∧ i = .int .i64 (j : Int) ∧ s = .int .i64 (((flatP (L.take j)).length : Nat) : Int) ∧ w = wr) (fun _ i _ => L.length - (intOf i).toNat)
  case atStart => exact ⟨0, Nat.zero_le _, rfl, rfl, rfl⟩
  case round =>
    obtain ⟨j, hj, rfl, rfl, rfl⟩ := hrel
    by_cases hlt : j < L.length
    · have cj := HC.out j L[j] (by simp [hlt])
      have hle := flatP_le (L := L) (j := j + 1)
      rw [flatP_step hlt, List.length_append] at hle
      have hst : Hid ((flatP (L.take (j + 1))).length = (flatP (L.take j)).length + L[j].2.2.length) := by show _ = _; rw [flatP_step hlt, List.length_append]
      have hs1 := HS.out
      obtain ⟨p, hp⟩ : ∃ p, p = L[j] := ⟨_, rfl⟩
      rw [← hp] at cj hle hst
      clear hp
      obtain ⟨a, c, fs⟩ := p
      simp only at hle hst
      have cj' : w.cell? ⟨g, j, none⟩ = some (.slice a fs.length c) := cj
      clear cj
      generalize (flatP (L.take j)).length = m at *
      generalize (flatP L).length = M at *
      have j1 : (j : Int) < L.length := by omega
      have m1 : wrap64 ((m : Int) + fs.length) = ((m + fs.length : Nat) : Int) := by unfold wrap64; omega
      have m2 : ¬ (((m + fs.length : Nat) : Int) < 0) := by omega
      go_wp2_with fail
      go_roundw
      case rel => exact ⟨j + 1, hlt, by go_num, by rw [hst.out, Int.natCast_add], by first | rfl | trivial⟩
      case measure => simp [intOf]; omega
    · obtain rfl : j = L.length := by omega
      have ht : flatP (L.take L.length) = flatP L := by rw [List.take_of_length_le (Nat.le_refl _)]
      rw [ht]
      clear ht
      have HX : Hid (∃ m, m = (flatP L).length) := ⟨_, rfl⟩
      go_wp2_with fail
      refine HG.out.mono ?_
      rintro e w1 ⟨v1, rfl, ho1, hb1⟩
      have HO1 := Lib.hid ho1
      have HB1 := Lib.hid hb1
      clear ho1 hb1 HG HX
      go_wp2_with fail
      go_loopw [6, 27] (fun v i wr => ∃ j : Nat, j ≤ L.length ∧ i = .int .i64 (j : Int) ∧ Hid (wr.ownsRow w.heap.size 62 2 v (flatP (L.take j)).length (cellsF (flatP (L.take j)))) ∧ Hid (Below w.heap.size w wr)) (fun _ i _ => L.length - (intOf i).toNat)
      case atStart => exact ⟨0, Nat.zero_le _, rfl, HO1.out, HB1.out⟩
      case round =>
        clear HO1 HB1
        obtain ⟨j, hj, rfl, ho, hb⟩ := hrel
        by_cases hlt : j < L.length
        · have cj := HC.out j L[j] (by simp [hlt])
          obtain ⟨hpf, hpn⟩ := HK.out L[j] (List.getElem_mem hlt)
          have hle := flatP_le (L := L) (j := j + 1)
          rw [flatP_step hlt, List.length_append] at hle
          have hst := Lib.hid (flatP_step hlt)
          have hs1 := HS.out
          rw [← (bcell hb.out).1 _ _ hg] at cj
          have hpw := hpf.below hb.out
          obtain ⟨p, hp⟩ : ∃ p, p = L[j] := ⟨_, rfl⟩
          rw [← hp] at cj hle hst hpn hpw
          clear hp hpf
          obtain ⟨a, c, fs⟩ := p
          simp only at hle hst hpn hpw
          have cj' : wr.cell? ⟨g, j, none⟩ = some (.slice a fs.length c) := cj
          clear cj
          have hgr := hb.out.size
          generalize flatP (L.take j) = F at *
          generalize (flatP L).length = M at *
          have j1 : (j : Int) < L.length := by omega
          have hg2 : g < wr.heap.size := by omega
          cases a with
          | none =>
            obtain ⟨rfl, rfl⟩ := hpn rfl
            go_wp2_with (at_builtin; refine wpList_append_own_none rfl _ _ 31 rfl w.heap.size 62 i0 2 Tryz.underlying31 hi _ _ _ rfl ho.out rfl ?_)
            go_roundw
            case rel => exact ⟨j + 1, hlt, by go_num, by rw [hst.out, List.append_nil]; exact ho, hb⟩
            case measure => simp [intOf]; omega
          | some ad =>
            have hcells : Hid (∀ (k : Nat) u, (cellsF fs)[k]? = some u → wr.cell? (ad.add k) = some u) := by
              intro k u hu
              obtain h0 | ⟨bk, o, h2, hbk, hc, hcl⟩ := hpw
              · subst h0; simp [cellsF] at hu
              · obtain rfl : ad = ⟨bk, o, none⟩ := by injection h2
                exact isFlds_cells hcl k u hu
            have HL := Lib.hid (cellsF_length fs)
            have HM : Hid (F.length + fs.length ≤ 1000000000) := by show _ ≤ _; omega
            clear hpw hpn hle hs1
            go_wp2_with (at_builtin; refine wpList_append_own _ rfl _ _ 31 rfl w.heap.size 62 i0 (.agg #[.string ⟨#[]⟩, .string ⟨#[]⟩]) 2 32 Tryz.underlying31 hi hz0 hz1 hz2 rfl (by decide) _ _ _ rfl ho.out ad fs.length c (cellsF fs) rfl HL.out hcells.out (cellsF_one fs) (by have := HM.out; unfold maxLen; omega) (by have := HM.out; omega) (by omega) ?_)
            intro v' w2 hown' hgrow _
            have hb2 : Hid (Below w.heap.size w w2) := hb.out.grown hgrow (by omega) (fun k hk => (ho.out.lt k hk).1)
            have HO2 : Hid (w2.ownsRow w.heap.size 62 2 v' (F ++ fs).length (cellsF (F ++ fs))) := by
              show World.ownsRow _ _ _ _ _ _ _
              rw [List.length_append, cellsF_append]
              exact hown'
            rw [← hst.out] at HO2
            clear hown' hgrow ho hb hcells
            go_wp2_with fail
            go_roundw
            case rel => exact ⟨j + 1, hlt, by go_num, HO2, hb2⟩
            case measure => simp [intOf]; omega
        · obtain rfl : j = L.length := by omega
          have ho2 := ho.out
          rw [List.take_of_length_le (Nat.le_refl _)] at ho2
          have HO := Lib.hid ho2
          clear ho ho2
          go_wp2_with fail
          go_ret
          exact ⟨_, rfl, HO.out, hb.out⟩
end Go.Proofs.YtbbphklhnngjmaaGreatDoor

/- fields: Add, Set. -/
namespace Go.Proofs.YtbbphklhnngjmaaGreatDoor
open Go.RowKit

theorem own_mono {w : World} {B B' size n : Nat} {e : TypeId} {v : Value} {xs : List Value} (h : w.ownsRow B e size v n xs) (hB : B' ≤ B) : w.ownsRow B' e size v n xs := by
  obtain ⟨hl, h0 | ⟨g, cap, cur, hv, hg, r⟩⟩ := h
  · exact ⟨hl, .inl h0⟩
  · exact ⟨hl, .inr ⟨g, cap, cur, hv, Nat.le_trans hB hg, r⟩⟩
theorem isFlds_new1 (w : World) (n v : List UInt8) (T : TypeId) : IsFlds (w.alloc (.cells #[.string (bs n), .string (bs v)] T)) (some ⟨w.heap.size, 0, none⟩) 1 [(n, v)] := by
  refine .inr ⟨w.heap.size, 0, rfl, by simp, by simp, fun j f hf => ?_⟩
  obtain rfl : j = 0 := by
    have := (List.getElem?_eq_some_iff.1 hf).1
    simp at this
    omega
  obtain rfl : (n, v) = f := by simpa using hf
  simp
set_option maxHeartbeats 4000000 in
set_option maxRecDepth 100000 in
theorem add48 (a : Option Addr) (c : Nat) (fs : List Fld) (n v : List UInt8) (hfl : fs.length ≤ 100000000) (ha : a = none → c = 0 ∧ fs = []) (w : World) (hf : IsFlds w a c fs) :
    Calls Tryz.prog 46 #[.slice a fs.length c, .string (bs n), .string (bs v)] w fun e w' => ∃ u, e = .returned u ∧ w'.ownsRow w.heap.size 62 2 u (fs ++ [(n, v)]).length (cellsF (fs ++ [(n, v)])) ∧ Below w.heap.size w w' := by
  have L1 := below_alloc w (.cells #[.string (bs n), .string (bs v)] 62)
  have F1 := isFlds_new1 w n v 62
  have L2 := below_alloc (w.alloc (.cells #[.string (bs n), .string (bs v)] 62)) (.cells #[.slice a fs.length c, .slice (some ⟨w.heap.size, 0, none⟩) 1 1] 31)
  have hfl2 : flatP [(a, c, fs), (some ⟨w.heap.size, 0, none⟩, 1, [(n, v)])] = fs ++ [(n, v)] := by simp [flatP]
  have hcon := concat73 (w.alloc (.cells #[.string (bs n), .string (bs v)] 62)).heap.size [(a, c, fs), (some ⟨w.heap.size, 0, none⟩, 1, [(n, v)])] (by simp) (by rw [hfl2]; simp; omega) ((w.alloc (.cells #[.string (bs n), .string (bs v)] 62)).alloc (.cells #[.slice a fs.length c, .slice (some ⟨w.heap.size, 0, none⟩) 1 1] 31)) (by simp)
    (fun j p hp => by
      match j, hp with
      | 0, hp => obtain rfl := Option.some.inj hp; simp [partV]
      | 1, hp => obtain rfl := Option.some.inj hp; simp [partV]
      | j + 2, hp => simp at hp)
    (fun p hp => by
      simp only [List.mem_cons, List.not_mem_nil, or_false] at hp
      rcases hp with rfl | rfl
      · exact ⟨(hf.below L1).below L2, ha⟩
      · exact ⟨F1.below L2, fun h => by cases h⟩)
  rw [hfl2, World.size_alloc] at hcon
  have HC := Lib.hid hcon
  have LL : Hid (Below w.heap.size w ((w.alloc (.cells #[.string (bs n), .string (bs v)] 62)).alloc (.cells #[.slice a fs.length c, .slice (some ⟨w.heap.size, 0, none⟩) 1 1] 31))) := L1.trans (L2.mono (by simp))
  clear hcon L1 L2 F1 hf ha hfl2
  generalize fs ++ [(n, v)] = out at *
  go_enter Tryz.func46, Tryz.ntmps46
  go_wp2_with fail
  refine HC.out.mono ?_
  rintro e w1 ⟨u, rfl, ho, hb⟩
  have hs : w.heap.size ≤ ((w.alloc (.cells #[.string (bs n), .string (bs v)] 62)).alloc (.cells #[.slice a fs.length c, .slice (some ⟨w.heap.size, 0, none⟩) 1 1] 31)).heap.size := by simp <;> omega
  have HB : Hid (Below w.heap.size w w1) := LL.out.trans (hb.mono hs)
  have HO : Hid (w1.ownsRow w.heap.size 62 2 u out.length (cellsF out)) := own_mono ho hs
  clear ho hb hs LL HC
  go_wp2_with fail
  go_ret
  exact ⟨_, rfl, HO.out, HB.out⟩
end Go.Proofs.YtbbphklhnngjmaaGreatDoor

/- fields: Set. -/
namespace Go.Proofs.YtbbphklhnngjmaaGreatDoor
open Go.RowKit

/-- The fields with the given one in place of all of its name. -/
def setF (n v : List UInt8) (fs : List Fld) : List Fld :=
  let i := findI [bs n] fs
  if 0 ≤ i then fs.take i.toNat ++ ((n, v) :: dropL [bs n] (fs.drop (i.toNat + 1))) else fs ++ [(n, v)]
/-- What holds while the region runs. -/
structure SetS (W : World) (bk o c i : Nat) (fs : List Fld) (n v : List UInt8) (ds : List Fld) (L : Nat → Bool) (x : Nat → Value) (w : World) : Prop where
  bel : Below W.heap.size W w
  p6 : L 6 = true → ∃ b, x 6 = .slice (some ⟨b, 0, none⟩) 1 1 ∧ IsFlds w (some ⟨b, 0, none⟩) 1 [(n, v)]
  p12 : L 12 = true → ∃ b, x 12 = .slice (some ⟨b, 0, none⟩) 1 1 ∧ IsStrs w (some ⟨b, 0, none⟩) 1 [bs n]
  p13 : L 13 = true → ∃ a' c', x 13 = .slice a' ds.length c' ∧ (a' = none → c' = 0 ∧ ds = []) ∧ IsFlds w a' c' ds
  p14 : L 14 = true → ∃ g b a' c', x 14 = .slice (some ⟨g, 0, none⟩) 3 3 ∧ g < w.heap.size ∧ w.cell? ⟨g, 0, none⟩ = some (.slice (some ⟨bk, o, none⟩) i c) ∧ w.cell? ⟨g, 1, none⟩ = some (.slice (some ⟨b, 0, none⟩) 1 1) ∧ w.cell? ⟨g, 2, none⟩ = some (.slice a' ds.length c') ∧ IsFlds w (some ⟨b, 0, none⟩) 1 [(n, v)] ∧ (a' = none → c' = 0 ∧ ds = []) ∧ IsFlds w a' c' ds
  p15 : L 15 = true → w.ownsRow W.heap.size 62 2 (x 15) (fs.take i ++ ((n, v) :: ds)).length (cellsF (fs.take i ++ ((n, v) :: ds)))
theorem SetS.below {W : World} {bk o c i : Nat} {fs : List Fld} {n v : List UInt8} {ds : List Fld} {L : Nat → Bool} {x : Nat → Value} {w w' : World} (h : SetS W bk o c i fs n v ds L x w) (hb : Below w.heap.size w w') : SetS W bk o c i fs n v ds L x w' := by
  refine ⟨h.bel.trans (hb.mono h.bel.size), fun e => ?_, fun e => ?_, fun e => ?_, fun e => ?_, fun e => own_below (h.p15 e) hb⟩
  · obtain ⟨b, h1, h2⟩ := h.p6 e; exact ⟨b, h1, h2.below hb⟩
  · obtain ⟨b, h1, h2⟩ := h.p12 e; exact ⟨b, h1, h2.below hb⟩
  · obtain ⟨a', c', h1, h2, h3⟩ := h.p13 e; exact ⟨a', c', h1, h2, h3.below hb⟩
  · obtain ⟨g, b, a', c', h1, h2, h3, h4, h5, h6, h7, h8⟩ := h.p14 e
    obtain ⟨hc, _⟩ := bcell hb
    exact ⟨g, b, a', c', h1, Nat.lt_of_lt_of_le h2 hb.size, by rw [hc _ _ h2]; exact h3, by rw [hc _ _ h2]; exact h4, by rw [hc _ _ h2]; exact h5, h6.below hb, h7, h8.below hb⟩
theorem SetS.keep {W : World} {bk o c i : Nat} {fs : List Fld} {n v : List UInt8} {ds : List Fld} {L : Nat → Bool} {x : Nat → Value} {w : World} (h : SetS W bk o c i fs n v ds L x w) (k : Nat) (u : Value) (h6 : k ≠ 6) (h12 : k ≠ 12) (h13 : k ≠ 13) (h14 : k ≠ 14) (h15 : k ≠ 15) :
    SetS W bk o c i fs n v ds (setL L k) (updV x k u) w := by
  refine ⟨h.bel, fun e => ?_, fun e => ?_, fun e => ?_, fun e => ?_, fun e => ?_⟩
  · simp only [setL, if_neg (Ne.symm h6)] at e; simp only [updV, if_neg (Ne.symm h6)]; exact h.p6 e
  · simp only [setL, if_neg (Ne.symm h12)] at e; simp only [updV, if_neg (Ne.symm h12)]; exact h.p12 e
  · simp only [setL, if_neg (Ne.symm h13)] at e; simp only [updV, if_neg (Ne.symm h13)]; exact h.p13 e
  · simp only [setL, if_neg (Ne.symm h14)] at e; simp only [updV, if_neg (Ne.symm h14)]; exact h.p14 e
  · simp only [setL, if_neg (Ne.symm h15)] at e; simp only [updV, if_neg (Ne.symm h15)]; exact h.p15 e
theorem IsFlds.take {w : World} {a : Option Addr} {c : Nat} {fs : List Fld} (h : IsFlds w a c fs) (i : Nat) : IsFlds w a c (fs.take i) := by
  obtain rfl | ⟨bk, o, ha, hlt, hc, hcell⟩ := h
  · exact .inl (by simp)
  · refine .inr ⟨bk, o, ha, hlt, by rw [List.length_take]; omega, fun j f hf => hcell j f ?_⟩
    rw [List.getElem?_take] at hf
    split at hf
    · exact hf
    · cases hf
theorem IsFlds.drop {w : World} {bk o c : Nat} {fs : List Fld} (h : IsFlds w (some ⟨bk, o, none⟩) c fs) (i : Nat) : IsFlds w (some ⟨bk, o + i * 2, none⟩) (c - i) (fs.drop i) := by
  obtain rfl | ⟨bk', o', ha, hlt, hc, hcell⟩ := h
  · exact .inl (by simp)
  · cases ha
    refine .inr ⟨bk, o + i * 2, rfl, hlt, by rw [List.length_drop]; omega, fun j f hf => ?_⟩
    rw [List.getElem?_drop] at hf
    have := hcell (i + j) f hf
    rw [Nat.add_mul] at this
    rw [Nat.add_assoc o, ]
    exact this

set_option maxHeartbeats 4000000 in
set_option maxRecDepth 100000 in
theorem set46 (a : Option Addr) (c : Nat) (fs : List Fld) (n v : List UInt8) (hfl : fs.length ≤ 100000000) (hcm : c ≤ 9223372036854775807) (ha : a = none → c = 0 ∧ fs = []) (hok : ∀ f ∈ fs, FldOk f) (w : World) (hf : IsFlds w a c fs) :
    Calls Tryz.prog 44 #[.slice a fs.length c, .string (bs n), .string (bs v)] w fun e w' => ∃ u, e = .returned u ∧ w'.ownsRow w.heap.size 62 2 u (setF n v fs).length (cellsF (setF n v fs)) ∧ Below w.heap.size w w' := by
  have HI := Lib.hid (index71 a c fs (bs n) (by omega) hok w hf)
  rcases findI_cases [bs n] fs with ⟨hi, hno⟩ | ⟨i, hil, hi, hyes, hno⟩
  · have hset : setF n v fs = fs ++ [(n, v)] := by unfold setF; simp [hi]
    rw [hset]
    rw [hi] at HI
    have HA := Lib.hid (fun W hb => add48 a c fs n v hfl ha W (hf.below hb))
    have hadd : ∀ W, Below w.heap.size w W → Calls Tryz.prog 46 #[.slice a fs.length c, .string (bs n), .string (bs v)] W fun e w' => ∃ u, e = .returned u ∧ w'.ownsRow w.heap.size 62 2 u (fs ++ [(n, v)]).length (cellsF (fs ++ [(n, v)])) ∧ Below w.heap.size w w' := fun W hb =>
      (HA.out W hb).mono fun e w' ⟨u, h1, h2, h3⟩ => ⟨u, h1, own_mono h2 hb.size, hb.trans (h3.mono hb.size)⟩
    have HD := Lib.hid hadd
    clear HA hadd hset hi hno hf ha hok
    generalize fs ++ [(n, v)] = out at *
    go_enter Tryz.func44, Tryz.ntmps44
    go_wp2_with fail
    refine HI.out.mono ?_
    rintro e W ⟨rfl, hb⟩
    go_wp2_with fail
    refine (HD.out W hb).mono ?_
    rintro e w2 ⟨u, rfl, ho, hb2⟩
    have HO := Lib.hid ho
    clear ho
    go_wp2_with fail
    go_ret
    exact ⟨_, rfl, HO.out, hb2⟩
  · rw [hi] at HI
    obtain h0 | ⟨bk, o, rfl, hbk, hc, hcell⟩ := hf
    · subst h0; simp at hil
    have hf : IsFlds w (some ⟨bk, o, none⟩) c fs := .inr ⟨bk, o, rfl, hbk, hc, hcell⟩
    obtain ⟨ds, hds⟩ : ∃ ds, ds = dropL [bs n] (fs.drop (i + 1)) := ⟨_, rfl⟩
    have hset : setF n v fs = fs.take i ++ ((n, v) :: ds) := by unfold setF; simp [hi, hds]
    rw [hset]
    have hdl : ds.length ≤ 100000000 := by
      have : ds.length ≤ (fs.drop (i + 1)).length := by rw [hds]; unfold dropL; exact List.length_filter_le _ _
      rw [List.length_drop] at this
      omega
    have HF := Lib.hid hf
    have HOK := Lib.hid hok
    have HDS := Lib.hid hds
    have HDL := Lib.hid hdl
    clear hset hds hdl hi hyes hno hcell ha hok
    have i1 : ((i : Int) < 0) = False := by simp <;> omega
    have i2 : (i : Int) < fs.length := by omega
    have i3 : (fs.length : Int) ≤ c := by omega
    have i4 : (c : Int) ≤ 9223372036854775807 := by omega
    have i5 : (fs.length : Int) ≤ 100000000 := by omega
    go_enter Tryz.func44, Tryz.ntmps44
    go_wp2_with fail
    refine HI.out.mono ?_
    rintro e W ⟨rfl, hb⟩
    have HF2 : Hid (IsFlds W (some ⟨bk, o, none⟩) c fs) := HF.out.below hb
    clear HF HI hf
    go_wp2_with fail
    have n1 : i ≤ c := by omega
    have E3 : IntKind.i64.wrap ((i : Int) + 1) = (i : Int) + 1 := IntWalk.i64_in _ (by omega)
    obtain ⟨TA, hta⟩ : ∃ TA : Option Addr, TA = if c = i + 1 then some ⟨bk, o, none⟩ else some ⟨bk, o + (i + 1) * 2, none⟩ := ⟨_, rfl⟩
    have HTA := Lib.hid hta
    have TN : Hid (TA ≠ none) := by show _ ≠ _; rw [hta]; split <;> exact fun h => nomatch h
    have TD : Hid (∀ W, IsFlds W (some ⟨bk, o, none⟩) c fs → IsFlds W TA (c - (i + 1)) (fs.drop (i + 1))) := fun W h => by
      rw [hta]
      by_cases he : c = i + 1
      · exact .inl (List.drop_eq_nil_of_le (by omega))
      · rw [if_neg he]; exact h.drop (i + 1)
    clear hta
    refine region_mixt 16 [some (.slice (some ⟨bk, o, none⟩) fs.length c), some (.int .i64 (i : Int)), some (.slice (some ⟨bk, o, none⟩) i c), some (.string (bs n)), some (.string (bs v)), some (.agg #[.string (bs n), .string (bs v)]), none, some (.slice (some ⟨bk, o, none⟩) fs.length c), some (.int .i64 (i : Int)), some (.int .i64 ((i : Int) + 1)), some (.slice TA (fs.length - (i + 1)) (c - (i + 1))), some (.string (bs n)), none, none, none, none]
      [[false, false, false, false, false, false, false, false, false, false, false, false, false, false, false, false], [false, false, false, false, false, false, false, false, false, false, false, false, false, false, false, false], [true, true, false, false, false, false, false, false, false, false, false, false, false, false, false, false], [false, false, false, false, false, false, false, false, false, false, false, false, false, false, false, false], [false, false, false, false, false, false, false, false, false, false, false, false, false, false, false, false], [false, false, false, true, true, false, false, false, false, false, false, false, false, false, false, false], [false, false, false, false, false, true, false, false, false, false, false, false, false, false, false, false], [false, false, false, false, false, false, false, false, false, false, false, false, false, false, false, false], [false, false, false, false, false, false, false, false, false, false, false, false, false, false, false, false], [false, false, false, false, false, false, false, false, true, false, false, false, false, false, false, false], [false, false, false, false, false, false, false, true, false, true, false, false, false, false, false, false], [false, false, false, false, false, false, false, false, false, false, false, false, false, false, false, false], [false, false, false, false, false, false, false, false, false, false, false, true, false, false, false, false], [false, false, false, false, false, false, false, false, false, false, true, false, true, false, false, false], [false, false, true, false, false, false, true, false, false, false, false, false, false, true, false, false], [false, false, false, false, false, false, false, false, false, false, false, false, false, true, true, false]]
      (fun L x w1 => SetS W bk o c i fs n v ds L x w1)
      (by kernel_rfl) (by kernel_rfl) (by kernel_rfl) (by kernel_rfl) (by kernel_rfl) (by decide) ?_ ?_ ?_
    · intro _
      exact ⟨(Below.refl _ _).drew, fun h => (by cases h), fun h => (by cases h), fun h => (by cases h), fun h => (by cases h), fun h => (by cases h)⟩
    · simp only [List.take_succ_cons, List.take_zero]
      refine ⟨?_, ?_, ?_, ?_, ?_, ?_, ?_, ?_, ?_, ?_, ?_, ?_, ?_, ?_, ?_, ?_, trivial⟩
      all_goals
        intro L x w9 hS hl hp K hK
        have hs : SetS W bk o c i fs n v ds L x w9 := hS
        clear hS
        replace hK := hK.out
        simp only [actMix, pickV, List.tail_cons, List.headD_cons, Act.put, List.setIfInBounds_toArray, List.set_cons_zero, List.set_cons_succ] at hK ⊢
      iterate 2
        · clear hp
          go_simp
          with_reducible refine hK _ ?_
          exact hs.keep _ _ (by decide) (by decide) (by decide) (by decide) (by decide)
      · clear hp
        go_simp
        with_reducible refine hK _ ?_
        exact hs.keep _ _ (by decide) (by decide) (by decide) (by decide) (by decide)
      iterate 3
        · clear hp
          go_simp
          with_reducible refine hK _ ?_
          exact hs.keep _ _ (by decide) (by decide) (by decide) (by decide) (by decide)
      · clear hp
        go_simp
        with_reducible refine hK _ _ ?_
        have hb8 := below_alloc w9 (.cells #[.string (bs n), .string (bs v)] 62)
        have hs2 := hs.below hb8
        refine ⟨hs2.bel, fun _ => ⟨w9.heap.size, by simp [updV], isFlds_new1 w9 n v _⟩, fun h => ?_, fun h => ?_, fun h => ?_, fun h => ?_⟩
        · simpa [updV] using hs2.p12 (by simpa [setL] using h)
        · simpa [updV] using hs2.p13 (by simpa [setL] using h)
        · simpa [updV] using hs2.p14 (by simpa [setL] using h)
        · simpa [updV] using hs2.p15 (by simpa [setL] using h)
      iterate 2
        · clear hp
          go_simp
          with_reducible refine hK _ ?_
          exact hs.keep _ _ (by decide) (by decide) (by decide) (by decide) (by decide)
      · clear hp
        have e3 := E3
        go_simp
        with_reducible refine hK _ ?_
        exact hs.keep _ _ (by decide) (by decide) (by decide) (by decide) (by decide)
      · clear hp
        go_simp
        rw [if_pos ⟨by omega, by omega⟩, ← HTA.out]
        simp only [Oper.upon_value, Act.put, List.setIfInBounds_toArray, List.set_cons_zero, List.set_cons_succ]
        with_reducible refine hK _ ?_
        exact hs.keep _ _ (by decide) (by decide) (by decide) (by decide) (by decide)
      · clear hp
        go_simp
        with_reducible refine hK _ ?_
        exact hs.keep _ _ (by decide) (by decide) (by decide) (by decide) (by decide)
      · clear hp
        go_simp
        with_reducible refine hK _ _ ?_
        have hb8 := below_alloc w9 (.cells #[.string (bs n)] 9)
        have hs2 := hs.below hb8
        refine ⟨hs2.bel, fun h => ?_, fun _ => ⟨w9.heap.size, by simp [updV], isStrs_new1 w9 (bs n) _⟩, fun h => ?_, fun h => ?_, fun h => ?_⟩
        · simpa [updV] using hs2.p6 (by simpa [setL] using h)
        · simpa [updV] using hs2.p13 (by simpa [setL] using h)
        · simpa [updV] using hs2.p14 (by simpa [setL] using h)
        · simpa [updV] using hs2.p15 (by simpa [setL] using h)
      · have h12 : L 12 = true := allL_mem hp 12 (by decide +kernel)
        obtain ⟨b12, hx12, hS12⟩ := hs.p12 h12
        have hf9 : IsFlds w9 (some ⟨bk, o, none⟩) c fs := HF2.out.below hs.bel
        clear hp
        rw [hx12] at hK ⊢
        go_simp
        have hdrop := drop55 TA (c - (i + 1)) (fs.drop (i + 1)) (some ⟨b12, 0, none⟩) 1 [bs n] (by rw [List.length_drop]; omega) (by simp) (fun h => absurd h TN.out) (fun f hf => HOK.out f (List.mem_of_mem_drop hf)) w9 (TD.out _ hf9) hS12
        rw [List.length_drop, ← HDS.out] at hdrop
        refine hdrop.mono ?_
        rintro e w8 ⟨a', c', rfl, hn8, hf8, hb8⟩
        have hs2 := hs.below hb8
        with_reducible refine hK _ _ ?_
        refine ⟨hs2.bel, fun h => ?_, fun h => ?_, fun _ => ⟨a', c', by simp [updV], hn8, hf8⟩, fun h => ?_, fun h => ?_⟩
        · simpa [updV] using hs2.p6 (by simpa [setL] using h)
        · simpa [updV] using hs2.p12 (by simpa [setL] using h)
        · simpa [updV] using hs2.p14 (by simpa [setL] using h)
        · simpa [updV] using hs2.p15 (by simpa [setL] using h)
      · have h6 : L 6 = true := allL_mem hp 6 (by decide +kernel)
        have h13 : L 13 = true := allL_mem hp 13 (by decide +kernel)
        obtain ⟨b6, hx6, hS6⟩ := hs.p6 h6
        obtain ⟨a', c', hx13, hn13, hS13⟩ := hs.p13 h13
        clear hp
        rw [hx6, hx13] at hK ⊢
        go_simp
        with_reducible refine hK _ _ ?_
        have hb8 := below_alloc w9 (.cells #[.slice (some ⟨bk, o, none⟩) i c, .slice (some ⟨b6, 0, none⟩) 1 1, .slice a' ds.length c'] 31)
        have hs2 := hs.below hb8
        refine ⟨hs2.bel, fun h => ?_, fun h => ?_, fun h => ?_, fun _ => ⟨w9.heap.size, b6, a', c', by simp [updV], by simp, by simp, by simp, by simp, hS6.below hb8, hn13, hS13.below hb8⟩, fun h => ?_⟩
        · simpa [updV] using hs2.p6 (by simpa [setL] using h)
        · simpa [updV] using hs2.p12 (by simpa [setL] using h)
        · simpa [updV] using hs2.p13 (by simpa [setL] using h)
        · simpa [updV] using hs2.p15 (by simpa [setL] using h)
      · have h14 : L 14 = true := allL_mem hp 14 (by decide +kernel)
        obtain ⟨g, b6, a', c', hx14, hg9, hc0, hc1, hc2, hS6, hn13, hS13⟩ := hs.p14 h14
        clear hp
        rw [hx14] at hK ⊢
        go_simp
        have hfp : flatP [(some ⟨bk, o, none⟩, c, fs.take i), (some ⟨b6, 0, none⟩, 1, [(n, v)]), (a', c', ds)] = fs.take i ++ ((n, v) :: ds) := by simp [flatP]
        have hlt9 : (fs.take i).length = i := by rw [List.length_take]; omega
        have hcon := concat73 g [(some ⟨bk, o, none⟩, c, fs.take i), (some ⟨b6, 0, none⟩, 1, [(n, v)]), (a', c', ds)] (by simp) (by have := HDL.out; rw [hfp, List.length_append, hlt9, List.length_cons]; omega) w9 hg9
          (fun j p hp => by
            match j, hp with
            | 0, hp => obtain rfl := Option.some.inj hp; rw [hc0]; simp only [partV, hlt9]
            | 1, hp => obtain rfl := Option.some.inj hp; rw [hc1]; rfl
            | 2, hp => obtain rfl := Option.some.inj hp; rw [hc2]; rfl
            | j + 3, hp => simp at hp)
          (fun p hp => by
            simp only [List.mem_cons, List.not_mem_nil, or_false] at hp
            rcases hp with rfl | rfl | rfl
            · exact ⟨(HF2.out.below hs.bel).take i, fun h => by cases h⟩
            · exact ⟨hS6, fun h => by cases h⟩
            · exact ⟨hS13, hn13⟩)
        rw [hfp] at hcon
        refine hcon.mono ?_
        rintro e w8 ⟨u, rfl, ho8, hb8⟩
        have hs2 := hs.below hb8
        with_reducible refine hK _ _ ?_
        refine ⟨hs2.bel, fun h => ?_, fun h => ?_, fun h => ?_, fun h => ?_, fun _ => ?_⟩
        · simpa [updV] using hs2.p6 (by simpa [setL] using h)
        · simpa [updV] using hs2.p12 (by simpa [setL] using h)
        · simpa [updV] using hs2.p13 (by simpa [setL] using h)
        · simpa [updV] using hs2.p14 (by simpa [setL] using h)
        · have := own_mono ho8 hs.bel.size
          simpa [updV] using this
    · intro L x w9 hS hL
      have hs : SetS W bk o c i fs n v ds L x w9 := hS
      have HO := Lib.hid (own_mono (hs.p15 (hL 15 (by decide))) hb.size)
      have hbel := hb.trans (hs.bel.mono hb.size)
      clear hS hs hL
      simp only [actMix, pickV, List.tail_cons, List.headD_cons, Act.put, List.setIfInBounds_toArray, List.set_cons_zero, List.set_cons_succ, List.replicate_succ, List.replicate_zero, List.drop_succ_cons, List.drop_zero, List.take_succ_cons, List.take_zero] 
      generalize x 15 = u at *
      go_wp2_with fail
      go_ret
      exact ⟨_, rfl, HO.out, hbel⟩
end Go.Proofs.YtbbphklhnngjmaaGreatDoor

/- stewardlaw06.Own. -/
namespace Go.Proofs.YtbbphklhnngjmaaGreatDoor
open Go.RowKit

theorem cells_new1 (w : World) (n v : ByteArray) (T : TypeId) : ∀ (k : Nat) u, [Value.string n, .string v][k]? = some u → (w.alloc (.cells #[.string n, .string v] T)).cell? ((⟨w.heap.size, 0, none⟩ : Addr).add k) = some u := by
  intro k u hu
  rw [Addr.add_mid]
  match k, hu with
  | 0, hu => obtain rfl := Option.some.inj hu; simp
  | 1, hu => obtain rfl := Option.some.inj hu; simp
  | k + 2, hu => simp at hu
theorem cellsF_step {fs : List Fld} {j : Nat} (hj : j < fs.length) : cellsF (fs.take (j + 1)) = cellsF (fs.take j) ++ [.string (bs fs[j].1), .string (bs fs[j].2)] := by
  rw [List.take_add_one, List.getElem?_eq_getElem hj, Option.toList_some, cellsF_append]
  rfl
set_option maxHeartbeats 4000000 in
set_option maxRecDepth 100000 in
theorem own40 (a : Option Addr) (c : Nat) (fs : List Fld) (hfl : fs.length ≤ 1000000) (w : World) (hf : IsFlds w a c fs) :
    Calls Tryz.prog 36 #[.slice a fs.length c] w fun e w' => ∃ u, e = .returned u ∧ w'.ownsRow w.heap.size 62 2 u fs.length (cellsF fs) ∧ Below w.heap.size w w' := by
  obtain ⟨i0, hi, hz0, hz1, hz2⟩ := info_parts infoFld
  have HFF := Lib.hid hf
  clear hf
  go_enter Tryz.func36, Tryz.ntmps36
  go_wp2_with fail
  go_loopw [3, 8] (fun v i wr => ∃ j : Nat, j ≤ fs.length ∧ i = .int .i64 (j : Int) ∧ Hid (wr.ownsRow w.heap.size 62 2 v j (cellsF (fs.take j))) ∧ Hid (Below w.heap.size w wr)) (fun _ i _ => fs.length - (intOf i).toNat)
  case atStart => exact ⟨0, Nat.zero_le _, rfl, World.ownsRow_nil _ _ _ _, Below.refl _ _⟩
  case round =>
    obtain ⟨j, hj, rfl, ho, hb⟩ := hrel
    by_cases hlt : j < fs.length
    · obtain h0 | ⟨bk, o, rfl, hbk, hc, hcell⟩ := HFF.out.below hb.out
      · subst h0; simp at hlt
      obtain ⟨c1, c2⟩ := hcell j fs[j] (by simp [hlt])
      have hst := Lib.hid (cellsF_step hlt)
      obtain ⟨f, hfe⟩ : ∃ f, f = fs[j] := ⟨_, rfl⟩
      rw [← hfe] at c1 c2 hst
      clear hcell hfe
      obtain ⟨n, v⟩ := f
      simp only at c1 c2 hst
      generalize bs n = N at *
      generalize bs v = V at *
      have j1 : (j : Int) < fs.length := by omega
      have hsz : (wr.alloc (.cells #[.string N, .string V] 53)).heap.size = wr.heap.size + 1 := World.size_alloc _ _
      have hnews := cells_new1 (wr.alloc (.cells #[.string N, .string V] 53)) N V 62
      rw [hsz] at hnews
      have HNW := Lib.hid hnews
      have HO2 : Hid (((wr.alloc (.cells #[.string N, .string V] 53)).alloc (.cells #[.string N, .string V] 62)).ownsRow w.heap.size 62 2 _ j (cellsF (fs.take j))) := (ho.out.alloc _).alloc _
      have hgr := hb.out.size
      have hb2 : Hid (Below w.heap.size w ((wr.alloc (.cells #[.string N, .string V] 53)).alloc (.cells #[.string N, .string V] 62))) := (hb.out.alloc hgr _).alloc (by rw [hsz]; omega) _
      clear hnews ho hb
      go_wp2_with (at_builtin; refine wpList_append_own _ rfl _ _ 31 rfl w.heap.size 62 i0 (.agg #[.string ⟨#[]⟩, .string ⟨#[]⟩]) 2 32 Tryz.underlying31 hi hz0 hz1 hz2 rfl (by decide) _ _ _ rfl HO2.out ⟨wr.heap.size + 1, 0, none⟩ 1 1 [.string N, .string V] rfl rfl HNW.out (by intro u hu; simp at hu; rcases hu with rfl | rfl <;> rfl) (by unfold maxLen; omega) (by omega) (by simp; omega) ?_)
      intro v' w2 hown' hgrow _
      have hb3 : Hid (Below w.heap.size w w2) := hb2.out.grown hgrow hb2.out.size (fun k hk => (HO2.out.lt k hk).1)
      rw [← hst.out] at hown'
      have HO3 := Lib.hid hown'
      clear hown' hgrow hb2 HO2 HNW hst
      go_wp2_with fail
      go_roundw
      case rel => exact ⟨j + 1, hlt, by go_num, HO3, hb3⟩
      case measure => simp [intOf]; omega
    · obtain rfl : j = fs.length := by omega
      have ho2 := ho.out
      rw [List.take_of_length_le (Nat.le_refl _)] at ho2
      have HO := Lib.hid ho2
      clear ho ho2
      go_wp2_with fail
      go_ret
      exact ⟨_, rfl, HO.out, hb.out⟩
end Go.Proofs.YtbbphklhnngjmaaGreatDoor

/- stewardlaw06.Few. -/
namespace Go.Proofs.YtbbphklhnngjmaaGreatDoor
open Go.RowKit

theorem infoRef : (Tryz.prog.info? 53).map (fun i => (i.zero, i.size, i.bytes)) = some (some (.agg #[.string ⟨#[]⟩, .string ⟨#[]⟩]), 2, 32) := by kernel_rfl
/-- The first few fields, cut. -/
def fewF (fs : List Fld) (n : Nat) : List Fld := (fs.take n).map fun f => (f.1.take 20, f.2.take 40)
theorem fewF_step {fs : List Fld} {j : Nat} (hj : j < fs.length) : cellsF (fewF fs (j + 1)) = cellsF (fewF fs j) ++ [.string (bs (fs[j].1.take 20)), .string (bs (fs[j].2.take 40))] := by
  unfold fewF
  rw [List.take_add_one, List.getElem?_eq_getElem hj, Option.toList_some, List.map_append, cellsF_append]
  rfl
/-- What holds while the region runs. -/
structure FewS (w0 : World) (v5 : Value) (k : Nat) (xs : List Value) (N V : ByteArray) (L : Nat → Bool) (x : Nat → Value) (w : World) : Prop where
  bel : Below w0.heap.size w0 w
  own : L 15 = false → w.ownsRow w0.heap.size 53 2 v5 k xs
  p14 : L 14 = true → L 15 = false → ∃ b, x 14 = .slice (some ⟨b, 0, none⟩) 1 1 ∧ ∀ (k : Nat) u, [Value.string N, .string V][k]? = some u → w.cell? ((⟨b, 0, none⟩ : Addr).add k) = some u
  p15 : L 15 = true → L 14 = true ∧ w.ownsRow w0.heap.size 53 2 (x 15) (k + 1) (xs ++ [.string N, .string V])
theorem FewS.keep {w0 : World} {v5 : Value} {k : Nat} {xs : List Value} {N V : ByteArray} {L : Nat → Bool} {x : Nat → Value} {w : World} (h : FewS w0 v5 k xs N V L x w) (i : Nat) (u : Value) (h14 : i ≠ 14) (h15 : i ≠ 15) : FewS w0 v5 k xs N V (setL L i) (updV x i u) w := by
  refine ⟨h.bel, fun e => h.own ?_, fun e e2 => ?_, fun e => ?_⟩
  · simpa only [setL, if_neg (Ne.symm h15)] using e
  · simp only [setL, if_neg (Ne.symm h14)] at e; simp only [setL, if_neg (Ne.symm h15)] at e2; simp only [updV, if_neg (Ne.symm h14)]; exact h.p14 e e2
  · simp only [setL, if_neg (Ne.symm h15)] at e; simp only [updV, if_neg (Ne.symm h15)]; exact ⟨by simp only [setL]; split; rfl; exact (h.p15 e).1, (h.p15 e).2⟩
set_option maxHeartbeats 4000000 in
set_option maxRecDepth 100000 in
theorem few39 (a : Option Addr) (c : Nat) (fs : List Fld) (n : Nat) (hn : n ≤ 1000) (hfl : fs.length ≤ 9223372036854775807) (w : World) (hf : IsFlds w a c fs) :
    Calls Tryz.prog 9 #[.slice a fs.length c, .int .i64 n] w fun e w' => ∃ u, e = .returned u ∧ w'.ownsRow w.heap.size 53 2 u (fewF fs n).length (cellsF (fewF fs n)) ∧ Below w.heap.size w w' := by
  obtain ⟨i0, hi, hz0, hz1, hz2⟩ := info_parts infoRef
  have HFF := Lib.hid hf
  clear hf
  have hdone : ∀ j, j ≤ n → j ≤ fs.length → (¬ j < n ∨ ¬ j < fs.length) → fewF fs j = fewF fs n := fun j h1 h2 h3 => by
    unfold fewF
    rcases h3 with h | h
    · rw [show j = n by omega]
    · rw [List.take_of_length_le (by omega), List.take_of_length_le (by omega)]
  have HDN := Lib.hid hdone
  clear hdone
  go_enter Tryz.func9, Tryz.ntmps9
  go_wp2_with fail
  go_loopw [5, 6] (fun v i wr => ∃ j : Nat, j ≤ n ∧ j ≤ fs.length ∧ i = .int .i64 (j : Int) ∧ Hid ((fewF fs j).length = j) ∧ Hid (wr.ownsRow w.heap.size 53 2 v j (cellsF (fewF fs j))) ∧ Hid (Below w.heap.size w wr)) (fun _ i _ => n - (intOf i).toNat)
  case atStart => exact ⟨0, Nat.zero_le _, Nat.zero_le _, rfl, by simp [Hid, fewF], World.ownsRow_nil _ _ _ _, Below.refl _ _⟩
  case round =>
    obtain ⟨j, hjn, hj, rfl, hlen, ho, hb⟩ := hrel
    by_cases hlt : j < fs.length
    · have j1 : (j : Int) < fs.length := by omega
      by_cases hnt : j < n
      · have j2 : (j : Int) < n := by omega
        obtain h0 | ⟨bk, o, rfl, hbk, hc, hcell⟩ := HFF.out
        · subst h0; simp at hlt
        obtain ⟨c1, c2⟩ := hcell j fs[j] (by simp [hlt])
        have hst := Lib.hid (fewF_step hlt)
        have hln : Hid ((fewF fs (j + 1)).length = j + 1) := by show _ = _; unfold fewF; simp; omega
        obtain ⟨f, hfe⟩ : ∃ f, f = fs[j] := ⟨_, rfl⟩
        rw [← hfe] at c1 c2 hst
        clear hcell hfe
        have HCX : Hid (∀ W, Calls Tryz.prog 8 #[.string (bs f.1), .int .i64 20] W fun e w' => e = .returned (.string (bs (f.1.take 20))) ∧ W = w') := fun W => cut11 (bs f.1) 20 W
        have HCY : Hid (∀ W, Calls Tryz.prog 8 #[.string (bs f.2), .int .i64 40] W fun e w' => e = .returned (.string (bs (f.2.take 40))) ∧ W = w') := fun W => cut11 (bs f.2) 40 W
        generalize bs (f.1.take 20) = N at *
        generalize bs (f.2.take 40) = V at *
        generalize bs f.1 = X at *
        generalize bs f.2 = Y at *
        generalize cellsF (fewF fs j) = xs at *
        go_wp2_with fail
        refine region_mixt 16 [some (u5), some (.slice (some ⟨bk, o, none⟩) fs.length c), some (.int .i64 (j : Int)), some (.pointer (some ⟨bk, o + j * 2, none⟩)), some (.pointer (some ⟨bk, o + j * 2, none⟩)), some (.string X), some (.string N), some (.slice (some ⟨bk, o, none⟩) fs.length c), some (.int .i64 (j : Int)), some (.pointer (some ⟨bk, o + j * 2, none⟩)), some (.pointer (some ⟨bk, o + j * 2 + 1, none⟩)), some (.string Y), some (.string V), some (.agg #[.string N, .string V]), none, none]
          [[false, false, false, false, false, false, false, false, false, false, false, false, false, false, false, false], [false, false, false, false, false, false, false, false, false, false, false, false, false, false, false, false], [false, false, false, false, false, false, false, false, false, false, false, false, false, false, false, false], [false, true, true, false, false, false, false, false, false, false, false, false, false, false, false, false], [false, false, false, true, false, false, false, false, false, false, false, false, false, false, false, false], [false, false, false, false, true, false, false, false, false, false, false, false, false, false, false, false], [false, false, false, false, false, true, false, false, false, false, false, false, false, false, false, false], [false, false, false, false, false, false, false, false, false, false, false, false, false, false, false, false], [false, false, false, false, false, false, false, false, false, false, false, false, false, false, false, false], [false, false, false, false, false, false, false, true, true, false, false, false, false, false, false, false], [false, false, false, false, false, false, false, false, false, true, false, false, false, false, false, false], [false, false, false, false, false, false, false, false, false, false, true, false, false, false, false, false], [false, false, false, false, false, false, true, false, false, false, false, true, false, false, false, false], [false, false, false, false, false, false, true, false, false, false, false, false, true, false, false, false], [false, false, false, false, false, false, false, false, false, false, false, false, false, true, false, false], [true, false, false, false, false, false, false, false, false, false, false, false, true, false, true, false]]
          (fun L x w1 => FewS w u5 j xs N V L x w1)
          (by kernel_rfl) (by kernel_rfl) (by kernel_rfl) (by kernel_rfl) (by kernel_rfl) (by decide) ?_ ?_ ?_
        · intro _
          exact ⟨hb.out.drew, fun _ => ho.out.drew, fun h => (by cases h), fun h => (by cases h)⟩
        · simp only [List.take_succ_cons, List.take_zero]
          refine ⟨?_, ?_, ?_, ?_, ?_, ?_, ?_, ?_, ?_, ?_, ?_, ?_, ?_, ?_, ?_, ?_, trivial⟩
          all_goals
            intro L x w9 hS hl hp K hK
            have hs : FewS w u5 j xs N V L x w9 := hS
            clear hS ho hb
            have r1 : w9.cell? ⟨bk, o + j * 2, none⟩ = some (.string X) := by rw [(bcell hs.bel).1 _ _ hbk]; exact c1
            have r2 : w9.cell? ⟨bk, o + j * 2 + 1, none⟩ = some (.string Y) := by rw [(bcell hs.bel).1 _ _ hbk]; exact c2
            replace hK := hK.out
            simp only [actMix, pickV, List.tail_cons, List.headD_cons, Act.put, List.setIfInBounds_toArray, List.set_cons_zero, List.set_cons_succ] at hK ⊢
          iterate 6
            · clear hp
              go_simp
              with_reducible refine hK _ ?_
              exact hs.keep _ _ (by decide) (by decide)
          · clear hp
            go_simp
            refine (HCX.out _).mono ?_
            rintro e w' ⟨rfl, rfl⟩
            with_reducible refine hK _ ?_
            exact hs.keep _ _ (by decide) (by decide)
          iterate 5
            · clear hp
              go_simp
              with_reducible refine hK _ ?_
              exact hs.keep _ _ (by decide) (by decide)
          · clear hp
            go_simp
            refine (HCY.out _).mono ?_
            rintro e w' ⟨rfl, rfl⟩
            with_reducible refine hK _ ?_
            exact hs.keep _ _ (by decide) (by decide)
          · clear hp
            go_simp
            with_reducible refine hK _ ?_
            exact hs.keep _ _ (by decide) (by decide)
          · have h15 : L 15 = false := by
              cases h : L 15 with
              | false => rfl
              | true => have := (hs.p15 h).1; rw [hl] at this; cases this
            clear hp
            go_simp
            with_reducible refine hK _ _ ?_
            have hs9 := hs.bel.size
            refine ⟨hs.bel.alloc hs9 _, fun e => (hs.own h15).alloc _, fun _ _ => ⟨w9.heap.size, by simp [updV], cells_new1 w9 N V _⟩, fun h => ?_⟩
            simp [setL, h15] at h
          · have h14 : L 14 = true := allL_mem hp 14 (by decide +kernel)
            obtain ⟨b9, hx9, hc9⟩ := hs.p14 h14 hl
            have ho9 := hs.own hl
            have hs9 := hs.bel.size
            clear hp
            rw [hx9] at hK ⊢
            rw [if_pos (by rfl)]
            refine wp_append_own _ _ _ 22 rfl w.heap.size 53 i0 (.agg #[.string ⟨#[]⟩, .string ⟨#[]⟩]) 2 32 Tryz.underlying22 hi hz0 hz1 hz2 rfl (by decide) _ _ _ rfl ho9 ⟨b9, 0, none⟩ 1 1 [.string N, .string V] rfl rfl hc9 (by intro u hu; simp at hu; rcases hu with rfl | rfl <;> rfl) (by unfold maxLen; omega) (by omega) hs9 ?_
            intro v' w1 hown1 hgrow _
            have hb1 : Below w.heap.size w w1 := hs.bel.grown hgrow hs9 (fun k hk => (ho9.lt k hk).1)
            simp only [Act.put, List.setIfInBounds_toArray, List.set_cons_zero, List.set_cons_succ]
            with_reducible refine hK _ _ ?_
            refine ⟨hb1, fun h => ?_, fun _ h => ?_, fun _ => ⟨by simp [setL, h14], by simpa [updV] using hown1⟩⟩
            · simp [setL] at h
            · simp [setL] at h
        intro L x w9 hS hL
        have hs : FewS w u5 j xs N V L x w9 := hS
        have ho9 := (hs.p15 (hL 15 (by decide))).2
        rw [← hst.out] at ho9
        have HO9 := Lib.hid ho9
        have HB9 := Lib.hid hs.bel
        clear hS hL hs ho9 ho hb
        simp only [actMix, pickV, List.tail_cons, List.headD_cons, Act.put, List.setIfInBounds_toArray, List.set_cons_zero, List.set_cons_succ, List.replicate_succ, List.replicate_zero, List.drop_succ_cons, List.drop_zero, List.take_succ_cons, List.take_zero]
        generalize x 15 = v6 at *
        go_wp2_with fail
        go_roundw
        case rel => exact ⟨j + 1, by omega, by omega, by go_num, hln, HO9, HB9⟩
        case measure => simp [intOf]; omega
      · have hd := HDN.out j hjn hj (.inl hnt)
        rw [hd] at ho hlen
        have hle := hlen.out
        have hne : ¬ ((j : Int) < n) := by omega
        go_wp2_with fail
        go_ret
        exact ⟨_, rfl, ho.out, hb.out⟩
    · have hd := HDN.out j hjn hj (.inr hlt)
      rw [hd] at ho hlen
      have hle := hlen.out
      have hne : ¬ ((j : Int) < fs.length) := by omega
      go_wp2_with fail
      go_ret
      exact ⟨_, rfl, ho.out, hb.out⟩
end Go.Proofs.YtbbphklhnngjmaaGreatDoor

/- fields: slices.Equal, Same. -/
namespace Go.Proofs.YtbbphklhnngjmaaGreatDoor
open Go.RowKit

theorem self_strP (T : ByteArray) : (T.toList == T.toList) = true := by simp
theorem bs_inj {a b : List UInt8} (h : bs a = bs b) : a = b := by rw [← bs_list a, h, bs_list]
theorem bs_beq (a b : List UInt8) : ((bs a).toList == (bs b).toList) = decide (a = b) := by
  rw [str_beq]
  by_cases h : a = b
  · subst h; simp
  · rw [decide_eq_false h, decide_eq_false (fun e => h (bs_inj e))]
theorem takeF_step (xs ys : List Fld) (j : Nat) (hx : j < xs.length) (hy : j < ys.length) (h : xs.take j = ys.take j) (he : xs[j] = ys[j]) : xs.take (j + 1) = ys.take (j + 1) := by
  rw [List.take_add_one, List.take_add_one, h, List.getElem?_eq_getElem hx, List.getElem?_eq_getElem hy, he]
end Go.Proofs.YtbbphklhnngjmaaGreatDoor

