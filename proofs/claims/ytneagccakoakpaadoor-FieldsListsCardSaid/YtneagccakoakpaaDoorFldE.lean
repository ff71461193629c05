/- fields: slices.DeleteFunc, Drop. -/
import Derived.Test.YtneagccakoakpaaDoorFldD
import Derived.Deep.MidRow
namespace Go.Proofs.YtneagccakoakpaaDoor
open Go.RowKit

/-- What is left without these names. -/
def dropL (xs : List ByteArray) (fs : List Fld) : List Fld := fs.filter fun f => !hasB xs f
/-- The two cells of a place. -/
def PairAt (w : World) (g k : Nat) (f : Fld) : Prop := w.cell? ⟨g, k * 2, none⟩ = some (.string (bs f.1)) ∧ w.cell? ⟨g, k * 2 + 1, none⟩ = some (.string (bs f.2))
/-- A block of places that may be written. -/
def Open2 (w : World) (g n : Nat) : Prop := g < w.heap.size ∧ ∀ k, k < n * 2 → (w.cell? ⟨g, k, none⟩).isSome = true ∧ w.frozen? ⟨g, k, none⟩ = false
theorem PairAt.below {w w' : World} {g k : Nat} {f : Fld} (h : PairAt w g k f) (hb : Below w.heap.size w w') (hg : g < w.heap.size) : PairAt w' g k f := by
  obtain ⟨hc, _⟩ := bcell hb
  exact ⟨(hc _ _ hg).trans h.1, (hc _ _ hg).trans h.2⟩
theorem Open2.below {w w' : World} {g n : Nat} (h : Open2 w g n) (hb : Below w.heap.size w w') : Open2 w' g n := by
  obtain ⟨hc, hf⟩ := bcell hb
  exact ⟨Nat.lt_of_lt_of_le h.1 hb.size, fun k hk => by rw [hc _ _ h.1, hf _ _ h.1]; exact h.2 k hk⟩
theorem Open2.set {w : World} {g n : Nat} (h : Open2 w g n) (p : Nat) (v : Value) : Open2 (w.setCell ⟨g, p, none⟩ v) g n := by
  refine ⟨by simpa [World.setCell] using h.1, fun k hk => ?_⟩
  obtain ⟨h1, h2⟩ := h.2 k hk
  refine ⟨?_, by rw [World.frozen?_setCell]; exact h2⟩
  by_cases e : k = p
  · subst e
    obtain ⟨u, hu⟩ := Option.isSome_iff_exists.1 h1
    rw [World.cell?_setCell_same _ _ _ hu]; rfl
  · rw [World.cell?_setCell_other _ _ _ _ (by simp <;> omega)]; exact h1
theorem PairAt.set {w : World} {g k : Nat} {f : Fld} (h : PairAt w g k f) (p : Nat) (v : Value) (hp : p ≠ k * 2 ∧ p ≠ k * 2 + 1) : PairAt (w.setCell ⟨g, p, none⟩ v) g k f :=
  ⟨by rw [World.cell?_setCell_other _ _ _ _ (by simp <;> omega)]; exact h.1, by rw [World.cell?_setCell_other _ _ _ _ (by simp <;> omega)]; exact h.2⟩
theorem PairAt.put {w : World} {g n k : Nat} (h : Open2 w g n) (hk : k < n) (f : Fld) : PairAt ((w.setCell ⟨g, k * 2, none⟩ (.string (bs f.1))).setCell ⟨g, k * 2 + 1, none⟩ (.string (bs f.2))) g k f := by
  obtain ⟨u, hu⟩ := Option.isSome_iff_exists.1 (h.2 (k * 2) (by omega)).1
  obtain ⟨u2, hu2⟩ := Option.isSome_iff_exists.1 ((h.set (k * 2) (.string (bs f.1))).2 (k * 2 + 1) (by omega)).1
  refine ⟨?_, World.cell?_setCell_same _ _ _ hu2⟩
  rw [World.cell?_setCell_other _ _ _ _ (by simp <;> omega)]
  exact World.cell?_setCell_same _ _ _ hu
theorem dropL_step_keep {xs : List ByteArray} {fs : List Fld} {j : Nat} (hj : j < fs.length) (h : hasB xs fs[j] = false) : dropL xs (fs.take (j + 1)) = dropL xs (fs.take j) ++ [fs[j]] := by
  unfold dropL
  rw [List.take_add_one, List.getElem?_eq_getElem hj, Option.toList_some, List.filter_append]
  simp [h]
theorem dropL_step_drop {xs : List ByteArray} {fs : List Fld} {j : Nat} (hj : j < fs.length) (h : hasB xs fs[j] = true) : dropL xs (fs.take (j + 1)) = dropL xs (fs.take j) := by
  unfold dropL
  rw [List.take_add_one, List.getElem?_eq_getElem hj, Option.toList_some, List.filter_append]
  simp [h]
theorem dropL_none {xs : List ByteArray} {fs : List Fld} (h : ∀ f ∈ fs, hasB xs f = false) : dropL xs fs = fs := by
  unfold dropL
  rw [List.filter_eq_self]
  intro f hf
  simp [h f hf]
theorem findI_cases (xs : List ByteArray) (fs : List Fld) : (findI xs fs = -1 ∧ ∀ f ∈ fs, hasB xs f = false) ∨ ∃ i, ∃ h : i < fs.length, findI xs fs = (i : Int) ∧ hasB xs fs[i] = true ∧ ∀ f ∈ fs.take i, hasB xs f = false := by
  unfold findI
  cases hfi : fs.findIdx? (hasB xs) with
  | none => exact .inl ⟨rfl, List.findIdx?_eq_none_iff.1 hfi⟩
  | some i =>
    obtain ⟨h, h1, h2⟩ := List.findIdx?_eq_some_iff_getElem.1 hfi
    refine .inr ⟨i, h, rfl, h1, fun f hf => ?_⟩
    obtain ⟨k, hk, rfl⟩ := List.mem_take_iff_getElem.1 hf
    have := h2 k (by omega)
    simpa using this
/-- clear on places. -/
theorem run_clear2 (w : World) (ty : TypeId) (b o n c : Nat) (hn : 0 < n) (hc : ∀ j, j < n * 2 → (w.cell? ⟨b, o + j, none⟩).isSome = true) (hf : ∀ j, j < n * 2 → w.frozen? ⟨b, o + j, none⟩ = false) :
    (Builtin.clear_ #[52] ty #[.slice (some ⟨b, o, none⟩) n c]).run Tryd.prog w = .ok (.tuple #[]) (w.setCells b o (Builtin.zeroCells #[.string ⟨#[]⟩, .string ⟨#[]⟩] n).toList) := by
  have hv : ∀ w, (zeroValue 42).run Tryd.prog w = .ok (.agg #[.string ⟨#[]⟩, .string ⟨#[]⟩]) w := fun w => by kernel_rfl
  have hz : (Builtin.zeroCells #[Value.string ⟨#[]⟩, .string ⟨#[]⟩] n).toList.length = n * 2 := by simp [Builtin.zeroCells]
  have hone : ∀ v ∈ (Builtin.zeroCells #[Value.string ⟨#[]⟩, .string ⟨#[]⟩] n).toList, v.oneCell' = true := by
    intro v hv'
    simp [Builtin.zeroCells] at hv'
    obtain ⟨i, _, rfl⟩ := hv'
    rcases Nat.mod_two_eq_zero_or_one i with h | h <;> rw [h] <;> rfl
  have hst := run_storeCells_cells (P := Tryd.prog) b o (Builtin.zeroCells #[Value.string ⟨#[]⟩, .string ⟨#[]⟩] n).toList 0 w (by rw [hz]; simpa using hc) (by rw [hz]; simpa using hf) hone
  simp only [Nat.add_zero] at hst
  obtain ⟨m, rfl⟩ : ∃ m, n = m + 1 := ⟨n - 1, by omega⟩
  simp [Builtin.clear_, run_underlying Tryd.underlying52, hv, Value.cells, hst]
theorem cell_setCells_before (g : Nat) : ∀ (vs : List Value) (o : Nat) (w : World) (k : Nat), k < o → (w.setCells g o vs).cell? ⟨g, k, none⟩ = w.cell? ⟨g, k, none⟩
  | [], _, _, _, _ => rfl
  | v :: r, o, w, k, h => by
    have ih := cell_setCells_before g r (o + 1) (w.setCell ⟨g, o, none⟩ v) k (by omega)
    have e : w.setCells g o (v :: r) = (w.setCell ⟨g, o, none⟩ v).setCells g (o + 1) r := rfl
    rw [e, ih, World.cell?_setCell_other _ _ _ _ (by simp <;> omega)]
theorem size_setCells (g : Nat) : ∀ (vs : List Value) (o : Nat) (w : World), (w.setCells g o vs).heap.size = w.heap.size
  | [], _, _ => rfl
  | v :: r, o, w => by
    have e : w.setCells g o (v :: r) = (w.setCell ⟨g, o, none⟩ v).setCells g (o + 1) r := rfl
    rw [e, size_setCells g r]
    simp
theorem below_setCells {B : Nat} {a : World} (g : Nat) (hg : B ≤ g) : ∀ (vs : List Value) (o : Nat) (w : World), Below B a w → Below B a (w.setCells g o vs)
  | [], _, _, h => h
  | v :: r, o, _, h => below_setCells g hg r (o + 1) _ (h.setCell (p := ⟨g, o, none⟩) hg v)

set_option maxRecDepth 1000000 in
set_option maxHeartbeats 4000000 in
theorem delete76 (w0 : World) (g cap : Nat) (fs : List Fld) (b : Option Addr) (d : Nat) (xs : List ByteArray) (hfl : fs.length ≤ 1000000000) (hx1 : xs.length ≤ 1000000000) (hok : ∀ f ∈ fs, FldOk f) (hx : IsStrs w0 b d xs) (hg : w0.heap.size ≤ g) (hcap : fs.length ≤ cap)
    (w : World) (hbl : Below w0.heap.size w0 w) (hop : Open2 w g fs.length) (hp : ∀ (k : Nat) f, fs[k]? = some f → PairAt w g k f) :
    Calls Tryd.prog 76 #[.slice (some ⟨g, 0, none⟩) fs.length cap, hasV b xs.length d] w fun e w' =>
      e = .returned (.slice (some ⟨g, 0, none⟩) (dropL xs fs).length cap) ∧ IsFlds w' (some ⟨g, 0, none⟩) cap (dropL xs fs) ∧ Below w0.heap.size w0 w' := by
  have hif : IsFlds w (some ⟨g, 0, none⟩) cap fs := .inr ⟨g, 0, rfl, hop.1, hcap, fun j f hf => by rw [Nat.zero_add]; exact hp j f hf⟩
  have HI := Lib.hid (index93 (some ⟨g, 0, none⟩) cap fs b d xs hfl hx1 hok w hif (hx.below hbl))
  obtain ⟨V, hV⟩ : ∃ V, V = hasV b xs.length d := ⟨_, rfl⟩
  rw [← hV] at HI ⊢
  have HV := Lib.hid hV
  have HX := Lib.hid hx
  have HOK := Lib.hid hok
  have HOP := Lib.hid hop
  have HP := Lib.hid hp
  clear hV hx hok hop hp hif
  rcases findI_cases xs fs with ⟨hi, hno⟩ | ⟨i, hil, hi, hyes, hno⟩
  · rw [hi] at HI
    have hd := dropL_none hno
    have HD := Lib.hid hd
    rw [hd]
    clear hi hno hd
    go_enter Tryd.func76, Tryd.ntmps76
    go_wp2_with fail
    refine HI.out.mono ?_
    rintro e w1 ⟨rfl, hb1⟩
    go_wp2_with fail
    go_ret
    refine ⟨rfl, ?_, hbl.trans (hb1.mono hbl.size)⟩
    have : IsFlds w (some ⟨g, 0, none⟩) cap fs := .inr ⟨g, 0, rfl, HOP.out.1, hcap, fun j f hf => by rw [Nat.zero_add]; exact HP.out j f hf⟩
    exact this.below hb1
  · rw [hi] at HI
    have ht : dropL xs (fs.take (i + 1)) = fs.take i := by rw [dropL_step_drop hil hyes, dropL_none hno]
    have hl : i = (dropL xs (fs.take (i + 1))).length := by rw [ht, List.length_take]; omega
    have HT := Lib.hid ht
    have HL := Lib.hid hl
    have i1 : ((i : Int) == -1) = false := beq_eq_false_iff_ne.2 (by omega)
    clear hi hno hyes ht hl
    go_enter Tryd.func76, Tryd.ntmps76
    go_wp2_with fail
    refine HI.out.mono ?_
    rintro e w1 ⟨rfl, hb1⟩
    have b1 := hbl.trans (hb1.mono hbl.size)
    have O1 : Hid (Open2 w1 g fs.length) := HOP.out.below hb1
    have P1 : Hid (∀ (k : Nat) f, fs[k]? = some f → PairAt w1 g k f) := fun k f hf => (HP.out k f hf).below hb1 HOP.out.1
    go_wp2_with fail
    clear i1 hbl hb1
    go_loopw [5, 6] (fun vi vj wr => ∃ i j : Nat, vi = .int .i64 (i : Int) ∧ vj = .int .i64 (j : Int) ∧ i < j ∧ j ≤ fs.length ∧ Hid (i = (dropL xs (fs.take j)).length) ∧ Hid (Open2 wr g fs.length) ∧ Hid (∀ (k : Nat) f, (dropL xs (fs.take j))[k]? = some f → PairAt wr g k f) ∧ Hid (∀ (k : Nat) f, j ≤ k → fs[k]? = some f → PairAt wr g k f) ∧ Below w0.heap.size w0 wr)
      (fun _ vj _ => fs.length - (intOf vj).toNat)
    case atStart =>
      refine ⟨i, i + 1, rfl, by first | rfl | go_num, by omega, by omega, HL, O1, ?_, fun k f _ hf => P1.out k f hf, b1⟩
      show ∀ _ _, _
      rw [HT.out]
      intro k f hf
      rw [List.getElem?_take] at hf
      split at hf
      · exact P1.out k f hf
      · cases hf
    case round =>
      clear O1 P1 b1 HL HT hil HI HOP HP
      obtain ⟨i, j, rfl, rfl, hij, hj, hlen, hO, hK, hS, hb⟩ := hrel
      by_cases hlt : j < fs.length
      · obtain ⟨c1, c2⟩ := hS.out j fs[j] (Nat.le_refl _) (by simp [hlt])
        have hgl := hO.out.1
        have hfo := HOK.out fs[j] (List.getElem_mem hlt)
        obtain ⟨q, hq⟩ : ∃ q, q = hasB xs fs[j] := ⟨_, rfl⟩
        obtain ⟨f, hfe⟩ : ∃ f, f = fs[j] := ⟨_, rfl⟩
        have HKeep : Hid (q = false → dropL xs (fs.take (j + 1)) = dropL xs (fs.take j) ++ [f]) := fun e => by rw [hfe]; exact dropL_step_keep hlt (hq ▸ e)
        have HDrop : Hid (q = true → dropL xs (fs.take (j + 1)) = dropL xs (fs.take j)) := fun e => dropL_step_drop hlt (hq ▸ e)
        rw [← hfe] at c1 c2 hfo hq
        clear hfe
        obtain ⟨n, v⟩ := f
        have HC := Lib.hid (fun W hW => has72 b d xs (n, v) hx1 hfo.1 q hq W hW)
        clear hq hfo
        simp only at c1 c2
        have j1 : (j : Int) < fs.length := by omega
        rw [HV.out]
        unfold hasV
        go_wp2_with fail
        have bA := hb.alloc hb.size (.cells #[.string (bs n), .string (bs v)] 42)
        have LA := below_alloc wr (.cells #[.string (bs n), .string (bs v)] 42)
        have e0 : (wr.alloc (.cells #[.string (bs n), .string (bs v)] 42)).cell? ⟨wr.heap.size, 0, none⟩ = some (.string (bs n)) := by simp
        have e1 : (wr.alloc (.cells #[.string (bs n), .string (bs v)] 42)).cell? ⟨wr.heap.size, 1, none⟩ = some (.string (bs v)) := by simp
        have hzz : wr.heap.size < (wr.alloc (.cells #[.string (bs n), .string (bs v)] 42)).heap.size := by simp
        have HXA : Hid (IsStrs (wr.alloc (.cells #[.string (bs n), .string (bs v)] 42)) b d xs) := HX.out.below bA
        refine (HC.out _ HXA.out).mono ?_
        rintro e w2 ⟨rfl, hb2⟩
        have b2 := bA.trans (hb2.mono bA.size)
        have bl2 : Below wr.heap.size wr w2 := LA.trans (hb2.mono LA.size)
        have f0 : w2.cell? ⟨wr.heap.size, 0, none⟩ = some (.string (bs n)) := by rw [(bcell hb2).1 _ _ hzz, e0]
        have f1 : w2.cell? ⟨wr.heap.size, 1, none⟩ = some (.string (bs v)) := by rw [(bcell hb2).1 _ _ hzz, e1]
        have O2 : Hid (Open2 w2 g fs.length) := hO.out.below bl2
        have K2 : Hid (∀ (k : Nat) f, (dropL xs (fs.take j))[k]? = some f → PairAt w2 g k f) := fun k f hf => (hK.out k f hf).below bl2 hgl
        have S2 : Hid (∀ (k : Nat) f, j ≤ k → fs[k]? = some f → PairAt w2 g k f) := fun k f hk hf => (hS.out k f hk hf).below bl2 hgl
        clear e0 e1 hzz HXA bA LA hb2 hO hK hS c1 c2 HC hb
        cases q
        · have HK3 := Lib.hid (HKeep.out rfl)
          clear HKeep HDrop
          obtain ⟨u0, hu0⟩ := Option.isSome_iff_exists.1 (O2.out.2 (i * 2) (by omega)).1
          obtain ⟨u1, hu1⟩ := Option.isSome_iff_exists.1 (O2.out.2 (i * 2 + 1) (by omega)).1
          have z0 := (O2.out.2 (i * 2) (by omega)).2
          have z1 := (O2.out.2 (i * 2 + 1) (by omega)).2
          have ii : (i : Int) < fs.length := by omega
          have hput := PairAt.put O2.out (show i < fs.length by omega) (n, v)
          have O3 : Hid (Open2 ((w2.setCell ⟨g, i * 2, none⟩ (.string (bs n))).setCell ⟨g, i * 2 + 1, none⟩ (.string (bs v))) g fs.length) := (O2.out.set _ _).set _ _
          have hl3 : Hid (i + 1 = (dropL xs (fs.take (j + 1))).length) := by
            show i + 1 = _
            rw [HK3.out, List.length_append, ← hlen.out]; rfl
          have K3 : Hid (∀ (k : Nat) f, (dropL xs (fs.take (j + 1)))[k]? = some f → PairAt ((w2.setCell ⟨g, i * 2, none⟩ (.string (bs n))).setCell ⟨g, i * 2 + 1, none⟩ (.string (bs v))) g k f) := by
            intro k f hf
            rw [HK3.out] at hf
            by_cases hk : k < i
            · rw [List.getElem?_append_left (by rw [← hlen.out]; exact hk)] at hf
              exact ((K2.out k f hf).set _ _ (by omega)).set _ _ (by omega)
            · rw [List.getElem?_append_right (by rw [← hlen.out]; omega), ← hlen.out] at hf
              have hk0 : k - i = 0 := by
                have := (List.getElem?_eq_some_iff.1 hf).1
                simp at this
                omega
              rw [hk0] at hf
              obtain rfl : (n, v) = f := by simpa using hf
              obtain rfl : k = i := by omega
              exact hput
          have S3 : Hid (∀ (k : Nat) f, j + 1 ≤ k → fs[k]? = some f → PairAt ((w2.setCell ⟨g, i * 2, none⟩ (.string (bs n))).setCell ⟨g, i * 2 + 1, none⟩ (.string (bs v))) g k f) := fun k f hk hf =>
            ((S2.out k f (by omega) hf).set _ _ (by omega)).set _ _ (by omega)
          have b3 := (b2.setCell (p := ⟨g, i * 2, none⟩) hg (.string (bs n))).setCell (p := ⟨g, i * 2 + 1, none⟩) hg (.string (bs v))
          clear hput O2 K2 S2 hlen HK3
          go_wp2_with fail
          go_roundw
          case rel => exact ⟨i + 1, j + 1, by go_num, by go_num, by omega, hlt, hl3, O3, K3, S3, b3⟩
          case measure => simp [intOf]; omega
        · have HD3 := Lib.hid (HDrop.out rfl)
          clear HKeep HDrop
          have hl3 : Hid (i = (dropL xs (fs.take (j + 1))).length) := by show i = _; rw [HD3.out]; exact hlen.out
          have K3 : Hid (∀ (k : Nat) f, (dropL xs (fs.take (j + 1)))[k]? = some f → PairAt w2 g k f) := by
            intro k f hf
            rw [HD3.out] at hf
            exact K2.out k f hf
          have S3 : Hid (∀ (k : Nat) f, j + 1 ≤ k → fs[k]? = some f → PairAt w2 g k f) := fun k f hk hf => S2.out k f (by omega) hf
          clear K2 S2 hlen HD3
          go_wp2_with fail
          go_roundw
          case rel => exact ⟨i, j + 1, rfl, by go_num, by omega, hlt, hl3, O2, K3, S3, b2⟩
          case measure => simp [intOf]; omega
      · obtain rfl : j = fs.length := by omega
        have hK2 := hK.out
        have hl2 := hlen.out
        rw [List.take_of_length_le (Nat.le_refl _)] at hK2 hl2
        have hclr := run_clear2 wr 0 g (i * 2) (fs.length - i) (cap - i) (by omega) (fun k hk => (hO.out.2 _ (by omega)).1) (fun k hk => (hO.out.2 _ (by omega)).2)
        have HKK := Lib.hid hK2
        have HLL := Lib.hid hl2
        have ii : (i : Int) ≤ fs.length := by omega
        have ic : (i : Int) ≤ cap := by omega
        have i00 : (0 : Int) ≤ i := by omega
        have hcc : (fs.length : Int) ≤ cap := by omega
        have hgl := hO.out.1
        have hbz : Below w0.heap.size w0 (wr.setCells g (i * 2) (Builtin.zeroCells #[.string ⟨#[]⟩, .string ⟨#[]⟩] (fs.length - i)).toList) := below_setCells g hg _ _ _ hb
        clear hK2 hl2 hK hlen hS
        have hsz : g < (wr.setCells g (i * 2) (Builtin.zeroCells #[.string ⟨#[]⟩, .string ⟨#[]⟩] (fs.length - i)).toList).heap.size := Nat.lt_of_lt_of_le (Nat.lt_of_lt_of_le hgl (Nat.le_of_eq (size_setCells g _ _ _).symm)) (Nat.le_refl _)
        go_wp2_with fail
        go_ret
        refine ⟨by rw [← HLL.out]; rfl, ?_, hbz⟩
        have hcl : (dropL xs fs).length ≤ cap := by have := HLL.out; omega
        refine .inr ⟨g, 0, rfl, hsz, hcl, fun k f hf => ?_⟩
        have hki : k < i := by have := (List.getElem?_eq_some_iff.1 hf).1; have := HLL.out; omega
        obtain ⟨p0, p1⟩ := HKK.out k f hf
        rw [Nat.zero_add]
        exact ⟨by rw [cell_setCells_before g _ _ _ _ (by omega)]; exact p0, by rw [cell_setCells_before g _ _ _ _ (by omega)]; exact p1⟩
end Go.Proofs.YtneagccakoakpaaDoor
