/- Packed: LawFldS, FldQ, FewO, FldR, FldT, ListR, LawFldD. -/
import Derived.OwnWalk
import Derived.Deep.MidRow
import Derived.Laws.AppendOwn
import Derived.Test.YtbbphklhnngjmaaGreatDoorR05
import Derived.Test.YtbbphklhnngjmaaGreatDoorR09
/- The walk of the statement FieldsSame. -/
namespace Go.Proofs.YtbbphklhnngjmaaGreatDoor
open Go.RowKit

theorem own_isFldsT {w : World} {base : Nat} {T : TypeId} {v : Value} {fs : List Fld} (h : w.ownsRow base T 2 v fs.length (cellsF fs)) : ∃ a c, v = .slice a fs.length c ∧ (a = none → c = 0 ∧ fs = []) ∧ IsFlds w a c fs := by
  obtain ⟨_, ⟨rfl, h0⟩ | ⟨g, cap, cur, rfl, _, hg, hcap, _, hcs, htk⟩⟩ := h
  · obtain rfl : fs = [] := List.eq_nil_of_length_eq_zero h0
    exact ⟨none, 0, rfl, fun _ => ⟨rfl, rfl⟩, .inl rfl⟩
  · refine ⟨some ⟨g, 0, none⟩, cap, rfl, (fun h => by cases h), .inr ⟨g, 0, rfl, (Array.getElem?_eq_some_iff.1 hg).1, hcap, fun j f hf => ?_⟩⟩
    obtain ⟨g1, g2⟩ := cellsF_at fs j f hf
    have hj := (List.getElem?_eq_some_iff.1 hf).1
    rw [← htk, List.getElem?_take, if_pos (by omega)] at g1 g2
    rw [Nat.zero_add]
    simp only [Array.getElem?_toList] at g1 g2
    exact ⟨by simp [World.cell?, hg, g1], by simp [World.cell?, hg, g2]⟩
theorem fewF_length (fs : List Fld) (n : Nat) : (fewF fs n).length ≤ n := by
  unfold fewF; simp; omega
theorem few39s (a : Option Addr) (c : Nat) (fs : List Fld) (n : Nat) (hn : n ≤ 1000) (hfl : fs.length ≤ 9223372036854775807) (w : World) (hf : IsFlds w a c fs) :
    Calls Tryz.prog 9 #[.slice a fs.length c, .int .i64 n] w fun e w' => ∃ b d, e = .returned (.slice b (fewF fs n).length d) ∧ (b = none → d = 0 ∧ fewF fs n = []) ∧ IsFlds w' b d (fewF fs n) ∧ Below w.heap.size w w' := by
  refine (few39 a c fs n hn hfl w hf).mono ?_
  rintro e w' ⟨u, rfl, ho, hb⟩
  obtain ⟨b, d, rfl, h1, h2⟩ := own_isFldsT ho
  exact ⟨b, d, rfl, h1, h2, hb⟩
theorem own40s (a : Option Addr) (c : Nat) (fs : List Fld) (hfl : fs.length ≤ 1000000) (w : World) (hf : IsFlds w a c fs) :
    Calls Tryz.prog 36 #[.slice a fs.length c] w fun e w' => ∃ b d, e = .returned (.slice b fs.length d) ∧ IsFlds w' b d fs ∧ Below w.heap.size w w' := by
  refine (own40 a c fs hfl w hf).mono ?_
  rintro e w' ⟨u, rfl, ho, hb⟩
  obtain ⟨b, d, rfl, _, h2⟩ := own_isFldsT ho
  exact ⟨b, d, rfl, h2, hb⟩
end Go.Proofs.YtbbphklhnngjmaaGreatDoor

/- The reference's Is and Drop; the law's Is. -/
namespace Go.Proofs.YtbbphklhnngjmaaGreatDoor
open Go.RowKit

/-- Has the field this name? -/
def isB (x : ByteArray) (f : Fld) : Bool := decide (f.1.map lowC = x.data.toList.map lowC)
set_option maxRecDepth 100000 in
set_option maxHeartbeats 2000000 in
theorem is70 (f : Fld) (x : ByteArray) (h1 : f.1.length ≤ 4000000000) (hx : x.size ≤ 4000000000) (q : Bool) (hq : q = isB x f) (w : World) :
    Calls Tryz.prog 56 #[.agg #[.string (bs f.1), .string (bs f.2)], .string x] w fun e w' => e = .returned (.bool q) ∧ Below w.heap.size w w' := by
  have HL1 := Lib.hid (fun W => lower21 (bs f.1) (by rw [bs_size]; omega) W)
  have HL2 := Lib.hid (fun W => lower21 x (by omega) W)
  have hcmp : ((⟨((bs f.1).data.toList.map lowC).toArray⟩ : ByteArray).toList == (⟨(x.data.toList.map lowC).toArray⟩ : ByteArray).toList) = q := by
    rw [hq]
    exact bs_beq (f.1.map lowC) (x.data.toList.map lowC)
  have L0 := below_alloc w (.cells #[.string (bs f.1), .string (bs f.2)] 53)
  have c0 : (w.alloc (.cells #[.string (bs f.1), .string (bs f.2)] 53)).cell? ⟨w.heap.size, 0, none⟩ = some (.string (bs f.1)) := by simp
  clear hq
  generalize (⟨((bs f.1).data.toList.map lowC).toArray⟩ : ByteArray) = P at *
  generalize (⟨(x.data.toList.map lowC).toArray⟩ : ByteArray) = Q at *
  generalize bs f.1 = N at *
  generalize bs f.2 = V at *
  go_enter Tryz.func56, Tryz.ntmps56
  go_wp2_with fail
  generalize World.alloc w _ = w0 at *
  refine (HL1.out w0).mono ?_
  rintro e w1 ⟨rfl, hb1⟩
  have b1 := L0.trans (hb1.mono L0.size)
  go_wp2_with fail
  refine (HL2.out w1).mono ?_
  rintro e w2 ⟨rfl, hb2⟩
  have b2 := b1.trans (hb2.mono b1.size)
  go_wp2_with fail
  go_ret
  exact ⟨rfl, b2⟩
def dropR (x : ByteArray) (fs : List Fld) : List Fld := fs.filter fun f => !isB x f
theorem dropR_step {x : ByteArray} {fs : List Fld} {j : Nat} (hj : j < fs.length) : dropR x (fs.take (j + 1)) = dropR x (fs.take j) ++ if isB x fs[j] = true then [] else [fs[j]] := by
  unfold dropR
  rw [List.take_add_one, List.getElem?_eq_getElem hj, Option.toList_some, List.filter_append]
  congr 1
  cases h : isB x fs[j] <;> simp [h]
theorem dropR_len (x : ByteArray) (fs : List Fld) : (dropR x fs).length ≤ fs.length := List.length_filter_le _ _
set_option maxHeartbeats 4000000 in
set_option maxRecDepth 100000 in
theorem drop54 (a : Option Addr) (c : Nat) (fs : List Fld) (x : ByteArray) (hfl : fs.length ≤ 1000000) (hok : ∀ f ∈ fs, FldOk f) (hx : x.size ≤ 4000000000) (w : World) (hf : IsFlds w a c fs) :
    Calls Tryz.prog 20 #[.slice a fs.length c, .string x] w fun e w' => ∃ u, e = .returned u ∧ w'.ownsRow w.heap.size 53 2 u (dropR x fs).length (cellsF (dropR x fs)) ∧ Below w.heap.size w w' := by
  obtain ⟨i0, hi, hz0, hz1, hz2⟩ := info_parts infoRef
  have HFF := Lib.hid hf
  have HOK := Lib.hid hok
  clear hf hok
  have L0 := Lib.hid (below_alloc w (.cells #[] 53))
  have O0 : Hid ((w.alloc (.cells #[] 53)).ownsRow w.heap.size 53 2 (.slice (some ⟨w.heap.size, 0, none⟩) 0 0) (dropR x (fs.take 0)).length (cellsF (dropR x (fs.take 0)))) := World.ownsRow_lit w #[] 0 (Nat.le_refl _) (by decide) (by simp)
  go_enter Tryz.func20, Tryz.ntmps20
  go_wp2_with fail
  go_loopw [5, 11] (fun v i wr => ∃ j : Nat, j ≤ fs.length ∧ i = .int .i64 (j : Int) ∧ Hid (wr.ownsRow w.heap.size 53 2 v (dropR x (fs.take j)).length (cellsF (dropR x (fs.take j)))) ∧ Hid (Below w.heap.size w wr)) (fun _ i _ => fs.length - (intOf i).toNat)
  case atStart => exact ⟨0, Nat.zero_le _, rfl, O0, L0⟩
  case round =>
    clear O0 L0
    obtain ⟨j, hj, rfl, ho, hb⟩ := hrel
    by_cases hlt : j < fs.length
    · obtain h0 | ⟨bk, o, rfl, hbk, hc, hcell⟩ := HFF.out.below hb.out
      · subst h0; simp at hlt
      obtain ⟨c1, c2⟩ := hcell j fs[j] (by simp [hlt])
      have hst := dropR_step (x := x) hlt
      have hok := HOK.out fs[j] (List.getElem_mem hlt)
      have hdl := dropR_len x (fs.take j)
      rw [List.length_take] at hdl
      obtain ⟨q, hq⟩ : ∃ q, q = isB x fs[j] := ⟨_, rfl⟩
      have HI := Lib.hid (fun W => is70 fs[j] x hok.1 hx q hq W)
      rw [← hq] at hst
      obtain ⟨f, hfe⟩ : ∃ f, f = fs[j] := ⟨_, rfl⟩
      rw [← hfe] at c1 c2 hst HI
      have HST := Lib.hid hst
      clear hcell hfe hq hst hok
      have j1 : (j : Int) < fs.length := by omega
      have hce : cellsF [f] = [.string (bs f.1), .string (bs f.2)] := rfl
      have HCE := Lib.hid hce
      clear hce
      generalize bs f.1 = N at *
      generalize bs f.2 = V at *
      have hgr := hb.out.size
      have hsz : (wr.alloc (.cells #[.string N, .string V] 53)).heap.size = wr.heap.size + 1 := World.size_alloc _ _
      have B1 := Lib.hid (hb.out.alloc hgr (.cells #[.string N, .string V] 53))
      have O1 := Lib.hid (ho.out.alloc (.cells #[.string N, .string V] 53))
      have d1 : (wr.alloc (.cells #[.string N, .string V] 53)).cell? ⟨wr.heap.size, 0, none⟩ = some (.string N) := by simp
      have d2 : (wr.alloc (.cells #[.string N, .string V] 53)).cell? ⟨wr.heap.size, 1, none⟩ = some (.string V) := by simp
      clear ho hb
      go_wp2_with fail
      generalize World.alloc wr _ = wa at *
      refine (HI.out wa).mono ?_
      rintro e wb ⟨rfl, hbb⟩
      have hlta : wr.heap.size < wa.heap.size := by omega
      have e1 : wb.cell? ⟨wr.heap.size, 0, none⟩ = some (.string N) := by rw [(bcell hbb).1 _ _ hlta]; exact d1
      have e2 : wb.cell? ⟨wr.heap.size, 1, none⟩ = some (.string V) := by rw [(bcell hbb).1 _ _ hlta]; exact d2
      have B2 := Lib.hid (B1.out.trans (hbb.mono B1.out.size))
      have O2 := Lib.hid (own_below O1.out hbb)
      clear hbb B1 O1 d1 d2 c1 c2
      cases q
      · have hst2 := HST.out
        rw [if_neg (by simp)] at hst2
        have HO2 : Hid ((wb.alloc (.cells #[.string N, .string V] 53)).ownsRow w.heap.size 53 2 _ (dropR x (fs.take j)).length (cellsF (dropR x (fs.take j)))) := O2.out.alloc _
        have hb2 : Hid (Below w.heap.size w (wb.alloc (.cells #[.string N, .string V] 53))) := B2.out.alloc B2.out.size _
        have HNW := Lib.hid (cells_new1 wb N V 53)
        have hbz := B2.out.size
        have hcc : cellsF (dropR x (fs.take (j + 1))) = cellsF (dropR x (fs.take j)) ++ [.string N, .string V] := by
          rw [hst2, cellsF_append, HCE.out]
        have hll : (dropR x (fs.take (j + 1))).length = (dropR x (fs.take j)).length + 1 := by rw [hst2]; simp
        have HCC := Lib.hid hcc
        have HLL := Lib.hid hll
        clear hst2 hcc hll O2 B2
        obtain ⟨k, hk⟩ : ∃ k, k = (dropR x (fs.take j)).length := ⟨_, rfl⟩
        rw [← hk] at HO2 HLL hdl
        have HKK := Lib.hid hk
        clear hk
        go_wp2_with (at_builtin; refine wpList_append_own _ rfl _ _ 22 rfl w.heap.size 53 i0 (.agg #[.string ⟨#[]⟩, .string ⟨#[]⟩]) 2 32 Tryz.underlying22 hi hz0 hz1 hz2 rfl (by decide) _ _ _ rfl HO2.out ⟨wb.heap.size, 0, none⟩ 1 1 [.string N, .string V] rfl rfl HNW.out (by intro u hu; simp at hu; rcases hu with rfl | rfl <;> rfl) (by unfold maxLen; omega) (by omega) (by simp; omega) ?_)
        intro v' w2 hown' hgrow _
        have hb3 : Hid (Below w.heap.size w w2) := hb2.out.grown hgrow hb2.out.size (fun k hk => (HO2.out.lt k hk).1)
        rw [← HCC.out] at hown'
        have hown2 : w2.ownsRow w.heap.size 53 2 v' (dropR x (fs.take (j + 1))).length (cellsF (dropR x (fs.take (j + 1)))) := by rw [HLL.out]; exact hown'
        have HO3 := Lib.hid hown2
        clear hown' hown2 hgrow hb2 HO2 HNW HCC HLL
        go_wp2_with fail
        go_roundw
        case rel => exact ⟨j + 1, hlt, by go_num, HO3, hb3⟩
        case measure => simp [intOf]; omega
      · have hst2 := HST.out
        rw [if_pos rfl, List.append_nil] at hst2
        have HO3 := O2.out
        rw [← hst2] at HO3
        have HO4 := Lib.hid HO3
        clear hst2 HO3 O2
        go_wp2_with fail
        go_roundw
        case rel => exact ⟨j + 1, hlt, by go_num, HO4, B2⟩
        case measure => simp [intOf]; omega
    · obtain rfl : j = fs.length := by omega
      have ho2 := ho.out
      rw [List.take_of_length_le (Nat.le_refl _)] at ho2
      have HO := Lib.hid ho2
      clear ho ho2
      go_wp2_with fail
      go_ret
      exact ⟨_, rfl, HO.out, hb.out⟩
set_option maxRecDepth 100000 in
set_option maxHeartbeats 2000000 in
theorem lawIs45 (a : Option Addr) (c : Nat) (xs : List Fld) (b : Option Addr) (d : Nat) (ys : List Fld) (R : Bool) (hR : R = decide (xs = ys)) (hlx : xs.length ≤ 1000000000) (hly : ys.length ≤ 1000000000) (w : World) (hx : IsFlds w a c xs) (hy : IsFlds w b d ys) :
    Calls Tryz.prog 25 #[.slice a xs.length c, .slice b ys.length d] w fun e w' => e = .returned (.bool R) ∧ Below w.heap.size w w' := by
  by_cases hsz : xs.length = ys.length
  · have HR := Lib.hid hR
    have hne : ((xs.length : Int) != (ys.length : Int)) = false := by simp [hsz]
    have HS := Lib.hid hsz
    have HX := Lib.hid hx
    have HY := Lib.hid hy
    clear hR hsz hx hy
    go_enter Tryz.func25, Tryz.ntmps25
    go_wp2_with fail
    clear hne
    go_loopw [13] (fun i wr => ∃ j : Nat, j ≤ ys.length ∧ i = .int .i64 (j : Int) ∧ Hid (xs.take j = ys.take j) ∧ Below w.heap.size w wr) (fun i _ => ys.length - (intOf i).toNat)
    case atStart => exact ⟨0, Nat.zero_le _, rfl, rfl, Below.refl _ _⟩
    case round =>
      obtain ⟨j, hj, rfl, hr, hbl⟩ := hrel
      by_cases hlt2 : j < ys.length
      · have hlt : j < xs.length := by have := HS.out; omega
        obtain h0 | ⟨bk, o, rfl, hbk, hc, hcell⟩ := HX.out.below hbl
        · subst h0; simp at hlt
        obtain h0 | ⟨bk2, o2, rfl, hbk2, hc2, hcell2⟩ := HY.out.below hbl
        · subst h0; simp at hlt2
        obtain ⟨cj, cj2⟩ := hcell j xs[j] (by simp [hlt])
        obtain ⟨dj, dj2⟩ := hcell2 j ys[j] (by simp [hlt2])
        have j1 : (j : Int) < xs.length := by omega
        have j2 : (j : Int) < ys.length := by omega
        have hbn : ∀ n, Below w.heap.size w (wr.drewN n) := fun n => hbl.trans ⟨rfl, rfl, rfl, Nat.le_refl _, fun _ _ => rfl⟩
        clear hcell hcell2
        by_cases he : xs[j] = ys[j]
        · have hst := Lib.hid (takeF_step xs ys j hlt hlt2 hr.out he)
          rw [← he] at dj dj2
          generalize bs (xs[j]).1 = N at cj dj
          generalize bs (xs[j]).2 = V at cj2 dj2
          have eN := self_strP N
          have eV := self_strP V
          clear he
          go_wp2_with fail
          go_quiet (fail)
          go_wp2_with fail
          go_roundw
          case rel => exact ⟨j + 1, hlt2, by go_num, hst, hbn _⟩
          case measure => simp [intOf]; omega
        · have hno : Hid (¬ xs = ys) := fun e => he (by subst e; rfl)
          have e1 := bs_beq (xs[j]).1 (ys[j]).1
          have e2 := bs_beq (xs[j]).2 (ys[j]).2
          obtain ⟨f, hf⟩ : ∃ f, f = xs[j] := ⟨_, rfl⟩
          obtain ⟨g, hg⟩ : ∃ g, g = ys[j] := ⟨_, rfl⟩
          rw [← hf, ← hg] at e1 e2 he
          rw [← hf] at cj cj2
          rw [← hg] at dj dj2
          clear hf hg
          obtain ⟨n1, v1⟩ := f
          obtain ⟨n2, v2⟩ := g
          simp only at e1 e2 cj cj2 dj dj2
          have hcase : (decide (n1 = n2) = false) ∨ (decide (n1 = n2) = true ∧ decide (v1 = v2) = false) := by
            by_cases h1 : n1 = n2
            · exact .inr ⟨decide_eq_true h1, decide_eq_false (fun h2 => he (by rw [h1, h2]))⟩
            · exact .inl (decide_eq_false h1)
          generalize decide (n1 = n2) = q1 at *
          generalize decide (v1 = v2) = q2 at *
          generalize bs n1 = N1 at *
          generalize bs n2 = N2 at *
          generalize bs v1 = V1 at *
          generalize bs v2 = V2 at *
          clear he
          rcases hcase with rfl | ⟨rfl, rfl⟩
          · go_wp2_with fail
            go_quiet (fail)
            go_wp2_with fail
            go_ret
            exact ⟨by rw [HR.out, decide_eq_false hno.out]; rfl, hbn _⟩
          · go_wp2_with fail
            go_quiet (fail)
            go_wp2_with fail
            go_ret
            exact ⟨by rw [HR.out, decide_eq_false hno.out]; rfl, hbn _⟩
      · obtain rfl : j = ys.length := by omega
        have h1 := hr.out
        have hs2 := HS.out
        rw [List.take_of_length_le (by omega), List.take_of_length_le (by omega)] at h1
        have H1 := Lib.hid h1
        clear h1 hs2
        go_wp2_with fail
        go_ret
        exact ⟨by rw [HR.out, decide_eq_true H1.out]; rfl, hbl⟩
  · have hno : R = false := by rw [hR]; exact decide_eq_false (fun e => hsz (by rw [e]))
    subst hno
    have hne : ((xs.length : Int) != (ys.length : Int)) = true := by simp; omega
    clear hR hsz hx hy
    go_enter Tryz.func25, Tryz.ntmps25
    go_wp2_with fail
    go_ret
    exact ⟨rfl, Below.refl _ _⟩
end Go.Proofs.YtbbphklhnngjmaaGreatDoor

/- stewardlaw01.Few. -/
namespace Go.Proofs.YtbbphklhnngjmaaGreatDoor
open Go.RowKit

theorem info9 : (Tryz.prog.info? 9).map (fun i => (i.zero, i.size, i.bytes)) = some (some (.string ⟨#[]⟩), 1, 16) := by kernel_rfl

/-- The first few, cut. -/
def fewS (xs : List ByteArray) (n m : Nat) : List ByteArray := (xs.take n).map fun s => cutS s m
/-- What has been collected. -/
def rowOf (xs : List ByteArray) (m j : Nat) : List Value := ((xs.take j).map fun s => cutS s m).map Value.string
theorem rowOf_succ (xs : List ByteArray) (m j : Nat) (h : j < xs.length) : rowOf xs m j ++ [.string (cutS xs[j] m)] = rowOf xs m (j + 1) := by
  unfold rowOf
  rw [List.take_succ_eq_append_getElem h, List.map_append, List.map_append]
  rfl
theorem isStrs_of_row {w : World} {B : Nat} {a : Option Addr} {k c : Nat} {ys : List ByteArray} (h : w.ownsRow B 9 1 (.slice a k c) k (ys.map Value.string)) (hk : ys.length = k) : IsStrs w a c ys := by
  obtain ⟨hl, h | ⟨g, cap, cur, he, hB, hg, hn, _, hs, ht⟩⟩ := h
  · left
    exact List.eq_nil_of_length_eq_zero (by omega)
  · right
    obtain ⟨rfl, _, rfl⟩ : a = some ⟨g, 0, none⟩ ∧ k = k ∧ c = cap := by simpa using he
    have hlt : g < w.heap.size := by
      rcases Nat.lt_or_ge g w.heap.size with h | h
      · exact h
      · rw [Array.getElem?_eq_none h] at hg; cases hg
    refine ⟨g, 0, rfl, hlt, by omega, fun j x hx => ?_⟩
    have h1 : (ys.map Value.string)[j]? = some (.string x) := by rw [List.getElem?_map, hx]; rfl
    have h2 := World.ownsRow.cells (w := w) (base := B) (e := 9) (size := 1) (v := .slice (some ⟨g, 0, none⟩) k c) (n := k) (xs := ys.map Value.string) ⟨hl, .inr ⟨g, c, cur, rfl, hB, hg, hn, by assumption, hs, ht⟩⟩ rfl j _ h1
    rwa [Addr.add_mid] at h2

def FewPostN (w : World) (ys : List ByteArray) (e : Ending) (w' : World) : Prop :=
  ∃ a c, e = .returned (.slice a ys.length c) ∧ IsStrs w' a c ys ∧ (a = none → c = 0) ∧ Below w.heap.size w w'

end Go.Proofs.YtbbphklhnngjmaaGreatDoor

/- fields' Get, Has, Size, All; the reference's All. -/
namespace Go.Proofs.YtbbphklhnngjmaaGreatDoor
open Go.RowKit

theorem has_is (x : ByteArray) (f : Fld) : hasB [x] f = isB x f := by
  unfold hasB isB
  rw [List.any_cons, List.any_nil, Bool.or_false]
  exact decide_eq_decide.2 ⟨fun h => h.symm, fun h => h.symm⟩
/-- All values of a name. -/
def allB (x : ByteArray) (fs : List Fld) : List ByteArray := (fs.filter (isB x)).map fun f => bs f.2
theorem allB_step {x : ByteArray} {fs : List Fld} {j : Nat} (hj : j < fs.length) : allB x (fs.take (j + 1)) = allB x (fs.take j) ++ if isB x fs[j] = true then [bs fs[j].2] else [] := by
  unfold allB
  rw [List.take_add_one, List.getElem?_eq_getElem hj, Option.toList_some, List.filter_append, List.map_append]
  congr 1
  cases h : isB x fs[j] <;> simp [h]
theorem allB_len (x : ByteArray) (fs : List Fld) : (allB x fs).length ≤ fs.length := by
  unfold allB
  rw [List.length_map]
  exact List.length_filter_le _ _
theorem allB_nil {x : ByteArray} {fs : List Fld} (h : ∀ f ∈ fs, hasB [x] f = false) : allB x fs = [] := by
  unfold allB
  rw [List.filter_eq_nil_iff.2 (fun f hf => by rw [← has_is, h f hf]; simp)]
  rfl
theorem allB_first {x : ByteArray} {fs : List Fld} {i : Nat} (hi : i < fs.length) (h : ∀ f ∈ fs.take i, hasB [x] f = false) (hy : hasB [x] fs[i] = true) : ∃ r, allB x fs = bs fs[i].2 :: r := by
  have e : fs = fs.take i ++ fs[i] :: fs.drop (i + 1) := by
    rw [List.getElem_cons_drop, List.take_append_drop]
  refine ⟨allB x (fs.drop (i + 1)), ?_⟩
  conv => lhs; rw [e]
  unfold allB
  rw [List.filter_append, List.filter_eq_nil_iff.2 (fun f hf => by rw [← has_is, h f hf]; simp), List.nil_append, List.filter_cons_of_pos (by rw [← has_is]; exact hy)]
  rfl
/-- The first value; is there one? -/
def getV (l : List ByteArray) : Value := match l with
  | [] => .tuple #[.string ⟨#[]⟩, .bool false]
  | v :: _ => .tuple #[.string v, .bool true]
set_option maxHeartbeats 4000000 in
set_option maxRecDepth 100000 in
theorem rall41 (a : Option Addr) (c : Nat) (fs : List Fld) (x : ByteArray) (hfl : fs.length ≤ 1000000) (hok : ∀ f ∈ fs, FldOk f) (hx : x.size ≤ 4000000000) (w : World) (hf : IsFlds w a c fs) :
    Calls Tryz.prog 49 #[.slice a fs.length c, .string x] w fun e w' => ∃ u, e = .returned u ∧ w'.ownsRow w.heap.size 9 1 u (allB x fs).length ((allB x fs).map Value.string) ∧ Below w.heap.size w w' := by
  obtain ⟨i0, hi, hz0, hz1, hz2⟩ := info_parts info9
  have HFF := Lib.hid hf
  have HOK := Lib.hid hok
  clear hf hok
  have L0 := Lib.hid (below_alloc w (.cells #[] 9))
  have O0 : Hid ((w.alloc (.cells #[] 9)).ownsRow w.heap.size 9 1 (.slice (some ⟨w.heap.size, 0, none⟩) 0 0) (allB x (fs.take 0)).length ((allB x (fs.take 0)).map Value.string)) := World.ownsRow_lit w #[] 0 (Nat.le_refl _) (by decide) (by simp)
  go_enter Tryz.func49, Tryz.ntmps49
  go_wp2_with fail
  go_loopw [5, 11] (fun v i wr => ∃ j : Nat, j ≤ fs.length ∧ i = .int .i64 (j : Int) ∧ Hid (wr.ownsRow w.heap.size 9 1 v (allB x (fs.take j)).length ((allB x (fs.take j)).map Value.string)) ∧ Hid (Below w.heap.size w wr)) (fun _ i _ => fs.length - (intOf i).toNat)
  case atStart => exact ⟨0, Nat.zero_le _, rfl, O0, L0⟩
  case round =>
    clear O0 L0
    obtain ⟨j, hj, rfl, ho, hb⟩ := hrel
    by_cases hlt : j < fs.length
    · have hbw := hb
      obtain h0 | ⟨bk, o, rfl, hbk, hc, hcell⟩ := HFF.out.below hbw.out
      · subst h0; simp at hlt
      obtain ⟨c1, c2⟩ := hcell j fs[j] (by simp [hlt])
      have hst := allB_step (x := x) hlt
      have hok := HOK.out fs[j] (List.getElem_mem hlt)
      have hdl := allB_len x (fs.take j)
      rw [List.length_take] at hdl
      obtain ⟨q, hq⟩ : ∃ q, q = isB x fs[j] := ⟨_, rfl⟩
      have HI := Lib.hid (fun W (_ : True) => is70 fs[j] x hok.1 hx q hq W)
      rw [← hq] at hst
      obtain ⟨f, hfe⟩ : ∃ f, f = fs[j] := ⟨_, rfl⟩
      rw [← hfe] at c1 c2 hst HI
      have HST := Lib.hid hst
      clear hcell hfe hq hst hok
      have j1 : (j : Int) < fs.length := by omega
      generalize bs f.1 = N at *
      generalize bs f.2 = V at *
      have hgr := hb.out.size
      have hsz : (wr.alloc (.cells #[.string N, .string V] 53)).heap.size = wr.heap.size + 1 := World.size_alloc _ _
      have B1 := Lib.hid (hb.out.alloc hgr (.cells #[.string N, .string V] 53))
      have O1 := Lib.hid (ho.out.alloc (.cells #[.string N, .string V] 53))
      have d1 : (wr.alloc (.cells #[.string N, .string V] 53)).cell? ⟨wr.heap.size, 0, none⟩ = some (.string N) := by simp
      have d2 : (wr.alloc (.cells #[.string N, .string V] 53)).cell? ⟨wr.heap.size, 1, none⟩ = some (.string V) := by simp
      clear ho hb
      go_wp2_with fail
      generalize World.alloc wr _ = wa at *
      refine (HI.out wa trivial).mono ?_
      rintro e wb ⟨rfl, hbb⟩
      have hlta : wr.heap.size < wa.heap.size := by omega
      have e1 : wb.cell? ⟨wr.heap.size, 0, none⟩ = some (.string N) := by rw [(bcell hbb).1 _ _ hlta]; exact d1
      have e2 : wb.cell? ⟨wr.heap.size, 1, none⟩ = some (.string V) := by rw [(bcell hbb).1 _ _ hlta]; exact d2
      have B2 := Lib.hid (B1.out.trans (hbb.mono B1.out.size))
      have O2 := Lib.hid (own_below O1.out hbb)
      clear hbb B1 O1 d1 d2 c1 c2
      cases q
      · have hst2 := HST.out
        rw [if_neg (by simp), List.append_nil] at hst2
        have HO3 := O2.out
        rw [← hst2] at HO3
        have HO4 := Lib.hid HO3
        clear hst2 HO3 O2
        go_wp2_with fail
        go_roundw
        case rel => exact ⟨j + 1, hlt, by go_num, HO4, B2⟩
        case measure => simp [intOf]; omega
      · have hst2 := HST.out
        rw [if_pos rfl] at hst2
        have HO2 : Hid ((wb.alloc (.cells #[.string V] 9)).ownsRow w.heap.size 9 1 _ (allB x (fs.take j)).length ((allB x (fs.take j)).map Value.string)) := O2.out.alloc _
        have hb2 : Hid (Below w.heap.size w (wb.alloc (.cells #[.string V] 9))) := B2.out.alloc B2.out.size _
        have hbz := B2.out.size
        have hcc : (allB x (fs.take (j + 1))).map Value.string = (allB x (fs.take j)).map Value.string ++ [.string V] := by
          rw [hst2, List.map_append]; rfl
        have hll : (allB x (fs.take (j + 1))).length = (allB x (fs.take j)).length + 1 := by rw [hst2]; simp
        have HCC := Lib.hid hcc
        have HLL := Lib.hid hll
        clear hst2 hcc hll O2 B2
        obtain ⟨k, hk⟩ : ∃ k, k = (allB x (fs.take j)).length := ⟨_, rfl⟩
        rw [← hk] at HO2 HLL hdl
        clear hk
        go_wp2_with (at_builtin; refine wpList_append_own _ rfl _ _ 88 rfl w.heap.size 9 i0 (.string ⟨#[]⟩) 1 16 Tryz.underlying88 hi hz0 hz1 hz2 rfl (by decide) _ _ _ rfl HO2.out ⟨wb.heap.size, 0, none⟩ 1 1 [.string V] rfl rfl ?c1 ?c2 ?c3 ?c4 ?c5 ?_)
        case c1 => intro i u hu; match i, hu with
          | 0, hu => obtain rfl : Value.string V = u := Option.some.inj hu; rw [Addr.add_mid]; simp
          | i + 1, hu => simp at hu
        case c2 => intro u hu; simp at hu; subst hu; rfl
        case c3 => unfold maxLen; omega
        case c4 => omega
        case c5 => simp; omega
        intro v' w2 hown' hgrow _
        have hb3 : Hid (Below w.heap.size w w2) := hb2.out.grown hgrow hb2.out.size (fun k hk => (HO2.out.lt k hk).1)
        rw [← HCC.out] at hown'
        have hown2 : w2.ownsRow w.heap.size 9 1 v' (allB x (fs.take (j + 1))).length ((allB x (fs.take (j + 1))).map Value.string) := by rw [HLL.out]; exact hown'
        have HO3 := Lib.hid hown2
        clear hown' hown2 hgrow hb2 HO2 HCC HLL
        go_wp2_with fail
        go_roundw
        case rel => exact ⟨j + 1, hlt, by go_num, HO3, hb3⟩
        case measure => simp [intOf]; omega
    · obtain rfl : j = fs.length := by omega
      have ho2 := ho.out
      rw [List.take_of_length_le (Nat.le_refl _)] at ho2
      have HO := Lib.hid ho2
      clear ho ho2
      go_wp2_with fail
      go_ret
      exact ⟨_, rfl, HO.out, hb.out⟩
set_option maxHeartbeats 4000000 in
set_option maxRecDepth 100000 in
theorem all44 (a : Option Addr) (c : Nat) (fs : List Fld) (x : ByteArray) (hfl : fs.length ≤ 1000000) (hok : ∀ f ∈ fs, FldOk f) (w : World) (hf : IsFlds w a c fs) :
    Calls Tryz.prog 43 #[.slice a fs.length c, .string x] w fun e w' => ∃ u, e = .returned u ∧ w'.ownsRow w.heap.size 9 1 u (allB x fs).length ((allB x fs).map Value.string) ∧ Below w.heap.size w w' := by
  obtain ⟨i0, hi, hz0, hz1, hz2⟩ := info_parts info9
  have L0 := Lib.hid (below_alloc w (.cells #[.string x] 9))
  have HFF := Lib.hid (hf.below L0.out)
  have HOK := Lib.hid hok
  have HNM := Lib.hid (isStrs_new1 w x 9)
  have hzz : (w.alloc (.cells #[.string x] 9)).heap.size = w.heap.size + 1 := World.size_alloc _ _
  clear hf hok
  go_enter Tryz.func43, Tryz.ntmps43
  go_wp2_with fail
  obtain ⟨w0, hw0⟩ : ∃ w0, w0 = w.alloc (.cells #[.string x] 9) := ⟨_, rfl⟩
  rw [← hw0] at L0 HFF HNM hzz ⊢
  have HZZ := Lib.hid hzz
  clear hw0 hzz
  go_loopw [6, 14] (fun v i wr => ∃ j : Nat, j ≤ fs.length ∧ i = .int .i64 (j : Int) ∧ Hid (wr.ownsRow w0.heap.size 9 1 v (allB x (fs.take j)).length ((allB x (fs.take j)).map Value.string)) ∧ Hid (Below w0.heap.size w0 wr)) (fun _ i _ => fs.length - (intOf i).toNat)
  case atStart => exact ⟨0, Nat.zero_le _, rfl, World.ownsRow_nil _ _ _ _, Below.refl _ _⟩
  case round =>
    obtain ⟨j, hj, rfl, ho, hb⟩ := hrel
    by_cases hlt : j < fs.length
    · have hbw := hb
      obtain h0 | ⟨bk, o, rfl, hbk, hc, hcell⟩ := HFF.out.below hbw.out
      · subst h0; simp at hlt
      obtain ⟨c1, c2⟩ := hcell j fs[j] (by simp [hlt])
      have hst := allB_step (x := x) hlt
      have hok := HOK.out fs[j] (List.getElem_mem hlt)
      have hdl := allB_len x (fs.take j)
      rw [List.length_take] at hdl
      obtain ⟨q, hq⟩ : ∃ q, q = isB x fs[j] := ⟨_, rfl⟩
      have HI := Lib.hid (fun W h => has72 (some ⟨w.heap.size, 0, none⟩) 1 [x] fs[j] (by simp) hok.1 q (by rw [hq]; exact (has_is x fs[j]).symm) W h)
      unfold fldV at HI
      rw [← hq] at hst
      obtain ⟨f, hfe⟩ : ∃ f, f = fs[j] := ⟨_, rfl⟩
      rw [← hfe] at c1 c2 hst HI
      have HST := Lib.hid hst
      clear hcell hfe hq hst hok
      have j1 : (j : Int) < fs.length := by omega
      generalize bs f.1 = N at *
      generalize bs f.2 = V at *
      have hgr := hb.out.size
      have hsz : (wr.alloc (.cells #[.string N, .string V] 62)).heap.size = wr.heap.size + 1 := World.size_alloc _ _
      have B1 := Lib.hid (hb.out.alloc hgr (.cells #[.string N, .string V] 62))
      have O1 := Lib.hid (ho.out.alloc (.cells #[.string N, .string V] 62))
      have d1 : (wr.alloc (.cells #[.string N, .string V] 62)).cell? ⟨wr.heap.size, 0, none⟩ = some (.string N) := by simp
      have d2 : (wr.alloc (.cells #[.string N, .string V] 62)).cell? ⟨wr.heap.size, 1, none⟩ = some (.string V) := by simp
      clear ho hb
      go_wp2_with fail
      generalize World.alloc wr _ = wa at *
      refine (HI.out wa (HNM.out.below B1.out)).mono ?_
      rintro e wb ⟨rfl, hbb⟩
      have hlta : wr.heap.size < wa.heap.size := by omega
      have e1 : wb.cell? ⟨wr.heap.size, 0, none⟩ = some (.string N) := by rw [(bcell hbb).1 _ _ hlta]; exact d1
      have e2 : wb.cell? ⟨wr.heap.size, 1, none⟩ = some (.string V) := by rw [(bcell hbb).1 _ _ hlta]; exact d2
      have B2 := Lib.hid (B1.out.trans (hbb.mono B1.out.size))
      have O2 := Lib.hid (own_below O1.out hbb)
      clear hbb B1 O1 d1 d2 c1 c2
      cases q
      · have hst2 := HST.out
        rw [if_neg (by simp), List.append_nil] at hst2
        have HO3 := O2.out
        rw [← hst2] at HO3
        have HO4 := Lib.hid HO3
        clear hst2 HO3 O2
        go_wp2_with fail
        go_roundw
        case rel => exact ⟨j + 1, hlt, by go_num, HO4, B2⟩
        case measure => simp [intOf]; omega
      · have hst2 := HST.out
        rw [if_pos rfl] at hst2
        have HO2 : Hid ((wb.alloc (.cells #[.string V] 9)).ownsRow w0.heap.size 9 1 _ (allB x (fs.take j)).length ((allB x (fs.take j)).map Value.string)) := O2.out.alloc _
        have hb2 : Hid (Below w0.heap.size w0 (wb.alloc (.cells #[.string V] 9))) := B2.out.alloc B2.out.size _
        have hbz := B2.out.size
        have hcc : (allB x (fs.take (j + 1))).map Value.string = (allB x (fs.take j)).map Value.string ++ [.string V] := by
          rw [hst2, List.map_append]; rfl
        have hll : (allB x (fs.take (j + 1))).length = (allB x (fs.take j)).length + 1 := by rw [hst2]; simp
        have HCC := Lib.hid hcc
        have HLL := Lib.hid hll
        clear hst2 hcc hll O2 B2
        obtain ⟨k, hk⟩ : ∃ k, k = (allB x (fs.take j)).length := ⟨_, rfl⟩
        rw [← hk] at HO2 HLL hdl
        clear hk
        go_wp2_with (at_builtin; refine wpList_append_own _ rfl _ _ 88 rfl w0.heap.size 9 i0 (.string ⟨#[]⟩) 1 16 Tryz.underlying88 hi hz0 hz1 hz2 rfl (by decide) _ _ _ rfl HO2.out ⟨wb.heap.size, 0, none⟩ 1 1 [.string V] rfl rfl ?c1 ?c2 ?c3 ?c4 ?c5 ?_)
        case c1 => intro i u hu; match i, hu with
          | 0, hu => obtain rfl : Value.string V = u := Option.some.inj hu; rw [Addr.add_mid]; simp
          | i + 1, hu => simp at hu
        case c2 => intro u hu; simp at hu; subst hu; rfl
        case c3 => unfold maxLen; omega
        case c4 => omega
        case c5 => simp; omega
        intro v' w2 hown' hgrow _
        have hb3 : Hid (Below w0.heap.size w0 w2) := hb2.out.grown hgrow hb2.out.size (fun k hk => (HO2.out.lt k hk).1)
        rw [← HCC.out] at hown'
        have hown2 : w2.ownsRow w0.heap.size 9 1 v' (allB x (fs.take (j + 1))).length ((allB x (fs.take (j + 1))).map Value.string) := by rw [HLL.out]; exact hown'
        have HO3 := Lib.hid hown2
        clear hown' hown2 hgrow hb2 HO2 HCC HLL
        go_wp2_with fail
        go_roundw
        case rel => exact ⟨j + 1, hlt, by go_num, HO3, hb3⟩
        case measure => simp [intOf]; omega
    · obtain rfl : j = fs.length := by omega
      have ho2 := ho.out
      rw [List.take_of_length_le (Nat.le_refl _)] at ho2
      have HO := Lib.hid ho2
      clear ho ho2
      go_wp2_with fail
      go_ret
      exact ⟨_, rfl, own_mono HO.out (by have := HZZ.out; omega), L0.out.trans (hb.out.mono L0.out.size)⟩
end Go.Proofs.YtbbphklhnngjmaaGreatDoor

/- The reference's Text and Set. The reference's Set. -/
namespace Go.Proofs.YtbbphklhnngjmaaGreatDoor
open Go.RowKit

theorem bs_appL (a b : List UInt8) : bs a ++ bs b = bs (a ++ b) := by
  have : (bs a ++ bs b).data.toList = a ++ b := by simp [bs]
  exact str_eq _ _ this
set_option maxHeartbeats 4000000 in
set_option maxRecDepth 100000 in
theorem rtext50 (a : Option Addr) (c : Nat) (fs : List Fld) (hfl : fs.length ≤ 1000000) (hok : ∀ f ∈ fs, FldOk f) (hsum : (textL fs).length ≤ 100000000000) (w : World) (hf : IsFlds w a c fs) :
    Calls Tryz.prog 40 #[.slice a fs.length c] w fun e w' => e = .returned (.string (bs (textL fs))) ∧ Below w.heap.size w w' := by
  have HFF := Lib.hid hf
  have HOK := Lib.hid hok
  clear hf hok
  go_enter Tryz.func40, Tryz.ntmps40
  go_wp2_with fail
  go_loopw [3, 8] (fun v i wr => ∃ j : Nat, ∃ S : ByteArray, j ≤ fs.length ∧ i = .int .i64 (j : Int) ∧ v = .string S ∧ Hid (S = bs (textL (fs.take j))) ∧ Below w.heap.size w wr) (fun _ i _ => fs.length - (intOf i).toNat)
  case atStart => exact ⟨0, ⟨#[]⟩, Nat.zero_le _, rfl, rfl, rfl, Below.refl _ _⟩
  case round =>
    obtain ⟨j, S, hj, rfl, rfl, hS, hb⟩ := hrel
    by_cases hlt : j < fs.length
    · obtain h0 | ⟨bk, o, rfl, hbk, hc, hcell⟩ := HFF.out.below hb
      · subst h0; simp at hlt
      obtain ⟨c1, c2⟩ := hcell j fs[j] (by simp [hlt])
      have hst := textL_step hlt
      have h1 : (textL (fs.take j)).length ≤ (textL fs).length := textL_le
      have h2 : (textL (fs.take (j + 1))).length ≤ (textL fs).length := textL_le
      have hok := HOK.out fs[j] (List.getElem_mem hlt)
      obtain ⟨f, hfe⟩ : ∃ f, f = fs[j] := ⟨_, rfl⟩
      rw [← hfe] at c1 c2 hst hok
      clear hcell hfe
      have hzs := bs_size (textL (fs.take j))
      rw [← hS.out] at hzs
      have z1 := bs_size f.1
      have z2 := bs_size f.2
      have heq : Hid (S ++ (bs f.1 ++ ⟨#[58, 32]⟩ ++ bs f.2 ++ ⟨#[13, 10]⟩) = bs (textL (fs.take (j + 1)))) := by
        show _ = _
        rw [hS.out, show (⟨#[58, 32]⟩ : ByteArray) = bs [58, 32] from rfl, show (⟨#[13, 10]⟩ : ByteArray) = bs [13, 10] from rfl, bs_appL, bs_appL, bs_appL, bs_appL, hst]
        rfl
      have s1 : (S.size : Int) ≤ 100000000000 := by omega
      have s2 : ((bs f.1).size : Int) ≤ 4000000000 := by have := hok.1; omega
      have s3 : ((bs f.2).size : Int) ≤ 4000000000 := by have := hok.2; omega
      have j1 : (j : Int) < fs.length := by omega
      have L1 := hb.alloc hb.size (.cells #[.string (bs f.1), .string (bs f.2)] 53)
      clear hst h1 h2 hok hzs z1 z2
      generalize bs f.1 = N at *
      generalize bs f.2 = V at *
      go_wp2_with fail
      go_roundw
      case rel => exact ⟨j + 1, _, hlt, by go_num, rfl, heq, L1⟩
      case measure => simp [intOf]; omega
    · obtain rfl : j = fs.length := by omega
      have h1 := hS.out
      rw [List.take_of_length_le (Nat.le_refl _)] at h1
      have H1 := Lib.hid h1
      clear h1
      go_wp2_with fail
      go_ret
      exact ⟨by rw [← H1.out]; rfl, hb⟩
/-- What Set has collected. -/
def stepR (x : ByteArray) (g : Fld) (s : List Fld × Bool) (f : Fld) : List Fld × Bool := if isB x f = true then (if s.2 = true then s else (s.1 ++ [g], true)) else (s.1 ++ [f], s.2)
def outR (x : ByteArray) (g : Fld) (l : List Fld) : List Fld × Bool := l.foldl (stepR x g) ([], false)
theorem outR_step {x : ByteArray} {g : Fld} {fs : List Fld} {j : Nat} (hj : j < fs.length) : outR x g (fs.take (j + 1)) = stepR x g (outR x g (fs.take j)) fs[j] := by
  unfold outR
  rw [List.take_add_one, List.getElem?_eq_getElem hj, Option.toList_some, List.foldl_append]
  rfl
theorem foldR_no (x : ByteArray) (g : Fld) : ∀ (l : List Fld) (o : List Fld) (d : Bool), (∀ f ∈ l, hasB [x] f = false) → l.foldl (stepR x g) (o, d) = (o ++ l, d)
  | [], o, d, _ => by simp
  | f :: r, o, d, h => by
    have hf : isB x f = false := by rw [← has_is]; exact h f List.mem_cons_self
    rw [List.foldl_cons, stepR, if_neg (by rw [hf]; simp), foldR_no x g r _ _ (fun y hy => h y (List.mem_cons_of_mem _ hy))]
    simp
theorem foldR_yes (x : ByteArray) (g : Fld) : ∀ (l : List Fld) (o : List Fld), l.foldl (stepR x g) (o, true) = (o ++ dropL [x] l, true)
  | [], o => by simp [dropL]
  | f :: r, o => by
    rw [List.foldl_cons, stepR]
    by_cases hf : isB x f = true
    · rw [if_pos hf, if_pos rfl, foldR_yes x g r]
      unfold dropL
      rw [List.filter_cons_of_neg (by rw [has_is, hf]; simp)]
    · rw [if_neg hf, foldR_yes x g r]
      unfold dropL
      rw [List.filter_cons_of_pos (by rw [has_is]; simpa using hf)]
      simp
theorem outR_set (n v : List UInt8) (fs : List Fld) : (if (outR (bs n) (n, v) fs).2 = true then (outR (bs n) (n, v) fs).1 else (outR (bs n) (n, v) fs).1 ++ [(n, v)]) = setF n v fs := by
  unfold setF
  simp only
  rcases findI_cases [bs n] fs with ⟨hi, hno⟩ | ⟨i, hil, hi, hyes, hno⟩
  · rw [hi, if_neg (show ¬ ((0 : Int) ≤ -1) by decide)]
    unfold outR
    rw [foldR_no _ _ fs [] false hno]
    simp
  · rw [hi, if_pos (show (0 : Int) ≤ (i : Int) by omega), Int.toNat_natCast]
    have e : fs = fs.take i ++ fs[i] :: fs.drop (i + 1) := by rw [List.getElem_cons_drop, List.take_append_drop]
    have h1 : outR (bs n) (n, v) fs = (fs.take i ++ ((n, v) :: dropL [bs n] (fs.drop (i + 1))), true) := by
      unfold outR
      conv => lhs; rw [e]
      rw [List.foldl_append, foldR_no _ _ _ [] false hno, List.foldl_cons, stepR, if_pos (by rw [← has_is]; exact hyes), if_neg (by simp), foldR_yes]
      simp
    rw [h1]
    rfl
end Go.Proofs.YtbbphklhnngjmaaGreatDoor
namespace Go.Proofs.YtbbphklhnngjmaaGreatDoor
open Go.RowKit

theorem stepR_len (x : ByteArray) (g : Fld) (s : List Fld × Bool) (f : Fld) : (stepR x g s f).1.length ≤ s.1.length + 1 := by
  unfold stepR
  split
  · split <;> simp
  · simp
theorem outR_len (x : ByteArray) (g : Fld) (fs : List Fld) : ∀ j, j ≤ fs.length → (outR x g (fs.take j)).1.length ≤ j
  | 0, _ => by simp [outR]
  | j + 1, h => by
    rw [outR_step (by omega)]
    have h1 := stepR_len x g (outR x g (fs.take j)) fs[j]
    have h2 := outR_len x g fs j (by omega)
    omega
set_option maxHeartbeats 8000000 in
set_option maxRecDepth 100000 in
theorem rset47 (a : Option Addr) (c : Nat) (fs : List Fld) (n v : List UInt8) (hfl : fs.length ≤ 1000000) (hok : ∀ f ∈ fs, FldOk f) (hn : n.length ≤ 4000000000) (w : World) (hf : IsFlds w a c fs) :
    Calls Tryz.prog 50 #[.slice a fs.length c, .string (bs n), .string (bs v)] w fun e w' => ∃ u, e = .returned u ∧ w'.ownsRow w.heap.size 53 2 u (setF n v fs).length (cellsF (setF n v fs)) ∧ Below w.heap.size w w' := by
  obtain ⟨i0, hi, hz0, hz1, hz2⟩ := info_parts infoRef
  have HFF := Lib.hid hf
  have HOK := Lib.hid hok
  have HSET := Lib.hid (outR_set n v fs)
  have hnz : (bs n).size ≤ 4000000000 := by rw [bs_size]; exact hn
  have HOS := Lib.hid (fun j (h : j < fs.length) => outR_step (x := bs n) (g := (n, v)) h)
  have HOL := Lib.hid (outR_len (bs n) (n, v) fs)
  have HCG : Hid (cellsF [(n, v)] = [.string (bs n), .string (bs v)]) := rfl
  generalize hOR : outR (bs n) (n, v) = OR at *
  generalize hSF : setF n v fs = SF at *
  obtain ⟨XN, hXN⟩ : ∃ XN, XN = bs n := ⟨_, rfl⟩
  obtain ⟨XV, hXV⟩ : ∃ XV, XV = bs v := ⟨_, rfl⟩
  rw [← hXN] at HOS hnz
  rw [← hXN, ← hXV] at HCG ⊢
  have HO00 : Hid (OR (fs.take 0) = ([], false)) := by show _ = _; rw [← hOR]; rfl
  clear hf hok hOR hSF hXN hXV hn
  have L0 := Lib.hid (below_alloc w (.cells #[] 53))
  have O0 : Hid ((w.alloc (.cells #[] 53)).ownsRow w.heap.size 53 2 (.slice (some ⟨w.heap.size, 0, none⟩) 0 0) (OR (fs.take 0)).1.length (cellsF (OR (fs.take 0)).1)) := by
    rw [HO00.out]
    exact World.ownsRow_lit w #[] 0 (Nat.le_refl _) (by decide) (by simp)
  have HQ00 : Hid (false = (OR (fs.take 0)).2) := by rw [HO00.out]; rfl
  go_enter Tryz.func50, Tryz.ntmps50
  go_wp2_with fail
  go_loopw [7, 8, 14] (fun vv qv i wr => ∃ (j : Nat) (q : Bool), j ≤ fs.length ∧ i = .int .i64 (j : Int) ∧ qv = .bool q ∧ Hid (q = (OR (fs.take j)).2) ∧ Hid (wr.ownsRow w.heap.size 53 2 vv (OR (fs.take j)).1.length (cellsF (OR (fs.take j)).1)) ∧ Hid (Below w.heap.size w wr)) (fun _ _ i _ => fs.length - (intOf i).toNat)
  case atStart => exact ⟨0, false, Nat.zero_le _, rfl, rfl, HQ00, O0, L0⟩
  case round =>
    clear O0 L0 HQ00 HO00
    obtain ⟨j, q, hj, rfl, rfl, hq, ho, hb⟩ := hrel
    have hcl := HOL.out j hj
    by_cases hlt : j < fs.length
    · obtain h0 | ⟨bk, o, rfl, hbk, hc, hcell⟩ := HFF.out.below hb.out
      · subst h0; simp at hlt
      obtain ⟨c1, c2⟩ := hcell j fs[j] (by simp [hlt])
      have hst := HOS.out j hlt
      have hokj := HOK.out fs[j] (List.getElem_mem hlt)
      obtain ⟨p, hp⟩ : ∃ p, p = isB XN fs[j] := ⟨_, rfl⟩
      have HI := Lib.hid (fun W => is70 fs[j] XN hokj.1 hnz p hp W)
      unfold stepR at hst
      rw [← hp, ← hq.out] at hst
      have HNX := Lib.hid (Eq.refl (OR (fs.take (j + 1))))
      obtain ⟨cur, hcur⟩ : ∃ cur, cur = (OR (fs.take j)).1 := ⟨_, rfl⟩
      have HPR : Hid (OR (fs.take j) = (cur, q)) := Prod.ext hcur.symm hq.out.symm
      rw [← hcur] at ho hcl hst
      obtain ⟨f, hfe⟩ : ∃ f, f = fs[j] := ⟨_, rfl⟩
      rw [← hfe] at c1 c2 hst HI
      have HST := Lib.hid hst
      clear hcell hfe hp hst hokj hq hcur HNX
      have j1 : (j : Int) < fs.length := by omega
      have HCE : Hid (cellsF [f] = [.string (bs f.1), .string (bs f.2)]) := rfl
      generalize bs f.1 = N at *
      generalize bs f.2 = V at *
      have hgr := hb.out.size
      have hsz : (wr.alloc (.cells #[.string N, .string V] 53)).heap.size = wr.heap.size + 1 := World.size_alloc _ _
      have B1 := Lib.hid (hb.out.alloc hgr (.cells #[.string N, .string V] 53))
      have O1 := Lib.hid (ho.out.alloc (.cells #[.string N, .string V] 53))
      have d1 : (wr.alloc (.cells #[.string N, .string V] 53)).cell? ⟨wr.heap.size, 0, none⟩ = some (.string N) := by simp
      have d2 : (wr.alloc (.cells #[.string N, .string V] 53)).cell? ⟨wr.heap.size, 1, none⟩ = some (.string V) := by simp
      clear ho hb
      cases p
      · have hst2 := HST.out
        rw [if_neg (by simp)] at hst2
        have HS1 : Hid ((OR (fs.take (j + 1))).1 = cur ++ [f]) := by show _ = _; rw [hst2]
        have HS2 : Hid (q = (OR (fs.take (j + 1))).2) := by show _ = _; rw [hst2]
        clear hst2 HST
        go_wp2_with fail
        generalize World.alloc wr _ = wa at *
        refine (HI.out wa).mono ?_
        rintro e wb ⟨rfl, hbb⟩
        have hlta : wr.heap.size < wa.heap.size := by omega
        have e1 : wb.cell? ⟨wr.heap.size, 0, none⟩ = some (.string N) := by rw [(bcell hbb).1 _ _ hlta]; exact d1
        have e2 : wb.cell? ⟨wr.heap.size, 1, none⟩ = some (.string V) := by rw [(bcell hbb).1 _ _ hlta]; exact d2
        have B2 := Lib.hid (B1.out.trans (hbb.mono B1.out.size))
        have O2 := Lib.hid (own_below O1.out hbb)
        clear hbb B1 O1 d1 d2 c1 c2
        have HO2 : Hid ((wb.alloc (.cells #[.string N, .string V] 53)).ownsRow w.heap.size 53 2 _ cur.length (cellsF cur)) := O2.out.alloc _
        have hb2 : Hid (Below w.heap.size w (wb.alloc (.cells #[.string N, .string V] 53))) := B2.out.alloc B2.out.size _
        have HNW := Lib.hid (cells_new1 wb N V 53)
        have hbz := B2.out.size
        clear O2 B2
        obtain ⟨k, hk⟩ : ∃ k, k = cur.length := ⟨_, rfl⟩
        rw [← hk] at HO2 hcl
        have HKK := Lib.hid hk
        clear hk
        go_wp2_with (at_builtin; refine wpList_append_own _ rfl _ _ 22 rfl w.heap.size 53 i0 (.agg #[.string ⟨#[]⟩, .string ⟨#[]⟩]) 2 32 Tryz.underlying22 hi hz0 hz1 hz2 rfl (by decide) _ _ _ rfl HO2.out ⟨wb.heap.size, 0, none⟩ 1 1 [.string N, .string V] rfl rfl HNW.out (by intro u hu; simp at hu; rcases hu with rfl | rfl <;> rfl) (by unfold maxLen; omega) (by omega) (by simp; omega) ?_)
        intro v' w2 hown' hgrow _
        have hb3 : Hid (Below w.heap.size w w2) := hb2.out.grown hgrow hb2.out.size (fun k hk => (HO2.out.lt k hk).1)
        have hown2 : w2.ownsRow w.heap.size 53 2 v' (OR (fs.take (j + 1))).1.length (cellsF (OR (fs.take (j + 1))).1) := by
          rw [HS1.out, cellsF_append, HCE.out, List.length_append, List.length_singleton, ← HKK.out]
          exact hown'
        have HO3 := Lib.hid hown2
        clear hown' hown2 hgrow hb2 HO2 HNW
        go_wp2_with fail
        go_roundw
        case rel => exact ⟨j + 1, q, hlt, by go_num, rfl, HS2, HO3, hb3⟩
        case measure => simp [intOf]; omega
      · cases q
        · have hst2 := HST.out
          rw [if_pos rfl, if_neg (by simp)] at hst2
          have HS1 : Hid ((OR (fs.take (j + 1))).1 = cur ++ [(n, v)]) := by show _ = _; rw [hst2]
          have HS2 : Hid (true = (OR (fs.take (j + 1))).2) := by show _ = _; rw [hst2]
          clear hst2 HST
          go_wp2_with fail
          generalize World.alloc wr _ = wa at *
          refine (HI.out wa).mono ?_
          rintro e wb ⟨rfl, hbb⟩
          have B2 := Lib.hid (B1.out.trans (hbb.mono B1.out.size))
          have O2 := Lib.hid (own_below O1.out hbb)
          clear hbb B1 O1 d1 d2 c1 c2
          have HO2 : Hid ((wb.alloc (.cells #[.string XN, .string XV] 53)).ownsRow w.heap.size 53 2 _ cur.length (cellsF cur)) := O2.out.alloc _
          have hb2 : Hid (Below w.heap.size w (wb.alloc (.cells #[.string XN, .string XV] 53))) := B2.out.alloc B2.out.size _
          have HNW := Lib.hid (cells_new1 wb XN XV 53)
          have hbz := B2.out.size
          clear O2 B2
          obtain ⟨k, hk⟩ : ∃ k, k = cur.length := ⟨_, rfl⟩
          rw [← hk] at HO2 hcl
          have HKK := Lib.hid hk
          clear hk
          go_wp2_with (at_builtin; refine wpList_append_own _ rfl _ _ 22 rfl w.heap.size 53 i0 (.agg #[.string ⟨#[]⟩, .string ⟨#[]⟩]) 2 32 Tryz.underlying22 hi hz0 hz1 hz2 rfl (by decide) _ _ _ rfl HO2.out ⟨wb.heap.size, 0, none⟩ 1 1 [.string XN, .string XV] rfl rfl HNW.out (by intro u hu; simp at hu; rcases hu with rfl | rfl <;> rfl) (by unfold maxLen; omega) (by omega) (by simp; omega) ?_)
          intro v' w2 hown' hgrow _
          have hb3 : Hid (Below w.heap.size w w2) := hb2.out.grown hgrow hb2.out.size (fun k hk => (HO2.out.lt k hk).1)
          have hown2 : w2.ownsRow w.heap.size 53 2 v' (OR (fs.take (j + 1))).1.length (cellsF (OR (fs.take (j + 1))).1) := by
            rw [HS1.out, cellsF_append, HCG.out, List.length_append, List.length_singleton, ← HKK.out]
            exact hown'
          have HO3 := Lib.hid hown2
          clear hown' hown2 hgrow hb2 HO2 HNW
          go_wp2_with fail
          go_roundw
          case rel => exact ⟨j + 1, true, hlt, by go_num, rfl, HS2, HO3, hb3⟩
          case measure => simp [intOf]; omega
        · have hst2 := HST.out
          rw [if_pos rfl, if_pos rfl] at hst2
          have HS1 : Hid ((OR (fs.take (j + 1))).1 = cur) := by show _ = _; rw [hst2, HPR.out]
          have HS2 : Hid (true = (OR (fs.take (j + 1))).2) := by show _ = _; rw [hst2, HPR.out]
          clear hst2 HST
          go_wp2_with fail
          generalize World.alloc wr _ = wa at *
          refine (HI.out wa).mono ?_
          rintro e wb ⟨rfl, hbb⟩
          have B2 := Lib.hid (B1.out.trans (hbb.mono B1.out.size))
          have O2 := Lib.hid (own_below O1.out hbb)
          have ho2 := O2.out
          rw [← HS1.out] at ho2
          have HO3 := Lib.hid ho2
          clear hbb B1 O1 d1 d2 c1 c2 ho2 O2
          go_wp2_with fail
          go_roundw
          case rel => exact ⟨j + 1, true, hlt, by go_num, rfl, HS2, HO3, B2⟩
          case measure => simp [intOf]; omega
    · obtain rfl : j = fs.length := by omega
      have ho2 := ho.out
      have hq2 := hq.out
      have hset := HSET.out
      rw [List.take_of_length_le (Nat.le_refl _)] at ho2 hq2 hcl
      rw [← hq2] at hset
      generalize (OR fs).1 = cur at *
      have HO := Lib.hid ho2
      clear ho ho2 hq hq2
      have hbz := hb.out.size
      cases q
      · rw [if_neg (by simp)] at hset
        have HS := Lib.hid hset
        have HO2 : Hid ((wr.alloc (.cells #[.string XN, .string XV] 53)).ownsRow w.heap.size 53 2 _ cur.length (cellsF cur)) := HO.out.alloc _
        have hb2 : Hid (Below w.heap.size w (wr.alloc (.cells #[.string XN, .string XV] 53))) := hb.out.alloc hb.out.size _
        have HNW := Lib.hid (cells_new1 wr XN XV 53)
        clear HO hb hset
        obtain ⟨k, hk⟩ : ∃ k, k = cur.length := ⟨_, rfl⟩
        rw [← hk] at HO2 hcl
        have HKK := Lib.hid hk
        clear hk
        go_wp2_with (at_builtin; refine wpList_append_own _ rfl _ _ 22 rfl w.heap.size 53 i0 (.agg #[.string ⟨#[]⟩, .string ⟨#[]⟩]) 2 32 Tryz.underlying22 hi hz0 hz1 hz2 rfl (by decide) _ _ _ rfl HO2.out ⟨wr.heap.size, 0, none⟩ 1 1 [.string XN, .string XV] rfl rfl HNW.out (by intro u hu; simp at hu; rcases hu with rfl | rfl <;> rfl) (by unfold maxLen; omega) (by omega) (by simp; omega) ?_)
        intro v' w2 hown' hgrow _
        have hb3 : Hid (Below w.heap.size w w2) := hb2.out.grown hgrow hb2.out.size (fun k hk => (HO2.out.lt k hk).1)
        have hown2 : w2.ownsRow w.heap.size 53 2 v' SF.length (cellsF SF) := by
          rw [← HS.out, cellsF_append, HCG.out, List.length_append, List.length_singleton, ← HKK.out]
          exact hown'
        have HO3 := Lib.hid hown2
        clear hown' hown2 hgrow hb2 HO2 HNW
        go_wp2_with fail
        go_ret
        exact ⟨_, rfl, HO3.out, hb3.out⟩
      · rw [if_pos rfl] at hset
        subst hset
        go_wp2_with fail
        go_ret
        exact ⟨_, rfl, HO.out, hb.out⟩
end Go.Proofs.YtbbphklhnngjmaaGreatDoor

/- The reference's List. -/
namespace Go.Proofs.YtbbphklhnngjmaaGreatDoor
open Go.RowKit

theorem no_comma_step (s : ByteArray) (f i : Nat) (hf : f ≤ i) (hi : i < s.size) (h : (44 : UInt8) ∉ (s.data.toList.drop f).take (i - f)) (hc : s[i] ≠ 44) : (44 : UInt8) ∉ (s.data.toList.drop f).take (i + 1 - f) := by
  have e : i + 1 - f = (i - f) + 1 := by omega
  have hg : (s.data.toList.drop f)[i - f]? = some s[i] := by rw [List.getElem?_drop, show f + (i - f) = i by omega]; exact toList_get s i hi
  rw [e, List.take_add_one, hg, Option.toList_some, List.mem_append, not_or]
  exact ⟨h, by rw [List.mem_singleton]; exact fun e => hc e.symm⟩
theorem comma_cut (s : ByteArray) (f i : Nat) (hf : f ≤ i) (hi : i < s.size) (h : (44 : UInt8) ∉ (s.data.toList.drop f).take (i - f)) (hc : s[i] = 44) :
    parts 44 (s.data.toList.drop f) = (s.extract f i).data.toList :: parts 44 (s.data.toList.drop (i + 1)) := by
  have hg : (s.data.toList.drop f)[i - f]? = some s[i] := by rw [List.getElem?_drop, show f + (i - f) = i by omega]; exact toList_get s i hi
  have hlt := (List.getElem?_eq_some_iff.1 hg).1
  have e : s.data.toList.drop f = (s.data.toList.drop f).take (i - f) ++ 44 :: s.data.toList.drop (i + 1) := by
    have e2 : s.data.toList.drop (i + 1) = (s.data.toList.drop f).drop (i - f + 1) := by rw [List.drop_drop]; congr 1; omega
    rw [e2]
    have := List.drop_eq_getElem_cons hlt
    have e3 : (s.data.toList.drop f)[i - f] = 44 := by
      have := (List.getElem?_eq_some_iff.1 hg).2
      rw [this, hc]
    rw [← e3, ← this, List.take_append_drop]
  have h1 := congrArg (parts 44) e
  rw [parts_cut 44 _ _ h] at h1
  rw [h1, extractL]
theorem comma_end (s : ByteArray) (f : Nat) (hf : f ≤ s.size) (h : (44 : UInt8) ∉ (s.data.toList.drop f).take (s.size - f)) :
    parts 44 (s.data.toList.drop f) = [(s.extract f s.size).data.toList] := by
  have hz := Lib.size_eq s
  rw [List.take_of_length_le (by rw [List.length_drop]; omega)] at h
  rw [parts_one 44 _ h, extractL, List.take_of_length_le (by rw [List.length_drop]; omega)]
theorem one_str (T : ByteArray) : ∀ u ∈ [Value.string T], u.oneCell' = true := by intro u hu; simp at hu; subst hu; rfl
/-- Where the reference's inner loop stands. -/
def InPart (s : ByteArray) (f i : Nat) (pre : List (List UInt8)) : Prop :=
  (i ≤ s.size ∧ f ≤ i ∧ pre ++ parts 44 (s.data.toList.drop f) = parts 44 s.data.toList ∧ (44 : UInt8) ∉ (s.data.toList.drop f).take (i - f)) ∨ (i = s.size + 1 ∧ pre = parts 44 s.data.toList)
theorem inPart_zero (s : ByteArray) : InPart s 0 0 [] := .inl ⟨Nat.zero_le _, Nat.le_refl _, rfl, by simp⟩
theorem inPart_go {s : ByteArray} {f i : Nat} {pre : List (List UInt8)} (h : InPart s f i pre) (hi : i < s.size) (hc : s[i] ≠ 44) : InPart s f (i + 1) pre := by
  rcases h with ⟨h1, h2, h3, h4⟩ | ⟨h1, _⟩
  · exact .inl ⟨hi, by omega, h3, no_comma_step s f i h2 hi h4 hc⟩
  · omega
theorem inPart_cut {s : ByteArray} {f i : Nat} {pre : List (List UInt8)} (h : InPart s f i pre) (hi : i < s.size) (hc : s[i] = 44) : InPart s (i + 1) (i + 1) (pre ++ [(s.extract f i).data.toList]) := by
  rcases h with ⟨h1, h2, h3, h4⟩ | ⟨h1, _⟩
  · refine .inl ⟨hi, Nat.le_refl _, ?_, by simp⟩
    rw [List.append_assoc, List.singleton_append, ← comma_cut s f i h2 hi h4 hc, h3]
  · omega
theorem inPart_end {s : ByteArray} {f : Nat} {pre : List (List UInt8)} (h : InPart s f s.size pre) : InPart s (s.size + 1) (s.size + 1) (pre ++ [(s.extract f s.size).data.toList]) := by
  rcases h with ⟨h1, h2, h3, h4⟩ | ⟨h1, _⟩
  · refine .inr ⟨rfl, ?_⟩
    rw [← comma_end s f h2 h4, h3]
  · omega
theorem inPart_le {s : ByteArray} {f i : Nat} {pre : List (List UInt8)} (h : InPart s f i pre) (hi : i ≤ s.size) : f ≤ i := by
  rcases h with ⟨_, h2, _⟩ | ⟨h1, _⟩
  · exact h2
  · omega
theorem inPart_len {s : ByteArray} {f i : Nat} {pre : List (List UInt8)} (h : InPart s f i pre) : pre.length ≤ s.size + 1 := by
  have hl := parts_length 44 s.data.toList
  rw [← Lib.size_eq] at hl
  rcases h with ⟨_, _, h3, _⟩ | ⟨_, h2⟩
  · have := congrArg List.length h3
    rw [List.length_append] at this
    omega
  · rw [h2]; exact hl

set_option maxRecDepth 1000000 in
set_option maxHeartbeats 4000000 in
theorem list34 (a : Option Addr) (c : Nat) (xs : List ByteArray) (hsum : sumS xs ≤ 1000000000) (w : World) (hx : IsStrs w a c xs) :
    Calls Tryz.prog 110 #[.slice a xs.length c] w fun e w' => ∃ v, e = .returned v ∧ w'.ownsRow w.heap.size 9 1 v (listP xs).length (valsOf (listP xs)) ∧ Below w.heap.size w w' := by
  obtain ⟨i0, hi, hz0, hz1, hz2⟩ := info_parts infoStr
  have HX := Lib.hid hx
  clear hx
  have hlen := sum_len xs
  have L0 := below_alloc w (.cells #[] 9)
  have O0 : Hid ((w.alloc (.cells #[] 9)).ownsRow w.heap.size 9 1 (.slice (some ⟨w.heap.size, 0, none⟩) 0 0) (accL xs 0).length (valsOf (accL xs 0))) := World.ownsRow_lit w #[] 0 (Nat.le_refl _) (by decide) (by simp)
  go_enter Tryz.func110, Tryz.ntmps110
  go_wp2_with fail
  go_loopw [3, 12] (fun v i wr => ∃ j : Nat, j ≤ xs.length ∧ i = .int .i64 (j : Int) ∧ Hid (wr.ownsRow w.heap.size 9 1 v (accL xs j).length (valsOf (accL xs j))) ∧ Below w.heap.size w wr) (fun _ i _ => xs.length - (intOf i).toNat)
  case atStart => exact ⟨0, Nat.zero_le _, rfl, O0, L0⟩
  case round =>
    clear O0 L0
    obtain ⟨j, hj, rfl, hown, hb⟩ := hrel
    by_cases hlt : j < xs.length
    · obtain h0 | ⟨bk, o, rfl, hbk, hc, hcell⟩ := HX.out.below hb
      · subst h0; simp at hlt
      have cj := hcell j xs[j] (by simp [hlt])
      have hpart := sumS_part xs j hlt
      have hacc := accL_bound xs j
      have HSU := Lib.hid (accL_succ xs j hlt)
      clear hcell
      generalize xs[j] = s at cj hpart HSU
      have hss : s.size ≤ 1000000000 := by omega
      have HPB : Hid ((accL xs j).length + (s.size + 1) ≤ 1000000000) := by show _ ≤ _; omega
      clear hpart hacc
      go_wp2_with fail
      clear cj
      obtain ⟨wo, hwo⟩ : ∃ wo : World, wo = wr := ⟨_, rfl⟩
      rw [← hwo] at hown hb
      have hb0 : Below w.heap.size w wr := by rw [← hwo]; exact hb
      have hown0 : Hid (wr.ownsRow w.heap.size 9 1 u3 (accL xs j).length (valsOf (accL xs j))) := by rw [← hwo]; exact hown
      clear hown hb hwo
      have A0 : Hid (wr.ownsRow w.heap.size 9 1 u3 (accL xs j ++ keepP []).length (valsOf (accL xs j ++ keepP []))) := by rw [show keepP [] = [] from rfl, List.append_nil]; exact hown0
      have hz2' := hz2
      clear hz2
      go_loopw [3, 6, 7] (fun u3i vf vi wi => ∃ (f i : Nat) (pre : List (List UInt8)), i ≤ s.size + 1 ∧ vf = .int .i64 (f : Int) ∧ vi = .int .i64 (i : Int) ∧ Hid (InPart s f i pre) ∧ Hid (wi.ownsRow w.heap.size 9 1 u3i (accL xs j ++ keepP pre).length (valsOf (accL xs j ++ keepP pre))) ∧ Below w.heap.size w wi)
        (fun _ _ vi _ => s.size + 1 - (intOf vi).toNat)
      case atStart => exact ⟨0, 0, [], Nat.zero_le _, rfl, rfl, inPart_zero s, A0, hb0⟩
      case round =>
        clear A0 hown0 hb0
        obtain ⟨f, i, pre, hi1, rfl, rfl, hin, hown2, hb2⟩ := hrel
        by_cases hi2 : i < s.size
        · by_cases hq : s[i] = 44
          · have HN := Lib.hid (inPart_cut hin.out hi2 hq)
            have ht : ((s[i].toNat : Int) != 44) = false := by rw [hq]; rfl
            clear hq
            have hfi := inPart_le hin.out (by omega)
            have hpl := inPart_len hin.out
            have f0 : (0 : Int) ≤ f := by omega
            have f1 : (f : Int) ≤ i := by omega
            have f2 : (i : Int) ≤ s.size := by omega
            have HT := Lib.hid (fun W => trim24 (s.extract f i) (by rw [size_extract s f i (by omega)]; omega) W)
            have hkl : (accL xs j ++ keepP pre).length ≤ 1000000000 := by
              have h1 := HPB.out
              have h2 := keepP_length pre
              rw [List.length_append]
              omega
            have hz2 := hb2.size
            clear hin hpl hfi
            go_wp2_with fail
            refine (HT.out _).mono ?_
            rintro e w' ⟨rfl, rfl⟩
            clear HT
            generalize (s.extract f i).data.toList = y at HN ⊢
            by_cases hemp : trimB y = []
            · have hks : keepP (pre ++ [y]) = keepP pre := by rw [keepP_snoc, hemp]; simp
              have HO : Hid (wr.ownsRow w.heap.size 9 1 u3 (accL xs j ++ keepP (pre ++ [y])).length (valsOf (accL xs j ++ keepP (pre ++ [y])))) := by rw [hks]; exact hown2
              have he1 : (⟨(trimB y).toArray⟩ : ByteArray).toList = [] := by rw [hemp, ByteArray.toList_eq]
              obtain ⟨T, hT⟩ : ∃ T : ByteArray, T = ⟨(trimB y).toArray⟩ := ⟨_, rfl⟩
              rw [← hT] at he1 ⊢
              clear hT hks hemp hown2
              go_wp2_with fail
              go_roundw
              case rel => exact ⟨i + 1, i + 1, pre ++ [y], by omega, by go_num, by go_num, HN, HO, hb2⟩
              case measure => simp [intOf]; omega
            · have hks : keepP (pre ++ [y]) = keepP pre ++ [trimB y] := by rw [keepP_snoc, if_neg (by simpa using hemp)]
              have he1 : (⟨(trimB y).toArray⟩ : ByteArray).toList.isEmpty = false := by
                rw [ByteArray.toList_eq]
                cases h : trimB y with
                | nil => exact absurd h hemp
                | cons a r => rfl
              have hvv : valsOf (accL xs j ++ keepP pre) ++ [Value.string ⟨(trimB y).toArray⟩] = valsOf (accL xs j ++ keepP (pre ++ [y])) := by
                rw [hks]; unfold valsOf; simp
              have hll : (accL xs j ++ keepP pre).length + 1 = (accL xs j ++ keepP (pre ++ [y])).length := by rw [hks]; simp; omega
              have HVV := Lib.hid hvv
              have HLL := Lib.hid hll
              obtain ⟨T, hT⟩ : ∃ T : ByteArray, T = ⟨(trimB y).toArray⟩ := ⟨_, rfl⟩
              rw [← hT] at he1 HVV ⊢
              have hrow := hown2.out
              obtain ⟨k, hk⟩ : ∃ k, k = (accL xs j ++ keepP pre).length := ⟨_, rfl⟩
              rw [← hk] at hrow hkl HLL
              clear hT hks hemp hvv hll hk hown2
              go_wp2_with (at_builtin; refine wpList_append_own _ rfl _ _ 88 rfl w.heap.size 9 i0 (.string ⟨#[]⟩) 1 16 Tryz.underlying88 hi hz0 hz1 hz2' rfl (by decide) _ _ _ rfl (hrow.alloc _) ⟨wr.heap.size, 0, none⟩ 1 1 [.string T] rfl rfl (cell_one_new _ _ _) (one_str T) (by unfold maxLen; omega) (by omega) (by simp; omega) ?_)
              intro v2 w1 hown' hgrow _
              have hb3 : Below w.heap.size w w1 := (hb2.alloc hz2 _).grown hgrow (by simp; omega) (fun q hq => (hrow.lt q hq).1)
              have HO : Hid (w1.ownsRow w.heap.size 9 1 v2 (accL xs j ++ keepP (pre ++ [y])).length (valsOf (accL xs j ++ keepP (pre ++ [y])))) := by
                show w1.ownsRow _ _ _ _ _ _
                rw [← HVV.out, ← HLL.out]
                exact hown'
              clear hown' hgrow hrow
              go_wp2_with fail
              go_roundw
              case rel => exact ⟨i + 1, i + 1, pre ++ [y], by omega, by go_num, by go_num, HN, HO, hb3⟩
              case measure => simp [intOf]; omega
          · have HN := Lib.hid (inPart_go hin.out hi2 hq)
            have ht : ((s[i].toNat : Int) != 44) = true := by
              rw [bne, show (44 : Int) = ((44 : UInt8).toNat : Int) from rfl, byte_eq]
              simp [hq]
            clear hq
            go_wp2_with fail
            go_roundw
            case rel => exact ⟨f, i + 1, pre, by omega, rfl, by go_num, HN, hown2, hb2⟩
            case measure => simp [intOf]; omega
        · by_cases hi3 : i = s.size
          · have HN : Hid (InPart s (i + 1) (i + 1) (pre ++ [(s.extract f i).data.toList])) := by
              show InPart _ _ _ _
              have h := hin.out
              rw [hi3] at h ⊢
              exact inPart_end h
            have hle : i ≤ s.size := by omega
            clear hi3
            have hfi := inPart_le hin.out (by omega)
            have hpl := inPart_len hin.out
            have f0 : (0 : Int) ≤ f := by omega
            have f1 : (f : Int) ≤ i := by omega
            have f2 : (i : Int) ≤ s.size := by omega
            have HT := Lib.hid (fun W => trim24 (s.extract f i) (by rw [size_extract s f i (by omega)]; omega) W)
            have hkl : (accL xs j ++ keepP pre).length ≤ 1000000000 := by
              have h1 := HPB.out
              have h2 := keepP_length pre
              rw [List.length_append]
              omega
            have hz2 := hb2.size
            clear hin hpl hfi
            go_wp2_with fail
            refine (HT.out _).mono ?_
            rintro e w' ⟨rfl, rfl⟩
            clear HT
            generalize (s.extract f i).data.toList = y at HN ⊢
            by_cases hemp : trimB y = []
            · have hks : keepP (pre ++ [y]) = keepP pre := by rw [keepP_snoc, hemp]; simp
              have HO : Hid (wr.ownsRow w.heap.size 9 1 u3 (accL xs j ++ keepP (pre ++ [y])).length (valsOf (accL xs j ++ keepP (pre ++ [y])))) := by rw [hks]; exact hown2
              have he1 : (⟨(trimB y).toArray⟩ : ByteArray).toList = [] := by rw [hemp, ByteArray.toList_eq]
              obtain ⟨T, hT⟩ : ∃ T : ByteArray, T = ⟨(trimB y).toArray⟩ := ⟨_, rfl⟩
              rw [← hT] at he1 ⊢
              clear hT hks hemp hown2
              go_wp2_with fail
              go_roundw
              case rel => exact ⟨i + 1, i + 1, pre ++ [y], by omega, by go_num, by go_num, HN, HO, hb2⟩
              case measure => simp [intOf]; omega
            · have hks : keepP (pre ++ [y]) = keepP pre ++ [trimB y] := by rw [keepP_snoc, if_neg (by simpa using hemp)]
              have he1 : (⟨(trimB y).toArray⟩ : ByteArray).toList.isEmpty = false := by
                rw [ByteArray.toList_eq]
                cases h : trimB y with
                | nil => exact absurd h hemp
                | cons a r => rfl
              have hvv : valsOf (accL xs j ++ keepP pre) ++ [Value.string ⟨(trimB y).toArray⟩] = valsOf (accL xs j ++ keepP (pre ++ [y])) := by
                rw [hks]; unfold valsOf; simp
              have hll : (accL xs j ++ keepP pre).length + 1 = (accL xs j ++ keepP (pre ++ [y])).length := by rw [hks]; simp; omega
              have HVV := Lib.hid hvv
              have HLL := Lib.hid hll
              obtain ⟨T, hT⟩ : ∃ T : ByteArray, T = ⟨(trimB y).toArray⟩ := ⟨_, rfl⟩
              rw [← hT] at he1 HVV ⊢
              have hrow := hown2.out
              obtain ⟨k, hk⟩ : ∃ k, k = (accL xs j ++ keepP pre).length := ⟨_, rfl⟩
              rw [← hk] at hrow hkl HLL
              clear hT hks hemp hvv hll hk hown2
              go_wp2_with (at_builtin; refine wpList_append_own _ rfl _ _ 88 rfl w.heap.size 9 i0 (.string ⟨#[]⟩) 1 16 Tryz.underlying88 hi hz0 hz1 hz2' rfl (by decide) _ _ _ rfl (hrow.alloc _) ⟨wr.heap.size, 0, none⟩ 1 1 [.string T] rfl rfl (cell_one_new _ _ _) (one_str T) (by unfold maxLen; omega) (by omega) (by simp; omega) ?_)
              intro v2 w1 hown' hgrow _
              have hb3 : Below w.heap.size w w1 := (hb2.alloc hz2 _).grown hgrow (by simp; omega) (fun q hq => (hrow.lt q hq).1)
              have HO : Hid (w1.ownsRow w.heap.size 9 1 v2 (accL xs j ++ keepP (pre ++ [y])).length (valsOf (accL xs j ++ keepP (pre ++ [y])))) := by
                show w1.ownsRow _ _ _ _ _ _
                rw [← HVV.out, ← HLL.out]
                exact hown'
              clear hown' hgrow hrow
              go_wp2_with fail
              go_roundw
              case rel => exact ⟨i + 1, i + 1, pre ++ [y], by omega, by go_num, by go_num, HN, HO, hb3⟩
              case measure => simp [intOf]; omega
          · have hp : Hid (pre = parts 44 s.data.toList) := by
              rcases hin.out with ⟨h1, _⟩ | ⟨_, h2⟩
              · omega
              · exact h2
            have HO : Hid (wr.ownsRow w.heap.size 9 1 u3 (accL xs (j + 1)).length (valsOf (accL xs (j + 1)))) := by
              show wr.ownsRow _ _ _ _ _ _
              rw [HSU.out, ← hp.out]
              exact hown2
            have hgt : ¬ (i : Int) ≤ s.size := by omega
            clear hin hown2 hp
            go_wp2_with fail
            go_roundw
            case rel => exact ⟨j + 1, hlt, by go_num, HO, hb2⟩
            case measure => simp [intOf]; omega
    · obtain rfl : j = xs.length := by omega
      go_wp2_with fail
      go_ret
      exact ⟨_, rfl, hown.out, hb⟩
end Go.Proofs.YtbbphklhnngjmaaGreatDoor

/- The walk of the statement FieldsDrops. -/
namespace Go.Proofs.YtbbphklhnngjmaaGreatDoor
open Go.RowKit

theorem isB_has (x : ByteArray) (r : List ByteArray) (f : Fld) : hasB (x :: r) f = (isB x f || hasB r f) := by
  unfold hasB isB
  rw [List.any_cons]
  congr 1
  exact decide_eq_decide.2 ⟨fun h => h.symm, fun h => h.symm⟩
theorem drops_all : ∀ (ns : List ByteArray) (fs : List Fld), ns.foldl (fun w x => dropR x w) fs = dropL ns fs
  | [], fs => by
    unfold dropL
    exact (List.filter_eq_self.2 (fun _ _ => rfl)).symm
  | x :: r, fs => by
    rw [List.foldl_cons, drops_all r]
    unfold dropL dropR
    rw [List.filter_filter]
    congr 1
    funext f
    rw [isB_has, Bool.not_or, Bool.and_comm]
def curF (ns : List ByteArray) (fs : List Fld) (j : Nat) : List Fld := (ns.take j).foldl (fun w x => dropR x w) fs
theorem curF_step {ns : List ByteArray} {fs : List Fld} {j : Nat} (hj : j < ns.length) : curF ns fs (j + 1) = dropR ns[j] (curF ns fs j) := by
  unfold curF
  rw [List.take_add_one, List.getElem?_eq_getElem hj, Option.toList_some, List.foldl_append]
  rfl
theorem fewF_ok (fs : List Fld) (n : Nat) : ∀ f ∈ fewF fs n, FldOk f := by
  intro f hf
  unfold fewF at hf
  obtain ⟨g, _, rfl⟩ := List.mem_map.1 hf
  exact ⟨by simp; omega, by simp; omega⟩
theorem dropR_mem {x : ByteArray} {fs : List Fld} {f : Fld} (h : f ∈ dropR x fs) : f ∈ fs := (List.mem_filter.1 h).1
theorem fewS_mem {xs : List ByteArray} {n m : Nat} {x : ByteArray} (h : x ∈ fewS xs n m) : x.size ≤ m := by
  unfold fewS at h
  obtain ⟨y, _, rfl⟩ := List.mem_map.1 h
  exact cutS_size y m
theorem fewS_len (xs : List ByteArray) (n m : Nat) : (fewS xs n m).length ≤ n := by
  unfold fewS
  simp
  omega
theorem drop54s (a : Option Addr) (c : Nat) (fs : List Fld) (x : ByteArray) (hfl : fs.length ≤ 1000000) (hok : ∀ f ∈ fs, FldOk f) (hx : x.size ≤ 4000000000) (gs : List Fld) (hg : gs = dropR x fs) (w : World) (hf : IsFlds w a c fs) :
    Calls Tryz.prog 20 #[.slice a fs.length c, .string x] w fun e w' => ∃ b d, e = .returned (.slice b gs.length d) ∧ IsFlds w' b d gs ∧ Below w.heap.size w w' := by
  subst hg
  refine (drop54 a c fs x hfl hok hx w hf).mono ?_
  rintro e w' ⟨u, rfl, ho, hb⟩
  obtain ⟨b, d, rfl, _, h2⟩ := own_isFldsT ho
  exact ⟨b, d, rfl, h2, hb⟩
theorem own40n (a : Option Addr) (c : Nat) (fs : List Fld) (hfl : fs.length ≤ 1000000) (w : World) (hf : IsFlds w a c fs) :
    Calls Tryz.prog 36 #[.slice a fs.length c] w fun e w' => ∃ b d, e = .returned (.slice b fs.length d) ∧ (b = none → d = 0 ∧ fs = []) ∧ IsFlds w' b d fs ∧ Below w.heap.size w w' := by
  refine (own40 a c fs hfl w hf).mono ?_
  rintro e w' ⟨u, rfl, ho, hb⟩
  obtain ⟨b, d, rfl, h1, h2⟩ := own_isFldsT ho
  exact ⟨b, d, rfl, h1, h2, hb⟩
end Go.Proofs.YtbbphklhnngjmaaGreatDoor

