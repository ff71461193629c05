/- Packed: RwC, RwH, RwI. -/
import Derived.Test.YtbbphklhnngjmaaGreatDoorS05
import Derived.Test.YtbbphklhnngjmaaGreatDoorS07
import Derived.Test.YtbbphklhnngjmaaGreatDoorS09
import Derived.Test.YtbbphklhnngjmaaGreatDoorS11
import Derived.Test.YtbbphklhnngjmaaGreatDoorS13
import Derived.Test.YtbbphklhnngjmaaGreatDoorS18
/- rewrite: the reference's Hop, Hops. -/
namespace Go.Proofs.YtbbphklhnngjmaaGreatDoor
open Go.RowKit

def nineB : List ByteArray := nineR.map bs
theorem nine_strs (w : World) (T : TypeId) : IsStrs (w.alloc (.cells #[.string ⟨#[99, 111, 110, 110, 101, 99, 116, 105, 111, 110]⟩, .string ⟨#[107, 101, 101, 112, 45, 97, 108, 105, 118, 101]⟩, .string ⟨#[112, 114, 111, 120, 121, 45, 99, 111, 110, 110, 101, 99, 116, 105, 111, 110]⟩, .string ⟨#[112, 114, 111, 120, 121, 45, 97, 117, 116, 104, 101, 110, 116, 105, 99, 97, 116, 101]⟩, .string ⟨#[112, 114, 111, 120, 121, 45, 97, 117, 116, 104, 111, 114, 105, 122, 97, 116, 105, 111, 110]⟩, .string ⟨#[116, 101]⟩, .string ⟨#[116, 114, 97, 105, 108, 101, 114]⟩, .string ⟨#[116, 114, 97, 110, 115, 102, 101, 114, 45, 101, 110, 99, 111, 100, 105, 110, 103]⟩, .string ⟨#[117, 112, 103, 114, 97, 100, 101]⟩] T)) (some ⟨w.heap.size, 0, none⟩) 9 nineB := by
  have hr := Row.new w T #[.string ⟨#[99, 111, 110, 110, 101, 99, 116, 105, 111, 110]⟩, .string ⟨#[107, 101, 101, 112, 45, 97, 108, 105, 118, 101]⟩, .string ⟨#[112, 114, 111, 120, 121, 45, 99, 111, 110, 110, 101, 99, 116, 105, 111, 110]⟩, .string ⟨#[112, 114, 111, 120, 121, 45, 97, 117, 116, 104, 101, 110, 116, 105, 99, 97, 116, 101]⟩, .string ⟨#[112, 114, 111, 120, 121, 45, 97, 117, 116, 104, 111, 114, 105, 122, 97, 116, 105, 111, 110]⟩, .string ⟨#[116, 101]⟩, .string ⟨#[116, 114, 97, 105, 108, 101, 114]⟩, .string ⟨#[116, 114, 97, 110, 115, 102, 101, 114, 45, 101, 110, 99, 111, 100, 105, 110, 103]⟩, .string ⟨#[117, 112, 103, 114, 97, 100, 101]⟩]
  refine .inr ⟨w.heap.size, 0, rfl, by simp, by decide, fun j y hy => ?_⟩
  have e : #[.string ⟨#[99, 111, 110, 110, 101, 99, 116, 105, 111, 110]⟩, .string ⟨#[107, 101, 101, 112, 45, 97, 108, 105, 118, 101]⟩, .string ⟨#[112, 114, 111, 120, 121, 45, 99, 111, 110, 110, 101, 99, 116, 105, 111, 110]⟩, .string ⟨#[112, 114, 111, 120, 121, 45, 97, 117, 116, 104, 101, 110, 116, 105, 99, 97, 116, 101]⟩, .string ⟨#[112, 114, 111, 120, 121, 45, 97, 117, 116, 104, 111, 114, 105, 122, 97, 116, 105, 111, 110]⟩, .string ⟨#[116, 101]⟩, .string ⟨#[116, 114, 97, 105, 108, 101, 114]⟩, .string ⟨#[116, 114, 97, 110, 115, 102, 101, 114, 45, 101, 110, 99, 111, 100, 105, 110, 103]⟩, .string ⟨#[117, 112, 103, 114, 97, 100, 101]⟩] = (nineB.map Value.string).toArray := rfl
  rw [Nat.zero_add, hr.cell j, e, List.getElem?_toArray, List.getElem?_map, hy]
  rfl
def nineA (n : List UInt8) (j : Nat) : Bool := (nineR.take j).any fun h => decide (n = h)
def tokB1 (n : List UInt8) (t : ByteArray) : Bool := decide (n = t.data.toList ∧ t.data.toList ≠ hostB.data.toList.map lowC ∧ t.data.toList ≠ clenB.data.toList.map lowC)
def tokA (n : List UInt8) (toks : List ByteArray) (j : Nat) : Bool := (toks.take j).any fun t => tokB1 n t
theorem hopR_split (n : List UInt8) (toks : List ByteArray) : hopR n toks = (nineA (n.map lowC) 9 || tokA (n.map lowC) toks toks.length) := by
  unfold hopR nineA tokA
  rw [List.take_of_length_le (Nat.le_refl _), List.take_of_length_le (by decide)]
  rfl
theorem any_step {α : Type} {p : α → Bool} {l : List α} {j : Nat} (hj : j < l.length) : (l.take (j + 1)).any p = ((l.take j).any p || p l[j]) := by
  rw [List.take_add_one, List.getElem?_eq_getElem hj, Option.toList_some, List.any_append]
  simp
theorem any_yes {α : Type} {p : α → Bool} {l : List α} {j : Nat} (hj : j < l.length) (h : p l[j] = true) : l.any p = true := List.any_eq_true.2 ⟨l[j], List.getElem_mem hj, h⟩
theorem str_eqd (a b : ByteArray) : (a.toList == b.toList) = decide (a.data.toList = b.data.toList) := by
  have := bs_beq a.data.toList b.data.toList
  rwa [bs_of, bs_of] at this
set_option maxRecDepth 100000 in
set_option maxHeartbeats 4000000 in
theorem hop85 (n : List UInt8) (hn : n.length ≤ 1000000000) (b : Option Addr) (d : Nat) (toks : List ByteArray) (htl : toks.length ≤ 1000000000) (R : Bool) (hR : R = hopR n toks) (w : World) (hx : IsStrs w b d toks) :
    Calls Tryz.prog 85 #[.string (bs n), .slice b toks.length d] w fun e w' => e = .returned (.bool R) ∧ Below w.heap.size w w' := by
  rw [hopR_split] at hR
  have HL := Lib.hid (fun W => lowR n hn W)
  generalize n.map lowC = m at *
  have HR := Lib.hid hR
  have HX := Lib.hid hx
  obtain ⟨N, hN⟩ : ∃ N, N = bs m := ⟨_, rfl⟩
  rw [← hN] at HL
  have HNN : Hid (∀ a : ByteArray, (N.toList == a.toList) = decide (m = a.data.toList)) := fun a => by rw [hN]; exact str_eqd (bs m) a
  clear hR hx hN
  generalize bs n = B0 at *
  go_enter Tryz.func85, Tryz.ntmps85
  go_wp2_with fail
  refine (HL.out w).mono ?_
  rintro e w1 ⟨rfl, hb1⟩
  have L0 := Lib.hid (hb1.trans ((below_alloc w1 (.cells #[.string ⟨#[99, 111, 110, 110, 101, 99, 116, 105, 111, 110]⟩, .string ⟨#[107, 101, 101, 112, 45, 97, 108, 105, 118, 101]⟩, .string ⟨#[112, 114, 111, 120, 121, 45, 99, 111, 110, 110, 101, 99, 116, 105, 111, 110]⟩, .string ⟨#[112, 114, 111, 120, 121, 45, 97, 117, 116, 104, 101, 110, 116, 105, 99, 97, 116, 101]⟩, .string ⟨#[112, 114, 111, 120, 121, 45, 97, 117, 116, 104, 111, 114, 105, 122, 97, 116, 105, 111, 110]⟩, .string ⟨#[116, 101]⟩, .string ⟨#[116, 114, 97, 105, 108, 101, 114]⟩, .string ⟨#[116, 114, 97, 110, 115, 102, 101, 114, 45, 101, 110, 99, 111, 100, 105, 110, 103]⟩, .string ⟨#[117, 112, 103, 114, 97, 100, 101]⟩] 9)).mono hb1.size))
  have N0 := Lib.hid (nine_strs w1 9)
  have hnl : nineB.length = 9 := rfl
  have HX0 := Lib.hid (HX.out.below L0.out)
  clear hb1 HL HX
  go_wp2_with fail
  generalize World.alloc w1 _ = w2 at *
  go_loopw [14] (fun i wr => ∃ j : Nat, j ≤ 9 ∧ i = .int .i64 (j : Int) ∧ Hid (nineA m j = false) ∧ w2 = wr) (fun i _ => 9 - (intOf i).toNat)
  case atStart => exact ⟨0, Nat.zero_le _, rfl, rfl, rfl⟩
  case round =>
    obtain ⟨j, hj, rfl, hno, rfl⟩ := hrel
    by_cases hlt : j < 9
    · obtain h0 | ⟨bk, o, hbo, hbk, hc, hcell⟩ := N0.out
      · rw [h0] at hnl; simp at hnl
      injection hbo with hbo
      injection hbo with e1 e2
      subst e1 e2
      have c1 := hcell j nineB[j] (List.getElem?_eq_getElem (by omega))
      have hst : nineA m (j + 1) = (nineA m j || decide (m = nineB[j].data.toList)) := by
        unfold nineA
        rw [any_step (show j < nineR.length from hlt)]
        congr 2
        simp [nineB, bs]
      rw [hno.out, Bool.false_or] at hst
      have hcm := HNN.out nineB[j]
      obtain ⟨q, hq⟩ : ∃ q, q = decide (m = nineB[j].data.toList) := ⟨_, rfl⟩
      rw [← hq] at hst hcm
      have HT : Hid (q = true → R = true) := fun e => by
        rw [HR.out]
        have : nineA m 9 = true := by
          unfold nineA
          rw [List.take_of_length_le (by decide)]
          refine any_yes (show j < nineR.length from hlt) ?_
          rw [← e, hq]
          simp [nineB, bs]
        rw [this]; rfl
      obtain ⟨x, hxe⟩ : ∃ x, x = nineB[j] := ⟨_, rfl⟩
      rw [← hxe] at c1 hcm
      rw [Nat.zero_add] at c1
      have HST := Lib.hid hst
      clear hcell hq hxe hst hno
      have j1 : (j : Int) < 9 := by omega
      cases q
      · go_wp2_with fail
        go_roundw
        case rel => exact ⟨j + 1, hlt, by go_num, HST, trivial⟩
        case measure => simp [intOf]; omega
      · go_wp2_with fail
        go_ret
        exact ⟨by rw [HT.out trivial]; rfl, L0.out⟩
    · obtain rfl : j = 9 := by omega
      rw [hno.out, Bool.false_or] at HR
      have HR2 := Lib.hid HR.out
      clear N0 hno HR hlt hj
      go_wp2_with fail
      go_loopw [24] (fun i wr => ∃ j : Nat, j ≤ toks.length ∧ i = .int .i64 (j : Int) ∧ Hid (tokA m toks j = false) ∧ w2 = wr) (fun i _ => toks.length - (intOf i).toNat)
      case atStart => exact ⟨0, Nat.zero_le _, rfl, rfl, rfl⟩
      case round =>
        obtain ⟨j, hj, rfl, hno, rfl⟩ := hrel
        by_cases hlt : j < toks.length
        · obtain h0 | ⟨bk, o, rfl, hbk, hc, hcell⟩ := HX0.out
          · subst h0; simp at hlt
          have c1 := hcell j toks[j] (by simp [hlt])
          have hst : tokA m toks (j + 1) = (tokA m toks j || tokB1 m toks[j]) := by
            unfold tokA
            exact any_step hlt
          rw [hno.out, Bool.false_or] at hst
          have hcm := HNN.out toks[j]
          have hc2 : (toks[j].toList == [104, 111, 115, 116]) = decide (toks[j].data.toList = [104, 111, 115, 116]) := by have := str_eqd toks[j] ⟨#[104, 111, 115, 116]⟩; rwa [show (⟨#[104, 111, 115, 116]⟩ : ByteArray).toList = [104, 111, 115, 116] from by rw [ByteArray.toList_eq]] at this
          have hc3 : (toks[j].toList == [99, 111, 110, 116, 101, 110, 116, 45, 108, 101, 110, 103, 116, 104]) = decide (toks[j].data.toList = [99, 111, 110, 116, 101, 110, 116, 45, 108, 101, 110, 103, 116, 104]) := by have := str_eqd toks[j] ⟨#[99, 111, 110, 116, 101, 110, 116, 45, 108, 101, 110, 103, 116, 104]⟩; rwa [show (⟨#[99, 111, 110, 116, 101, 110, 116, 45, 108, 101, 110, 103, 116, 104]⟩ : ByteArray).toList = [99, 111, 110, 116, 101, 110, 116, 45, 108, 101, 110, 103, 116, 104] from by rw [ByteArray.toList_eq]] at this
          have hcase : (decide (m = toks[j].data.toList) = false ∧ tokB1 m toks[j] = false) ∨ (decide (m = toks[j].data.toList) = true ∧ decide (toks[j].data.toList = [104, 111, 115, 116]) = true ∧ tokB1 m toks[j] = false) ∨ (decide (m = toks[j].data.toList) = true ∧ decide (toks[j].data.toList = [104, 111, 115, 116]) = false ∧ decide (toks[j].data.toList = [99, 111, 110, 116, 101, 110, 116, 45, 108, 101, 110, 103, 116, 104]) = true ∧ tokB1 m toks[j] = false) ∨ (decide (m = toks[j].data.toList) = true ∧ decide (toks[j].data.toList = [104, 111, 115, 116]) = false ∧ decide (toks[j].data.toList = [99, 111, 110, 116, 101, 110, 116, 45, 108, 101, 110, 103, 116, 104]) = false ∧ tokB1 m toks[j] = true) := by
            unfold tokB1
            rw [show hostB.data.toList.map lowC = [104, 111, 115, 116] from by decide +kernel, show clenB.data.toList.map lowC = [99, 111, 110, 116, 101, 110, 116, 45, 108, 101, 110, 103, 116, 104] from by decide +kernel]
            by_cases h1 : m = toks[j].data.toList
            · by_cases h2 : toks[j].data.toList = [104, 111, 115, 116]
              · simp [h1, h2]
              · by_cases h3 : toks[j].data.toList = [99, 111, 110, 116, 101, 110, 116, 45, 108, 101, 110, 103, 116, 104]
                · simp [h1, h3]
                · simp [h1, h2, h3]
            · simp [h1]
          have HT : Hid (tokB1 m toks[j] = true → R = true) := fun e => by
            rw [HR2.out]
            unfold tokA
            rw [List.take_of_length_le (Nat.le_refl _)]
            exact any_yes hlt e
          generalize decide (m = toks[j].data.toList) = q1 at *
          generalize decide (toks[j].data.toList = [104, 111, 115, 116]) = q2 at *
          generalize decide (toks[j].data.toList = [99, 111, 110, 116, 101, 110, 116, 45, 108, 101, 110, 103, 116, 104]) = q3 at *
          generalize tokB1 m toks[j] = q4 at *
          generalize toks[j] = x at *
          have HST := Lib.hid hst
          clear hcell hst hno
          have j1 : (j : Int) < toks.length := by omega
          rcases hcase with ⟨rfl, rfl⟩ | ⟨rfl, rfl, rfl⟩ | ⟨rfl, rfl, rfl, rfl⟩ | ⟨rfl, rfl, rfl, rfl⟩
          · go_wp2_with fail
            go_roundw
            case rel => exact ⟨j + 1, hlt, by go_num, HST, trivial⟩
            case measure => simp [intOf]; omega
          · go_wp2_with fail
            go_roundw
            case rel => exact ⟨j + 1, hlt, by go_num, HST, trivial⟩
            case measure => simp [intOf]; omega
          · go_wp2_with fail
            go_roundw
            case rel => exact ⟨j + 1, hlt, by go_num, HST, trivial⟩
            case measure => simp [intOf]; omega
          · go_wp2_with fail
            go_ret
            exact ⟨by rw [HT.out trivial]; rfl, L0.out⟩
        · obtain rfl : j = toks.length := by omega
          rw [hno.out] at HR2
          have HR3 := Lib.hid HR2.out
          clear hno HR2
          go_wp2_with fail
          go_ret
          exact ⟨by rw [HR3.out]; rfl, L0.out⟩
theorem hopsR_keep {ts : List ByteArray} {fs : List Fld} {j : Nat} (hj : j < fs.length) : hopsR ts (fs.take (j + 1)) = hopsR ts (fs.take j) ++ if hopR fs[j].1 ts = true then [] else [fs[j]] := by
  unfold hopsR
  rw [List.take_add_one, List.getElem?_eq_getElem hj, Option.toList_some, List.filter_append]
  congr 1
  cases h : hopR fs[j].1 ts <;> simp [h]
theorem hopsR_len (ts : List ByteArray) (fs : List Fld) : (hopsR ts fs).length ≤ fs.length := List.length_filter_le _ _
theorem hopsR_mem {ts : List ByteArray} {fs : List Fld} {f : Fld} (h : f ∈ hopsR ts fs) : f ∈ fs := (List.mem_filter.1 h).1
theorem hopsR_sub (ts : List ByteArray) (fs : List Fld) : (hopsR ts fs).Sublist fs := List.filter_sublist
theorem len_take_le {α : Type} (l : List α) (j : Nat) : (l.take j).length ≤ j := by rw [List.length_take]; omega
set_option maxHeartbeats 4000000 in
set_option maxRecDepth 100000 in
/-- The reference's Hops. -/
theorem rhops48 (a : Option Addr) (c : Nat) (fs : List Fld) (hfl : fs.length ≤ 1000000) (hok : ∀ f ∈ fs, FldOk f) (hn1 : ∀ f ∈ fs, f.1.length ≤ 1000000000) (hsum : sumS (allB connB fs) ≤ 900000000) (ts : List ByteArray) (hts : ts = bsOf (tokF connB fs)) (w : World) (hf : IsFlds w a c fs) :
    Calls Tryz.prog 48 #[.slice a fs.length c] w fun e w' => ∃ u, e = .returned u ∧ w'.ownsRow w.heap.size 53 2 u (hopsR ts fs).length (cellsF (hopsR ts fs)) ∧ Below w.heap.size w w' := by
  obtain ⟨i0, hi, hz0, hz1, hz2⟩ := info_parts infoRef
  have HFF := Lib.hid hf
  have HN1 := Lib.hid hn1
  have hcase : tokF ⟨#[99, 111, 110, 110, 101, 99, 116, 105, 111, 110]⟩ fs = tokF connB fs := tok_case (by decide +kernel) fs
  have hall : allB ⟨#[99, 111, 110, 110, 101, 99, 116, 105, 111, 110]⟩ fs = allB connB fs := allB_caseW (by decide +kernel) fs
  have HTK := Lib.hid (rtokens53s a c fs ⟨#[99, 111, 110, 110, 101, 99, 116, 105, 111, 110]⟩ hfl hok (by decide) (by rw [hall]; omega) w hf)
  rw [hcase, ← hts] at HTK
  have HTL : ts.length ≤ 1000000000 := by rw [hts]; have := tokF_len connB fs; omega
  clear hf hok hcase hall hts hsum hn1
  go_enter Tryz.func48, Tryz.ntmps48
  go_wp2_with fail
  refine HTK.out.mono ?_
  rintro e w0 ⟨tb, td, rfl, hs0, hb0⟩
  have L0 := Lib.hid (below_alloc w0 (.cells #[] 53))
  have HB0 := Lib.hid hb0
  have HF0 := Lib.hid (HFF.out.below hb0)
  have HS0 := Lib.hid hs0
  have O0 : Hid ((w0.alloc (.cells #[] 53)).ownsRow w0.heap.size 53 2 (.slice (some ⟨w0.heap.size, 0, none⟩) 0 0) (hopsR ts (fs.take 0)).length (cellsF (hopsR ts (fs.take 0)))) := World.ownsRow_lit w0 #[] 0 (Nat.le_refl _) (by decide) (by simp)
  clear hb0 hs0 HTK HFF
  go_wp2_with fail
  generalize World.alloc w0 _ = w00 at *
  go_loopw [4, 12] (fun v i wr => ∃ j : Nat, j ≤ fs.length ∧ i = .int .i64 (j : Int) ∧ Hid (wr.ownsRow w0.heap.size 53 2 v (hopsR ts (fs.take j)).length (cellsF (hopsR ts (fs.take j)))) ∧ Hid (Below w0.heap.size w0 wr)) (fun _ i _ => fs.length - (intOf i).toNat)
  case atStart => exact ⟨0, Nat.zero_le _, rfl, O0, L0⟩
  case round =>
    clear O0 L0
    obtain ⟨j, hj, rfl, ho, hb⟩ := hrel
    by_cases hlt : j < fs.length
    · obtain h0 | ⟨bk, o, rfl, hbk, hc, hcell⟩ := HF0.out.below hb.out
      · subst h0; simp at hlt
      obtain ⟨c1, c2⟩ := hcell j fs[j] (by simp [hlt])
      have hst := hopsR_keep (ts := ts) hlt
      have hdl := Nat.le_trans (hopsR_len ts (fs.take j)) (len_take_le fs j)
      obtain ⟨q, hq⟩ : ∃ q, q = hopR fs[j].1 ts := ⟨_, rfl⟩
      have HI := Lib.hid (fun W h => hop85 fs[j].1 (HN1.out _ (List.getElem_mem hlt)) tb td ts HTL q hq W h)
      rw [← hq] at hst
      obtain ⟨f, hfe⟩ : ∃ f, f = fs[j] := ⟨_, rfl⟩
      rw [← hfe] at c1 c2 hst HI
      have HST := Lib.hid hst
      clear hcell hfe hq hst
      have j1 : (j : Int) < fs.length := by omega
      have hce : cellsF [f] = [.string (bs f.1), .string (bs f.2)] := rfl
      have HCE := Lib.hid hce
      clear hce
      generalize bs f.1 = N at *
      generalize bs f.2 = V at *
      have hgr := hb.out.size
      have hsz : (wr.alloc (.cells #[.string N, .string V] 53)).heap.size = wr.heap.size + 1 := World.size_alloc _ _
      have B1 := Lib.hid (hb.out.alloc hgr (.cells #[.string N, .string V] 53))
      have O1 := Lib.hid (ho.out.alloc (.cells #[.string N, .string V] 53))
      have S1 := Lib.hid (HS0.out.below B1.out)
      have d1 : (wr.alloc (.cells #[.string N, .string V] 53)).cell? ⟨wr.heap.size, 0, none⟩ = some (.string N) := by simp
      have d2 : (wr.alloc (.cells #[.string N, .string V] 53)).cell? ⟨wr.heap.size, 1, none⟩ = some (.string V) := by simp
      clear ho hb
      go_wp2_with fail
      generalize World.alloc wr _ = wa at *
      refine (HI.out wa S1.out).mono ?_
      rintro e wb ⟨rfl, hbb⟩
      have hlta : wr.heap.size < wa.heap.size := by omega
      have e1 : wb.cell? ⟨wr.heap.size, 0, none⟩ = some (.string N) := by rw [(bcell hbb).1 _ _ hlta]; exact d1
      have e2 : wb.cell? ⟨wr.heap.size, 1, none⟩ = some (.string V) := by rw [(bcell hbb).1 _ _ hlta]; exact d2
      have B2 := Lib.hid (B1.out.trans (hbb.mono B1.out.size))
      have O2 := Lib.hid (own_below O1.out hbb)
      clear hbb B1 O1 d1 d2 c1 c2 S1
      cases q
      · have hst2 := HST.out
        rw [if_neg (by simp)] at hst2
        have HO2 : Hid ((wb.alloc (.cells #[.string N, .string V] 53)).ownsRow w0.heap.size 53 2 _ (hopsR ts (fs.take j)).length (cellsF (hopsR ts (fs.take j)))) := O2.out.alloc _
        have hb2 : Hid (Below w0.heap.size w0 (wb.alloc (.cells #[.string N, .string V] 53))) := B2.out.alloc B2.out.size _
        have HNW := Lib.hid (cells_new1 wb N V 53)
        have hbz := B2.out.size
        have hcc : cellsF (hopsR ts (fs.take (j + 1))) = cellsF (hopsR ts (fs.take j)) ++ [.string N, .string V] := by
          rw [hst2, cellsF_append, HCE.out]
        have hll : (hopsR ts (fs.take (j + 1))).length = (hopsR ts (fs.take j)).length + 1 := by rw [hst2]; simp
        have HCC := Lib.hid hcc
        have HLL := Lib.hid hll
        clear hst2 hcc hll O2 B2
        obtain ⟨k, hk⟩ : ∃ k, k = (hopsR ts (fs.take j)).length := ⟨_, rfl⟩
        rw [← hk] at HO2 HLL hdl
        have HKK := Lib.hid hk
        clear hk
        go_wp2_with (at_builtin; refine wpList_append_own_at _ rfl _ _ 22 rfl w0.heap.size 53 i0 (.agg #[.string ⟨#[]⟩, .string ⟨#[]⟩]) 2 32 Tryz.underlying22 hi hz0 hz1 hz2 rfl (by decide) _ _ _ rfl HO2.out ⟨wb.heap.size, 0, none⟩ 1 1 [.string N, .string V] rfl rfl HNW.out (by intro u hu; simp at hu; rcases hu with rfl | rfl <;> rfl) (by unfold maxLen; omega) (by omega) (by simp; omega) ?_)
        intro v' w2 hown' hgrow _ _
        have hb3 : Hid (Below w0.heap.size w0 w2) := hb2.out.grown hgrow hb2.out.size (fun k hk => (HO2.out.lt k hk).1)
        rw [← HCC.out] at hown'
        have hown2 : w2.ownsRow w0.heap.size 53 2 v' (hopsR ts (fs.take (j + 1))).length (cellsF (hopsR ts (fs.take (j + 1)))) := by rw [HLL.out]; exact hown'
        have HO3 := Lib.hid hown2
        clear hown' hown2 hgrow hb2 HO2 HNW HCC HLL
        go_wp2_with fail
        go_roundw
        case rel => exact ⟨j + 1, hlt, by go_num, HO3, hb3⟩
        case measure => simp [intOf]; omega
      · have hst2 := HST.out
        rw [if_pos rfl, List.append_nil] at hst2
        have HO3 := O2.out
        rw [← hst2] at HO3
        have HO4 := Lib.hid HO3
        clear hst2 HO3 O2
        go_wp2_with fail
        go_roundw
        case rel => exact ⟨j + 1, hlt, by go_num, HO4, B2⟩
        case measure => simp [intOf]; omega
    · obtain rfl : j = fs.length := by omega
      have ho2 := ho.out
      rw [List.take_of_length_le (Nat.le_refl _)] at ho2
      have HO := Lib.hid ho2
      clear ho ho2
      go_wp2_with fail
      go_ret
      exact ⟨_, rfl, own_mono HO.out HB0.out.size, HB0.out.trans (hb.out.mono HB0.out.size)⟩
end Go.Proofs.YtbbphklhnngjmaaGreatDoor

/- rewrite's reference: add, Request. -/
namespace Go.Proofs.YtbbphklhnngjmaaGreatDoor
open Go.RowKit

theorem wpList_append_fldsN {w : World} {ops : Array Oper} {rest : List Oper} {o : Oper} {a : Act} {Q : Exit → Act → World → Prop} (hgd : o.guard = none) (s x : Operand)
    (ho : o.op = .call { callee := .builtin .append, args := #[s, x], argTypes := #[22, 22] })
    (base : Nat) (v : Value) (n : Nat) (xs : List Value) (hs : a.eval s = v) (hown : w.ownsRow base 53 2 v n xs)
    (b : Option Addr) (d : Nat) (fs : List Fld) (hx : a.eval x = .slice b fs.length d) (hbn : b = none → d = 0 ∧ fs = []) (hf : IsFlds w b d fs) (hn : n + fs.length ≤ 1000000) (hbase : base ≤ w.heap.size)
    (h : ∀ v' w', w'.ownsRow base 53 2 v' (n + fs.length) (xs ++ cellsF fs) → w.grownBy w' v.ownBlock → wpList Tryz.prog ops Q rest (a.put o.dst v') w') : wpList Tryz.prog ops Q (o :: rest) a w := by
  obtain ⟨i0, hi, hz0, hz1, hz2⟩ := info_parts infoRef
  cases b with
  | none =>
    obtain ⟨rfl, rfl⟩ := hbn rfl
    refine wpList_append_own_none hgd s x 22 ho base 53 i0 2 Tryz.underlying22 hi v n xs hs hown hx (h v w ?_ ⟨rfl, rfl, rfl, Nat.le_refl _, fun _ _ _ => rfl⟩)
    simpa [cellsF] using hown
  | some ad =>
    refine wpList_append_own_at w hgd s x 22 ho base 53 i0 (.agg #[.string ⟨#[]⟩, .string ⟨#[]⟩]) 2 32 Tryz.underlying22 hi hz0 hz1 hz2 rfl (by decide) v n xs hs hown ad fs.length d (cellsF fs) hx (cellsF_length fs) ?_ (cellsF_one fs) (by unfold maxLen; omega) (by omega) hbase (fun v' w' h1 h2 _ _ => h v' w' h1 h2)
    intro k u hu
    obtain h0 | ⟨bk, o', ha, hlt, hc, hcell⟩ := hf
    · subst h0; simp [cellsF] at hu
    · cases ha
      exact isFlds_cells hcell k u hu
set_option maxRecDepth 100000 in
set_option maxHeartbeats 4000000 in
theorem radd51 (a : Option Addr) (c : Nat) (fs : List Fld) (n v : List UInt8) (hfl : fs.length ≤ 100000) (ha : a = none → c = 0 ∧ fs = []) (w : World) (hf : IsFlds w a c fs) :
    Calls Tryz.prog 51 #[.slice a fs.length c, .string (bs n), .string (bs v)] w fun e w' => ∃ b d, e = .returned (.slice b (fs ++ [(n, v)]).length d) ∧ (b = none → d = 0 ∧ fs ++ [(n, v)] = []) ∧ (∀ ad, b = some ad → w.heap.size ≤ ad.block) ∧ IsFlds w' b d (fs ++ [(n, v)]) ∧ Below w.heap.size w w' := by
  obtain ⟨i0, hi, hz0, hz1, hz2⟩ := info_parts infoRef
  have O0 : Hid ((w.alloc (.cells #[] 53)).ownsRow w.heap.size 53 2 (.slice (some ⟨w.heap.size, 0, none⟩) 0 0) 0 []) := World.ownsRow_lit w #[] 0 (Nat.le_refl _) (by decide) (by simp)
  have L0 := Lib.hid (below_alloc w (.cells #[] 53))
  have F0 := Lib.hid (hf.below L0.out)
  have HN := Lib.hid ha
  have hl2 : (fs ++ [(n, v)]).length = fs.length + 1 := by rw [List.length_append]; rfl
  have hcl : cellsF (fs ++ [(n, v)]) = cellsF fs ++ [.string (bs n), .string (bs v)] := by rw [cellsF_append]; rfl
  have HCL := Lib.hid hcl
  have HL2 := Lib.hid hl2
  generalize bs n = N at *
  generalize bs v = V at *
  clear hf ha hl2 hcl
  go_enter Tryz.func51, Tryz.ntmps51
  go_wp2_with (at_builtin; refine wpList_append_fldsN rfl _ _ rfl w.heap.size _ _ _ rfl O0.out a c fs rfl HN.out F0.out (by omega) (by simp) ?_)
  intro v1 w1 hown1 hgrow1
  have B1 := Lib.hid (L0.out.grown hgrow1 (by simp) (fun k hk => (O0.out.lt k hk).1))
  have ho1 : w1.ownsRow w.heap.size 53 2 v1 fs.length (cellsF fs) := by simpa using hown1
  have HO1 := Lib.hid (ho1.alloc (.cells #[.string N, .string V] 53))
  have HNW := Lib.hid (cells_new1 w1 N V 53)
  have B2 := Lib.hid (B1.out.alloc B1.out.size (.cells #[.string N, .string V] 53))
  have hbz := B2.out.size
  clear ho1 hown1 hgrow1 O0 L0 F0 HN
  go_wp2_with (at_builtin; refine wpList_append_own_at _ rfl _ _ 22 rfl w.heap.size 53 i0 (.agg #[.string ⟨#[]⟩, .string ⟨#[]⟩]) 2 32 Tryz.underlying22 hi hz0 hz1 hz2 rfl (by decide) _ _ _ rfl HO1.out ⟨w1.heap.size, 0, none⟩ 1 1 [.string N, .string V] rfl rfl HNW.out (by intro u hu; simp at hu; rcases hu with rfl | rfl <;> rfl) (by unfold maxLen; omega) (by omega) hbz ?_)
  intro v2 w2 hown2 hgrow2 _ _
  have B3 := Lib.hid (B2.out.grown hgrow2 hbz (fun k hk => (HO1.out.lt k hk).1))
  rw [← HCL.out, ← HL2.out] at hown2
  obtain ⟨b, d, rfl, _, h1, h2, h3⟩ := own_isFldsB hown2
  have H1 := Lib.hid h1
  have H2 := Lib.hid h2
  have H3 := Lib.hid h3
  clear hown2 hgrow2 h1 h2 h3 HO1 HNW B1 B2 HCL
  go_wp2_with fail
  go_ret
  exact ⟨b, d, rfl, H1.out, H3.out, H2.out, B3.out⟩
/-- The values so far. -/
def whoP (vs : List ByteArray) (j : Nat) : List UInt8 := ((vs.take j).map (fun v => v.data.toList ++ [44, 32])).flatten
theorem whoP_step {vs : List ByteArray} {j : Nat} (hj : j < vs.length) : whoP vs (j + 1) = whoP vs j ++ (vs[j].data.toList ++ [44, 32]) := by
  unfold whoP
  rw [List.take_add_one, List.getElem?_eq_getElem hj, Option.toList_some, List.map_append, List.flatten_append]
  simp
theorem whoP_all (vs : List ByteArray) (cl : List UInt8) : whoP vs vs.length ++ cl = whoL vs cl := by
  unfold whoP whoL
  rw [List.take_of_length_le (Nat.le_refl _)]
theorem whoP_len (vs : List ByteArray) (j : Nat) : (whoP vs j).length ≤ sumS vs + vs.length := by
  have h := whoL_len (vs.take j) []
  have e : whoL (vs.take j) [] = whoP vs j := by unfold whoL whoP; rw [List.append_nil]
  rw [e] at h
  have h1 : sumS (vs.take j) ≤ sumS vs := by
    have := List.take_append_drop j vs
    unfold sumS
    conv => rhs; rw [← this, List.map_append, List.sum_append]
    omega
  have h2 : (vs.take j).length ≤ vs.length := by rw [List.length_take]; omega
  simp only [List.length_nil] at h
  omega
theorem xff_case (fs : List Fld) : allB ⟨#[120, 45, 102, 111, 114, 119, 97, 114, 100, 101, 100, 45, 102, 111, 114]⟩ fs = allB xffB fs := allB_caseW (by decide +kernel) fs
theorem SmF.size {fs : List Fld} {k m : Nat} (h : SmF fs k m) (x : ByteArray) : ∀ y ∈ allB x fs, y.size ≤ m := by
  intro y hy
  unfold allB at hy
  obtain ⟨f, hf, rfl⟩ := List.mem_map.1 hy
  rw [bs_size]
  exact (h.2 f (List.mem_filter.1 hf).1).2
set_option maxRecDepth 100000 in
set_option maxHeartbeats 8000000 in
theorem rrq18 (mm tt bb : ByteArray) (kk : Int) (cl : List UInt8) (a : Option Addr) (c : Nat) (fs : List Fld) (hfew : SmF fs 1000 10000) (hcl : cl.length ≤ 10000) (hbb : bb.size < 9223372036854775808) (gs : List Fld) (hgs : gs = reqF fs cl kk bb.size) (K : Int) (hK : K = reqK kk) (w : World) (hf : IsFlds w a c fs) :
    Calls Tryz.prog 18 #[.agg #[.string mm, .string tt, .slice a fs.length c, .string bb, .int .i64 kk], .string (bs cl)] w fun e w' => ∃ b d, e = .returned (.agg #[.string mm, .string tt, .slice b gs.length d, .string bb, .int .i64 K]) ∧ IsFlds w' b d gs ∧ Below w.heap.size w w' := by
  have hok := hfew.ok (by decide)
  have HH : Hid (∀ W, IsFlds W a c fs → Calls Tryz.prog 48 #[.slice a fs.length c] W fun e w' => ∃ u, e = .returned u ∧ w'.ownsRow W.heap.size 53 2 u (hopsF fs).length (cellsF (hopsF fs)) ∧ Below W.heap.size W w') := fun W h => rhops48 a c fs (by have := hfew.1; omega) hok (fun f hf => by have := (hfew.2 f hf).1; omega) (by have := hfew.sum connB; omega) _ rfl W h
  have hws := whoL_small hfew hcl
  have hGs := hfew.reqG hcl
  have hGS : reqG fs cl = setF xffN (whoL (allB xffB (hopsF fs)) cl) (hopsF fs) ++ [viaF] := rfl
  have hHf := hfew.hops
  obtain ⟨H, hH⟩ : ∃ H, H = hopsF fs := ⟨_, rfl⟩
  rw [← hH] at HH hws hGS hHf
  have HA : Hid (∀ b d W, IsFlds W b d H → Calls Tryz.prog 49 #[.slice b H.length d, .string ⟨#[120, 45, 102, 111, 114, 119, 97, 114, 100, 101, 100, 45, 102, 111, 114]⟩] W fun e w' => ∃ b d, e = .returned (.slice b (allB xffB H).length d) ∧ IsStrs w' b d (allB xffB H) ∧ Below W.heap.size W w') := fun b d W h => by
    have := rall41s b d H ⟨#[120, 45, 102, 111, 114, 119, 97, 114, 100, 101, 100, 45, 102, 111, 114]⟩ (by have := hHf.1; omega) (hHf.ok (by decide)) (by decide) W h
    rw [xff_case] at this
    exact this
  have hvn := allB_lenR xffB H
  have hHn := hHf.1
  have hvz := hHf.size xffB
  have hvs := hHf.sum xffB
  obtain ⟨VS, hVS⟩ : ∃ VS, VS = allB xffB H := ⟨_, rfl⟩
  rw [← hVS] at HA hws hGS hvn hvz hvs
  have HS : Hid (∀ b d W, IsFlds W b d H → Calls Tryz.prog 50 #[.slice b H.length d, .string ⟨#[88, 45, 70, 111, 114, 119, 97, 114, 100, 101, 100, 45, 70, 111, 114]⟩, .string (bs (whoL VS cl))] W fun e w' => ∃ u, e = .returned u ∧ w'.ownsRow W.heap.size 53 2 u (setF xffN (whoL VS cl) H).length (cellsF (setF xffN (whoL VS cl) H)) ∧ Below W.heap.size W w') := fun b d W h => rset47 b d H xffN (whoL VS cl) (by omega) (hHf.ok (by decide)) (by decide) W h
  have hso : SmF (setF xffN (whoL VS cl) H) 1001 20000000 := (hHf.more (Nat.le_refl _) (by decide)).set (by decide) hws
  obtain ⟨SF, hSF⟩ : ∃ X, X = setF xffN (whoL VS cl) H := ⟨_, rfl⟩
  rw [← hSF] at HS hGS hso
  obtain ⟨G, hG⟩ : ∃ X, X = reqG fs cl := ⟨_, rfl⟩
  rw [← hG] at hGS hGs
  have HV : Hid (∀ b d W, (b = none → d = 0 ∧ SF = []) → IsFlds W b d SF → Calls Tryz.prog 51 #[.slice b SF.length d, .string ⟨#[86, 105, 97]⟩, .string ⟨#[49, 46, 49, 32, 115, 116, 101, 119, 97, 114, 100]⟩] W fun e w' => ∃ b d, e = .returned (.slice b G.length d) ∧ (b = none → d = 0 ∧ G = []) ∧ (∀ ad, b = some ad → W.heap.size ≤ ad.block) ∧ IsFlds w' b d G ∧ Below W.heap.size W w') := fun b d W h2 h => by
    have := radd51 b d SF viaF.1 viaF.2 (by have := hso.1; omega) h2 W h
    rw [show SF ++ [(viaF.1, viaF.2)] = G from hGS.symm] at this
    exact this
  have HPR : Hid (∀ W, Calls Tryz.prog 52 #[.int .i64 (bb.size : Int), .int .i64 10] W fun e w' => e = .returned (.string (bs (prtI 10 (bb.size : Int)))) ∧ Below W.heap.size W w') := fun W => print10 (bb.size : Int) (by omega) W
  have HLN : Hid (kk ≠ 0 → ∀ b d W, IsFlds W b d G → Calls Tryz.prog 50 #[.slice b G.length d, .string ⟨#[67, 111, 110, 116, 101, 110, 116, 45, 76, 101, 110, 103, 116, 104]⟩, .string (bs (prtI 10 (bb.size : Int)))] W fun e w' => ∃ u, e = .returned u ∧ w'.ownsRow W.heap.size 53 2 u gs.length (cellsF gs) ∧ Below W.heap.size W w') := fun hne b d W h => by
    have := rset47 b d G clenN (prtI 10 (bb.size : Int)) (by have := hGs.1; omega) (hGs.ok (by decide)) (by decide) W h
    rw [show setF clenN (prtI 10 (bb.size : Int)) G = gs by rw [hgs, hG]; unfold reqF; rw [if_neg hne]] at this
    exact this
  have HG0 : Hid (kk = 0 → gs = G ∧ K = 0) := fun h => ⟨by rw [hgs, hG]; unfold reqF; rw [if_pos h], by rw [hK]; unfold reqK; rw [if_pos h]⟩
  have HG1 : Hid (kk ≠ 0 → K = 1) := fun h => by rw [hK]; unfold reqK; rw [if_neg h]
  have HAW : Hid (∀ W, (Op.stringOp .add (bs (whoP VS VS.length)) (bs cl)).run Tryz.prog W = .ok (.string (bs (whoL VS cl))) W) := fun W => by
    have := add_str (whoP VS VS.length) cl (by have := whoP_len VS VS.length; omega) W
    rw [whoP_all] at this
    exact this
  have HVZ := Lib.hid hvz
  have HPL : Hid (∀ j, (whoP VS j).length ≤ 20000000) := fun j => by have := whoP_len VS j; omega
  obtain ⟨WHO, hWHO⟩ : ∃ X, X = bs (whoL VS cl) := ⟨_, rfl⟩
  rw [← hWHO] at HS HAW
  obtain ⟨PR, hPR⟩ : ∃ X, X = bs (prtI 10 (bb.size : Int)) := ⟨_, rfl⟩
  rw [← hPR] at HPR HLN
  obtain ⟨n, hn⟩ : ∃ n, n = fs.length := ⟨_, rfl⟩
  rw [← hn] at HH ⊢
  have R0 := Row.new w 39 #[.string mm, .string tt, .slice a n c, .string bb, .int .i64 kk]
  have L0 := (below_alloc w (.cells #[.string mm, .string tt, .slice a n c, .string bb, .int .i64 kk] 39))
  have R1 := Row.new (w.alloc (.cells #[.string mm, .string tt, .slice a n c, .string bb, .int .i64 kk] 39)) 39 #[.string ⟨#[]⟩, .string ⟨#[]⟩, .slice none 0 0, .string ⟨#[]⟩, .int .i64 0]
  have L1 := L0.alloc (by simp) (.cells #[.string ⟨#[]⟩, .string ⟨#[]⟩, .slice none 0 0, .string ⟨#[]⟩, .int .i64 0] 39)
  have R0' := R0.alloc (.cells #[.string ⟨#[]⟩, .string ⟨#[]⟩, .slice none 0 0, .string ⟨#[]⟩, .int .i64 0] 39)
  rw [show (w.alloc (.cells #[.string mm, .string tt, .slice a n c, .string bb, .int .i64 kk] 39)).heap.size = w.heap.size + 1 by simp] at R1
  have HF := Lib.hid (hf.below L1)
  generalize bs cl = CL at *
  have hvn2 : VS.length ≤ 1000 := by omega
  clear hf hn R0 L0 hgs hK hok hfew hws hGs hGS hHf hH hVS hHn hso hWHO hSF hG hvn hbb hcl hvz hvs hPR
  go_enter Tryz.func18, Tryz.ntmps18
  go_upto_region 1 with fail
  obtain ⟨b0, hb0⟩ : ∃ b0, b0 = w.heap.size := ⟨_, rfl⟩
  obtain ⟨b1, hb1⟩ : ∃ b1, b1 = w.heap.size + 1 := ⟨_, rfl⟩
  have hle : w.heap.size ≤ b1 := by omega
  have hle0 : w.heap.size ≤ b0 := by omega
  have hne : b0 ≠ b1 := by omega
  rw [← hb0] at R0'
  rw [← hb1] at R1 ⊢
  rw [← hb0]
  generalize World.alloc (World.alloc w _) _ = w1 at *
  have LL := Lib.hid L1
  have HLE := Lib.hid hle
  have HLE0 := Lib.hid hle0
  have HNE := Lib.hid hne
  have RR0 := Lib.hid R0'
  have RR1 := Lib.hid R1
  have r2 := R0'.cell 2
  simp only [List.getElem?_toArray, List.getElem?_cons_zero, List.getElem?_cons_succ] at r2
  clear R1 R0' L1 hb0 hb1 hle hle0 hne
  go_wp2_with fail
  with_reducible refine (HH.out w1 HF.out).mono ?_
  rintro e w2 ⟨u, rfl, ho, hb2⟩
  obtain ⟨b, d, rfl, _, _, hf2, _⟩ := own_isFldsB ho
  have F2 := Lib.hid hf2
  have LL2 := Lib.hid (LL.out.trans (hb2.mono LL.out.size))
  have Q0 := Lib.hid (RR0.out.below hb2)
  have Q1 := Lib.hid (RR1.out.below hb2)
  clear hf2 hb2 r2 HH HF LL RR0 RR1 ho
  go_wp2_with fail
  with_reducible refine (HA.out b d w2 F2.out).mono ?_
  rintro e w3 ⟨b3, d3, rfl, hs3, hb3⟩
  have F3 := Lib.hid (F2.out.below hb3)
  have S3 := Lib.hid hs3
  have LL3 := Lib.hid (LL2.out.trans (hb3.mono LL2.out.size))
  have P0 := Lib.hid (Q0.out.below hb3)
  have P1 := Lib.hid (Q1.out.below hb3)
  clear hs3 hb3 F2 LL2 Q0 Q1 HA
  have E0 : bs (whoP VS 0) = ⟨#[]⟩ := rfl
  go_wp2_with fail
  go_loopw [6, 15] (fun v i wr => ∃ j : Nat, j ≤ VS.length ∧ i = .int .i64 (j : Int) ∧ v = .string (bs (whoP VS j)) ∧ w3 = wr) (fun _ i _ => VS.length - (intOf i).toNat)
  case atStart => exact ⟨0, Nat.zero_le _, rfl, by rw [E0], rfl⟩
  case round =>
    clear E0
    obtain ⟨j, hj, rfl, rfl, rfl⟩ := hrel
    by_cases hlt : j < VS.length
    · obtain h0 | ⟨bk, o, rfl, hbk, hc, hcell⟩ := S3.out
      · rw [h0] at hlt; simp at hlt
      have c1 := hcell j VS[j] (by simp [hlt])
      have hst := whoP_step hlt
      have hz := HVZ.out VS[j] (List.getElem_mem hlt)
      obtain ⟨x, hxe⟩ : ∃ x, x = VS[j] := ⟨_, rfl⟩
      rw [← hxe] at c1 hst hz
      have hzz := Lib.size_eq x
      have A1 := fun V => add_str x.data.toList [44, 32] (by simp; omega) V
      have A2 := fun V => add_str (whoP VS j) (x.data.toList ++ [44, 32]) (by have := HPL.out j; simp; omega) V
      rw [bs_of, show bs [44, 32] = ⟨#[44, 32]⟩ from rfl] at A1
      rw [← hst] at A2
      have j1 : (j : Int) < VS.length := by omega
      obtain ⟨Y, hY⟩ : ∃ Y, Y = bs (whoP VS (j + 1)) := ⟨_, rfl⟩
      rw [← hY] at A2
      have HY := Lib.hid hY
      clear hY
      generalize bs (whoP VS j) = Z at *
      generalize bs (x.data.toList ++ [44, 32]) = X2 at *
      clear hcell hxe hst hz hzz
      go_wp2_with fail
      go_roundw
      case rel => exact ⟨j + 1, hlt, by go_num, by rw [HY.out], trivial⟩
      case measure => simp [intOf]; omega
    · obtain rfl : j = VS.length := by omega
      clear S3 HVZ HPL
      generalize bs (whoP VS VS.length) = Z at *
      have AW := HAW.out
      go_wp2_with fail
      with_reducible refine (HS.out b d w3 F3.out).mono ?_
      rintro e w6 ⟨u6, rfl, ho6, hb6⟩
      obtain ⟨b6, d6, rfl, _, hbn6, hf6, _⟩ := own_isFldsB ho6
      have F6 := Lib.hid hf6
      have HBN6 := Lib.hid hbn6
      have Q0 := Lib.hid (P0.out.below hb6)
      have Q1 := Lib.hid (P1.out.below hb6)
      have LL6 := Lib.hid (LL3.out.trans (hb6.mono LL3.out.size))
      clear hf6 hb6 hbn6 ho6 F3 P0 P1 LL3 HS HAW AW
      go_wp2_with fail
      with_reducible refine (HV.out b6 d6 w6 HBN6.out F6.out).mono ?_
      rintro e w7 ⟨b7, d7, rfl, _, hnw7, hf7, hb7⟩
      have F7 := Lib.hid hf7
      have RR0 := Lib.hid (Q0.out.below hb7)
      have RR1 := Lib.hid (Q1.out.below hb7)
      have LL7 := Lib.hid (LL6.out.trans (hb7.mono LL6.out.size))
      have hlt0 := Q0.out.lt
      have hlt1 := Q1.out.lt
      have HN0 : Hid (∀ ad, b7 = some ad → ¬ ad.block = b0) := fun ad had => by have := hnw7 ad had; omega
      have HN1 : Hid (∀ ad, b7 = some ad → ¬ ad.block = b1) := fun ad had => by have := hnw7 ad had; omega
      obtain ⟨m, hm⟩ : ∃ m, m = G.length := ⟨_, rfl⟩
      have HM := Lib.hid hm
      rw [← hm] at HLN ⊢
      have r3 := RR0.out.cell 3
      have r4 := RR0.out.cell 4
      simp only [List.getElem?_toArray, List.getElem?_cons_zero, List.getElem?_cons_succ] at r3 r4
      clear hf7 hb7 hnw7 F6 Q0 Q1 LL6 HV HBN6 hlt0 hlt1 hm
      by_cases hk : kk = 0
      · obtain ⟨hgs, hK⟩ := HG0.out hk
        subst hk
        have HGS := Lib.hid hgs
        have HKK := Lib.hid hK
        have x2 := RR0.out.cell 2
        have y2 := RR0.out.free 2
        have Q0' := RR0.out.put 2 (.slice b7 m d7)
        have Q1' := RR1.out.far (p := ⟨b0, 2, none⟩) (fun e => HNE.out e.symm) (.slice b7 m d7)
        have e0 : (#[.string mm, .string tt, .slice a n c, .string bb, .int .i64 0] : Array Value).setIfInBounds 2 (.slice b7 m d7) = #[.string mm, .string tt, .slice b7 m d7, .string bb, .int .i64 0] := rfl
        rw [e0] at Q0'
        simp only [List.getElem?_toArray, List.getElem?_cons_zero, List.getElem?_cons_succ] at x2
        have LL8 := Lib.hid (LL7.out.setCell (p := ⟨b0, 2, none⟩) HLE0.out (.slice b7 m d7))
        have K8 : Keep (fun j => j = b0) w7 (w7.setCell ⟨b0, 2, none⟩ (.slice b7 m d7)) := Keep.setCell (G := fun j => j = b0) w7 (p := ⟨b0, 2, none⟩) rfl _
        have F8 := Lib.hid (isFlds_keepR F7.out K8 HN0.out)
        clear hgs hK HG0 HG1 HLN HPR K8 e0 F7 LL7
        go_upto_region 14 with fail
        obtain ⟨w8, hw8⟩ : ∃ w8, w8 = w7.setCell ⟨b0, 2, none⟩ (.slice b7 m d7) := ⟨_, rfl⟩
        rw [← hw8] at LL8 F8 Q0' Q1' ⊢
        clear hw8 x2 y2 r3 r4
        have r0 := Q0'.cell 0
        have r1 := Q0'.cell 1
        have r2 := Q0'.cell 2
        have r3 := Q0'.cell 3
        have r4 := Q0'.cell 4
        have z0 := Q1'.free 0
        have z1 := Q1'.free 1
        have z2 := Q1'.free 2
        have z3 := Q1'.free 3
        have z4 := Q1'.free 4
        have p0 := Q1'.cell 0
        have p1 := Q1'.cell 1
        have p2 := Q1'.cell 2
        have p3 := Q1'.cell 3
        have p4 := Q1'.cell 4
        simp only [List.getElem?_toArray, List.getElem?_cons_zero, List.getElem?_cons_succ] at r0 r1 r2 r3 r4 p0 p1 p2 p3 p4
        clear Q0' Q1'
        go_wp2_with fail
        refine bodyPost_ret (v := .agg #[.string mm, .string tt, .slice b7 m d7, .string bb, .int .i64 0]) (by simp [results, Tryz.results18, go_sem, p0, p1, p2, p3, p4]) rfl ⟨b7, d7, by rw [HGS.out, HKK.out, HM.out], ?_⟩
        have h5 := own_five b1 _ LL8.out HLE.out (.string mm) (.string tt) (.slice b7 m d7) (.string bb) (.int .i64 0)
        rw [HGS.out]
        exact ⟨isFlds_keepR F8.out h5.2 HN1.out, h5.1⟩
      · have HL8 := Lib.hid (HLN.out hk)
        have hkb : (kk == 0) = false := beq_eq_false_iff_ne.2 hk
        obtain rfl := HG1.out hk
        clear HG0 HG1 HLN
        go_wp2_with fail
        with_reducible refine (HPR.out w7).mono ?_
        rintro e w8 ⟨rfl, hb8⟩
        have F8 := Lib.hid (F7.out.below hb8)
        have P0 := Lib.hid (RR0.out.below hb8)
        have P1 := Lib.hid (RR1.out.below hb8)
        have LL8 := Lib.hid (LL7.out.trans (hb8.mono LL7.out.size))
        clear hb8 F7 RR0 RR1 LL7 HN0 HN1 HPR r3 r4
        go_wp2_with fail
        with_reducible refine (HL8.out b7 d7 w8 F8.out).mono ?_
        rintro e w9 ⟨u9, rfl, ho9, hb9⟩
        obtain ⟨b9, d9, rfl, _, _, hf9, hnw9⟩ := own_isFldsB ho9
        have hlt0 := P0.out.lt
        have hlt1 := P1.out.lt
        have HN0 : ∀ ad, b9 = some ad → ¬ ad.block = b0 := fun ad had => by have := hnw9 ad had; omega
        have HN1 : Hid (∀ ad, b9 = some ad → ¬ ad.block = b1) := fun ad had => by have := hnw9 ad had; omega
        have Q0 := P0.out.below hb9
        have Q1 := P1.out.below hb9
        obtain ⟨q, hq⟩ : ∃ q, q = gs.length := ⟨_, rfl⟩
        have HQ := Lib.hid hq
        rw [← hq]
        have LL9 := LL8.out.trans (hb9.mono LL8.out.size)
        have LL10 := Lib.hid ((LL9.setCell (p := ⟨b0, 4, none⟩) HLE0.out (.int .i64 1)).setCell (p := ⟨b0, 2, none⟩) HLE0.out (.slice b9 q d9))
        have KB : ∀ (v : World) (i : Nat) (u : Value), Keep (fun j => j = b0) v (v.setCell ⟨b0, i, none⟩ u) := fun v i u => Keep.setCell (G := fun j => j = b0) v (p := ⟨b0, i, none⟩) rfl u
        have F10 := Lib.hid (isFlds_keepR hf9 ((KB w9 4 (.int .i64 1)).trans (KB _ 2 (.slice b9 q d9))) HN0)
        have x2 := Q0.cell 2
        have y2 := Q0.free 2
        have x4 := Q0.cell 4
        have y4 := Q0.free 4
        have Q0' := (Q0.put 4 (.int .i64 1)).put 2 (.slice b9 q d9)
        have Q1' := (Q1.far (p := ⟨b0, 4, none⟩) (fun e => HNE.out e.symm) (.int .i64 1)).far (p := ⟨b0, 2, none⟩) (fun e => HNE.out e.symm) (.slice b9 q d9)
        have e0 : ((#[.string mm, .string tt, .slice a n c, .string bb, .int .i64 kk] : Array Value).setIfInBounds 4 (.int .i64 1)).setIfInBounds 2 (.slice b9 q d9) = #[.string mm, .string tt, .slice b9 q d9, .string bb, .int .i64 1] := rfl
        rw [e0] at Q0'
        simp only [List.getElem?_toArray, List.getElem?_cons_zero, List.getElem?_cons_succ] at x2 x4
        clear hnw9 hf9 hb9 Q0 Q1 LL9 KB e0 HL8 LL8 P0 P1 F8 ho9 HN0 hlt0 hlt1 hq
        go_upto_region 14 with fail
        obtain ⟨w10, hw10⟩ : ∃ w10, w10 = (w9.setCell ⟨b0, 4, none⟩ (.int .i64 1)).setCell ⟨b0, 2, none⟩ (.slice b9 q d9) := ⟨_, rfl⟩
        rw [← hw10] at LL10 F10 Q0' Q1' ⊢
        clear hw10 x2 y2 x4 y4
        have r0 := Q0'.cell 0
        have r1 := Q0'.cell 1
        have r2 := Q0'.cell 2
        have r3 := Q0'.cell 3
        have r4 := Q0'.cell 4
        have z0 := Q1'.free 0
        have z1 := Q1'.free 1
        have z2 := Q1'.free 2
        have z3 := Q1'.free 3
        have z4 := Q1'.free 4
        have p0 := Q1'.cell 0
        have p1 := Q1'.cell 1
        have p2 := Q1'.cell 2
        have p3 := Q1'.cell 3
        have p4 := Q1'.cell 4
        simp only [List.getElem?_toArray, List.getElem?_cons_zero, List.getElem?_cons_succ] at r0 r1 r2 r3 r4 p0 p1 p2 p3 p4
        clear Q0' Q1'
        go_wp2_with fail
        refine bodyPost_ret (v := .agg #[.string mm, .string tt, .slice b9 q d9, .string bb, .int .i64 1]) (by simp [results, Tryz.results18, go_sem, p0, p1, p2, p3, p4]) rfl ⟨b9, d9, by rw [HQ.out], ?_⟩
        have h5 := own_five b1 _ LL10.out HLE.out (.string mm) (.string tt) (.slice b9 q d9) (.string bb) (.int .i64 1)
        exact ⟨isFlds_keepR F10.out h5.2 HN1.out, h5.1⟩
end Go.Proofs.YtbbphklhnngjmaaGreatDoor

/- rewrite's law: Asks; request's law: Own, of any body and kind. -/
namespace Go.Proofs.YtbbphklhnngjmaaGreatDoor
open Go.RowKit

set_option maxRecDepth 100000 in
set_option maxHeartbeats 8000000 in
theorem own17g (mm tt bb : ByteArray) (kk : Int) (a : Option Addr) (c : Nat) (fs : List Fld) (hfl : fs.length ≤ 1000000) (gs : List Fld) (hgs : gs = fs) (w : World) (hf : IsFlds w a c fs) :
    Calls Tryz.prog 17 #[.agg #[.string mm, .string tt, .slice a fs.length c, .string bb, .int .i64 kk]] w fun e w' => ∃ b d, e = .returned (.agg #[.string mm, .string tt, .slice b gs.length d, .string bb, .int .i64 kk]) ∧ (b = none → d = 0 ∧ gs = []) ∧ IsFlds w' b d (gs) ∧ Below w.heap.size w w' := by
  have HM : Hid (∀ W, IsFlds W a c fs → Calls Tryz.prog 36 #[.slice a fs.length c] W fun e w' => ∃ u, e = .returned u ∧ w'.ownsRow W.heap.size 62 2 u gs.length (cellsF gs) ∧ Below W.heap.size W w') := fun W h => by rw [hgs]; exact own40 a c fs hfl W h
  clear hfl hgs
  obtain ⟨FF, hFF⟩ : ∃ X, X = gs := ⟨_, rfl⟩
  obtain ⟨m, hm⟩ : ∃ m, m = FF.length := ⟨_, rfl⟩
  rw [← hFF] at HM ⊢
  obtain ⟨n, hn⟩ : ∃ n, n = fs.length := ⟨_, rfl⟩
  rw [← hn] at HM ⊢
  have HMM := Lib.hid hm
  have R0 := (Row.new w 39 #[.string mm, .string tt, .slice a n c, .string bb, .int .i64 kk]).alloc (.cells #[.string ⟨#[]⟩, .string ⟨#[]⟩, .slice none 0 0, .string ⟨#[]⟩, .int .i64 0] 45)
  have R1 := Row.new (w.alloc (.cells #[.string mm, .string tt, .slice a n c, .string bb, .int .i64 kk] 39)) 45 #[.string ⟨#[]⟩, .string ⟨#[]⟩, .slice none 0 0, .string ⟨#[]⟩, .int .i64 0]
  rw [show (w.alloc (.cells #[.string mm, .string tt, .slice a n c, .string bb, .int .i64 kk] 39)).heap.size = w.heap.size + 1 by simp] at R1
  have L1 := (below_alloc w (.cells #[.string mm, .string tt, .slice a n c, .string bb, .int .i64 kk] 39)).alloc (by simp) (.cells #[.string ⟨#[]⟩, .string ⟨#[]⟩, .slice none 0 0, .string ⟨#[]⟩, .int .i64 0] 45)
  have HF := Lib.hid (hf.below L1)
  clear hf hFF hn
  go_enter Tryz.func17, Tryz.ntmps17
  go_upto_region 1 with fail
  obtain ⟨bM, hbM⟩ : ∃ bM, bM = w.heap.size := ⟨_, rfl⟩
  obtain ⟨bR, hbR⟩ : ∃ bR, bR = w.heap.size + 1 := ⟨_, rfl⟩
  have hbR0 : w.heap.size ≤ bR := by omega
  rw [← hbM] at R0
  rw [← hbR] at R1 ⊢
  rw [← hbM]
  generalize World.alloc (World.alloc w _) _ = w1 at *
  have HL1 := Lib.hid L1
  have r0 : w1.cell? ⟨bM, 0, none⟩ = some (.string mm) := R0.cell 0
  have r1 : w1.cell? ⟨bM, 1, none⟩ = some (.string tt) := R0.cell 1
  have r2 : w1.cell? ⟨bM, 2, none⟩ = some (.slice a n c) := R0.cell 2
  have r3 : w1.cell? ⟨bM, 3, none⟩ = some (.string bb) := R0.cell 3
  have r4 : w1.cell? ⟨bM, 4, none⟩ = some (.int .i64 kk) := R0.cell 4
  have hlt := R0.lt
  have RR := Lib.hid R1
  clear L1 R0 R1 hbM hbR hm
  rw [← HMM.out] at HM
  refine region_mixt 13 [some (.pointer (some ⟨bM, 0, none⟩)), some (.string mm), some (.pointer (some ⟨bM, 1, none⟩)), some (.string tt), some (.agg #[.string mm, .string tt]), some (.pointer (some ⟨bM, 2, none⟩)), some (.slice a n c), none, some (.pointer (some ⟨bM, 3, none⟩)), some (.string bb), some (.pointer (some ⟨bM, 4, none⟩)), some (.int .i64 kk), none]
    [[false, false, false, false, false, false, false, false, false, false, false, false, false], [true, false, false, false, false, false, false, false, false, false, false, false, false], [false, false, false, false, false, false, false, false, false, false, false, false, false], [false, false, true, false, false, false, false, false, false, false, false, false, false], [false, true, false, true, false, false, false, false, false, false, false, false, false], [false, false, false, false, false, false, false, false, false, false, false, false, false], [false, false, false, false, false, true, false, false, false, false, false, false, false], [false, false, false, false, false, false, true, false, false, false, false, false, false], [false, false, false, false, false, false, false, false, false, false, false, false, false], [false, false, false, false, false, false, false, false, true, false, false, false, false], [false, false, false, false, false, false, false, false, false, false, false, false, false], [false, false, false, false, false, false, false, false, false, false, true, false, false], [false, false, false, false, true, false, false, true, false, true, false, true, false]]
    (fun L x w9 => Below w1.heap.size w1 w9 ∧ (L 7 = true → ∃ b d, x 7 = .slice b m d ∧ (b = none → d = 0 ∧ FF = []) ∧ IsFlds w9 b d FF ∧ (∀ ad, b = some ad → w1.heap.size ≤ ad.block)) ∧ (L 12 = true → L 7 = true ∧ x 12 = .agg #[.string mm, .string tt, x 7, .string bb, .int .i64 kk]))
    (by kernel_rfl) (by kernel_rfl) (by kernel_rfl) (by kernel_rfl) (by kernel_rfl) (by decide) ?_ ?_ ?_
  · intro _
    exact ⟨⟨rfl, rfl, rfl, Nat.le_refl _, fun _ _ => rfl⟩, (fun h => by cases h), (fun h => by cases h)⟩
  · simp only [List.take_succ_cons, List.take_zero]
    refine ⟨?_, ?_, ?_, ?_, ?_, ?_, ?_, ?_, ?_, ?_, ?_, ?_, ?_, trivial⟩
    all_goals
      intro L x w9 hS hl hp K9 hK9
      have hs : Below w1.heap.size w1 w9 ∧ (L 7 = true → ∃ b d, x 7 = .slice b m d ∧ (b = none → d = 0 ∧ FF = []) ∧ IsFlds w9 b d FF ∧ (∀ ad, b = some ad → w1.heap.size ≤ ad.block)) ∧ (L 12 = true → L 7 = true ∧ x 12 = .agg #[.string mm, .string tt, x 7, .string bb, .int .i64 kk]) := hS
      clear hS
      replace hK9 := hK9.out
      simp only [actMix, pickV, List.tail_cons, List.headD_cons, Act.put, List.setIfInBounds_toArray, List.set_cons_zero, List.set_cons_succ] at hK9 ⊢
    · clear hp
      go_simp
      with_reducible refine hK9 _ ?_
      exact ⟨hs.1, fun h => by
        obtain ⟨b, d, h1, h2, h3, h4⟩ := hs.2.1 (by simpa [setL] using h)
        exact ⟨b, d, by simpa [updV] using h1, h2, h3, h4⟩, fun h => by
        obtain ⟨h1, h2⟩ := hs.2.2 (by simpa [setL] using h)
        exact ⟨by simpa [setL] using h1, by simpa [updV] using h2⟩⟩
    · have s0 : w9.cell? ⟨bM, 0, none⟩ = some (.string mm) := by rw [(bcell hs.1).1 _ _ hlt]; exact r0
      clear hp
      go_simp
      with_reducible refine hK9 _ ?_
      exact ⟨hs.1, fun h => by
        obtain ⟨b, d, h1, h2, h3, h4⟩ := hs.2.1 (by simpa [setL] using h)
        exact ⟨b, d, by simpa [updV] using h1, h2, h3, h4⟩, fun h => by
        obtain ⟨h1, h2⟩ := hs.2.2 (by simpa [setL] using h)
        exact ⟨by simpa [setL] using h1, by simpa [updV] using h2⟩⟩
    · clear hp
      go_simp
      with_reducible refine hK9 _ ?_
      exact ⟨hs.1, fun h => by
        obtain ⟨b, d, h1, h2, h3, h4⟩ := hs.2.1 (by simpa [setL] using h)
        exact ⟨b, d, by simpa [updV] using h1, h2, h3, h4⟩, fun h => by
        obtain ⟨h1, h2⟩ := hs.2.2 (by simpa [setL] using h)
        exact ⟨by simpa [setL] using h1, by simpa [updV] using h2⟩⟩
    · have s1 : w9.cell? ⟨bM, 1, none⟩ = some (.string tt) := by rw [(bcell hs.1).1 _ _ hlt]; exact r1
      clear hp
      go_simp
      with_reducible refine hK9 _ ?_
      exact ⟨hs.1, fun h => by
        obtain ⟨b, d, h1, h2, h3, h4⟩ := hs.2.1 (by simpa [setL] using h)
        exact ⟨b, d, by simpa [updV] using h1, h2, h3, h4⟩, fun h => by
        obtain ⟨h1, h2⟩ := hs.2.2 (by simpa [setL] using h)
        exact ⟨by simpa [setL] using h1, by simpa [updV] using h2⟩⟩
    · clear hp
      go_simp
      with_reducible refine hK9 _ ?_
      exact ⟨hs.1, fun h => by
        obtain ⟨b, d, h1, h2, h3, h4⟩ := hs.2.1 (by simpa [setL] using h)
        exact ⟨b, d, by simpa [updV] using h1, h2, h3, h4⟩, fun h => by
        obtain ⟨h1, h2⟩ := hs.2.2 (by simpa [setL] using h)
        exact ⟨by simpa [setL] using h1, by simpa [updV] using h2⟩⟩
    · clear hp
      go_simp
      with_reducible refine hK9 _ ?_
      exact ⟨hs.1, fun h => by
        obtain ⟨b, d, h1, h2, h3, h4⟩ := hs.2.1 (by simpa [setL] using h)
        exact ⟨b, d, by simpa [updV] using h1, h2, h3, h4⟩, fun h => by
        obtain ⟨h1, h2⟩ := hs.2.2 (by simpa [setL] using h)
        exact ⟨by simpa [setL] using h1, by simpa [updV] using h2⟩⟩
    · have s2 : w9.cell? ⟨bM, 2, none⟩ = some (.slice a n c) := by rw [(bcell hs.1).1 _ _ hlt]; exact r2
      clear hp
      go_simp
      with_reducible refine hK9 _ ?_
      exact ⟨hs.1, fun h => by
        obtain ⟨b, d, h1, h2, h3, h4⟩ := hs.2.1 (by simpa [setL] using h)
        exact ⟨b, d, by simpa [updV] using h1, h2, h3, h4⟩, fun h => by
        obtain ⟨h1, h2⟩ := hs.2.2 (by simpa [setL] using h)
        exact ⟨by simpa [setL] using h1, by simpa [updV] using h2⟩⟩
    · clear hp
      go_simp
      have h12 : L 12 = false := by
        cases h : L 12 with
        | false => rfl
        | true => have := (hs.2.2 h).1; rw [hl] at this; cases this
      refine (HM.out w9 (HF.out.below hs.1)).mono ?_
      rintro e9 w8 ⟨u, rfl, ho, hb8⟩
      rw [HMM.out] at ho
      obtain ⟨b, d, rfl, _, hbn, hf8, hnw⟩ := own_isFldsB ho
      rw [← HMM.out]
      with_reducible refine hK9 _ _ ?_
      exact ⟨hs.1.trans (hb8.mono hs.1.size), fun _ => ⟨b, d, by simp [updV, *], hbn, hf8, fun ad had => Nat.le_trans hs.1.size (hnw ad had)⟩, fun h => by simp [setL, h12] at h⟩
    · clear hp
      go_simp
      with_reducible refine hK9 _ ?_
      exact ⟨hs.1, fun h => by
        obtain ⟨b, d, h1, h2, h3, h4⟩ := hs.2.1 (by simpa [setL] using h)
        exact ⟨b, d, by simpa [updV] using h1, h2, h3, h4⟩, fun h => by
        obtain ⟨h1, h2⟩ := hs.2.2 (by simpa [setL] using h)
        exact ⟨by simpa [setL] using h1, by simpa [updV] using h2⟩⟩
    · have s3 : w9.cell? ⟨bM, 3, none⟩ = some (.string bb) := by rw [(bcell hs.1).1 _ _ hlt]; exact r3
      clear hp
      go_simp
      with_reducible refine hK9 _ ?_
      exact ⟨hs.1, fun h => by
        obtain ⟨b, d, h1, h2, h3, h4⟩ := hs.2.1 (by simpa [setL] using h)
        exact ⟨b, d, by simpa [updV] using h1, h2, h3, h4⟩, fun h => by
        obtain ⟨h1, h2⟩ := hs.2.2 (by simpa [setL] using h)
        exact ⟨by simpa [setL] using h1, by simpa [updV] using h2⟩⟩
    · clear hp
      go_simp
      with_reducible refine hK9 _ ?_
      exact ⟨hs.1, fun h => by
        obtain ⟨b, d, h1, h2, h3, h4⟩ := hs.2.1 (by simpa [setL] using h)
        exact ⟨b, d, by simpa [updV] using h1, h2, h3, h4⟩, fun h => by
        obtain ⟨h1, h2⟩ := hs.2.2 (by simpa [setL] using h)
        exact ⟨by simpa [setL] using h1, by simpa [updV] using h2⟩⟩
    · have s4 : w9.cell? ⟨bM, 4, none⟩ = some (.int .i64 kk) := by rw [(bcell hs.1).1 _ _ hlt]; exact r4
      clear hp
      go_simp
      with_reducible refine hK9 _ ?_
      exact ⟨hs.1, fun h => by
        obtain ⟨b, d, h1, h2, h3, h4⟩ := hs.2.1 (by simpa [setL] using h)
        exact ⟨b, d, by simpa [updV] using h1, h2, h3, h4⟩, fun h => by
        obtain ⟨h1, h2⟩ := hs.2.2 (by simpa [setL] using h)
        exact ⟨by simpa [setL] using h1, by simpa [updV] using h2⟩⟩
    · have h7 : L 7 = true := allL_mem hp 7 (by decide +kernel)
      obtain ⟨b, d, hx7, hbn7, hf7, hnb7⟩ := hs.2.1 h7
      clear hp
      rw [hx7] at hK9 ⊢
      go_simp
      with_reducible refine hK9 _ _ ?_
      exact ⟨hs.1, fun _ => ⟨b, d, by simpa [updV] using hx7, hbn7, hf7, hnb7⟩, fun _ => ⟨by simpa [setL] using h7, by simp [updV, hx7]⟩⟩
  intro L x w9 hS hL
  have hs : Below w1.heap.size w1 w9 ∧ (L 7 = true → ∃ b d, x 7 = .slice b m d ∧ (b = none → d = 0 ∧ FF = []) ∧ IsFlds w9 b d FF ∧ (∀ ad, b = some ad → w1.heap.size ≤ ad.block)) ∧ (L 12 = true → L 7 = true ∧ x 12 = .agg #[.string mm, .string tt, x 7, .string bb, .int .i64 kk]) := hS
  obtain ⟨b, d, hx7, hbn7, hf7, hnb7⟩ := hs.2.1 (hL 7 (by decide))
  have hx12 := (hs.2.2 (hL 12 (by decide))).2
  have hb9 := hs.1
  clear hS hL hs
  simp only [actMix, pickV, List.tail_cons, List.headD_cons, Act.put, List.setIfInBounds_toArray, List.set_cons_zero, List.set_cons_succ, List.replicate_succ, List.replicate_zero, List.drop_succ_cons, List.drop_zero, List.take_succ_cons, List.take_zero]
  rw [hx7] at hx12 ⊢
  rw [hx12]
  have Q := RR.out.below hb9
  have HB9 := Lib.hid (HL1.out.trans (hb9.mono HL1.out.size))
  have HF9 := Lib.hid hf7
  have HBN := Lib.hid hbn7
  have z0 := Q.free 0
  have z1 := Q.free 1
  have z2 := Q.free 2
  have z3 := Q.free 3
  have z4 := Q.free 4
  have p0 : w9.cell? ⟨bR, 0, none⟩ = some (.string ⟨#[]⟩) := Q.cell 0
  have p1 : w9.cell? ⟨bR, 1, none⟩ = some (.string ⟨#[]⟩) := Q.cell 1
  have p2 : w9.cell? ⟨bR, 2, none⟩ = some (.slice none 0 0) := Q.cell 2
  have p3 : w9.cell? ⟨bR, 3, none⟩ = some (.string ⟨#[]⟩) := Q.cell 3
  have p4 : w9.cell? ⟨bR, 4, none⟩ = some (.int .i64 0) := Q.cell 4
  have HNB : Hid (∀ ad, b = some ad → ¬ ad.block = bR) := fun ad had => by have := hnb7 ad had; have := RR.out.lt; omega
  clear hx7 hx12 hf7 hnb7 hb9 Q hbn7
  go_wp2_with fail
  refine bodyPost_ret (v := .agg #[.string mm, .string tt, .slice b m d, .string bb, .int .i64 kk]) (by simp [results, Tryz.results17, go_sem, p0, p1, p2, p3, p4]) rfl ⟨b, d, by rw [HMM.out], HBN.out, ?_⟩
  have h5 := own_five bR _ HB9.out hbR0 (.string mm) (.string tt) (.slice b m d) (.string bb) (.int .i64 kk)
  exact ⟨isFlds_keepR HF9.out h5.2 HNB.out, h5.1⟩
set_option maxRecDepth 100000 in
set_option maxHeartbeats 8000000 in
theorem asks14 (mm tt bb : ByteArray) (kk : Int) (a : Option Addr) (c : Nat) (fs : List Fld) (hfl : fs.length ≤ 9223372036854775807) (w : World) (hf : IsFlds w a c fs) :
    Calls Tryz.prog 14 #[.agg #[.string mm, .string tt, .slice a fs.length c, .string bb, .int .i64 kk]] w fun e w' => ∃ b d, e = .returned (.agg #[.string (cutS mm 20), .string (cutS tt 40), .slice b (fewF fs 8).length d, .string (cutS bb 60), .int .i64 kk]) ∧ (b = none → d = 0 ∧ (fewF fs 8) = []) ∧ IsFlds w' b d ((fewF fs 8)) ∧ Below w.heap.size w w' := by
  have HM : Hid (∀ W, IsFlds W a c fs → Calls Tryz.prog 9 #[.slice a fs.length c, .int .i64 8] W fun e w' => ∃ u, e = .returned u ∧ w'.ownsRow W.heap.size 53 2 u (fewF fs 8).length (cellsF (fewF fs 8)) ∧ Below W.heap.size W w') := fun W h => few39 a c fs 8 (by decide) hfl W h
  have HC1 := Lib.hid (fun W => cut11 mm 20 W)
  have HC2 := Lib.hid (fun W => cut11 tt 40 W)
  have HC3 := Lib.hid (fun W => cut11 bb 60 W)
  generalize cutS mm 20 = m2 at *
  generalize cutS tt 40 = t2 at *
  generalize cutS bb 60 = b2 at *
  clear hfl
  obtain ⟨FF, hFF⟩ : ∃ X, X = (fewF fs 8) := ⟨_, rfl⟩
  obtain ⟨m, hm⟩ : ∃ m, m = FF.length := ⟨_, rfl⟩
  rw [← hFF] at HM ⊢
  obtain ⟨n, hn⟩ : ∃ n, n = fs.length := ⟨_, rfl⟩
  rw [← hn] at HM ⊢
  have HMM := Lib.hid hm
  have R0 := (Row.new w 39 #[.string mm, .string tt, .slice a n c, .string bb, .int .i64 kk]).alloc (.cells #[.string ⟨#[]⟩, .string ⟨#[]⟩, .slice none 0 0, .string ⟨#[]⟩, .int .i64 0] 39)
  have R1 := Row.new (w.alloc (.cells #[.string mm, .string tt, .slice a n c, .string bb, .int .i64 kk] 39)) 39 #[.string ⟨#[]⟩, .string ⟨#[]⟩, .slice none 0 0, .string ⟨#[]⟩, .int .i64 0]
  rw [show (w.alloc (.cells #[.string mm, .string tt, .slice a n c, .string bb, .int .i64 kk] 39)).heap.size = w.heap.size + 1 by simp] at R1
  have L1 := (below_alloc w (.cells #[.string mm, .string tt, .slice a n c, .string bb, .int .i64 kk] 39)).alloc (by simp) (.cells #[.string ⟨#[]⟩, .string ⟨#[]⟩, .slice none 0 0, .string ⟨#[]⟩, .int .i64 0] 39)
  have HF := Lib.hid (hf.below L1)
  clear hf hFF hn
  go_enter Tryz.func14, Tryz.ntmps14
  go_upto_region 1 with fail
  obtain ⟨bM, hbM⟩ : ∃ bM, bM = w.heap.size := ⟨_, rfl⟩
  obtain ⟨bR, hbR⟩ : ∃ bR, bR = w.heap.size + 1 := ⟨_, rfl⟩
  have hbR0 : w.heap.size ≤ bR := by omega
  rw [← hbM] at R0
  rw [← hbR] at R1 ⊢
  rw [← hbM]
  generalize World.alloc (World.alloc w _) _ = w1 at *
  have HL1 := Lib.hid L1
  have r0 : w1.cell? ⟨bM, 0, none⟩ = some (.string mm) := R0.cell 0
  have r1 : w1.cell? ⟨bM, 1, none⟩ = some (.string tt) := R0.cell 1
  have r2 : w1.cell? ⟨bM, 2, none⟩ = some (.slice a n c) := R0.cell 2
  have r3 : w1.cell? ⟨bM, 3, none⟩ = some (.string bb) := R0.cell 3
  have r4 : w1.cell? ⟨bM, 4, none⟩ = some (.int .i64 kk) := R0.cell 4
  have hlt := R0.lt
  have RR := Lib.hid R1
  clear L1 R0 R1 hbM hbR hm
  rw [← HMM.out] at HM
  refine region_mixt 15 [some (.pointer (some ⟨bM, 0, none⟩)), some (.string mm), some (.string m2), some (.pointer (some ⟨bM, 1, none⟩)), some (.string tt), some (.string t2), some (.pointer (some ⟨bM, 2, none⟩)), some (.slice a n c), none, some (.pointer (some ⟨bM, 3, none⟩)), some (.string bb), some (.string b2), some (.pointer (some ⟨bM, 4, none⟩)), some (.int .i64 kk), none]
    [[false, false, false, false, false, false, false, false, false, false, false, false, false, false, false], [true, false, false, false, false, false, false, false, false, false, false, false, false, false, false], [false, true, false, false, false, false, false, false, false, false, false, false, false, false, false], [false, false, false, false, false, false, false, false, false, false, false, false, false, false, false], [false, false, false, true, false, false, false, false, false, false, false, false, false, false, false], [false, false, true, false, true, false, false, false, false, false, false, false, false, false, false], [false, false, false, false, false, false, false, false, false, false, false, false, false, false, false], [false, false, false, false, false, false, true, false, false, false, false, false, false, false, false], [false, false, false, false, false, true, false, true, false, false, false, false, false, false, false], [false, false, false, false, false, false, false, false, false, false, false, false, false, false, false], [false, false, false, false, false, false, false, false, false, true, false, false, false, false, false], [false, false, false, false, false, false, false, false, true, false, true, false, false, false, false], [false, false, false, false, false, false, false, false, false, false, false, false, false, false, false], [false, false, false, false, false, false, false, false, false, false, false, false, true, false, false], [false, false, true, false, false, true, false, false, true, false, false, true, false, true, false]]
    (fun L x w9 => Below w1.heap.size w1 w9 ∧ (L 8 = true → ∃ b d, x 8 = .slice b m d ∧ (b = none → d = 0 ∧ FF = []) ∧ IsFlds w9 b d FF ∧ (∀ ad, b = some ad → w1.heap.size ≤ ad.block)) ∧ (L 14 = true → L 8 = true ∧ x 14 = .agg #[.string m2, .string t2, x 8, .string b2, .int .i64 kk]))
    (by kernel_rfl) (by kernel_rfl) (by kernel_rfl) (by kernel_rfl) (by kernel_rfl) (by decide) ?_ ?_ ?_
  · intro _
    exact ⟨⟨rfl, rfl, rfl, Nat.le_refl _, fun _ _ => rfl⟩, (fun h => by cases h), (fun h => by cases h)⟩
  · simp only [List.take_succ_cons, List.take_zero]
    refine ⟨?_, ?_, ?_, ?_, ?_, ?_, ?_, ?_, ?_, ?_, ?_, ?_, ?_, ?_, ?_, trivial⟩
    all_goals
      intro L x w9 hS hl hp K9 hK9
      have hs : Below w1.heap.size w1 w9 ∧ (L 8 = true → ∃ b d, x 8 = .slice b m d ∧ (b = none → d = 0 ∧ FF = []) ∧ IsFlds w9 b d FF ∧ (∀ ad, b = some ad → w1.heap.size ≤ ad.block)) ∧ (L 14 = true → L 8 = true ∧ x 14 = .agg #[.string m2, .string t2, x 8, .string b2, .int .i64 kk]) := hS
      clear hS
      replace hK9 := hK9.out
      simp only [actMix, pickV, List.tail_cons, List.headD_cons, Act.put, List.setIfInBounds_toArray, List.set_cons_zero, List.set_cons_succ] at hK9 ⊢
    · clear hp
      go_simp
      with_reducible refine hK9 _ ?_
      exact ⟨hs.1, fun h => by
        obtain ⟨b, d, h1, h2, h3, h4⟩ := hs.2.1 (by simpa [setL] using h)
        exact ⟨b, d, by simpa [updV] using h1, h2, h3, h4⟩, fun h => by
        obtain ⟨h1, h2⟩ := hs.2.2 (by simpa [setL] using h)
        exact ⟨by simpa [setL] using h1, by simpa [updV] using h2⟩⟩
    · have s0 : w9.cell? ⟨bM, 0, none⟩ = some (.string mm) := by rw [(bcell hs.1).1 _ _ hlt]; exact r0
      clear hp
      go_simp
      with_reducible refine hK9 _ ?_
      exact ⟨hs.1, fun h => by
        obtain ⟨b, d, h1, h2, h3, h4⟩ := hs.2.1 (by simpa [setL] using h)
        exact ⟨b, d, by simpa [updV] using h1, h2, h3, h4⟩, fun h => by
        obtain ⟨h1, h2⟩ := hs.2.2 (by simpa [setL] using h)
        exact ⟨by simpa [setL] using h1, by simpa [updV] using h2⟩⟩
    · clear hp
      go_simp
      refine (HC1.out w9).mono ?_
      rintro e9 w8 ⟨rfl, rfl⟩
      with_reducible refine hK9 _ ?_
      exact ⟨hs.1, fun h => by
        obtain ⟨b, d, h1, h2, h3, h4⟩ := hs.2.1 (by simpa [setL] using h)
        exact ⟨b, d, by simpa [updV] using h1, h2, h3, h4⟩, fun h => by
        obtain ⟨h1, h2⟩ := hs.2.2 (by simpa [setL] using h)
        exact ⟨by simpa [setL] using h1, by simpa [updV] using h2⟩⟩
    · clear hp
      go_simp
      with_reducible refine hK9 _ ?_
      exact ⟨hs.1, fun h => by
        obtain ⟨b, d, h1, h2, h3, h4⟩ := hs.2.1 (by simpa [setL] using h)
        exact ⟨b, d, by simpa [updV] using h1, h2, h3, h4⟩, fun h => by
        obtain ⟨h1, h2⟩ := hs.2.2 (by simpa [setL] using h)
        exact ⟨by simpa [setL] using h1, by simpa [updV] using h2⟩⟩
    · have s1 : w9.cell? ⟨bM, 1, none⟩ = some (.string tt) := by rw [(bcell hs.1).1 _ _ hlt]; exact r1
      clear hp
      go_simp
      with_reducible refine hK9 _ ?_
      exact ⟨hs.1, fun h => by
        obtain ⟨b, d, h1, h2, h3, h4⟩ := hs.2.1 (by simpa [setL] using h)
        exact ⟨b, d, by simpa [updV] using h1, h2, h3, h4⟩, fun h => by
        obtain ⟨h1, h2⟩ := hs.2.2 (by simpa [setL] using h)
        exact ⟨by simpa [setL] using h1, by simpa [updV] using h2⟩⟩
    · clear hp
      go_simp
      refine (HC2.out w9).mono ?_
      rintro e9 w8 ⟨rfl, rfl⟩
      with_reducible refine hK9 _ ?_
      exact ⟨hs.1, fun h => by
        obtain ⟨b, d, h1, h2, h3, h4⟩ := hs.2.1 (by simpa [setL] using h)
        exact ⟨b, d, by simpa [updV] using h1, h2, h3, h4⟩, fun h => by
        obtain ⟨h1, h2⟩ := hs.2.2 (by simpa [setL] using h)
        exact ⟨by simpa [setL] using h1, by simpa [updV] using h2⟩⟩
    · clear hp
      go_simp
      with_reducible refine hK9 _ ?_
      exact ⟨hs.1, fun h => by
        obtain ⟨b, d, h1, h2, h3, h4⟩ := hs.2.1 (by simpa [setL] using h)
        exact ⟨b, d, by simpa [updV] using h1, h2, h3, h4⟩, fun h => by
        obtain ⟨h1, h2⟩ := hs.2.2 (by simpa [setL] using h)
        exact ⟨by simpa [setL] using h1, by simpa [updV] using h2⟩⟩
    · have s2 : w9.cell? ⟨bM, 2, none⟩ = some (.slice a n c) := by rw [(bcell hs.1).1 _ _ hlt]; exact r2
      clear hp
      go_simp
      with_reducible refine hK9 _ ?_
      exact ⟨hs.1, fun h => by
        obtain ⟨b, d, h1, h2, h3, h4⟩ := hs.2.1 (by simpa [setL] using h)
        exact ⟨b, d, by simpa [updV] using h1, h2, h3, h4⟩, fun h => by
        obtain ⟨h1, h2⟩ := hs.2.2 (by simpa [setL] using h)
        exact ⟨by simpa [setL] using h1, by simpa [updV] using h2⟩⟩
    · clear hp
      go_simp
      have h12 : L 14 = false := by
        cases h : L 14 with
        | false => rfl
        | true => have := (hs.2.2 h).1; rw [hl] at this; cases this
      refine (HM.out w9 (HF.out.below hs.1)).mono ?_
      rintro e9 w8 ⟨u, rfl, ho, hb8⟩
      rw [HMM.out] at ho
      obtain ⟨b, d, rfl, _, hbn, hf8, hnw⟩ := own_isFldsB ho
      rw [← HMM.out]
      with_reducible refine hK9 _ _ ?_
      exact ⟨hs.1.trans (hb8.mono hs.1.size), fun _ => ⟨b, d, by simp [updV, *], hbn, hf8, fun ad had => Nat.le_trans hs.1.size (hnw ad had)⟩, fun h => by simp [setL, h12] at h⟩
    · clear hp
      go_simp
      with_reducible refine hK9 _ ?_
      exact ⟨hs.1, fun h => by
        obtain ⟨b, d, h1, h2, h3, h4⟩ := hs.2.1 (by simpa [setL] using h)
        exact ⟨b, d, by simpa [updV] using h1, h2, h3, h4⟩, fun h => by
        obtain ⟨h1, h2⟩ := hs.2.2 (by simpa [setL] using h)
        exact ⟨by simpa [setL] using h1, by simpa [updV] using h2⟩⟩
    · have s3 : w9.cell? ⟨bM, 3, none⟩ = some (.string bb) := by rw [(bcell hs.1).1 _ _ hlt]; exact r3
      clear hp
      go_simp
      with_reducible refine hK9 _ ?_
      exact ⟨hs.1, fun h => by
        obtain ⟨b, d, h1, h2, h3, h4⟩ := hs.2.1 (by simpa [setL] using h)
        exact ⟨b, d, by simpa [updV] using h1, h2, h3, h4⟩, fun h => by
        obtain ⟨h1, h2⟩ := hs.2.2 (by simpa [setL] using h)
        exact ⟨by simpa [setL] using h1, by simpa [updV] using h2⟩⟩
    · clear hp
      go_simp
      refine (HC3.out w9).mono ?_
      rintro e9 w8 ⟨rfl, rfl⟩
      with_reducible refine hK9 _ ?_
      exact ⟨hs.1, fun h => by
        obtain ⟨b, d, h1, h2, h3, h4⟩ := hs.2.1 (by simpa [setL] using h)
        exact ⟨b, d, by simpa [updV] using h1, h2, h3, h4⟩, fun h => by
        obtain ⟨h1, h2⟩ := hs.2.2 (by simpa [setL] using h)
        exact ⟨by simpa [setL] using h1, by simpa [updV] using h2⟩⟩
    · clear hp
      go_simp
      with_reducible refine hK9 _ ?_
      exact ⟨hs.1, fun h => by
        obtain ⟨b, d, h1, h2, h3, h4⟩ := hs.2.1 (by simpa [setL] using h)
        exact ⟨b, d, by simpa [updV] using h1, h2, h3, h4⟩, fun h => by
        obtain ⟨h1, h2⟩ := hs.2.2 (by simpa [setL] using h)
        exact ⟨by simpa [setL] using h1, by simpa [updV] using h2⟩⟩
    · have s4 : w9.cell? ⟨bM, 4, none⟩ = some (.int .i64 kk) := by rw [(bcell hs.1).1 _ _ hlt]; exact r4
      clear hp
      go_simp
      with_reducible refine hK9 _ ?_
      exact ⟨hs.1, fun h => by
        obtain ⟨b, d, h1, h2, h3, h4⟩ := hs.2.1 (by simpa [setL] using h)
        exact ⟨b, d, by simpa [updV] using h1, h2, h3, h4⟩, fun h => by
        obtain ⟨h1, h2⟩ := hs.2.2 (by simpa [setL] using h)
        exact ⟨by simpa [setL] using h1, by simpa [updV] using h2⟩⟩
    · have h7 : L 8 = true := allL_mem hp 8 (by decide +kernel)
      obtain ⟨b, d, hx7, hbn7, hf7, hnb7⟩ := hs.2.1 h7
      clear hp
      rw [hx7] at hK9 ⊢
      go_simp
      with_reducible refine hK9 _ _ ?_
      exact ⟨hs.1, fun _ => ⟨b, d, by simpa [updV] using hx7, hbn7, hf7, hnb7⟩, fun _ => ⟨by simpa [setL] using h7, by simp [updV, hx7]⟩⟩
  intro L x w9 hS hL
  have hs : Below w1.heap.size w1 w9 ∧ (L 8 = true → ∃ b d, x 8 = .slice b m d ∧ (b = none → d = 0 ∧ FF = []) ∧ IsFlds w9 b d FF ∧ (∀ ad, b = some ad → w1.heap.size ≤ ad.block)) ∧ (L 14 = true → L 8 = true ∧ x 14 = .agg #[.string m2, .string t2, x 8, .string b2, .int .i64 kk]) := hS
  obtain ⟨b, d, hx7, hbn7, hf7, hnb7⟩ := hs.2.1 (hL 8 (by decide))
  have hx12 := (hs.2.2 (hL 14 (by decide))).2
  have hb9 := hs.1
  clear hS hL hs
  simp only [actMix, pickV, List.tail_cons, List.headD_cons, Act.put, List.setIfInBounds_toArray, List.set_cons_zero, List.set_cons_succ, List.replicate_succ, List.replicate_zero, List.drop_succ_cons, List.drop_zero, List.take_succ_cons, List.take_zero]
  rw [hx7] at hx12 ⊢
  rw [hx12]
  have Q := RR.out.below hb9
  have HB9 := Lib.hid (HL1.out.trans (hb9.mono HL1.out.size))
  have HF9 := Lib.hid hf7
  have HBN := Lib.hid hbn7
  have z0 := Q.free 0
  have z1 := Q.free 1
  have z2 := Q.free 2
  have z3 := Q.free 3
  have z4 := Q.free 4
  have p0 : w9.cell? ⟨bR, 0, none⟩ = some (.string ⟨#[]⟩) := Q.cell 0
  have p1 : w9.cell? ⟨bR, 1, none⟩ = some (.string ⟨#[]⟩) := Q.cell 1
  have p2 : w9.cell? ⟨bR, 2, none⟩ = some (.slice none 0 0) := Q.cell 2
  have p3 : w9.cell? ⟨bR, 3, none⟩ = some (.string ⟨#[]⟩) := Q.cell 3
  have p4 : w9.cell? ⟨bR, 4, none⟩ = some (.int .i64 0) := Q.cell 4
  have HNB : Hid (∀ ad, b = some ad → ¬ ad.block = bR) := fun ad had => by have := hnb7 ad had; have := RR.out.lt; omega
  clear hx7 hx12 hf7 hnb7 hb9 Q hbn7
  go_wp2_with fail
  refine bodyPost_ret (v := .agg #[.string m2, .string t2, .slice b m d, .string b2, .int .i64 kk]) (by simp [results, Tryz.results14, go_sem, p0, p1, p2, p3, p4]) rfl ⟨b, d, by rw [HMM.out], HBN.out, ?_⟩
  have h5 := own_five bR _ HB9.out hbR0 (.string m2) (.string t2) (.slice b m d) (.string b2) (.int .i64 kk)
  exact ⟨isFlds_keepR HF9.out h5.2 HNB.out, h5.1⟩
end Go.Proofs.YtbbphklhnngjmaaGreatDoor

