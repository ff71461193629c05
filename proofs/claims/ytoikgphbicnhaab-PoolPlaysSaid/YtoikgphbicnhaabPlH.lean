/- pool: List and Busy. -/
import Derived.Test.YtoikgphbicnhaabPlG
import Derived.Laws.OwnMore
import Derived.Laws.IdiomRangeMap
namespace Go.Proofs.Ytoikgphbicnhaab
open Go.RowKit Go.Maps Go.Shelf Go.Sort

/-- Backends as cells, one behind the other. -/
def cellsB (l : List Bk) : List Value := l.flatMap fun b => [.string b.nm, .int .i64 b.wt, .int .i64 b.cp, .int .i64 b.st, .int .i64 b.bz]
theorem cellsB_append (a b : List Bk) : cellsB (a ++ b) = cellsB a ++ cellsB b := by simp [cellsB]
theorem cellsB_length (a : List Bk) : (cellsB a).length = a.length * 5 := by
  induction a with
  | nil => rfl
  | cons x r ih => simp [cellsB] at ih ⊢; omega
theorem cellsB_at : ∀ (l : List Bk) (j : Nat) (b : Bk), l[j]? = some b → (cellsB l)[j * 5]? = some (.string b.nm) ∧ (cellsB l)[j * 5 + 1]? = some (.int .i64 b.wt) ∧ (cellsB l)[j * 5 + 2]? = some (.int .i64 b.cp) ∧ (cellsB l)[j * 5 + 3]? = some (.int .i64 b.st) ∧ (cellsB l)[j * 5 + 4]? = some (.int .i64 b.bz)
  | [], j, b, h => by simp at h
  | y :: r, 0, b, h => by simp at h; subst h; simp [cellsB]
  | y :: r, j + 1, b, h => by
    have h' : r[j]? = some b := by simpa using h
    have ih := cellsB_at r j b h'
    have e : cellsB (y :: r) = [.string y.nm, .int .i64 y.wt, .int .i64 y.cp, .int .i64 y.st, .int .i64 y.bz] ++ cellsB r := by simp [cellsB]
    have g : ∀ k, (cellsB (y :: r))[(j + 1) * 5 + k]? = (cellsB r)[j * 5 + k]? := fun k => by
      rw [e, List.getElem?_append_right (by simp; omega)]
      congr 1
      simp; omega
    exact ⟨by have := g 0; simpa using this.trans ih.1, (g 1).trans ih.2.1, (g 2).trans ih.2.2.1, (g 3).trans ih.2.2.2.1, (g 4).trans ih.2.2.2.2⟩
theorem cellsB_step {l : List Bk} {j : Nat} (hj : j < l.length) : cellsB (l.take (j + 1)) = cellsB (l.take j) ++ [.string l[j].nm, .int .i64 l[j].wt, .int .i64 l[j].cp, .int .i64 l[j].st, .int .i64 l[j].bz] := by
  rw [List.take_add_one, List.getElem?_eq_getElem hj, Option.toList_some, cellsB_append]; simp [cellsB]
/-- A slice of backends. -/
def IsBks (w : World) (a : Option Addr) (c : Nat) (l : List Bk) : Prop :=
  l = [] ∨ ∃ bk o, a = some ⟨bk, o, none⟩ ∧ bk < w.heap.size ∧ l.length ≤ c ∧ ∀ (j : Nat) b, l[j]? = some b → w.cell? ⟨bk, o + j * 5, none⟩ = some (.string b.nm) ∧ w.cell? ⟨bk, o + j * 5 + 1, none⟩ = some (.int .i64 b.wt) ∧ w.cell? ⟨bk, o + j * 5 + 2, none⟩ = some (.int .i64 b.cp) ∧ w.cell? ⟨bk, o + j * 5 + 3, none⟩ = some (.int .i64 b.st) ∧ w.cell? ⟨bk, o + j * 5 + 4, none⟩ = some (.int .i64 b.bz)
theorem keep_cellP {G : Nat → Prop} {w w' : World} (h : Keep G w w') {b : Nat} (hb : b < w.heap.size) (hg : ¬ G b) (o : Nat) : w'.cell? ⟨b, o, none⟩ = w.cell? ⟨b, o, none⟩ := by
  simp only [World.cell?]; rw [h.block b hb hg]
theorem IsBks.keep {G : Nat → Prop} {w w' : World} {a : Option Addr} {c : Nat} {l : List Bk} (h : IsBks w a c l) (hk : Keep G w w') (hg : ∀ p, a = some p → ¬ G p.block) : IsBks w' a c l := by
  obtain h | ⟨bk, o, ha, hlt, hc, hcell⟩ := h
  · exact .inl h
  · have hb := hg _ ha
    exact .inr ⟨bk, o, ha, Nat.lt_of_lt_of_le hlt hk.size, hc, fun j f hf => by rw [keep_cellP hk hlt hb, keep_cellP hk hlt hb, keep_cellP hk hlt hb, keep_cellP hk hlt hb, keep_cellP hk hlt hb]; exact hcell j f hf⟩
theorem IsBks.below {w w' : World} {a : Option Addr} {c : Nat} {l : List Bk} (h : IsBks w a c l) (hb : Below w.heap.size w w') : IsBks w' a c l :=
  h.keep (G := fun _ => False) (.of_below hb) (fun _ _ h => h)
theorem isBks_own {w : World} {base : Nat} {e : TypeId} {a : Option Addr} {m c : Nat} {l : List Bk} (h : w.ownsRow base e 5 (.slice a m c) l.length (cellsB l)) : m = l.length ∧ IsBks w a c l ∧ ∀ p, a = some p → base ≤ p.block ∧ p.block < w.heap.size := by
  obtain ⟨_, ⟨hv, h0⟩ | ⟨g, cap, cur, hv, hb, hg, hcap, _, hcs, htk⟩⟩ := h
  · injection hv with h1 h2 h3
    refine ⟨by omega, .inl (List.eq_nil_of_length_eq_zero h0), fun p hp => ?_⟩
    rw [h1] at hp; cases hp
  · injection hv with h1 h2 h3
    have hlt : g < w.heap.size := (Array.getElem?_eq_some_iff.1 hg).1
    subst h1 h2 h3
    refine ⟨rfl, .inr ⟨g, 0, rfl, hlt, hcap, fun j e' he => ?_⟩, fun p hp => ?_⟩
    · have hj : j < l.length := by
        rcases Nat.lt_or_ge j l.length with h | h
        · exact h
        · rw [List.getElem?_eq_none h] at he; cases he
      obtain ⟨q1, q2, q3, q4, q5⟩ := cellsB_at l j e' he
      rw [← htk, List.getElem?_take, if_pos (by omega)] at q1 q2 q3 q4 q5
      rw [Nat.zero_add]
      simp only [World.cell?, hg]
      exact ⟨by simpa using q1, by simpa using q2, by simpa using q3, by simpa using q4, by simpa using q5⟩
    · injection hp with hp; subst hp; exact ⟨hb, hlt⟩
theorem infoBkP : (Try.prog.info? 33).map (fun i => (i.zero, i.size, i.bytes)) = some (some (.agg #[.string ⟨#[]⟩, .int .i64 0, .int .i64 0, .int .i64 0, .int .i64 0]), 5, 48) := by kernel_rfl
def bkL (b : Bk) : List Value := [.string b.nm, .int .i64 b.wt, .int .i64 b.cp, .int .i64 b.st, .int .i64 b.bz]
theorem bk_new (w : World) (b : Bk) : ∀ (k : Nat) u, (bkL b)[k]? = some u → (w.alloc (.cells #[.string b.nm, .int .i64 b.wt, .int .i64 b.cp, .int .i64 b.st, .int .i64 b.bz] 33)).cell? ((⟨w.heap.size, 0, none⟩ : Addr).add k) = some u := by
  intro k u hu
  rw [Addr.add_mid, Nat.zero_add, (Row.new w 33 #[.string b.nm, .int .i64 b.wt, .int .i64 b.cp, .int .i64 b.st, .int .i64 b.bz]).cell]
  simpa [bkL] using hu
theorem bk_one (b : Bk) : ∀ u ∈ bkL b, u.oneCell' = true := by intro u hu; simp [bkL] at hu; rcases hu with rfl | rfl | rfl | rfl | rfl <;> rfl
theorem take_len1 {l : List Bk} {j : Nat} (h : j < l.length) : (l.take j).length + 1 = (l.take (j + 1)).length := by
  rw [List.length_take, List.length_take]; omega
set_option maxRecDepth 100000 in
set_option maxHeartbeats 2000000 in
theorem list_some (pb bm g nc n : Nat) (l : List Bk) (hg : Good l) (hlen : l.length ≤ 1024) (w : World) (h : PMem w pb bm g nc n (nmsB l) (fndB l)) :
    Calls Try.prog 16 #[.pointer (some ⟨pb, 0, none⟩)] w fun e w' => ∃ v, e = .returned v ∧ w'.ownsRow w.heap.size 33 5 v l.length (cellsB l) ∧ Below w.heap.size w w' := by
  obtain ⟨i0, hi, hz0, hz1, hz2⟩ := info_partsP infoBkP
  have HM := Lib.hid h
  have hnl : (nmsB l).length = l.length := by simp [nmsB]
  have c0 : w.cell? ⟨pb, 0, none⟩ = some (.map (some bm)) := h.row.cell 0
  have c1 : w.cell? ⟨pb, 1, none⟩ = some (.slice (some ⟨g, 0, none⟩) l.length nc) := by have := h.row.cell 1; rw [hnl] at this; exact this
  have HCC : Hid (∀ j (hj : j < l.length), w.cell? ⟨g, j, none⟩ = some (.string l[j].nm)) := fun j hj => by
    rw [h.own.cellAt j (by rw [hnl]; omega)]
    simp [nmsB, hj]
  have HLK : Hid (∀ (W : World) j (hj : j < l.length), Below w.heap.size w W → (Instr.lookup 52 (.map (some bm)) (.string l[j].nm) false).run Try.prog W = .ok (bkV l[j]) W) := fun W j hj hb => by
    have h1 := (h.map.below hb).look (s := l[j].nm) (by have := hg.sz _ (List.getElem_mem hj); unfold maxLen; omega)
    rw [fndB_of_mem hg.ap (List.getElem_mem hj)] at h1
    exact h1
  have HPL : Hid (pb < w.heap.size ∧ g < w.heap.size) := ⟨h.row.lt, h.glt⟩
  have HC0 := Lib.hid c0
  clear h hnl hg
  go_enter Try.func16, Try.ntmps16
  go_wp2_with fail
  clear c0 c1
  go_loopw [3, 11] (fun u i wr => ∃ j : Nat, j ≤ l.length ∧ i = .int .i64 (j : Int) ∧ Hid (wr.ownsRow w.heap.size 33 5 u (l.take j).length (cellsB (l.take j))) ∧ Hid (Below w.heap.size w wr)) (fun _ i _ => l.length - (intOf i).toNat)
  case atStart => exact ⟨0, Nat.zero_le _, rfl, World.ownsRow_nil _ _ _ _, Below.refl _ _⟩
  case round =>
    obtain ⟨j, hj, rfl, hown, hb⟩ := hrel
    obtain ⟨ua, uc, hu⟩ := own_slice hown.out
    subst hu
    by_cases hlt : j < l.length
    · have j1 : (j : Int) < l.length := by omega
      have x0 : wr.cell? ⟨pb, 0, none⟩ = some (.map (some bm)) := by rw [(bcell hb.out).1 _ _ HPL.out.1]; exact HC0.out
      have x1 : wr.cell? ⟨g, j, none⟩ = some (.string l[j].nm) := by rw [(bcell hb.out).1 _ _ HPL.out.2]; exact HCC.out j hlt
      have x2 := HLK.out wr j hlt hb.out
      have hst := cellsB_step hlt
      obtain ⟨b, hbd⟩ : ∃ b, b = l[j] := ⟨_, rfl⟩
      rw [← hbd] at x1 x2 hst
      have HST := Lib.hid hst
      have HL1 : Hid ((l.take j).length + 1 = (l.take (j + 1)).length) := take_len1 hlt
      have hl2 : (l.take j).length ≤ 1024 := Nat.le_trans (List.length_take_le _ _) (by omega)
      clear hst hbd
      have HOA := Lib.hid (hown.out.alloc (.cells #[.string b.nm, .int .i64 b.wt, .int .i64 b.cp, .int .i64 b.st, .int .i64 b.bz] 33))
      have HBA : Hid (Below w.heap.size w (wr.alloc (.cells #[.string b.nm, .int .i64 b.wt, .int .i64 b.cp, .int .i64 b.st, .int .i64 b.bz] 33))) := hb.out.alloc hb.out.size _
      have HCA := Lib.hid (bk_new wr b)
      have HON := Lib.hid (bk_one b)
      simp only [bkV, bkC] at x2
      clear hown
      generalize hmm : (l.take j).length = mm at *
      clear hmm
      go_wp2_with (at_builtin; refine wpList_append_lies _ rfl _ _ 43 rfl w.heap.size 33 i0 (.agg #[.string ⟨#[]⟩, .int .i64 0, .int .i64 0, .int .i64 0, .int .i64 0]) 5 48 Try.underlying43 hi hz0 hz1 hz2 rfl (by decide) _ _ _ rfl HOA.out ⟨wr.heap.size, 0, none⟩ 1 1 (bkL b) rfl rfl HCA.out HON.out (by decide) (by unfold maxLen; omega) (by omega) HBA.out.size _ rfl ?_; intro g2 cap2 w11 hown2 hgrow2 hwh2 hlt3)
      go_roundw
      case rel =>
        refine ⟨j + 1, hlt, by go_num, ?_, ?_⟩
        · have h2 := hown2
          rw [← HL1.out, HST.out]
          exact h2
        · exact HBA.out.grown hgrow2 HBA.out.size (fun k hk => by have := (HOA.out.lt k hk).1; omega)
      case measure => simp [intOf]; omega
    · obtain rfl : j = l.length := by omega
      have hj0 : ¬ ((l.length : Int) < l.length) := by omega
      have ho := hown.out
      rw [List.take_of_length_le (Nat.le_refl _)] at ho
      have HO := Lib.hid ho
      clear ho hown
      rw [List.take_of_length_le (Nat.le_refl _)]
      go_wp2_with fail
      go_ret
      exact ⟨_, rfl, HO.out, hb.out⟩
theorem list16 (pb n : Nat) (F : Nat → Prop) (l : List Bk) (w : World) (h : PoolM w pb n F l) :
    Calls Try.prog 16 #[.pointer (some ⟨pb, 0, none⟩)] w fun e w' => ∃ v, e = .returned v ∧ w'.ownsRow w.heap.size 33 5 v l.length (cellsB l) ∧ Below w.heap.size w w' := by
  obtain ⟨hg, hlen, ⟨rfl, rfl, hnil⟩ | ⟨bm, g, nc, rfl, hmem⟩⟩ := h
  · have c0 : w.cell? ⟨pb, 0, none⟩ = some (.map none) := hnil.cell 0
    have c1 : w.cell? ⟨pb, 1, none⟩ = some (.slice none 0 0) := hnil.cell 1
    clear hnil hg hlen
    go_enter Try.func16, Try.ntmps16
    go_wp2_with fail
    go_loopw [3, 11] (fun u i wr => u = .slice none 0 0 ∧ i = .int .i64 0 ∧ wr = w) (fun _ _ _ => 0)
    case atStart => exact ⟨rfl, rfl, rfl⟩
    case round =>
      obtain ⟨rfl, rfl, rfl⟩ := hrel
      go_wp2_with fail
      go_ret
      exact ⟨_, rfl, World.ownsRow_nil _ _ _ _, Below.refl _ _⟩
  · exact list_some pb bm g nc n l hg hlen w hmem
/-- The requests of the backends that are not to come any more. -/
def sumL (l : List Bk) (left : Lit → Bool) : Int := (l.map fun b => if left (.string b.nm.data.toList) = true then 0 else b.bz).sum
theorem sumL_all {l : List Bk} {left : Lit → Bool} (h : ∀ b ∈ l, left (.string b.nm.data.toList) = true) : sumL l left = 0 := by
  induction l with
  | nil => rfl
  | cons y r ih =>
    have := ih (fun b hb => h b (by simp [hb]))
    have h1 := h y (by simp)
    simp [sumL, h1] at this ⊢; exact this
theorem sumL_none {l : List Bk} {left : Lit → Bool} (h : ∀ kl, left kl = false) : sumL l left = sumB l := by
  unfold sumL sumB
  congr 1
  apply List.map_congr_left
  intro b _
  rw [h, if_neg (by simp)]
theorem strike_str (left : Lit → Bool) (x y : ByteArray) : (fun z : Lit => left z && !z.sameKey (.string x.data.toList)) (.string y.data.toList) = (left (.string y.data.toList) && !decide (y = x)) := by
  simp only
  congr 2
  by_cases h : y = x
  · subst h; rw [decide_eq_true rfl]; exact WideAt.sameKey_self (by unfold WideAt.IsKeyLit; trivial)
  · rw [decide_eq_false h]; exact sameKey_ne (keyO_ne h)
theorem sumL_same {l : List Bk} {left : Lit → Bool} {x : ByteArray} (h : ∀ b ∈ l, b.nm ≠ x) : sumL l (fun z => left z && !z.sameKey (.string x.data.toList)) = sumL l left := by
  unfold sumL
  congr 1
  apply List.map_congr_left
  intro b hb
  have := strike_str left x b.nm
  simp only at this ⊢
  simp only [this, decide_eq_false (h b hb), Bool.not_false, Bool.and_true]
theorem sumL_step {l : List Bk} (hp : l.Pairwise fun x y => x.nm ≠ y.nm) {left : Lit → Bool} {x : ByteArray} {b : Bk} (hf : fndB l x = some b) (hl : left (.string x.data.toList) = true) : sumL l (fun z => left z && !z.sameKey (.string x.data.toList)) = sumL l left + b.bz := by
  induction l with
  | nil => cases hf
  | cons y r ih =>
    obtain ⟨h1, h2⟩ := List.pairwise_cons.1 hp
    rw [fndB_cons] at hf
    have e : ∀ f, sumL (y :: r) f = (if f (.string y.nm.data.toList) = true then 0 else y.bz) + sumL r f := fun f => by simp [sumL]
    rw [e, e]
    have hs := strike_str left x y.nm
    simp only at hs
    rw [hs]
    by_cases h : y.nm = x
    · rw [if_pos h] at hf
      injection hf with hf
      subst hf h
      rw [sumL_same (fun z hz => (h1 z hz).symm), hl]
      simp; omega
    · rw [if_neg h] at hf
      have := ih h2 hf
      rw [this, decide_eq_false h]
      simp; omega
theorem sumL_bound {l : List Bk} (h : ∀ b ∈ l, 0 ≤ b.bz ∧ b.bz ≤ 65535) (left : Lit → Bool) : 0 ≤ sumL l left ∧ sumL l left ≤ 65535 * (l.length : Int) := by
  induction l with
  | nil => simp [sumL]
  | cons y r ih =>
    have h1 := ih (fun b hb => h b (by simp [hb]))
    have h2 := h y (by simp)
    have e : sumL (y :: r) left = (if left (.string y.nm.data.toList) = true then 0 else y.bz) + sumL r left := by simp [sumL]
    rw [e, List.length_cons]
    split <;> constructor <;> push_cast <;> omega
theorem good_bz {l : List Bk} (h : Good l) : ∀ b ∈ l, 0 ≤ b.bz ∧ b.bz ≤ 65535 := fun b hb => by have h1 := h.bz b hb; have h2 := h.cp b hb; omega
set_option maxRecDepth 100000 in
set_option maxHeartbeats 2000000 in
theorem busy22 (pb n : Nat) (F : Nat → Prop) (l : List Bk) (w : World) (h : PoolM w pb n F l) :
    Calls Try.prog 22 #[.pointer (some ⟨pb, 0, none⟩)] w fun e w' => e = .returned (.int .i64 (sumB l)) ∧ Below w.heap.size w w' := by
  obtain ⟨hg, hlen, ⟨rfl, rfl, hnil⟩ | ⟨bm, g, nc, rfl, hmem⟩⟩ := h
  · have c0 : w.cell? ⟨pb, 0, none⟩ = some (.map none) := hnil.cell 0
    have hrg := run_range_nilMap (P := Try.prog) w 52 _ _ Try.underlying52
    have hnx : ∀ ty, (Instr.next (.pointer (some ⟨w.heap.size, 0, none⟩)) false ty).run Try.prog (w.alloc (.mapIter none 0 #[] 0)) = _ := fun ty => run_next_nilMap _ ty 0 0 #[]
    clear hnil hg hlen
    go_enter Try.func22, Try.ntmps22
    go_wp2_with fail
    go_loopw [3] (fun x wr => x = .int .i64 0 ∧ wr = w.alloc (.mapIter none 0 #[] 0)) (fun _ _ => 0)
    case atStart => exact ⟨rfl, rfl⟩
    case round =>
      obtain ⟨rfl, rfl⟩ := hrel
      go_wp2_with fail
      go_ret
      exact ⟨rfl, below_alloc _ _⟩
  · obtain ⟨D, hown, hrd⟩ := hmem.map
    have c0 : w.cell? ⟨pb, 0, none⟩ = some (.map (some bm)) := hmem.row.cell 0
    have HRD := Lib.hid hrd
    have HGD := Lib.hid hg
    have HLN := Lib.hid hlen
    have hb0 := sumL_bound (good_bz hg)
    have HBD := Lib.hid hb0
    clear hmem hrd hg hb0
    go_enter Try.func22, Try.ntmps22
    go_wp2_with (at_range; refine wpList_range_own _ rfl _ 52 rfl 9 33 lawStr Try.underlying52 bkR bm n D rfl hown ?_; intro w0 hrg0 hg0 hs0)
    go_frame
    have HB0 : Hid (Below w.heap.size w w0) := by have := hg0; exact ⟨this.os, this.tape, this.output, this.size, fun k hk => this.block k hk (by simp)⟩
    have HG0 := Lib.hid hg0
    clear c0 hg0 hs0
    go_loopw [3] (fun x wr => ∃ (left : Lit → Bool) (cnt : Nat), Hid (wr.ranges Try.prog 9 bkR bm w.heap.size n D left cnt) ∧ x = .int .i64 (sumL l left) ∧ Hid (Below w.heap.size w wr)) (fun _ wr => wr.rangeLeft bm w.heap.size)
    case atStart =>
      refine ⟨_, _, hrg0, ?_, HB0⟩
      rw [sumL_all (fun b hb => by rw [(HRD.out b.nm).1, fndB_of_mem HGD.out.ap hb]; rfl)]
    case round =>
      obtain ⟨left, cnt, hrg, rfl, hbw⟩ := hrel
      go_wp2_with (at_next; refine wpList_next_ranges _ rfl _ rfl 9 lawStr bkR Value.string bkV (fun key kl hk => by obtain ⟨x, rfl, _⟩ := keyO_inv hk; exact ⟨x, rfl⟩) (fun v y hv => by obtain ⟨a, rfl, _⟩ := MB.inv v y hv; exact ⟨a, rfl⟩) bm w.heap.size n _ _ _ rfl hrg.out ?_ ?_)
      · intro _ hl0
        rw [sumL_none hl0]
        go_wp2_with fail
        go_ret
        exact ⟨rfl, hbw.out⟩
      · intro x b kl yd yp w1 cnt1 hkey hlx hv hat hrg1 hlt hg1 hs1 hen
        obtain ⟨x', e, hsz, rfl⟩ := keyO_inv hkey
        cases e
        have hyd : bkD b = yd := by
          have h1 := MB.hR b
          have h2 : some (bkD b, ([] : List MemPlace)) = some (yd, yp) := h1.symm.trans hv
          injection h2 with h2
          injection h2
        have hsome := has_true_of_atKey hat
        rw [(HRD.out x).1] at hsome
        obtain ⟨a, ha⟩ := Option.isSome_iff_exists.1 hsome
        have hab : b = a := by
          refine MB.inj _ _ ?_
          have h3 := (HRD.out x).2 a ha yd
          rw [hat yd] at h3
          exact hyd.trans h3
        subst hab
        have hstep := sumL_step HGD.out.ap ha hlx
        have hbb := good_bz HGD.out b (fndB_mem ha).1
        have hl1 := HBD.out left
        have hl0 := HLN.out
        have HRG1 := Lib.hid hrg1
        have HB1 : Hid (Below w.heap.size w w1) := hbw.out.grown hg1 hbw.out.size (fun k hk => by have := Option.some.inj hk; omega)
        have hme : w1.rangeLeft bm w.heap.size < wr.rangeLeft bm w.heap.size := by rw [hrg1.left_eq, hrg.out.left_eq]; exact hlt
        have HME := Lib.hid hme
        obtain ⟨S, hS⟩ : ∃ S, S = sumL l left := ⟨_, rfl⟩
        rw [← hS] at hstep hl1 ⊢
        obtain ⟨nm, wt, cp, st, bz⟩ := b
        simp only [bkV, bkC] at hen hbb ⊢
        have hs0 : 0 ≤ S := hl1.1
        have hs1' : S ≤ 67107840 := by omega
        obtain ⟨hbz0, hbz1⟩ := hbb
        have HST := Lib.hid hstep
        clear hkey hlx hv hat hrg1 hlt hg1 hs1 hsz hyd hsome ha hstep hl1 hl0 hrg hbw hme hS
        go_wp2_with fail
        go_roundw
        case rel =>
          exact ⟨_, cnt1, Lib.hid (HRG1.out.alloc _), by rw [HST.out], Lib.hid (HB1.out.alloc HB1.out.size _)⟩
        case measure =>
          rw [(HRG1.out.alloc _).left_eq]
          have := HME.out
          rw [HRG1.out.left_eq] at this
          exact this
end Go.Proofs.Ytoikgphbicnhaab
