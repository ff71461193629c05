/- The reference's agenda: a list of keys and ticks; Drop (written by genagra.py). -/
import Derived.Test.YtichkfbpmhpnaaaAhO
import Derived.Laws.OwnMore
import Derived.Lib.SlicesS
namespace Go.Proofs.Ytichkfbpmhpnaaa
open Go.RowKit Go.Maps

abbrev RI := ByteArray × Int
def riL (e : RI) : List Value := [.string e.1, .int .i64 e.2]
def cellsR (l : List RI) : List Value := l.flatMap riL
theorem cellsR_append (a b : List RI) : cellsR (a ++ b) = cellsR a ++ cellsR b := by simp [cellsR]
theorem cellsR_length (a : List RI) : (cellsR a).length = a.length * 2 := by
  induction a with
  | nil => rfl
  | cons x r ih => simp [cellsR, riL] at ih ⊢; omega
theorem cellsR_at : ∀ (l : List RI) (j : Nat) (b : RI), l[j]? = some b → (cellsR l)[j * 2]? = some (.string b.1) ∧ (cellsR l)[j * 2 + 1]? = some (.int .i64 b.2)
  | [], j, b, h => by simp at h
  | y :: r, 0, b, h => by simp at h; subst h; exact ⟨rfl, rfl⟩
  | y :: r, j + 1, b, h => by
    have h' : r[j]? = some b := by simpa using h
    have ih := cellsR_at r j b h'
    rw [show (j + 1) * 2 = j * 2 + 1 + 1 by omega]
    exact ih
/-- A slice of items. -/
structure IsRis (w : World) (a : Option Addr) (c : Nat) (l : List RI) : Prop where
  ris : l = [] ∨ ∃ bk o, a = some ⟨bk, o, none⟩ ∧ bk < w.heap.size ∧ l.length ≤ c ∧ ∀ (j : Nat) b, l[j]? = some b → w.cell? ⟨bk, o + j * 2, none⟩ = some (.string b.1) ∧ w.cell? ⟨bk, o + j * 2 + 1, none⟩ = some (.int .i64 b.2)
  cap : a = none → c = 0
  blk : ∀ p, a = some p → p.block < w.heap.size
theorem keep_cellA {G : Nat → Prop} {w w' : World} (h : Keep G w w') {b : Nat} (hb : b < w.heap.size) (hg : ¬ G b) (o : Nat) : w'.cell? ⟨b, o, none⟩ = w.cell? ⟨b, o, none⟩ := by
  simp only [World.cell?]; rw [h.block b hb hg]
theorem IsRis.keep {G : Nat → Prop} {w w' : World} {a : Option Addr} {c : Nat} {l : List RI} (h : IsRis w a c l) (hk : Keep G w w') (hg : ∀ p, a = some p → ¬ G p.block) : IsRis w' a c l := by
  refine ⟨?_, h.cap, fun p hp => Nat.lt_of_lt_of_le (h.blk p hp) hk.size⟩
  obtain h | ⟨bk, o, ha, hlt, hc, hcell⟩ := h.ris
  · exact .inl h
  · have hb := hg _ ha
    exact .inr ⟨bk, o, ha, Nat.lt_of_lt_of_le hlt hk.size, hc, fun j f hf => by rw [keep_cellA hk hlt hb, keep_cellA hk hlt hb]; exact hcell j f hf⟩
theorem IsRis.below {w w' : World} {a : Option Addr} {c : Nat} {l : List RI} (h : IsRis w a c l) (hb : Below w.heap.size w w') : IsRis w' a c l :=
  h.keep (G := fun _ => False) (.of_below hb) (fun _ _ h => h)
theorem isRis_own {w : World} {base : Nat} {e : TypeId} {v : Value} {l : List RI} (h : w.ownsRow base e 2 v l.length (cellsR l)) : ∃ a c, v = .slice a l.length c ∧ IsRis w a c l ∧ ∀ p, a = some p → base ≤ p.block := by
  obtain ⟨_, ⟨rfl, h0⟩ | ⟨g, cap, cur, rfl, hb, hg, hcap, _, hcs, htk⟩⟩ := h
  · exact ⟨none, 0, by rw [h0], ⟨.inl (List.eq_nil_of_length_eq_zero h0), fun _ => rfl, fun p hp => (by cases hp)⟩, fun p hp => (by cases hp)⟩
  · have hlt : g < w.heap.size := (Array.getElem?_eq_some_iff.1 hg).1
    refine ⟨_, _, rfl, ⟨.inr ⟨g, 0, rfl, hlt, hcap, fun j e' he => ?_⟩, fun e => (by cases e), fun p hp => ?_⟩, fun p hp => ?_⟩
    · have hj : j < l.length := by
        rcases Nat.lt_or_ge j l.length with h | h
        · exact h
        · rw [List.getElem?_eq_none h] at he; cases he
      obtain ⟨q1, q2⟩ := cellsR_at l j e' he
      rw [← htk, List.getElem?_take, if_pos (by omega)] at q1 q2
      rw [Nat.zero_add]
      simp only [World.cell?, hg]
      exact ⟨by simpa using q1, by simpa using q2⟩
    · injection hp with hp; subst hp; exact hlt
    · injection hp with hp; subst hp; exact hb
theorem infoRi : (Try.prog.info? 94).map (fun i => (i.zero, i.size, i.bytes)) = some (some (.agg #[.string ⟨#[]⟩, .int .i64 0]), 2, 24) := by kernel_rfl
theorem ri_new (w : World) (b : RI) : ∀ (k : Nat) u, (riL b)[k]? = some u → (w.alloc (.cells #[.string b.1, .int .i64 b.2] 94)).cell? ((⟨w.heap.size, 0, none⟩ : Addr).add k) = some u := by
  intro k u hu
  rw [Addr.add_mid, Nat.zero_add, (Row.new w 94 #[.string b.1, .int .i64 b.2]).cell]
  simpa [riL] using hu
theorem ri_one (b : RI) : ∀ u ∈ riL b, u.oneCell' = true := by intro u hu; simp [riL] at hu; rcases hu with rfl | rfl <;> rfl
theorem own_baseA {w : World} {base base' : Nat} {e : TypeId} {n m : Nat} {v : Value} {xs : List Value} (h : w.ownsRow base e n v m xs) (hb : base' ≤ base) : w.ownsRow base' e n v m xs := by
  obtain ⟨hl, h0 | ⟨g, cap, cur, rfl, hbs, r⟩⟩ := h
  · exact ⟨hl, .inl h0⟩
  · exact ⟨hl, .inr ⟨g, cap, cur, rfl, Nat.le_trans hb hbs, r⟩⟩
/-- All but one key. -/
def dropR (l : List RI) (k : ByteArray) : List RI := l.filter fun e => !decide (e.1 = k)
theorem dropR_step {l : List RI} {k : ByteArray} {j : Nat} (hj : j < l.length) : dropR (l.take (j + 1)) k = dropR (l.take j) k ++ (if l[j].1 = k then [] else [l[j]]) := by
  rw [List.take_add_one, List.getElem?_eq_getElem hj, Option.toList_some]
  unfold dropR
  rw [List.filter_append]
  congr 1
  simp only [List.filter_cons, List.filter_nil]
  by_cases h : l[j].1 = k <;> simp [h]
theorem dropR_le (l : List RI) (k : ByteArray) : (dropR l k).length ≤ l.length := List.length_filter_le _ _
theorem beqA (x s : ByteArray) : (x.toList == s.toList) = decide (x = s) := by
  by_cases h : x = s
  · subst h; simp
  · rw [decide_eq_false h]; exact (Lib.bytes_beq_false_iff ..).2 h
set_option maxHeartbeats 4000000 in
set_option maxRecDepth 100000 in
theorem rdrop20 (a : Option Addr) (c : Nat) (l : List RI) (hl : l.length ≤ 1100) (k : ByteArray) (w : World) (h : IsRis w a c l) :
    Calls Try.prog 39 #[.slice a l.length c, .string k] w fun e w' => ∃ v, e = .returned (.tuple #[v, .bool (decide ((dropR l k).length < l.length))]) ∧ w'.ownsRow w.heap.size 94 2 v (dropR l k).length (cellsR (dropR l k)) ∧ Below w.heap.size w w' := by
  obtain ⟨i0, hi, hz0, hz1, hz2⟩ := info_parts infoRi
  have HI := Lib.hid h
  have HO1 : Hid ((w.alloc (.cells #[] 94)).ownsRow w.heap.size 94 2 (.slice (some ⟨w.heap.size, 0, none⟩) 0 0) 0 []) := World.ownsRow_lit w #[] 0 (Nat.le_refl _) (by decide) (by simp)
  have HB1 : Hid (Below w.heap.size w (w.alloc (.cells #[] 94))) := below_alloc w _
  clear h
  go_enter Try.func39, Try.ntmps39
  go_wp2_with fail
  go_loopw [6, 12] (fun u i wr => ∃ (j m : Nat), j ≤ l.length ∧ m ≤ j ∧ i = .int .i64 (j : Int) ∧ (dropR (l.take j) k).length = m ∧ Hid (wr.ownsRow w.heap.size 94 2 u m (cellsR (dropR (l.take j) k))) ∧ Hid (Below w.heap.size w wr)) (fun _ i _ => l.length - (intOf i).toNat)
  case atStart => exact ⟨0, 0, Nat.zero_le _, Nat.le_refl _, rfl, rfl, HO1, HB1⟩
  case round =>
    obtain ⟨j, m, hj, hmj, rfl, hm, ho, hb⟩ := hrel
    have HM := Lib.hid hm
    clear hm
    obtain ⟨ua, uc, hu⟩ := own_slice ho.out
    subst hu
    by_cases hjl : j < l.length
    · have j1 : (j : Int) < l.length := by omega
      obtain h0 | ⟨bk, oo, rfl, hbk, hcc, hcell⟩ := (HI.out.below hb.out).ris
      · subst h0; simp at hjl
      obtain ⟨x0, x1⟩ := hcell j l[j] (by simp [hjl])
      have hstp := dropR_step (k := k) hjl
      obtain ⟨E, hE⟩ : ∃ E, E = l[j] := ⟨_, rfl⟩
      rw [← hE] at x0 x1 hstp
      obtain ⟨n1, a1⟩ := E
      simp only at x0 x1 hstp
      have hbs := beqA n1 k
      clear hcell hE hcc
      by_cases hn : n1 = k
      · rw [decide_eq_true hn] at hbs
        rw [if_pos hn, List.append_nil] at hstp
        have HST := Lib.hid hstp
        have HOZ := Lib.hid (ho.out.alloc (.cells #[.string n1, .int .i64 a1] 94))
        have HBZ := Lib.hid (hb.out.alloc hb.out.size (.cells #[.string n1, .int .i64 a1] 94))
        clear ho hb hstp hn
        go_wp2_with fail
        go_roundw
        case rel => exact ⟨j + 1, m, hjl, by omega, by go_num, by rw [HST.out]; exact HM.out, by rw [HST.out]; exact HOZ, HBZ⟩
        case measure => simp [intOf]; omega
      · rw [decide_eq_false hn] at hbs
        rw [if_neg hn] at hstp
        have HST := Lib.hid hstp
        have HSA := Lib.hid ((ho.out.alloc (.cells #[.string n1, .int .i64 a1] 94)).alloc (.cells #[.string n1, .int .i64 a1] 94))
        have hba := hb.out.alloc hb.out.size (.cells #[.string n1, .int .i64 a1] 94)
        have HBA := Lib.hid (hba.alloc hba.size (.cells #[.string n1, .int .i64 a1] 94))
        have hca := ri_new (wr.alloc (.cells #[.string n1, .int .i64 a1] 94)) (n1, a1)
        rw [World.size_alloc] at hca
        have HCA := Lib.hid hca
        have HON := Lib.hid (ri_one (n1, a1))
        have hm60 : m ≤ 1100 := by omega
        clear hca hba ho hb hstp hn
        go_wp2_with (at_builtin; refine wpList_append_lies _ rfl _ _ 26 rfl w.heap.size 94 i0 (.agg #[.string ⟨#[]⟩, .int .i64 0]) 2 24 Try.underlying26 hi hz0 hz1 hz2 rfl (by decide) _ _ _ rfl HSA.out ⟨wr.heap.size + 1, 0, none⟩ 1 1 (riL (n1, a1)) rfl rfl HCA.out HON.out (by decide) (by unfold maxLen; omega) (by omega) HBA.out.size _ rfl ?_; intro g9 k9 w10 hown' hgrow hv9 hlt9; have HO9 := Lib.hid hown'; have HG9 : Hid (((wr.alloc (.cells #[.string n1, .int .i64 a1] 94)).alloc (.cells #[.string n1, .int .i64 a1] 94)).grownBy w10 (Value.ownBlock (.slice ua m uc))) := hgrow; clear hown' hgrow hv9 hlt9)
        go_roundw
        case rel =>
          refine ⟨j + 1, m + 1, hjl, by omega, by go_num, by rw [HST.out, List.length_append, HM.out]; rfl, ?_, ?_⟩
          · have h2 := HO9.out
            rw [HST.out, cellsR_append]
            exact h2
          · exact HBA.out.grown HG9.out HBA.out.size (fun k hk => (HSA.out.lt k hk).1)
        case measure => simp [intOf]; omega
    · obtain rfl : j = l.length := by omega
      have hj0 : ¬ ((l.length : Int) < l.length) := by omega
      have hO := ho.out
      have hm := HM.out
      rw [List.take_of_length_le (Nat.le_refl _)] at hO hm
      have HO := Lib.hid hO
      have HMM := Lib.hid hm
      have hdd : decide ((m : Int) < (l.length : Int)) = decide (m < l.length) := by simp
      clear hO hm ho HM
      go_wp2_with fail
      go_ret2
      rw [HMM.out]
      exact ⟨_, rfl, HO.out, hb.out⟩
end Go.Proofs.Ytichkfbpmhpnaaa
