/- Keys of an agenda of strings, beside the reference's list. -/
import Derived.Test.YtichkfbpmhpnaaaAhKb
namespace Go.Proofs.Ytichkfbpmhpnaaa
open Go.RowKit Go.Maps

theorem infoStrA : (Try.prog.info? 9).map (fun i => (i.zero, i.size, i.bytes)) = some (some (.string ⟨#[]⟩), 1, 16) := by kernel_rfl
/-- Texts as cells. -/
def cellsK (l : List ByteArray) : List Value := l.map .string
theorem cellsK_append (a b : List ByteArray) : cellsK (a ++ b) = cellsK a ++ cellsK b := by simp [cellsK]
theorem cellsK_step {l : List ByteArray} {j : Nat} (hj : j < l.length) : cellsK (l.take (j + 1)) = cellsK (l.take j) ++ [.string l[j]] := by
  rw [List.take_add_one, List.getElem?_eq_getElem hj, Option.toList_some, cellsK_append]; rfl
theorem takeK_len {l : List ByteArray} {j : Nat} (h : j < l.length) : (l.take j).length + 1 = (l.take (j + 1)).length := by
  rw [List.length_take, List.length_take]; omega
theorem k_new (w : World) (b : ByteArray) : ∀ (k : Nat) u, [Value.string b][k]? = some u → (w.alloc (.cells #[.string b] 9)).cell? ((⟨w.heap.size, 0, none⟩ : Addr).add k) = some u := by
  intro k u hu
  rw [Addr.add_mid, Nat.zero_add, (Row.new w 9 #[.string b]).cell]
  simpa using hu
theorem k_one (b : ByteArray) : ∀ u ∈ [Value.string b], u.oneCell' = true := by intro u hu; simp at hu; subst hu; rfl
theorem ownK_base {W : World} {base base' : Nat} {e : TypeId} {size : Nat} {v : Value} {k : Nat} {xs : List Value} (h : W.ownsRow base e size v k xs) (hb : base' ≤ base) : W.ownsRow base' e size v k xs :=
  ⟨h.1, h.2.imp id fun ⟨g, cap, cur, h1, h2, h3⟩ => ⟨g, cap, cur, h1, Nat.le_trans hb h2, h3⟩⟩
section
variable {pl : Pl}
set_option maxHeartbeats 2000000 in
set_option maxRecDepth 100000 in
theorem okeysS (W w : World) (ab n N : Nat) (sets : Int) (C : Value × Int × Int → Prop) (O : Nat → Prop) (l : List RI) (L : List It4) (h : OrS pl 102 104 MPS W ab n N sets C O w) (hn : n ≤ 900) (hr : RelA l n sets C L) :
    Calls Try.prog 42 #[.pointer (some ⟨ab, pl.o, none⟩)] w fun e w' => ∃ v, e = .returned v ∧ w'.ownsRow w.heap.size 9 1 v l.length (cellsK (l.map (·.1))) ∧ Below w.heap.size w w' := by
  obtain ⟨⟨v, mp, Q, F, S, h1, h2, h3⟩, h4, h5⟩ := h
  obtain ⟨i0, hi, hz0, hz1, hz2⟩ := info_parts infoStrA
  have hc0 := h1.c0
  have hit := h1.s.it
  have hinj : ∀ i j, i < n → j < n → (Q i).k = (Q j).k → i = j := fun i j hi hj e => h1.keyInj hi hj e
  have hpts : ∃ a c, v = .slice a n c ∧ IsPts w a c (bsQ Q n) := by
    by_cases hn0 : n = 0
    · subst hn0
      obtain ⟨a, c, e⟩ := h1.slice
      exact ⟨a, c, e, .inl rfl⟩
    · obtain ⟨g, c, rfl, hnc, hcm, hm⟩ := h1.s.open (by omega)
      refine ⟨_, _, rfl, .inr ⟨g, 0, rfl, hm.glt, by rw [bsQ_length]; exact hnc, fun j b hb => ?_⟩⟩
      have hj : j < n := by
        rcases Nat.lt_or_ge j n with h | h
        · exact h
        · rw [List.getElem?_eq_none (by rw [bsQ_length]; exact h)] at hb; cases hb
      rw [bsQ_at Q hj] at hb
      injection hb with hb
      rw [Nat.zero_add, hm.cell hj, ← hb]
      rfl
  obtain ⟨a, c, rfl, hpt⟩ := hpts
  obtain ⟨w1, hw1⟩ : ∃ w1, w.alloc (.cells #[.slice a n c] 87) = w1 := ⟨_, rfl⟩
  obtain ⟨Bs, hBs⟩ : ∃ Bs, w.heap.size = Bs := ⟨_, rfl⟩
  have hrow : Row w1 Bs 87 #[.slice a n c] := by rw [← hw1, ← hBs]; exact Row.new _ _ _
  have hb1 : Below w.heap.size w w1 := by rw [← hw1]; exact below_alloc _ _
  have HPV := Lib.hid (callsIn_wide.1 (pvalues_in 2 a n c w))
  rw [hw1, hBs] at HPV
  have HPS := Lib.hid (psorted Bs c n a Q (by omega) w1 hrow.lt (hrow.cell 0) (hpt.below hb1) (fun i hi => (hit i hi).below hb1))
  have HB1 := Lib.hid hb1
  have HIT : Hid (∀ w' : World, Below w.heap.size w w' → ∀ i, i < n → w'.cell? ⟨(Q i).b, 0, none⟩ = some (Q i).k) := fun w' hb i hi => ((hit i hi).below hb).cell 0
  have HR := Lib.hid hr
  have H3 := Lib.hid h3
  have HIN := Lib.hid hinj
  have hll : l.length = n := hr.lenl
  have HW1 := Lib.hid hw1
  clear h1 h2 h3 h4 h5 hit hinj hpt hrow hb1 hr hBs
  clear hw1
  obtain ⟨K, hK⟩ : ∃ K, l.map (·.1) = K := ⟨_, rfl⟩
  have hKl : l.length = K.length := by rw [← hK]; simp
  rw [hK, hKl]
  have hKn : K.length = n := by omega
  have HKK := Lib.hid hK
  have HLN : Hid (l.length = K.length) := hKl
  clear hK hKl hll
  subst hKn
  go_enter Try.func42, Try.ntmps42
  go_wp2_with fail
  refine HPV.out.mono ?_
  rintro e w9 ⟨rfl, rfl⟩
  clear HPV hc0
  go_wp2_with fail
  refine HPS.out.mono ?_
  rintro e w2 ⟨d, a2, c2, rfl, hdl, hdm, hdn, hds, hab, hdc, hb2⟩
  have hsr := HR.out.sorted H3.out HIN.out hdm hdn hdl hds
  have HB2 : Hid (Below w.heap.size w w2) := HB1.out.trans (hb2.mono HB1.out.size)
  have HCE : Hid (∀ w' : World, Below w2.heap.size w2 w' → ∀ (j : Nat) (hj : j < l.length), ∃ g b, a2 = some ⟨g, 0, none⟩ ∧ w'.cell? ⟨g, j, none⟩ = some (pB b) ∧ w'.cell? ⟨b, 0, none⟩ = some (.string l[j].1)) := fun w' hbw j hj => by
    have hjd : j < d.length := by have := HLN.out; omega
    obtain ⟨g, rfl, hcg⟩ := hdc j d[j] (List.getElem?_eq_getElem hjd)
    refine ⟨g, (Q d[j]).b, rfl, ?_, ?_⟩
    · rw [(bcell hbw).1 _ _ (hab _ rfl).2]; exact hcg
    · rw [HIT.out w' (HB2.out.trans (hbw.mono HB2.out.size)) d[j] (hdm _ (List.getElem_mem hjd))]
      have hjL : j < L.length := by have := HLN.out; rw [HR.out.len]; omega
      have e1 : (d.map (fun i => cn (Q i)))[j]? = (L.map v4)[j]? := by rw [hsr]
      rw [List.getElem?_map, List.getElem?_map, List.getElem?_eq_getElem hjd, List.getElem?_eq_getElem hjL] at e1
      simp only [Option.map_some, Option.some.injEq] at e1
      have e2 : (Q d[j]).k = .string L[j].1 := congrArg (·.1) e1
      have e3 : l[j] = f4 L[j] := by
        have := HR.out.map
        subst this
        simp
      rw [e2, e3]
      rfl
  clear hdl hdm hdn hds hab hdc hb2 hsr HPS HIT HIN H3
  have HCK : Hid (∀ w' : World, Below w2.heap.size w2 w' → ∀ (j : Nat) (hj : j < K.length), ∃ g b, a2 = some ⟨g, 0, none⟩ ∧ w'.cell? ⟨g, j, none⟩ = some (pB b) ∧ w'.cell? ⟨b, 0, none⟩ = some (.string K[j])) := fun w' hbw j hj => by
    have hK := HKK.out
    subst hK
    obtain ⟨g, b, q1, q2, q3⟩ := HCE.out w' hbw j (by simpa using hj)
    exact ⟨g, b, q1, q2, by rw [q3]; simp⟩
  clear HCE HR
  go_wp2_with fail
  go_loopw [3, 13] (fun u i wr => ∃ j : Nat, j ≤ K.length ∧ i = .int .i64 (j : Int) ∧ Hid (wr.ownsRow w2.heap.size 9 1 u (K.take j).length (cellsK (K.take j))) ∧ Hid (Below w2.heap.size w2 wr)) (fun _ i _ => K.length - (intOf i).toNat)
  case atStart => exact ⟨0, Nat.zero_le _, rfl, World.ownsRow_nil _ _ _ _, Below.refl _ _⟩
  case round =>
    obtain ⟨j, hj, rfl, hown, hb⟩ := hrel
    obtain ⟨ua, uc, hu⟩ := own_slice hown.out
    subst hu
    by_cases hlt : j < K.length
    · have j1 : (j : Int) < K.length := by omega
      obtain ⟨g, b, rfl, x1, x2⟩ := HCK.out wr hb.out j hlt
      unfold pB at x1
      have hst := cellsK_step hlt
      obtain ⟨nm, hnm⟩ : ∃ nm, nm = K[j] := ⟨_, rfl⟩
      rw [← hnm] at x2 hst
      have HST := Lib.hid hst
      have HL1 : Hid ((K.take j).length + 1 = (K.take (j + 1)).length) := takeK_len hlt
      have hl2 : (K.take j).length ≤ 1024 := Nat.le_trans (List.length_take_le _ _) (by omega)
      clear hst hnm
      have HOA := Lib.hid (hown.out.alloc (.cells #[.string nm] 9))
      have HBA : Hid (Below w2.heap.size w2 (wr.alloc (.cells #[.string nm] 9))) := hb.out.alloc hb.out.size _
      have HCA := Lib.hid (k_new wr nm)
      have HON := Lib.hid (k_one nm)
      clear hown
      generalize hmm : (K.take j).length = mm at *
      clear hmm
      go_wp2_with (at_builtin; refine wpList_append_lies _ rfl _ _ 97 rfl w2.heap.size 9 i0 (.string ⟨#[]⟩) 1 16 Try.underlying97 hi hz0 hz1 hz2 rfl (by decide) _ _ _ rfl HOA.out ⟨wr.heap.size, 0, none⟩ 1 1 [.string nm] rfl rfl HCA.out HON.out (by decide) (by unfold maxLen; omega) (by omega) HBA.out.size _ rfl ?_; intro g2 cap2 w11 hown2 hgrow2 hwh2 hlt3)
      go_roundw
      case rel =>
        refine ⟨j + 1, hlt, by go_num, ?_, ?_⟩
        · have h2 := hown2
          rw [← HL1.out, HST.out]
          exact h2
        · exact HBA.out.grown hgrow2 HBA.out.size (fun k hk => by have := (HOA.out.lt k hk).1; omega)
      case measure => simp [intOf]; omega
    · obtain rfl : j = K.length := by omega
      have hj0 : ¬ ((K.length : Int) < K.length) := by omega
      have ho := hown.out
      rw [List.take_of_length_le (Nat.le_refl _)] at ho
      have HO := Lib.hid ho
      clear ho hown
      rw [List.take_of_length_le (Nat.le_refl _)]
      go_wp2_with fail
      go_ret
      exact ⟨_, rfl, ownK_base HO.out HB2.out.size, HB2.out.trans (hb.out.mono HB2.out.size)⟩
end
end Go.Proofs.Ytichkfbpmhpnaaa
