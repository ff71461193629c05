/- maglev.valid. -/
import Derived.Test.YtlcpkplipfcdaaaDoorMgL
namespace Go.Proofs.YtlcpkplipfcdaaaDoor
open Go.RowKit Go.Maps

theorem run_makeMap_hint {P : Program} {t k e : TypeId} (hu : P.underlying t = some (.map k e)) (q : IntKind) (n : Int) (w : World) : (Instr.makeMap t (some (.int q n))).run P w = .ok (.map (some w.heap.size)) (w.alloc (.map #[] 0)) := by
  simp [Instr.makeMap, run_underlying hu, asInt, asIntOf, Result.andThen]
section
variable (w : World) {ops : Array Oper} {rest : List Oper} {o : Oper} {a : Act} {Q : Exit → Act → World → Prop}
theorem wpl_lenN (hg : o.guard = none) (m : Operand) (hop : o.op = Op.call { callee := Callee.builtin Builtin.len, args := #[m], argTypes := #[89] }) (b n k : Nat) (p : ByteArray → Bool)
    (hm : a.eval m = .map (some b)) (hown : SetN w b n k p) (hK : wpList Tryd.prog ops Q rest (a.put o.dst (.int .i64 (k : Int))) w) :
    wpList Tryd.prog ops Q (o :: rest) a w := by
  obtain ⟨D, ho, _, hk⟩ := hown
  rw [← hk] at hK
  exact wpList_len_own w hg m _ hop _ _ Tryd.underlying89 unitElem b n D hm ho hK
end
def Apart (es : List Ent) : Prop := es.Pairwise fun a b => a.1 ≠ b.1
instance (es : List Ent) : Decidable (Apart es) := by unfold Apart; infer_instance
def okW (e : Ent) : Bool := decide (1 ≤ e.2) && decide (e.2 ≤ 65535)
def validB (es : List Ent) : Bool := es.all okW && decide (Apart es)
def hasN (es : List Ent) (y : ByteArray) : Bool := es.any fun e => decide (e.1 = y)
theorem hasN_step {es : List Ent} {j : Nat} (hj : j < es.length) : (fun y => hasN (es.take j) y || decide (es[j].1 = y)) = hasN (es.take (j + 1)) := by
  funext y
  unfold hasN
  rw [List.take_succ_eq_append_getElem hj, List.any_append]
  simp
theorem apart_step {es : List Ent} {j : Nat} (hj : j < es.length) : Apart (es.take (j + 1)) ↔ Apart (es.take j) ∧ hasN (es.take j) es[j].1 = false := by
  unfold Apart hasN
  rw [List.take_succ_eq_append_getElem hj, List.pairwise_append]
  constructor
  · rintro ⟨h1, _, h3⟩
    refine ⟨h1, List.any_eq_false.2 fun e he => ?_⟩
    have := h3 e he es[j] (by simp)
    simpa using this
  · rintro ⟨h1, h2⟩
    refine ⟨h1, List.pairwise_singleton _ _, fun e he x hx => ?_⟩
    obtain rfl : x = es[j] := by simpa using hx
    have := List.any_eq_false.1 h2 e he
    simpa using this
theorem validB_bad {es : List Ent} {j : Nat} (hj : j < es.length) (h : okW es[j] = false) : validB es = false := by
  unfold validB
  have : es.all okW = false := List.all_eq_false.2 ⟨es[j], List.getElem_mem hj, by rw [h]; simp⟩
  rw [this]; rfl
theorem all_step {es : List Ent} {j : Nat} (hj : j < es.length) (h : ∀ e ∈ es.take j, okW e = true) (h2 : okW es[j] = true) : ∀ e ∈ es.take (j + 1), okW e = true := by
  intro e he
  rw [List.take_succ_eq_append_getElem hj] at he
  rcases List.mem_append.1 he with h3 | h3
  · exact h e h3
  · obtain rfl : e = es[j] := by simpa using h3
    exact h2
set_option maxRecDepth 100000 in
set_option maxHeartbeats 2000000 in
theorem valid24 (a : Option Addr) (c : Nat) (es : List Ent) (hl : es.length ≤ 100000) (hsz : ∀ e ∈ es, e.1.size ≤ maxLen) (w : World) (hf : IsEnts w a c es) :
    Calls Tryd.prog 39 #[.slice a es.length c] w fun e w' => e = .returned (.bool (validB es)) ∧ Below w.heap.size w w' := by
  have HF := Lib.hid hf
  have HZ := Lib.hid hsz
  have hmm := run_makeMap_hint Tryd.underlying89
  have HS0 := Lib.hid (SetN.new w)
  have HB0 := Lib.hid (below_alloc w (.map #[] 0))
  clear hf hsz
  go_enter Tryd.func39, Tryd.ntmps39
  go_wp2_with fail
  obtain ⟨mb, hmb⟩ : ∃ mb, mb = w.heap.size := ⟨_, rfl⟩
  have HMB := Lib.hid hmb
  rw [← hmb] at HS0 ⊢
  clear hmb hmm
  generalize w.alloc (.map #[] 0) = w1 at *
  go_loopw [11] (fun i wr => ∃ (j k : Nat), j ≤ es.length ∧ i = .int .i64 (j : Int) ∧ Hid (SetN wr mb j k (hasN (es.take j))) ∧ Hid (k ≤ j ∧ (k = j ↔ Apart (es.take j))) ∧ Hid (∀ e ∈ es.take j, okW e = true) ∧ Hid (Below w.heap.size w wr)) (fun i _ => es.length - (intOf i).toNat)
  case atStart => exact ⟨0, 0, Nat.zero_le _, rfl, HS0, ⟨Nat.le_refl _, by simp [Apart]⟩, (fun e he => by simp at he), HB0⟩
  case round =>
    clear HS0 HB0
    obtain ⟨j, k, hj, rfl, HS, HK, HW, HB⟩ := hrel
    by_cases hlt : j < es.length
    · obtain h0 | ⟨bk, o, rfl, hbk, hc, hcell⟩ := HF.out.below HB.out
      · subst h0; simp at hlt
      obtain ⟨c1, c2⟩ := hcell j es[j] (by simp [hlt])
      have j1 : (j : Int) < es.length := by omega
      have hz := HZ.out es[j] (List.getElem_mem hlt)
      have HBAD := Lib.hid (validB_bad (es := es) hlt)
      have HSTP := Lib.hid (hasN_step (es := es) hlt)
      have HAP := Lib.hid (apart_step (es := es) hlt)
      have HALL := Lib.hid (all_step (es := es) hlt HW.out)
      have hokd : okW es[j] = (decide (1 ≤ es[j].2) && decide (es[j].2 ≤ 65535)) := rfl
      obtain ⟨e, he⟩ : ∃ e, e = es[j] := ⟨_, rfl⟩
      rw [← he] at c1 c2 hz HBAD HSTP HAP HALL hokd
      clear hcell he
      obtain ⟨N, V⟩ := e
      simp only at c1 c2 hz hokd
      have HBA := Lib.hid (HB.out.alloc HB.out.size (.cells #[.string N, .int .i64 V] 72))
      have HSA := Lib.hid (HS.out.alloc (.cells #[.string N, .int .i64 V] 72))
      by_cases h1 : V < 1
      · have hb : okW (N, V) = false := by rw [hokd, decide_eq_false (by omega)]; rfl
        have HV := Lib.hid (HBAD.out hb)
        clear hokd
        go_wp2_with fail
        go_ret
        exact ⟨by rw [HV.out]; rfl, HBA.out⟩
      by_cases h2 : 65535 < V
      · have hb : okW (N, V) = false := by rw [hokd, decide_eq_true (by omega), decide_eq_false (by omega)]; rfl
        have HV := Lib.hid (HBAD.out hb)
        clear hokd
        go_wp2_with fail
        go_ret
        exact ⟨by rw [HV.out]; rfl, HBA.out⟩
      have hb : okW (N, V) = true := by rw [hokd, decide_eq_true (by omega), decide_eq_true (by omega)]; rfl
      have HA2 := Lib.hid (HALL.out hb)
      clear hokd
      go_wp2_with (at_mapUpdate; refine wpl_markN _ rfl _ _ _ rfl mb _ k _ rfl HSA.out (by unfold maxLen; omega) N rfl rfl hz ?_; intro w9 hm9 hg9)
      have HB9 : Hid (Below w.heap.size w w9) := HBA.out.grown hg9 HBA.out.size (fun q e => by injection e with e; rw [← e, HMB.out]; exact Nat.le_refl _)
      simp only at HSTP HAP
      rw [HSTP.out] at hm9
      have HS9 := Lib.hid hm9
      have HK9 : Hid ((if hasN (es.take j) N then k else k + 1) ≤ j + 1 ∧ ((if hasN (es.take j) N then k else k + 1) = j + 1 ↔ Apart (es.take (j + 1)))) := by
        obtain ⟨k1, k2⟩ := HK.out
        show _ ∧ _
        rw [HAP.out, ← k2]
        cases hasN (es.take j) N
        · simp; omega
        · simp; omega
      clear hm9 hg9 HSA HBA HS HB HK
      go_wp2_with fail
      go_roundw
      case rel => exact ⟨j + 1, _, hlt, by go_num, HS9, HK9, HA2, HB9⟩
      case measure => simp [intOf]; omega
    · obtain rfl : j = es.length := by omega
      have hne : ¬ (es.length : Int) < es.length := by omega
      have hvb : validB es = ((k : Int) == (es.length : Int)) := by
        have hw := HW.out
        obtain ⟨k1, k2⟩ := HK.out
        rw [List.take_length] at hw k2
        unfold validB
        rw [List.all_eq_true.2 hw, Bool.true_and]
        by_cases h : k = es.length
        · rw [decide_eq_true (k2.1 h), h]; simp
        · rw [decide_eq_false (fun h2 => h (k2.2 h2))]
          exact (beq_eq_false_iff_ne.2 (by omega)).symm
      have HVB := Lib.hid hvb
      clear hvb
      go_wp2_with (at_len; refine wpl_lenN _ rfl _ rfl mb _ k _ rfl HS.out ?_)
      go_ret
      exact ⟨by rw [HVB.out]; rfl, HB.out⟩
end Go.Proofs.YtlcpkplipfcdaaaDoor
