/- A region that draws its order, by an invariant over its first operations; the others, each of which waits for all before it, follow in their order. -/
import Derived.Test.YtcdgmhglpcokdaaReg
namespace Go.Proofs.Ytcdgmhglpcokdaa
open Go.RowKit

section
variable {P : Program} {ops : Array Oper} {Q : Exit → Act → World → Prop}

theorem wpAny_act (hd : edgesDown ops.toList 0 = true) (I : (Nat → Bool) → Act → World → Prop)
    (hstep : ∀ (i : Nat) (o : Oper), ops[i]? = some o → ∀ (L : Nat → Bool) (a : Act) (w : World), I L a w → L i = false → AllL L (predsOf o) → wpOp P ops Q i (fun a' w' => I (setL L i) a' w') a w)
    (hfin : ∀ (L : Nat → Bool) (a : Act) (w : World), I L a w → (∀ i, i < ops.size → L i = true) → Q .normal a w) :
    ∀ (fuel : Nat) (listed : Array Bool) (a : Act) (w : World), listed.size = ops.size → I (fun i => listed.getD i false) a w →
      (∃ l : List Nat, l.length ≤ fuel ∧ ∀ i, i < ops.size → listed.getD i false = false → i ∈ l) → wpAny P .any ops Q fuel listed a w
  | 0, listed, a, w, hs, hI, ⟨l, hl, hc⟩ => by
    obtain rfl : l = [] := List.eq_nil_of_length_eq_zero (by omega)
    have hall : ∀ i, i < ops.size → listed.getD i false = true := fun i hi => by
      cases h : listed.getD i false with
      | true => rfl
      | false => have := hc i hi h; cases this
    refine ⟨?_, hfin _ a w hI hall⟩
    cases hr : Region.ready .any ops listed with
    | nil => rfl
    | cons j r =>
      have hj : j ∈ Region.ready .any ops listed := by rw [hr]; exact List.mem_cons_self ..
      obtain ⟨h1, o, ho, _⟩ := mem_ready.1 hj
      have hlt : j < ops.size := by
        rcases Nat.lt_or_ge j ops.size with h | h
        · exact h
        · rw [Array.getElem?_eq_none h] at ho; cases ho
      have h2 := hall j hlt
      simp [Array.getD, hs, hlt] at h1 h2
      rw [h2] at h1
      cases h1
  | fuel + 1, listed, a, w, hs, hI, ⟨l, hl, hc⟩ => by
    refine ⟨fun h => hfin _ a w hI (ready_nil hd hs h), fun i hi => ?_⟩
    obtain ⟨h1, o, ho, _⟩ := mem_ready.1 hi
    have hlt : i < ops.size := by
      rcases Nat.lt_or_ge i ops.size with h | h
      · exact h
      · rw [Array.getElem?_eq_none h] at ho; cases ho
    have h1' : listed.getD i false = false := by simp [Array.getD, hs, hlt] at h1 ⊢; exact h1
    have hset : (fun j => (listed.setIfInBounds i true).getD j false) = setL (fun j => listed.getD j false) i := by
      funext j
      unfold setL
      by_cases e : j = i
      · subst e; rw [if_pos rfl]; simp [Array.getD, hs, hlt]
      · rw [if_neg e]
        simp only [Array.getD_eq_getD_getElem?, Array.getElem?_setIfInBounds_ne (Ne.symm e)]
    refine wpOp_mono (fun a' w' hI' => ?_) (hstep i o ho _ a w hI h1' (listed_preds hi ho))
    refine wpAny_act hd I hstep hfin fuel _ a' w' (by simpa using hs) (by rw [hset]; exact hI') ⟨l.erase i, ?_, fun j hj hjl => ?_⟩
    · rw [List.length_erase_of_mem (hc i hlt h1')]; omega
    · have hji : j ≠ i := by
        rintro rfl
        simp [Array.getD, hs, hlt] at hjl
      have : listed.getD j false = false := by
        rw [Array.getD_eq_getD_getElem?, Array.getElem?_setIfInBounds_ne (Ne.symm hji), ← Array.getD_eq_getD_getElem?] at hjl
        exact hjl
      exact (List.mem_erase_of_ne hji).2 (hc j hj this)

/-- The first behind so many waits for all before it, each later one for the one before it. -/
def tailOk : List Oper → Nat → Nat → Bool
  | [], _, _ => true
  | o :: r, i, n => (decide (i < n) || (if i = n then (List.range n).all (fun j => (predsOf o).contains j) else (predsOf o).contains (i - 1))) && tailOk r (i + 1) n
theorem tailOk_n {n : Nat} : ∀ {l : List Oper} {k i : Nat} {o : Oper}, tailOk l k n = true → l[i]? = some o → k + i = n → ∀ j, j < n → j ∈ predsOf o
  | [], _, i, _, _, h, _, _, _ => by simp at h
  | p :: r, k, i, o, ht, h, hn, j, hj => by
    simp only [tailOk, Bool.and_eq_true, Bool.or_eq_true, decide_eq_true_eq] at ht
    match i, h with
    | 0, h =>
      obtain rfl : p = o := Option.some.inj h
      rcases ht.1 with h1 | h1
      · omega
      · rw [if_pos (by omega)] at h1
        simp only [List.all_eq_true, List.mem_range] at h1
        simpa using h1 j hj
    | i + 1, h => exact tailOk_n ht.2 (show r[i]? = some o from h) (by omega) j (by omega)
theorem tailOk_s {n : Nat} : ∀ {l : List Oper} {k i : Nat} {o : Oper}, tailOk l k n = true → l[i]? = some o → n < k + i → k + i - 1 ∈ predsOf o
  | [], _, i, _, _, h, _ => by simp at h
  | p :: r, k, i, o, ht, h, hn => by
    simp only [tailOk, Bool.and_eq_true, Bool.or_eq_true, decide_eq_true_eq] at ht
    match i, h with
    | 0, h =>
      obtain rfl : p = o := Option.some.inj h
      rcases ht.1 with h1 | h1
      · omega
      · rw [if_neg (by omega)] at h1
        simpa using h1
    | i + 1, h =>
      have := tailOk_s ht.2 (show r[i]? = some o from h) (by omega)
      rwa [show k + (i + 1) - 1 = k + 1 + i - 1 by omega]
theorem wpList_op {k : Nat} {o : Oper} (ho : ops[k]? = some o) {rest : List Oper} {a : Act} {w : World} (h : wpList P ops Q (o :: rest) a w) : wpOp P ops Q k (wpList P ops Q rest) a w := by
  unfold wpOp
  simp only [ho]
  exact h
/-- One goal for each operation. -/
def StepsT (P : Program) (ops : Array Oper) (Q : Exit → Act → World → Prop) (a : Act) (hd : List Oper) (vals : List (Option Value)) (S : (Nat → Bool) → (Nat → Value) → World → Prop) : List Oper → List (List Bool) → List (Option Value) → Nat → Prop
  | [], _, _, _ => True
  | o :: r, m :: ms, some v :: vs, i => (∀ (L : Nat → Bool) (x : Nat → Value) (w : World), S L x w → L i = false → AllL L (predsOf o) →
      ∀ K : Act → World → Prop, Shut (∀ w', S (setL L i) (updV x i v) w' → K ((actMix hd m vals x 0 a).put o.dst v) w') →
        if Region.wanted o (yielded ops (actMix hd m vals x 0 a).tmps) = true then o.wp P (actMix hd m vals x 0 a) w K Q else K ((actMix hd m vals x 0 a).put o.dst undef) w) ∧ StepsT P ops Q a hd vals S r ms vs (i + 1)
  | o :: r, m :: ms, none :: vs, i => (∀ (L : Nat → Bool) (x : Nat → Value) (w : World), S L x w → L i = false → AllL L (predsOf o) →
      ∀ K : Act → World → Prop, Shut (∀ v w', S (setL L i) (updV x i v) w' → K ((actMix hd m vals x 0 a).put o.dst v) w') →
        if Region.wanted o (yielded ops (actMix hd m vals x 0 a).tmps) = true then o.wp P (actMix hd m vals x 0 a) w K Q else K ((actMix hd m vals x 0 a).put o.dst undef) w) ∧ StepsT P ops Q a hd vals S r ms vs (i + 1)
  | _, _, _, _ => False
def masksT (n : Nat) (l : List Oper) : List (List Bool) := l.map fun o => (List.range n).map fun j => (predsOf o).contains j
theorem stepsT_at {a : Act} {hd : List Oper} {vals : List (Option Value)} {S : (Nat → Bool) → (Nat → Value) → World → Prop} : ∀ (l : List Oper) (ms : List (List Bool)) (vs : List (Option Value)) (k : Nat), ms = masksT hd.length l → (∀ i, vs[i]? = vals[k + i]?) →
    StepsT P ops Q a hd vals S l ms vs k → ∀ (i : Nat) (o : Oper), l[i]? = some o → ∀ (L : Nat → Bool) (x : Nat → Value) (w : World), HoldsM L x vals ∧ S L x w → L (k + i) = false → AllL L (predsOf o) →
      ∀ K : Act → World → Prop, Shut (∀ v w', HoldsM (setL L (k + i)) (updV x (k + i) v) vals ∧ S (setL L (k + i)) (updV x (k + i) v) w' → K ((actOf hd x 0 a).put o.dst v) w') →
        if Region.wanted o (yielded ops (actOf hd x 0 a).tmps) = true then o.wp P (actOf hd x 0 a) w K Q else K ((actOf hd x 0 a).put o.dst undef) w
  | [], _, _, _, _, _, _, i, o, h => by simp at h
  | o :: r, m :: ms, some v :: vs, k, hm, hv, h, 0, p, hp0 => by
    obtain rfl : o = p := Option.some.inj hp0
    simp only [masksT, List.map_cons, List.cons.injEq] at hm
    intro L x w ⟨hh, hS⟩ hl hp K hK
    rw [Nat.add_zero] at hl hK
    have he := mask_eq (a := a) hh (allL_mem hp) hm.1
    have := h.1 L x w hS hl hp K
    rw [he] at this
    refine this fun w' hS' => hK _ w' ⟨hh.step fun u hu => ?_, hS'⟩
    have h0 := hv 0
    rw [Nat.add_zero, hu] at h0
    exact (Option.some.inj (Option.some.inj h0)).symm
  | o :: r, m :: ms, none :: vs, k, hm, hv, h, 0, p, hp0 => by
    obtain rfl : o = p := Option.some.inj hp0
    simp only [masksT, List.map_cons, List.cons.injEq] at hm
    intro L x w ⟨hh, hS⟩ hl hp K hK
    rw [Nat.add_zero] at hl hK
    have he := mask_eq (a := a) hh (allL_mem hp) hm.1
    have := h.1 L x w hS hl hp K
    rw [he] at this
    refine this fun v w' hS' => hK _ w' ⟨hh.step fun u hu => ?_, hS'⟩
    have h0 := hv 0
    rw [Nat.add_zero, hu] at h0
    cases h0
  | o :: r, m :: ms, some v :: vs, k, hm, hv, h, i + 1, p, hp0 => by
    simp only [masksT, List.map_cons, List.cons.injEq] at hm
    have := stepsT_at r ms vs (k + 1) hm.2 (fun i => by have := hv (i + 1); rw [show k + (i + 1) = k + 1 + i by omega] at this; exact this) h.2 i p hp0
    rw [show k + 1 + i = k + (i + 1) by omega] at this
    exact this
  | o :: r, m :: ms, none :: vs, k, hm, hv, h, i + 1, p, hp0 => by
    simp only [masksT, List.map_cons, List.cons.injEq] at hm
    have := stepsT_at r ms vs (k + 1) hm.2 (fun i => by have := hv (i + 1); rw [show k + (i + 1) = k + 1 + i by omega] at this; exact this) h.2 i p hp0
    rw [show k + 1 + i = k + (i + 1) by omega] at this
    exact this
  | _ :: _, [], _, _, _, _, h, _, _, _ => h.elim
  | _ :: _, _ :: _, [], _, _, _, h, _, _, _ => h.elim
def HeadS (P : Program) (ops : Array Oper) (Q : Exit → Act → World → Prop) (n : Nat) (a0 : Act) (vals : List (Option Value)) (S : (Nat → Bool) → (Nat → Value) → World → Prop) (L : Nat → Bool) (a : Act) (w : World) : Prop :=
  ((∀ i, n ≤ i → L i = false) ∧ ∃ x, a = actOf (ops.toList.take n) x 0 a0 ∧ HoldsM L x vals ∧ S L x w) ∨
  ∃ k, n ≤ k ∧ (∀ i, i < k → i < ops.size → L i = true) ∧ (∀ i, k ≤ i → L i = false) ∧ wpList P ops Q (ops.toList.drop k) a w

/-- The region. -/
theorem region_mixt {id : Nat} {a : Act} {w : World} (n : Nat) (vals : List (Option Value)) (masks : List (List Bool)) (S : (Nat → Bool) → (Nat → Value) → World → Prop) (hm : P.follows .mixedOrders = true)
    (hn : dstsOk (ops.toList.take n) a.tmps.size = true) (hd : edgesDown ops.toList 0 = true) (ht : tailOk ops.toList 0 n = true) (hk : masks = masksT n (ops.toList.take n)) (hnn : n ≤ ops.size) (h0 : ∀ x, S (fun _ => false) x w.drew)
    (hstep : StepsT P ops Q a (ops.toList.take n) vals S (ops.toList.take n) masks vals 0)
    (hfin : ∀ (L : Nat → Bool) (x : Nat → Value) (w : World), S L x w → (∀ i, i < n → L i = true) → wpList P ops Q (ops.toList.drop n) (actMix (ops.toList.take n) (List.replicate n true) vals x 0 a) w) : (Code.region id ops true).wp P Q a w := by
  refine wp_region_any hm ?_
  have hself := actOf_self (ops.toList.take n) (valsAt (ops.toList.take n) a) 0 a hn (fun i => by rw [Nat.zero_add])
  have hlen : (ops.toList.take n).length = n := by simp; omega
  have hL : (fun i => (Array.replicate ops.size false).getD i false) = fun _ => false := by
    funext i
    simp [Array.getD]
  refine wpAny_act (P := P) (ops := ops) (Q := Q) hd (HeadS P ops Q n a vals S) ?_ ?_ ops.size (Array.replicate ops.size false) a w.drew (by simp) ?_ ⟨List.range ops.size, by simp, fun i hi _ => by simpa using hi⟩
  · intro i o ho L a1 w1 hI hl hp
    have hol : ops.toList[i]? = some o := by simpa using ho
    have hlt : i < ops.size := by
      rcases Nat.lt_or_ge i ops.size with h | h
      · exact h
      · rw [Array.getElem?_eq_none h] at ho; cases ho
    have tail : ∀ k, n ≤ k → (∀ j, j < k → j < ops.size → L j = true) → (∀ j, k ≤ j → L j = false) → wpList P ops Q (ops.toList.drop k) a1 w1 → wpOp P ops Q i (fun a' w' => HeadS P ops Q n a vals S (setL L i) a' w') a1 w1 := by
      intro k hk1 hk2 hk3 hw
      have hik : k ≤ i := by
        rcases Nat.lt_or_ge i k with h | h
        · have := hk2 i h hlt
          rw [hl] at this
          cases this
        · exact h
      have hki : i = k := by
        rcases Nat.lt_or_ge k i with h | h
        · have h1 := allL_mem hp _ (tailOk_s ht hol (by omega))
          rw [hk3 _ (by omega)] at h1
          cases h1
        · omega
      subst hki
      have hdr : ops.toList.drop i = o :: ops.toList.drop (i + 1) := by
        rw [List.drop_eq_getElem_cons (by simpa using hlt)]
        congr 1
        have := List.getElem?_eq_some_iff.1 hol
        exact this.2
      rw [hdr] at hw
      refine wpOp_mono (fun a' w' h => ?_) (wpList_op ho hw)
      refine .inr ⟨i + 1, by omega, fun j hj hjs => ?_, fun j hj => ?_, h⟩
      · unfold setL
        by_cases e : j = i
        · rw [if_pos e]
        · rw [if_neg e]; exact hk2 j (by omega) hjs
      · unfold setL
        rw [if_neg (by omega)]
        exact hk3 j (by omega)
    rcases hI with ⟨hu, x, rfl, hh, hS⟩ | ⟨k, hk1, hk2, hk3, hw⟩
    · rcases Nat.lt_or_ge i n with hin | hin
      · have hti : (ops.toList.take n)[i]? = some o := by rw [List.getElem?_take, if_pos hin]; exact hol
        have hst := stepsT_at (ops.toList.take n) masks vals 0 (by rw [hlen]; exact hk) (fun i => by rw [Nat.zero_add]) hstep i o hti L x w1 ⟨hh, hS⟩ (by rw [Nat.zero_add]; exact hl) hp
        rw [Nat.zero_add] at hst
        refine wpOp_step ho (fun K hK => hst K (fun v w' ⟨hh', hS'⟩ => hK _ _ (.inl ⟨fun j hj => ?_, updV x i v, ?_, hh', hS'⟩)))
        · unfold setL
          rw [if_neg (by omega)]
          exact hu j hj
        · rw [actOf_put (ops.toList.take n) _ x 0 a hn i o hti v, Nat.zero_add]
      · have hin' : i = n := by
          rcases Nat.lt_or_ge n i with h | h
          · have h1 := allL_mem hp _ (tailOk_s ht hol (by omega))
            rw [hu _ (by omega)] at h1
            cases h1
          · omega
        have hall : ∀ j, j < i → L j = true := fun j hj => allL_mem hp j (tailOk_n ht hol (by omega) j (by omega))
        subst hin'
        have he : actMix (ops.toList.take i) (List.replicate i true) vals x 0 a = actOf (ops.toList.take i) x 0 a := by
          refine actMix_eq _ _ _ _ fun j v hb hv => ?_
          rw [Nat.zero_add]
          obtain ⟨h1, _⟩ := List.getElem?_eq_some_iff.1 hb
          exact hh j v hv (hall j (by simpa using h1))
        have hw := hfin L x w1 hS hall
        rw [he] at hw
        exact tail i (Nat.le_refl _) (fun j hj _ => hall j hj) hu hw
    · exact tail k hk1 hk2 hk3 hw
  · intro L a1 w1 hI hall
    rcases hI with ⟨hu, x, rfl, hh, hS⟩ | ⟨k, hk1, hk2, hk3, hw⟩
    · have hns : n = ops.size := by
        rcases Nat.lt_or_ge n ops.size with h | h
        · have h1 := hall n h
          rw [hu n (Nat.le_refl _)] at h1
          cases h1
        · omega
      have hw := hfin L x w1 hS (fun j hj => hall j (by omega))
      have he : actMix (ops.toList.take n) (List.replicate n true) vals x 0 a = actOf (ops.toList.take n) x 0 a := by
        refine actMix_eq _ _ _ _ fun j v hb hv => ?_
        rw [Nat.zero_add]
        obtain ⟨h1, _⟩ := List.getElem?_eq_some_iff.1 hb
        exact hh j v hv (hall j (by have : j < n := by simpa using h1
                                    omega))
      rw [he, List.drop_eq_nil_of_le (by simp; omega)] at hw
      exact hw
    · have hns : ops.size ≤ k := by
        rcases Nat.lt_or_ge k ops.size with h | h
        · have h1 := hall k h
          rw [hk3 k (Nat.le_refl _)] at h1
          cases h1
        · exact h
      rw [List.drop_eq_nil_of_le (by simpa using hns)] at hw
      exact hw
  · rw [hL]
    exact .inl ⟨fun _ _ => rfl, valsAt (ops.toList.take n) a, hself.symm, fun i v _ hl => (by cases hl), h0 _⟩
end
end Go.Proofs.Ytcdgmhglpcokdaa
