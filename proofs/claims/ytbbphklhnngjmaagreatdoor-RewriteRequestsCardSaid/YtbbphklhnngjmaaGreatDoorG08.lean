/- Packed: RegT, StG, StH, Rec, TabsS, FldC, FldD, FldE, FldF, FldG, FldH. -/
import Derived.WideKeyArr2
import Derived.Lib.SliceRun
import Derived.Laws.IdiomCopy
import Derived.Laws.OwnMore
import Derived.Deep.MidRow
import Derived.Lib.Builder
import Derived.Lib.AppendStr
import Derived.Laws.Externs
import Derived.Lib.UnsafeStr
import Derived.Test.YtbbphklhnngjmaaGreatDoorG00
import Derived.Test.YtbbphklhnngjmaaGreatDoorG05
import Derived.Test.YtbbphklhnngjmaaGreatDoorG07
import Derived.Test.YtbbphklhnngjmaaGreatDoorShelf
/- A region that draws its order, by an invariant over its first operations; the others, each of which waits for all before it, follow in their order. -/
namespace Go.Proofs.YtbbphklhnngjmaaGreatDoor
open Go.RowKit

section
variable {P : Program} {ops : Array Oper} {Q : Exit → Act → World → Prop}

theorem wpAny_act (hd : edgesDown ops.toList 0 = true) (I : (Nat → Bool) → Act → World → Prop)
    (hstep : ∀ (i : Nat) (o : Oper), ops[i]? = some o → ∀ (L : Nat → Bool) (a : Act) (w : World), I L a w → L i = false → AllL L (predsOf o) → wpOp P ops Q i (fun a' w' => I (setL L i) a' w') a w)
    (hfin : ∀ (L : Nat → Bool) (a : Act) (w : World), I L a w → (∀ i, i < ops.size → L i = true) → Q .normal a w) :
    ∀ (fuel : Nat) (listed : Array Bool) (a : Act) (w : World), listed.size = ops.size → I (fun i => listed.getD i false) a w →
      (∃ l : List Nat, l.length ≤ fuel ∧ ∀ i, i < ops.size → listed.getD i false = false → i ∈ l) → wpAny P .any ops Q fuel listed a w
  | 0, listed, a, w, hs, hI, ⟨l, hl, hc⟩ => by
    obtain rfl : l = [] := List.eq_nil_of_length_eq_zero (by omega)
    have hall : ∀ i, i < ops.size → listed.getD i false = true := fun i hi => by
      cases h : listed.getD i false with
      | true => rfl
      | false => have := hc i hi h; cases this
    refine ⟨?_, hfin _ a w hI hall⟩
    cases hr : Region.ready .any ops listed with
    | nil => rfl
    | cons j r =>
      have hj : j ∈ Region.ready .any ops listed := by rw [hr]; exact List.mem_cons_self ..
      obtain ⟨h1, o, ho, _⟩ := mem_ready.1 hj
      have hlt : j < ops.size := by
        rcases Nat.lt_or_ge j ops.size with h | h
        · exact h
        · rw [Array.getElem?_eq_none h] at ho; cases ho
      have h2 := hall j hlt
      simp [Array.getD, hs, hlt] at h1 h2
      rw [h2] at h1
      cases h1
  | fuel + 1, listed, a, w, hs, hI, ⟨l, hl, hc⟩ => by
    refine ⟨fun h => hfin _ a w hI (ready_nil hd hs h), fun i hi => ?_⟩
    obtain ⟨h1, o, ho, _⟩ := mem_ready.1 hi
    have hlt : i < ops.size := by
      rcases Nat.lt_or_ge i ops.size with h | h
      · exact h
      · rw [Array.getElem?_eq_none h] at ho; cases ho
    have h1' : listed.getD i false = false := by simp [Array.getD, hs, hlt] at h1 ⊢; exact h1
    have hset : (fun j => (listed.setIfInBounds i true).getD j false) = setL (fun j => listed.getD j false) i := by
      funext j
      unfold setL
      by_cases e : j = i
      · subst e; rw [if_pos rfl]; simp [Array.getD, hs, hlt]
      · rw [if_neg e]
        simp only [Array.getD_eq_getD_getElem?, Array.getElem?_setIfInBounds_ne (Ne.symm e)]
    refine wpOp_mono (fun a' w' hI' => ?_) (hstep i o ho _ a w hI h1' (listed_preds hi ho))
    refine wpAny_act hd I hstep hfin fuel _ a' w' (by simpa using hs) (by rw [hset]; exact hI') ⟨l.erase i, ?_, fun j hj hjl => ?_⟩
    · rw [List.length_erase_of_mem (hc i hlt h1')]; omega
    · have hji : j ≠ i := by
        rintro rfl
        simp [Array.getD, hs, hlt] at hjl
      have : listed.getD j false = false := by
        rw [Array.getD_eq_getD_getElem?, Array.getElem?_setIfInBounds_ne (Ne.symm hji), ← Array.getD_eq_getD_getElem?] at hjl
        exact hjl
      exact (List.mem_erase_of_ne hji).2 (hc j hj this)

/-- The first behind so many waits for all before it, each later one for the one before it. -/
def tailOk : List Oper → Nat → Nat → Bool
  | [], _, _ => true
  | o :: r, i, n => (decide (i < n) || (if i = n then (List.range n).all (fun j => (predsOf o).contains j) else (predsOf o).contains (i - 1))) && tailOk r (i + 1) n
theorem tailOk_n {n : Nat} : ∀ {l : List Oper} {k i : Nat} {o : Oper}, tailOk l k n = true → l[i]? = some o → k + i = n → ∀ j, j < n → j ∈ predsOf o
  | [], _, i, _, _, h, _, _, _ => by simp at h
  | p :: r, k, i, o, ht, h, hn, j, hj => by
    simp only [tailOk, Bool.and_eq_true, Bool.or_eq_true, decide_eq_true_eq] at ht
    match i, h with
    | 0, h =>
      obtain rfl : p = o := Option.some.inj h
      rcases ht.1 with h1 | h1
      · omega
      · rw [if_pos (by omega)] at h1
        simp only [List.all_eq_true, List.mem_range] at h1
        simpa using h1 j hj
    | i + 1, h => exact tailOk_n ht.2 (show r[i]? = some o from h) (by omega) j (by omega)
theorem tailOk_s {n : Nat} : ∀ {l : List Oper} {k i : Nat} {o : Oper}, tailOk l k n = true → l[i]? = some o → n < k + i → k + i - 1 ∈ predsOf o
  | [], _, i, _, _, h, _ => by simp at h
  | p :: r, k, i, o, ht, h, hn => by
    simp only [tailOk, Bool.and_eq_true, Bool.or_eq_true, decide_eq_true_eq] at ht
    match i, h with
    | 0, h =>
      obtain rfl : p = o := Option.some.inj h
      rcases ht.1 with h1 | h1
      · omega
      · rw [if_neg (by omega)] at h1
        simpa using h1
    | i + 1, h =>
      have := tailOk_s ht.2 (show r[i]? = some o from h) (by omega)
      rwa [show k + (i + 1) - 1 = k + 1 + i - 1 by omega]
theorem wpList_op {k : Nat} {o : Oper} (ho : ops[k]? = some o) {rest : List Oper} {a : Act} {w : World} (h : wpList P ops Q (o :: rest) a w) : wpOp P ops Q k (wpList P ops Q rest) a w := by
  unfold wpOp
  simp only [ho]
  exact h
/-- One goal for each operation. -/
def StepsT (P : Program) (ops : Array Oper) (Q : Exit → Act → World → Prop) (a : Act) (hd : List Oper) (vals : List (Option Value)) (S : (Nat → Bool) → (Nat → Value) → World → Prop) : List Oper → List (List Bool) → List (Option Value) → Nat → Prop
  | [], _, _, _ => True
  | o :: r, m :: ms, some v :: vs, i => (∀ (L : Nat → Bool) (x : Nat → Value) (w : World), S L x w → L i = false → AllL L (predsOf o) →
      ∀ K : Act → World → Prop, Shut (∀ w', S (setL L i) (updV x i v) w' → K ((actMix hd m vals x 0 a).put o.dst v) w') →
        if Region.wanted o (yielded ops (actMix hd m vals x 0 a).tmps) = true then o.wp P (actMix hd m vals x 0 a) w K Q else K ((actMix hd m vals x 0 a).put o.dst undef) w) ∧ StepsT P ops Q a hd vals S r ms vs (i + 1)
  | o :: r, m :: ms, none :: vs, i => (∀ (L : Nat → Bool) (x : Nat → Value) (w : World), S L x w → L i = false → AllL L (predsOf o) →
      ∀ K : Act → World → Prop, Shut (∀ v w', S (setL L i) (updV x i v) w' → K ((actMix hd m vals x 0 a).put o.dst v) w') →
        if Region.wanted o (yielded ops (actMix hd m vals x 0 a).tmps) = true then o.wp P (actMix hd m vals x 0 a) w K Q else K ((actMix hd m vals x 0 a).put o.dst undef) w) ∧ StepsT P ops Q a hd vals S r ms vs (i + 1)
  | _, _, _, _ => False
def masksT (n : Nat) (l : List Oper) : List (List Bool) := l.map fun o => (List.range n).map fun j => (predsOf o).contains j
theorem stepsT_at {a : Act} {hd : List Oper} {vals : List (Option Value)} {S : (Nat → Bool) → (Nat → Value) → World → Prop} : ∀ (l : List Oper) (ms : List (List Bool)) (vs : List (Option Value)) (k : Nat), ms = masksT hd.length l → (∀ i, vs[i]? = vals[k + i]?) →
    StepsT P ops Q a hd vals S l ms vs k → ∀ (i : Nat) (o : Oper), l[i]? = some o → ∀ (L : Nat → Bool) (x : Nat → Value) (w : World), HoldsM L x vals ∧ S L x w → L (k + i) = false → AllL L (predsOf o) →
      ∀ K : Act → World → Prop, Shut (∀ v w', HoldsM (setL L (k + i)) (updV x (k + i) v) vals ∧ S (setL L (k + i)) (updV x (k + i) v) w' → K ((actOf hd x 0 a).put o.dst v) w') →
        if Region.wanted o (yielded ops (actOf hd x 0 a).tmps) = true then o.wp P (actOf hd x 0 a) w K Q else K ((actOf hd x 0 a).put o.dst undef) w
  | [], _, _, _, _, _, _, i, o, h => by simp at h
  | o :: r, m :: ms, some v :: vs, k, hm, hv, h, 0, p, hp0 => by
    obtain rfl : o = p := Option.some.inj hp0
    simp only [masksT, List.map_cons, List.cons.injEq] at hm
    intro L x w ⟨hh, hS⟩ hl hp K hK
    rw [Nat.add_zero] at hl hK
    have he := mask_eq (a := a) hh (allL_mem hp) hm.1
    have := h.1 L x w hS hl hp K
    rw [he] at this
    refine this fun w' hS' => hK _ w' ⟨hh.step fun u hu => ?_, hS'⟩
    have h0 := hv 0
    rw [Nat.add_zero, hu] at h0
    exact (Option.some.inj (Option.some.inj h0)).symm
  | o :: r, m :: ms, none :: vs, k, hm, hv, h, 0, p, hp0 => by
    obtain rfl : o = p := Option.some.inj hp0
    simp only [masksT, List.map_cons, List.cons.injEq] at hm
    intro L x w ⟨hh, hS⟩ hl hp K hK
    rw [Nat.add_zero] at hl hK
    have he := mask_eq (a := a) hh (allL_mem hp) hm.1
    have := h.1 L x w hS hl hp K
    rw [he] at this
    refine this fun v w' hS' => hK _ w' ⟨hh.step fun u hu => ?_, hS'⟩
    have h0 := hv 0
    rw [Nat.add_zero, hu] at h0
    cases h0
  | o :: r, m :: ms, some v :: vs, k, hm, hv, h, i + 1, p, hp0 => by
    simp only [masksT, List.map_cons, List.cons.injEq] at hm
    have := stepsT_at r ms vs (k + 1) hm.2 (fun i => by have := hv (i + 1); rw [show k + (i + 1) = k + 1 + i by omega] at this; exact this) h.2 i p hp0
    rw [show k + 1 + i = k + (i + 1) by omega] at this
    exact this
  | o :: r, m :: ms, none :: vs, k, hm, hv, h, i + 1, p, hp0 => by
    simp only [masksT, List.map_cons, List.cons.injEq] at hm
    have := stepsT_at r ms vs (k + 1) hm.2 (fun i => by have := hv (i + 1); rw [show k + (i + 1) = k + 1 + i by omega] at this; exact this) h.2 i p hp0
    rw [show k + 1 + i = k + (i + 1) by omega] at this
    exact this
  | _ :: _, [], _, _, _, _, h, _, _, _ => h.elim
  | _ :: _, _ :: _, [], _, _, _, h, _, _, _ => h.elim
def HeadS (P : Program) (ops : Array Oper) (Q : Exit → Act → World → Prop) (n : Nat) (a0 : Act) (vals : List (Option Value)) (S : (Nat → Bool) → (Nat → Value) → World → Prop) (L : Nat → Bool) (a : Act) (w : World) : Prop :=
  ((∀ i, n ≤ i → L i = false) ∧ ∃ x, a = actOf (ops.toList.take n) x 0 a0 ∧ HoldsM L x vals ∧ S L x w) ∨
  ∃ k, n ≤ k ∧ (∀ i, i < k → i < ops.size → L i = true) ∧ (∀ i, k ≤ i → L i = false) ∧ wpList P ops Q (ops.toList.drop k) a w

/-- The region. -/
theorem region_mixt {id : Nat} {a : Act} {w : World} (n : Nat) (vals : List (Option Value)) (masks : List (List Bool)) (S : (Nat → Bool) → (Nat → Value) → World → Prop) (hm : P.follows .mixedOrders = true)
    (hn : dstsOk (ops.toList.take n) a.tmps.size = true) (hd : edgesDown ops.toList 0 = true) (ht : tailOk ops.toList 0 n = true) (hk : masks = masksT n (ops.toList.take n)) (hnn : n ≤ ops.size) (h0 : ∀ x, S (fun _ => false) x w.drew)
    (hstep : StepsT P ops Q a (ops.toList.take n) vals S (ops.toList.take n) masks vals 0)
    (hfin : ∀ (L : Nat → Bool) (x : Nat → Value) (w : World), S L x w → (∀ i, i < n → L i = true) → wpList P ops Q (ops.toList.drop n) (actMix (ops.toList.take n) (List.replicate n true) vals x 0 a) w) : (Code.region id ops true).wp P Q a w := by
  refine wp_region_any hm ?_
  have hself := actOf_self (ops.toList.take n) (valsAt (ops.toList.take n) a) 0 a hn (fun i => by rw [Nat.zero_add])
  have hlen : (ops.toList.take n).length = n := by simp; omega
  have hL : (fun i => (Array.replicate ops.size false).getD i false) = fun _ => false := by
    funext i
    simp [Array.getD]
  refine wpAny_act (P := P) (ops := ops) (Q := Q) hd (HeadS P ops Q n a vals S) ?_ ?_ ops.size (Array.replicate ops.size false) a w.drew (by simp) ?_ ⟨List.range ops.size, by simp, fun i hi _ => by simpa using hi⟩
  · intro i o ho L a1 w1 hI hl hp
    have hol : ops.toList[i]? = some o := by simpa using ho
    have hlt : i < ops.size := by
      rcases Nat.lt_or_ge i ops.size with h | h
      · exact h
      · rw [Array.getElem?_eq_none h] at ho; cases ho
    have tail : ∀ k, n ≤ k → (∀ j, j < k → j < ops.size → L j = true) → (∀ j, k ≤ j → L j = false) → wpList P ops Q (ops.toList.drop k) a1 w1 → wpOp P ops Q i (fun a' w' => HeadS P ops Q n a vals S (setL L i) a' w') a1 w1 := by
      intro k hk1 hk2 hk3 hw
      have hik : k ≤ i := by
        rcases Nat.lt_or_ge i k with h | h
        · have := hk2 i h hlt
          rw [hl] at this
          cases this
        · exact h
      have hki : i = k := by
        rcases Nat.lt_or_ge k i with h | h
        · have h1 := allL_mem hp _ (tailOk_s ht hol (by omega))
          rw [hk3 _ (by omega)] at h1
          cases h1
        · omega
      subst hki
      have hdr : ops.toList.drop i = o :: ops.toList.drop (i + 1) := by
        rw [List.drop_eq_getElem_cons (by simpa using hlt)]
        congr 1
        have := List.getElem?_eq_some_iff.1 hol
        exact this.2
      rw [hdr] at hw
      refine wpOp_mono (fun a' w' h => ?_) (wpList_op ho hw)
      refine .inr ⟨i + 1, by omega, fun j hj hjs => ?_, fun j hj => ?_, h⟩
      · unfold setL
        by_cases e : j = i
        · rw [if_pos e]
        · rw [if_neg e]; exact hk2 j (by omega) hjs
      · unfold setL
        rw [if_neg (by omega)]
        exact hk3 j (by omega)
    rcases hI with ⟨hu, x, rfl, hh, hS⟩ | ⟨k, hk1, hk2, hk3, hw⟩
    · rcases Nat.lt_or_ge i n with hin | hin
      · have hti : (ops.toList.take n)[i]? = some o := by rw [List.getElem?_take, if_pos hin]; exact hol
        have hst := stepsT_at (ops.toList.take n) masks vals 0 (by rw [hlen]; exact hk) (fun i => by rw [Nat.zero_add]) hstep i o hti L x w1 ⟨hh, hS⟩ (by rw [Nat.zero_add]; exact hl) hp
        rw [Nat.zero_add] at hst
        refine wpOp_step ho (fun K hK => hst K (fun v w' ⟨hh', hS'⟩ => hK _ _ (.inl ⟨fun j hj => ?_, updV x i v, ?_, hh', hS'⟩)))
        · unfold setL
          rw [if_neg (by omega)]
          exact hu j hj
        · rw [actOf_put (ops.toList.take n) _ x 0 a hn i o hti v, Nat.zero_add]
      · have hin' : i = n := by
          rcases Nat.lt_or_ge n i with h | h
          · have h1 := allL_mem hp _ (tailOk_s ht hol (by omega))
            rw [hu _ (by omega)] at h1
            cases h1
          · omega
        have hall : ∀ j, j < i → L j = true := fun j hj => allL_mem hp j (tailOk_n ht hol (by omega) j (by omega))
        subst hin'
        have he : actMix (ops.toList.take i) (List.replicate i true) vals x 0 a = actOf (ops.toList.take i) x 0 a := by
          refine actMix_eq _ _ _ _ fun j v hb hv => ?_
          rw [Nat.zero_add]
          obtain ⟨h1, _⟩ := List.getElem?_eq_some_iff.1 hb
          exact hh j v hv (hall j (by simpa using h1))
        have hw := hfin L x w1 hS hall
        rw [he] at hw
        exact tail i (Nat.le_refl _) (fun j hj _ => hall j hj) hu hw
    · exact tail k hk1 hk2 hk3 hw
  · intro L a1 w1 hI hall
    rcases hI with ⟨hu, x, rfl, hh, hS⟩ | ⟨k, hk1, hk2, hk3, hw⟩
    · have hns : n = ops.size := by
        rcases Nat.lt_or_ge n ops.size with h | h
        · have h1 := hall n h
          rw [hu n (Nat.le_refl _)] at h1
          cases h1
        · omega
      have hw := hfin L x w1 hS (fun j hj => hall j (by omega))
      have he : actMix (ops.toList.take n) (List.replicate n true) vals x 0 a = actOf (ops.toList.take n) x 0 a := by
        refine actMix_eq _ _ _ _ fun j v hb hv => ?_
        rw [Nat.zero_add]
        obtain ⟨h1, _⟩ := List.getElem?_eq_some_iff.1 hb
        exact hh j v hv (hall j (by have : j < n := by simpa using h1
                                    omega))
      rw [he, List.drop_eq_nil_of_le (by simp; omega)] at hw
      exact hw
    · have hns : ops.size ≤ k := by
        rcases Nat.lt_or_ge k ops.size with h | h
        · have h1 := hall k h
          rw [hk3 k (Nat.le_refl _)] at h1
          cases h1
        · exact h
      rw [List.drop_eq_nil_of_le (by simpa using hns)] at hw
      exact hw
  · rw [hL]
    exact .inl ⟨fun _ _ => rfl, valsAt (ops.toList.take n) a, hself.symm, fun i v _ hl => (by cases hl), h0 _⟩
end
end Go.Proofs.YtbbphklhnngjmaaGreatDoor

/- start: Reason, over its table of words. -/
namespace Go.Proofs.YtbbphklhnngjmaaGreatDoor
open Go.RowKit

/-- The table's cells. -/
def reasC : List Value := [.int .i64 200, .string ⟨#[79, 75]⟩, .int .i64 400, .string ⟨#[66, 97, 100, 32, 82, 101, 113, 117, 101, 115, 116]⟩, .int .i64 413, .string ⟨#[67, 111, 110, 116, 101, 110, 116, 32, 84, 111, 111, 32, 76, 97, 114, 103, 101]⟩, .int .i64 431, .string ⟨#[82, 101, 113, 117, 101, 115, 116, 32, 72, 101, 97, 100, 101, 114, 32, 70, 105, 101, 108, 100, 115, 32, 84, 111, 111, 32, 76, 97, 114, 103, 101]⟩, .int .i64 502, .string ⟨#[66, 97, 100, 32, 71, 97, 116, 101, 119, 97, 121]⟩, .int .i64 503, .string ⟨#[83, 101, 114, 118, 105, 99, 101, 32, 85, 110, 97, 118, 97, 105, 108, 97, 98, 108, 101]⟩, .int .i64 504, .string ⟨#[71, 97, 116, 101, 119, 97, 121, 32, 84, 105, 109, 101, 111, 117, 116]⟩]
def Reas (w : World) : Prop := 0 < w.heap.size ∧ w.rangeAt 0 0 reasC
theorem Reas.below {w w' : World} (h : Reas w) (hb : Below w.heap.size w w') : Reas w' :=
  ⟨Nat.lt_of_lt_of_le h.1 hb.size, fun j v hv => by rw [(bcell hb).1 _ _ h.1]; exact h.2 j v hv⟩
theorem reas_size : (Tryz.prog.info? 141).map (·.size) = some reasC.length := by kernel_rfl
def codes : List Int := [200, 400, 413, 431, 502, 503, 504]
theorem reason_none (c : Int) (h : ∀ x ∈ codes, c ≠ x) : reasonL c = [] := by
  unfold reasonL
  rw [if_neg (h 200 (by decide))]
  rw [if_neg (h 400 (by decide))]
  rw [if_neg (h 413 (by decide))]
  rw [if_neg (h 431 (by decide))]
  rw [if_neg (h 502 (by decide))]
  rw [if_neg (h 503 (by decide))]
  rw [if_neg (h 504 (by decide))]
theorem reason_200 : reasonL 200 = [79, 75] := by rfl
theorem reason_400 : reasonL 400 = [66, 97, 100, 32, 82, 101, 113, 117, 101, 115, 116] := by rfl
theorem reason_413 : reasonL 413 = [67, 111, 110, 116, 101, 110, 116, 32, 84, 111, 111, 32, 76, 97, 114, 103, 101] := by rfl
theorem reason_431 : reasonL 431 = [82, 101, 113, 117, 101, 115, 116, 32, 72, 101, 97, 100, 101, 114, 32, 70, 105, 101, 108, 100, 115, 32, 84, 111, 111, 32, 76, 97, 114, 103, 101] := by rfl
theorem reason_502 : reasonL 502 = [66, 97, 100, 32, 71, 97, 116, 101, 119, 97, 121] := by rfl
theorem reason_503 : reasonL 503 = [83, 101, 114, 118, 105, 99, 101, 32, 85, 110, 97, 118, 97, 105, 108, 97, 98, 108, 101] := by rfl
theorem reason_504 : reasonL 504 = [71, 97, 116, 101, 119, 97, 121, 32, 84, 105, 109, 101, 111, 117, 116] := by rfl
theorem reas_ix_0 (w : World) : (Instr.index 141 (.agg reasC.toArray) (.int .i64 0)).run Tryz.prog w = .ok (.agg #[.int .i64 200, .string ⟨#[79, 75]⟩]) w := by kernel_rfl
theorem reas_ix_1 (w : World) : (Instr.index 141 (.agg reasC.toArray) (.int .i64 1)).run Tryz.prog w = .ok (.agg #[.int .i64 400, .string ⟨#[66, 97, 100, 32, 82, 101, 113, 117, 101, 115, 116]⟩]) w := by kernel_rfl
theorem reas_ix_2 (w : World) : (Instr.index 141 (.agg reasC.toArray) (.int .i64 2)).run Tryz.prog w = .ok (.agg #[.int .i64 413, .string ⟨#[67, 111, 110, 116, 101, 110, 116, 32, 84, 111, 111, 32, 76, 97, 114, 103, 101]⟩]) w := by kernel_rfl
theorem reas_ix_3 (w : World) : (Instr.index 141 (.agg reasC.toArray) (.int .i64 3)).run Tryz.prog w = .ok (.agg #[.int .i64 431, .string ⟨#[82, 101, 113, 117, 101, 115, 116, 32, 72, 101, 97, 100, 101, 114, 32, 70, 105, 101, 108, 100, 115, 32, 84, 111, 111, 32, 76, 97, 114, 103, 101]⟩]) w := by kernel_rfl
theorem reas_ix_4 (w : World) : (Instr.index 141 (.agg reasC.toArray) (.int .i64 4)).run Tryz.prog w = .ok (.agg #[.int .i64 502, .string ⟨#[66, 97, 100, 32, 71, 97, 116, 101, 119, 97, 121]⟩]) w := by kernel_rfl
theorem reas_ix_5 (w : World) : (Instr.index 141 (.agg reasC.toArray) (.int .i64 5)).run Tryz.prog w = .ok (.agg #[.int .i64 503, .string ⟨#[83, 101, 114, 118, 105, 99, 101, 32, 85, 110, 97, 118, 97, 105, 108, 97, 98, 108, 101]⟩]) w := by kernel_rfl
theorem reas_ix_6 (w : World) : (Instr.index 141 (.agg reasC.toArray) (.int .i64 6)).run Tryz.prog w = .ok (.agg #[.int .i64 504, .string ⟨#[71, 97, 116, 101, 119, 97, 121, 32, 84, 105, 109, 101, 111, 117, 116]⟩]) w := by kernel_rfl
set_option maxRecDepth 100000 in
set_option maxHeartbeats 8000000 in
theorem reason22 (c : Int) (w : World) (hr : Reas w) :
    Calls Tryz.prog 72 #[.int .i64 c] w fun e w' => e = .returned (.string (bs (reasonL c))) ∧ Below w.heap.size w w' := by
  obtain ⟨R, hR⟩ : ∃ R, reasonL c = R := ⟨_, rfl⟩
  rw [hR]
  have HR := Lib.hid hR
  have hrange := hr.2
  have HS := reas_size
  clear hR hr
  go_enter Tryz.func72, Tryz.ntmps72
  go_wp2_with (refine wpList_load_mid rfl 141 _ rfl 0 0 rfl reasC _ hrange Tryz.underlying141 rfl HS ?_)
  clear hrange HS
  go_loopw [6] (fun i wr => ∃ j : Nat, j ≤ 7 ∧ i = .int .i64 (j : Int) ∧ Hid (∀ x ∈ codes.take j, c ≠ x) ∧ Below w.heap.size w wr) (fun i _ => 7 - (intOf i).toNat)
  case atStart => exact ⟨0, Nat.zero_le _, rfl, (by simp [Hid]), Below.refl _ _⟩
  case round =>
    obtain ⟨j, hj, rfl, hn, hb⟩ := hrel
    match j, hj with
    | 0, _ =>
      by_cases hc : c = 200
      · subst hc
        have HV : Hid (R = [79, 75]) := HR.out.symm.trans reason_200
        clear hn HR
        have hx := reas_ix_0 wr
        go_wp2_with fail
        go_ret
        exact ⟨by rw [HV.out]; rfl, hb.trans ((below_alloc wr _).mono hb.size)⟩
      · have hc2 : ((200 : Int) == c) = false := beq_eq_false_iff_ne.2 (fun e => hc e.symm)
        have hn2 : Hid (∀ x ∈ codes.take 1, c ≠ x) := by
          show ∀ x ∈ codes.take 1, c ≠ x
          have h0 := hn.out
          intro x hx
          by_cases hx0 : x ∈ codes.take 0
          · exact h0 x hx0
          · have : x = 200 := by
              simp only [codes, List.take_succ_cons, List.take_zero, List.mem_cons, List.not_mem_nil, or_false] at hx hx0
              omega
            subst this
            exact hc
        clear hc hn
        have hx := reas_ix_0 wr
        go_wp2_with fail
        go_roundw
        case rel => exact ⟨1, by omega, by first | rfl | go_num, hn2, hb.trans ((below_alloc wr _).mono hb.size)⟩
        case measure => simp [intOf]
    | 1, _ =>
      by_cases hc : c = 400
      · subst hc
        have HV : Hid (R = [66, 97, 100, 32, 82, 101, 113, 117, 101, 115, 116]) := HR.out.symm.trans reason_400
        clear hn HR
        have hx := reas_ix_1 wr
        go_wp2_with fail
        go_ret
        exact ⟨by rw [HV.out]; rfl, hb.trans ((below_alloc wr _).mono hb.size)⟩
      · have hc2 : ((400 : Int) == c) = false := beq_eq_false_iff_ne.2 (fun e => hc e.symm)
        have hn2 : Hid (∀ x ∈ codes.take 2, c ≠ x) := by
          show ∀ x ∈ codes.take 2, c ≠ x
          have h0 := hn.out
          intro x hx
          by_cases hx0 : x ∈ codes.take 1
          · exact h0 x hx0
          · have : x = 400 := by
              simp only [codes, List.take_succ_cons, List.take_zero, List.mem_cons, List.not_mem_nil, or_false] at hx hx0
              omega
            subst this
            exact hc
        clear hc hn
        have hx := reas_ix_1 wr
        go_wp2_with fail
        go_roundw
        case rel => exact ⟨2, by omega, by first | rfl | go_num, hn2, hb.trans ((below_alloc wr _).mono hb.size)⟩
        case measure => simp [intOf]
    | 2, _ =>
      by_cases hc : c = 413
      · subst hc
        have HV : Hid (R = [67, 111, 110, 116, 101, 110, 116, 32, 84, 111, 111, 32, 76, 97, 114, 103, 101]) := HR.out.symm.trans reason_413
        clear hn HR
        have hx := reas_ix_2 wr
        go_wp2_with fail
        go_ret
        exact ⟨by rw [HV.out]; rfl, hb.trans ((below_alloc wr _).mono hb.size)⟩
      · have hc2 : ((413 : Int) == c) = false := beq_eq_false_iff_ne.2 (fun e => hc e.symm)
        have hn2 : Hid (∀ x ∈ codes.take 3, c ≠ x) := by
          show ∀ x ∈ codes.take 3, c ≠ x
          have h0 := hn.out
          intro x hx
          by_cases hx0 : x ∈ codes.take 2
          · exact h0 x hx0
          · have : x = 413 := by
              simp only [codes, List.take_succ_cons, List.take_zero, List.mem_cons, List.not_mem_nil, or_false] at hx hx0
              omega
            subst this
            exact hc
        clear hc hn
        have hx := reas_ix_2 wr
        go_wp2_with fail
        go_roundw
        case rel => exact ⟨3, by omega, by first | rfl | go_num, hn2, hb.trans ((below_alloc wr _).mono hb.size)⟩
        case measure => simp [intOf]
    | 3, _ =>
      by_cases hc : c = 431
      · subst hc
        have HV : Hid (R = [82, 101, 113, 117, 101, 115, 116, 32, 72, 101, 97, 100, 101, 114, 32, 70, 105, 101, 108, 100, 115, 32, 84, 111, 111, 32, 76, 97, 114, 103, 101]) := HR.out.symm.trans reason_431
        clear hn HR
        have hx := reas_ix_3 wr
        go_wp2_with fail
        go_ret
        exact ⟨by rw [HV.out]; rfl, hb.trans ((below_alloc wr _).mono hb.size)⟩
      · have hc2 : ((431 : Int) == c) = false := beq_eq_false_iff_ne.2 (fun e => hc e.symm)
        have hn2 : Hid (∀ x ∈ codes.take 4, c ≠ x) := by
          show ∀ x ∈ codes.take 4, c ≠ x
          have h0 := hn.out
          intro x hx
          by_cases hx0 : x ∈ codes.take 3
          · exact h0 x hx0
          · have : x = 431 := by
              simp only [codes, List.take_succ_cons, List.take_zero, List.mem_cons, List.not_mem_nil, or_false] at hx hx0
              omega
            subst this
            exact hc
        clear hc hn
        have hx := reas_ix_3 wr
        go_wp2_with fail
        go_roundw
        case rel => exact ⟨4, by omega, by first | rfl | go_num, hn2, hb.trans ((below_alloc wr _).mono hb.size)⟩
        case measure => simp [intOf]
    | 4, _ =>
      by_cases hc : c = 502
      · subst hc
        have HV : Hid (R = [66, 97, 100, 32, 71, 97, 116, 101, 119, 97, 121]) := HR.out.symm.trans reason_502
        clear hn HR
        have hx := reas_ix_4 wr
        go_wp2_with fail
        go_ret
        exact ⟨by rw [HV.out]; rfl, hb.trans ((below_alloc wr _).mono hb.size)⟩
      · have hc2 : ((502 : Int) == c) = false := beq_eq_false_iff_ne.2 (fun e => hc e.symm)
        have hn2 : Hid (∀ x ∈ codes.take 5, c ≠ x) := by
          show ∀ x ∈ codes.take 5, c ≠ x
          have h0 := hn.out
          intro x hx
          by_cases hx0 : x ∈ codes.take 4
          · exact h0 x hx0
          · have : x = 502 := by
              simp only [codes, List.take_succ_cons, List.take_zero, List.mem_cons, List.not_mem_nil, or_false] at hx hx0
              omega
            subst this
            exact hc
        clear hc hn
        have hx := reas_ix_4 wr
        go_wp2_with fail
        go_roundw
        case rel => exact ⟨5, by omega, by first | rfl | go_num, hn2, hb.trans ((below_alloc wr _).mono hb.size)⟩
        case measure => simp [intOf]
    | 5, _ =>
      by_cases hc : c = 503
      · subst hc
        have HV : Hid (R = [83, 101, 114, 118, 105, 99, 101, 32, 85, 110, 97, 118, 97, 105, 108, 97, 98, 108, 101]) := HR.out.symm.trans reason_503
        clear hn HR
        have hx := reas_ix_5 wr
        go_wp2_with fail
        go_ret
        exact ⟨by rw [HV.out]; rfl, hb.trans ((below_alloc wr _).mono hb.size)⟩
      · have hc2 : ((503 : Int) == c) = false := beq_eq_false_iff_ne.2 (fun e => hc e.symm)
        have hn2 : Hid (∀ x ∈ codes.take 6, c ≠ x) := by
          show ∀ x ∈ codes.take 6, c ≠ x
          have h0 := hn.out
          intro x hx
          by_cases hx0 : x ∈ codes.take 5
          · exact h0 x hx0
          · have : x = 503 := by
              simp only [codes, List.take_succ_cons, List.take_zero, List.mem_cons, List.not_mem_nil, or_false] at hx hx0
              omega
            subst this
            exact hc
        clear hc hn
        have hx := reas_ix_5 wr
        go_wp2_with fail
        go_roundw
        case rel => exact ⟨6, by omega, by first | rfl | go_num, hn2, hb.trans ((below_alloc wr _).mono hb.size)⟩
        case measure => simp [intOf]
    | 6, _ =>
      by_cases hc : c = 504
      · subst hc
        have HV : Hid (R = [71, 97, 116, 101, 119, 97, 121, 32, 84, 105, 109, 101, 111, 117, 116]) := HR.out.symm.trans reason_504
        clear hn HR
        have hx := reas_ix_6 wr
        go_wp2_with fail
        go_ret
        exact ⟨by rw [HV.out]; rfl, hb.trans ((below_alloc wr _).mono hb.size)⟩
      · have hc2 : ((504 : Int) == c) = false := beq_eq_false_iff_ne.2 (fun e => hc e.symm)
        have hn2 : Hid (∀ x ∈ codes.take 7, c ≠ x) := by
          show ∀ x ∈ codes.take 7, c ≠ x
          have h0 := hn.out
          intro x hx
          by_cases hx0 : x ∈ codes.take 6
          · exact h0 x hx0
          · have : x = 504 := by
              simp only [codes, List.take_succ_cons, List.take_zero, List.mem_cons, List.not_mem_nil, or_false] at hx hx0
              omega
            subst this
            exact hc
        clear hc hn
        have hx := reas_ix_6 wr
        go_wp2_with fail
        go_roundw
        case rel => exact ⟨7, by omega, by first | rfl | go_num, hn2, hb.trans ((below_alloc wr _).mono hb.size)⟩
        case measure => simp [intOf]
    | 7, _ =>
      have HV : Hid (R = []) := HR.out.symm.trans (reason_none c hn.out)
      clear hn HR
      go_wp2_with fail
      go_ret
      exact ⟨by rw [HV.out]; rfl, hb⟩
end Go.Proofs.YtbbphklhnngjmaaGreatDoor

/- The fixed facts of start. -/
namespace Go.Proofs.YtbbphklhnngjmaaGreatDoor
open Go.RowKit

/-- What start's statements ask of the world: the library's variables and the table of words. -/
def LaidS (w : World) : Prop := MaxL w ∧ Syn w ∧ Pow w ∧ Reas w
theorem LaidS.below {w w' : World} (h : LaidS w) (hb : Below w.heap.size w w') : LaidS w' :=
  ⟨h.1.below hb, h.2.1.below hb, h.2.2.1.below hb, h.2.2.2.below hb⟩
theorem preq_get : reqP [71, 69, 84, 32, 47, 97, 63, 98, 32, 72, 84, 84, 80, 47, 49, 46, 49] = some ([71, 69, 84], [47, 97, 63, 98]) := by decide +kernel
theorem pst_200 : stP [72, 84, 84, 80, 47, 49, 46, 49, 32, 50, 48, 48] = some (200, []) := by decide +kernel
theorem path_a : pathL [47, 97, 63, 98] = [47, 97] := by decide +kernel
theorem idem_get : idemB [71, 69, 84] = true := by decide +kernel
end Go.Proofs.YtbbphklhnngjmaaGreatDoor

/- Records of strings and numbers that are handed in by value. -/
namespace Go.Proofs.YtbbphklhnngjmaaGreatDoor
open Go.ChangeShapes Go.WideShapes Go.ChangeAt Go.RowKit

/-- The fields of a record: their types and offsets. -/
def fieldsOf (d : TypeDesc) : List (TypeId × Nat) := match d with
  | .struct fs => fs.toList.map fun f => (f.type, f.offset)
  | _ => []
theorem fieldsOf_struct {o : Option TypeDesc} {l : List (TypeId × Nat)} (h : o.map fieldsOf = some l) (hl : l ≠ []) : ∃ fs : Array Field, o = some (.struct fs) ∧ fs.toList.map (fun f => (f.type, f.offset)) = l := by
  cases o with
  | none => cases h
  | some d =>
    cases d with
    | struct fs => exact ⟨fs, rfl, Option.some.inj h⟩
    | _ => exact absurd (Option.some.inj h).symm hl
section
variable {H : Type} {enc : TypeId × Value → H} {P : Program} {t : TypeId} {W : World} {base : Nat} {sp : Nat → Bool} {held : Bool}
theorem rec_open {l : List (TypeId × Nat)} (hu : (P.underlying t).map fieldsOf = some l) (hl : l ≠ []) {r : Reach} {b0 : Nat} {v : Value} {d : DataW H} {ps : List MemPlace}
    (hval : Value.okWide P W r b0 t v) (hd : DataW.Trod enc P W base sp held t v d ps) :
    ∃ (cs : Array Value) (xs : List (DataW H × List MemPlace)) (n : Nat), v = .agg cs ∧ cs.toList.length = P.cellsOf t ∧ d = .agg (xs.map (·.1)) ∧ ps = xs.flatMap (·.2) ∧ xs.length = l.length ∧
      ∀ (i : Nat) (u : TypeId) (o : Nat), l[i]? = some (u, o) → DataW.trod enc P W base sp held n u ((cs.toList.drop o).take (P.cellsOf u)) = xs[i]? := by
  obtain ⟨fs, hs, rfl⟩ := fieldsOf_struct hu hl
  obtain ⟨cs, rfl, hc⟩ := okWide_struct hs hval
  obtain ⟨fuel, hf⟩ := hd
  obtain ⟨xs, n, _, hx, h1, h2, h3⟩ := DataW.trod_struct hs hf
  simp only [Prod.mk.injEq] at hx
  refine ⟨cs, xs, n, rfl, h1, hx.1, hx.2, by simpa using h2, fun i u o hi => ?_⟩
  rw [List.getElem?_map] at hi
  obtain ⟨f, hf', he⟩ := Option.map_eq_some_iff.1 hi
  simp only [Prod.mk.injEq] at he
  obtain ⟨rfl, rfl⟩ := he
  exact h3 i f (by simpa using hf')
theorem rec_shut {l : List (TypeId × Nat)} (hu : (P.underlying t).map fieldsOf = some l) (hl : l ≠ []) (cs : List Value) (xs : List (DataW H × List MemPlace)) (n : Nat) (hc : cs.length = P.cellsOf t)
    (hm : l.mapM (fun q => DataW.trod enc P W base sp held n q.1 ((cs.drop q.2).take (P.cellsOf q.1))) = some xs) : DataW.Trod enc P W base sp held t (.agg cs.toArray) (.agg (xs.map (·.1))) (xs.flatMap (·.2)) := by
  obtain ⟨fs, hs, rfl⟩ := fieldsOf_struct hu hl
  refine ⟨n + 1, ?_⟩
  have := trod_struct_mk (enc := enc) (w := W) (base := base) (spare := sp) (held := held) (n := n) (cs := cs) (xs := xs) hs hc (by rw [List.mapM_map] at hm; exact hm)
  exact this
end
theorem one_cellR {cs : List Value} {i : Nat} {v : Value} (h : (cs.drop i).take 1 = [v]) : cs[i]? = some v := by
  have h1 : ((cs.drop i).take 1)[0]? = some v := by rw [h]; rfl
  rw [List.getElem?_take, if_pos (by decide), List.getElem?_drop] at h1
  exact h1
end Go.Proofs.YtbbphklhnngjmaaGreatDoor

/- What a row of start says of its variables: the library's and the table of words; a world that lays them; the parameter of StartLines. -/
namespace Go.Proofs.YtbbphklhnngjmaaGreatDoor
open Go.ChangeShapes Go.WideShapes Go.ChangeAt Go.RowKit

theorem two_of {α : Type} {l : List α} (h : l.length = 2) : ∃ a b, l = [a, b] := by
  match l, h with
  | [a, b], _ => exact ⟨a, b, rfl⟩
theorem cells_of_recs {H : Type} {enc : TypeId × Value → H} {P : Program} {w : World} {base : Nat} {sp : Nat → Bool} {held : Bool} {fuel : Nat} {t t1 ti ts : TypeId} {n : Nat} {k : IntKind} {cs : List Value} {rows : List (Int × List UInt8)} {p : List MemPlace}
    (ht : P.underlying t = some (.array n t1)) (hf : (P.underlying t1).map fieldsOf = some [(ti, 0), (ts, 1)]) (h1 : P.cellsOf t1 = 2) (hi1 : P.cellsOf ti = 1) (hs1 : P.cellsOf ts = 1) (hi : P.underlying ti = some (.int k)) (hs : P.underlying ts = some .string)
    (h : DataW.trod enc P w base sp held fuel t cs = some (.agg (rows.map fun q => .agg [.lit (.int k q.1), .lit (.string q.2)]), p)) (r : Nat) (q : Int × List UInt8) (hr : rows[r]? = some q) :
    cs[r * 2]? = some (.int k q.1) ∧ cs[r * 2 + 1]? = some (.string ⟨q.2.toArray⟩) := by
  obtain ⟨fs, hfs, hl⟩ := fieldsOf_struct hf (List.cons_ne_nil _ _)
  obtain ⟨xs, m, _, hx, _, hxn, hat⟩ := DataW.trod_array ht h
  simp only [Prod.mk.injEq, DataW.agg.injEq] at hx
  have hlen : rows.length = xs.length := by have := congrArg List.length hx.1; simpa using this
  have hrn : r < n := by have := (List.getElem?_eq_some_iff.1 hr).1; omega
  have hx1 := hat r hrn
  rw [h1] at hx1
  obtain ⟨y, hy⟩ : ∃ y, xs[r]? = some y := ⟨xs[r]'(by omega), by simp [show r < xs.length by omega]⟩
  have hy1 : y.1 = .agg [.lit (.int k q.1), .lit (.string q.2)] := by
    have h2 : (xs.map (·.1))[r]? = some y.1 := by simp [hy]
    rw [← hx.1, List.getElem?_map, hr] at h2
    exact (Option.some.inj h2).symm
  rw [hy] at hx1
  obtain ⟨zs, m2, _, hz, _, hzn, hzat⟩ := DataW.trod_struct hfs hx1
  have hy2 : y.1 = .agg (zs.map (·.1)) := by rw [hz]
  rw [hy1] at hy2
  injection hy2 with hy2
  obtain ⟨f0, f1, hfl⟩ := two_of (l := fs.toList) (by have := congrArg List.length hl; simpa using this)
  obtain ⟨a, b, rfl⟩ := two_of (l := zs) (by have := congrArg List.length hy2; simpa using this.symm)
  rw [hfl] at hl
  simp only [List.map_cons, List.map_nil, List.cons.injEq, Prod.mk.injEq, and_true] at hl
  obtain ⟨⟨e0, o0⟩, e1, o1⟩ := hl
  have g0 := hzat 0 f0 (by rw [← Array.getElem?_toList, hfl]; rfl)
  have g1 := hzat 1 f1 (by rw [← Array.getElem?_toList, hfl]; rfl)
  rw [e0, o0, hi1] at g0
  rw [e1, o1, hs1] at g1
  simp only [List.map_cons, List.map_nil, List.cons.injEq, and_true] at hy2
  obtain ⟨c, hc, hca, _⟩ := DataW.trod_int hi g0
  obtain ⟨s, hsc, hsa, _⟩ := DataW.trod_string hs g1
  have ea : q.1 = c := by
    have := hy2.1
    rw [hca] at this
    simpa using this
  have eb : q.2 = s.data.toList := by
    have := hy2.2
    rw [hsa] at this
    simpa using this
  have k0 := one_cellR hc
  have k1 := one_cellR hsc
  rw [List.getElem?_take, if_pos (by decide), List.getElem?_drop] at k0 k1
  refine ⟨by rw [ea]; exact k0, ?_⟩
  rw [k1, eb]
theorem gRea : Tryz.prog.globalNamed "steward/start.reasons" = some 0 := by kernel_rfl
theorem gReaT : (Tryz.prog.globals[0]?).map (·.type) = some 141 := by kernel_rfl
theorem staU : (Tryz.prog.underlying 29).map fieldsOf = some [(3, 0), (9, 1)] := by kernel_rfl
theorem staC : Tryz.prog.cellsOf 29 = 2 := by kernel_rfl
theorem cellsInt1 : Tryz.prog.cellsOf 3 = 1 := by kernel_rfl
theorem cellsStr1 : Tryz.prog.cellsOf 9 = 1 := by kernel_rfl
def reasR : List (Int × List UInt8) := codes.map fun c => (c, reasonL c)
theorem reasR_data : (Rows.laid_steward_start_reasons : DataW Unit) = .agg (reasR.map fun q => .agg [.lit (.int .i64 q.1), .lit (.string q.2)]) := by rfl
theorem reasR_at (r : Nat) (h : r < 7) : ∃ q, reasR[r]? = some q ∧ reasC[r * 2]? = some (.int .i64 q.1) ∧ reasC[r * 2 + 1]? = some (.string ⟨q.2.toArray⟩) := by
  match r, h with
  | 0, _ => exact ⟨_, rfl, rfl, rfl⟩
  | 1, _ => exact ⟨_, rfl, rfl, rfl⟩
  | 2, _ => exact ⟨_, rfl, rfl, rfl⟩
  | 3, _ => exact ⟨_, rfl, rfl, rfl⟩
  | 4, _ => exact ⟨_, rfl, rfl, rfl⟩
  | 5, _ => exact ⟨_, rfl, rfl, rfl⟩
  | 6, _ => exact ⟨_, rfl, rfl, rfl⟩
theorem reas_laid {W : World} {rest : List (String × DataW Unit)} (h : laidMet Tryz.prog (("steward/start.reasons", Rows.laid_steward_start_reasons) :: rest) W) : Reas W := by
  rw [reasR_data] at h
  obtain ⟨ps, ⟨g', t', cs, fuel, p, q, hg', ht', hvar, hd, _, _⟩, _⟩ := h
  obtain rfl := Option.some.inj (gRea.symm.trans hg')
  obtain rfl := Option.some.inj (gReaT.symm.trans ht')
  have hall := cells_of_recs Tryz.underlying141 staU staC cellsInt1 cellsStr1 Tryz.underlying3 Tryz.underlying9 hd
  have hc : ∀ (j : Nat) (v : Value), reasC[j]? = some v → cs.toList[j]? = some v := by
    intro j v hv
    have hj : j < 14 := by
      obtain ⟨hlt, _⟩ := List.getElem?_eq_some_iff.1 hv
      exact hlt
    obtain ⟨q, hq, h0, h1⟩ := reasR_at (j / 2) (by omega)
    obtain ⟨k0, k1⟩ := hall (j / 2) q hq
    by_cases he : j % 2 = 0
    · have e : j / 2 * 2 = j := by omega
      rw [e] at h0 k0
      rw [k0, ← h0, hv]
    · have e : j / 2 * 2 + 1 = j := by omega
      rw [e] at h1 k1
      rw [k1, ← h1, hv]
  have hcell : ∀ (j : Nat) (v : Value), reasC[j]? = some v → W.cell? ⟨0, j, none⟩ = some v := fun j v hv => by
    have h2 := World.var?_cell gRea hvar j
    rw [h2]
    simpa using hc j v hv
  exact ⟨World.block_lt_of_cell? W _ (hcell 0 _ rfl), fun j v hv => by rw [Nat.zero_add]; exact hcell j v hv⟩
theorem laidS {W : World} {d0 d3 : String × DataW Unit} {rest : List (String × DataW Unit)} (hsh : W.ShapedOpen Tryz.prog)
    (h : laidMet Tryz.prog (d0 :: ("math/bits.deBruijn64tab", Rows.laid_math_bits_deBruijn64tab) :: ("internal/strconv.uint64pow10", Rows.laid_internal_strconv_uint64pow10) :: d3 :: ("strconv.ErrRange", Rows.laid_strconv_ErrRange) :: ("strconv.ErrSyntax", Rows.laid_strconv_ErrSyntax) :: ("steward/start.reasons", Rows.laid_steward_start_reasons) :: rest) W) : LaidS W :=
  ⟨maxL_shaped hsh, (laid5 hsh h).1, pow_laid h, reas_laid (laidMet.tail (laidMet.tail (laidMet.tail (laidMet.tail (laidMet.tail (laidMet.tail h))))))⟩
noncomputable def stHeap (h : Array Obj) : Array Obj := (octHeap h).modify 0 (layAs reasC.toArray)
noncomputable def stWorld (os : Os) : World := { octWorld os with heap := (octWorld os).heap.modify 0 (layAs reasC.toArray) }

end Go.Proofs.YtbbphklhnngjmaaGreatDoor

/- Slices of fields; has, IndexFunc. -/
namespace Go.Proofs.YtbbphklhnngjmaaGreatDoor
open Go.RowKit

/-- A slice that reads as these fields. -/
def IsFlds (w : World) (a : Option Addr) (c : Nat) (fs : List Fld) : Prop :=
  fs = [] ∨ ∃ bk o, a = some ⟨bk, o, none⟩ ∧ bk < w.heap.size ∧ fs.length ≤ c ∧ ∀ (j : Nat) f, fs[j]? = some f → w.cell? ⟨bk, o + j * 2, none⟩ = some (.string (bs f.1)) ∧ w.cell? ⟨bk, o + j * 2 + 1, none⟩ = some (.string (bs f.2))
theorem IsFlds.below {w w' : World} {a : Option Addr} {c : Nat} {fs : List Fld} (h : IsFlds w a c fs) (hb : Below w.heap.size w w') : IsFlds w' a c fs := by
  obtain h | ⟨bk, o, ha, hlt, hc, hcell⟩ := h
  · exact .inl h
  · obtain ⟨hc', _⟩ := bcell hb
    exact .inr ⟨bk, o, ha, Nat.lt_of_lt_of_le hlt hb.size, hc, fun j f hf => by rw [hc' _ _ hlt, hc' _ _ hlt]; exact hcell j f hf⟩
/-- Is a field's name among these? -/
def hasB (xs : List ByteArray) (f : Fld) : Bool := xs.any fun x => decide (x.data.toList.map lowC = f.1.map lowC)
theorem hasB_no {xs : List ByteArray} {f : Fld} {j : Nat} (hj : j < xs.length) (h : hasB (xs.take j) f = false) (hq : decide (xs[j].data.toList.map lowC = f.1.map lowC) = false) : hasB (xs.take (j + 1)) f = false := by
  unfold hasB at h ⊢
  rw [List.take_add_one, List.getElem?_eq_getElem hj, Option.toList_some, List.any_append, h]
  simp only [List.any_cons, List.any_nil, Bool.or_false, Bool.false_or]
  exact hq
theorem hasB_yes {xs : List ByteArray} {f : Fld} {j : Nat} (hj : j < xs.length) (hq : decide (xs[j].data.toList.map lowC = f.1.map lowC) = true) : hasB xs f = true := by
  unfold hasB
  rw [List.any_eq_true]
  exact ⟨xs[j], List.getElem_mem hj, hq⟩
set_option maxRecDepth 100000 in
set_option maxHeartbeats 2000000 in
theorem has72 (a : Option Addr) (c : Nat) (xs : List ByteArray) (f : Fld) (hx1 : xs.length ≤ 1000000000) (h1 : f.1.length ≤ 4000000000) (R : Bool) (hR : R = hasB xs f) (w : World) (hx : IsStrs w a c xs) :
    Calls Tryz.prog 80 #[.slice a xs.length c, fldV f] w fun e w' => e = .returned (.bool R) ∧ Below w.heap.size w w' := by
  have HR := Lib.hid hR
  have HX := Lib.hid hx
  obtain ⟨n, v⟩ := f
  have L0 := below_alloc w (.cells #[.string (bs n), .string (bs v)] 62)
  have c0 : (w.alloc (.cells #[.string (bs n), .string (bs v)] 62)).cell? ⟨w.heap.size, 0, none⟩ = some (.string (bs n)) := by simp
  have hz0 : w.heap.size < (w.alloc (.cells #[.string (bs n), .string (bs v)] 62)).heap.size := by simp
  clear hR hx
  unfold fldV
  simp only
  simp only at h1
  go_enter Tryz.func80, Tryz.ntmps80
  go_wp2_with fail
  generalize World.alloc w _ = w0 at *
  go_loopw [9] (fun i wr => ∃ j : Nat, j ≤ xs.length ∧ i = .int .i64 (j : Int) ∧ Hid (hasB (xs.take j) (n, v) = false) ∧ Below w.heap.size w wr ∧ Below w0.heap.size w0 wr) (fun i _ => xs.length - (intOf i).toNat)
  case atStart => exact ⟨0, Nat.zero_le _, rfl, by simp [Hid, hasB], L0, Below.refl _ _⟩
  case round =>
    obtain ⟨j, hj, rfl, hno, hb, hb0⟩ := hrel
    by_cases hlt : j < xs.length
    · obtain h0 | ⟨bk, o, rfl, hbk, hc, hcell⟩ := HX.out.below hb
      · subst h0; simp at hlt
      have cj := hcell j xs[j] (by simp [hlt])
      have cn : wr.cell? ⟨w.heap.size, 0, none⟩ = some (.string (bs n)) := by rw [(bcell hb0).1 _ _ hz0]; exact c0
      obtain ⟨q, hq⟩ : ∃ q, q = decide (xs[j].data.toList.map lowC = n.map lowC) := ⟨_, rfl⟩
      have HF := Lib.hid (fun W => fold22 xs[j] (bs n) (by rw [bs_size]; omega) q hq W)
      have HN : Hid (q = false → hasB (xs.take (j + 1)) (n, v) = false) := fun e => hasB_no hlt hno.out (hq ▸ e)
      have HY : Hid (q = true → hasB xs (n, v) = true) := fun e => hasB_yes hlt (hq ▸ e)
      clear hcell hq
      generalize xs[j] = x at cj HF
      go_wp2_with fail
      refine (HF.out wr).mono ?_
      rintro e w2 ⟨rfl, hb2⟩
      have b2 := hb.trans (hb2.mono hb.size)
      have b20 := hb0.trans (hb2.mono hb0.size)
      cases q
      · have HN2 := Lib.hid (HN.out rfl)
        clear HN HY
        go_wp2_with fail
        go_roundw
        case rel => exact ⟨j + 1, hlt, by go_num, HN2, b2, b20⟩
        case measure => simp [intOf]; omega
      · have HY2 := Lib.hid (HY.out rfl)
        clear HN HY
        go_wp2_with fail
        go_ret
        exact ⟨by rw [HR.out, HY2.out]; rfl, b2⟩
    · have hn := hno.out
      rw [List.take_of_length_le (by omega)] at hn
      have HN := Lib.hid hn
      clear hn hno
      go_wp2_with fail
      go_ret
      exact ⟨by rw [HR.out, HN.out]; rfl, hb⟩
/-- The first place of a field with such a name; -1: there is none. -/
def findI (xs : List ByteArray) (fs : List Fld) : Int := match fs.findIdx? (hasB xs) with
  | some i => (i : Int)
  | none => -1
theorem findI_no {xs : List ByteArray} {fs : List Fld} (h : ∀ f ∈ fs, hasB xs f = false) : findI xs fs = -1 := by
  unfold findI
  rw [List.findIdx?_eq_none_iff.2 h]
theorem findI_at {xs : List ByteArray} {fs : List Fld} {j : Nat} (hj : j < fs.length) (h : ∀ f ∈ fs.take j, hasB xs f = false) (hq : hasB xs fs[j] = true) : findI xs fs = (j : Int) := by
  have : fs.findIdx? (hasB xs) = some j := by
    rw [List.findIdx?_eq_some_iff_getElem]
    refine ⟨hj, hq, fun i hi => ?_⟩
    have hm : fs[i] ∈ fs.take j := by
      rw [List.mem_take_iff_getElem]
      exact ⟨i, by omega, rfl⟩
    simp [h _ hm]
  unfold findI
  rw [this]
/-- Fields of a bounded length. -/
def FldOk (f : Fld) : Prop := f.1.length ≤ 4000000000 ∧ f.2.length ≤ 4000000000
/-- The function value: has of these names. -/
def hasV (a : Option Addr) (n c : Nat) : Value := .func (.func 80) #[.slice a n c] #[]
set_option maxRecDepth 100000 in
set_option maxHeartbeats 2000000 in
theorem index93 (a : Option Addr) (c : Nat) (fs : List Fld) (b : Option Addr) (d : Nat) (xs : List ByteArray) (hfl : fs.length ≤ 1000000000) (hx1 : xs.length ≤ 1000000000) (hok : ∀ f ∈ fs, FldOk f) (w : World) (hf : IsFlds w a c fs) (hx : IsStrs w b d xs) :
    Calls Tryz.prog 107 #[.slice a fs.length c, hasV b xs.length d] w fun e w' => e = .returned (.int .i64 (findI xs fs)) ∧ Below w.heap.size w w' := by
  obtain ⟨R, hR⟩ : ∃ R, R = findI xs fs := ⟨_, rfl⟩
  rw [← hR]
  have HR := Lib.hid hR
  have HX := Lib.hid hx
  have HFF := Lib.hid hf
  have HOK := Lib.hid hok
  clear hR hx hf hok
  unfold hasV
  go_enter Tryz.func107, Tryz.ntmps107
  go_wp2_with fail
  go_loopw [8] (fun i wr => ∃ j : Nat, j ≤ fs.length ∧ i = .int .i64 (j : Int) ∧ Hid (∀ f ∈ fs.take j, hasB xs f = false) ∧ Below w.heap.size w wr) (fun i _ => fs.length - (intOf i).toNat)
  case atStart => exact ⟨0, Nat.zero_le _, rfl, (fun f hf => by simp at hf), Below.refl _ _⟩
  case round =>
    obtain ⟨j, hj, rfl, hno, hb⟩ := hrel
    by_cases hlt : j < fs.length
    · obtain h0 | ⟨bk, o, rfl, hbk, hc, hcell⟩ := HFF.out.below hb
      · subst h0; simp at hlt
      obtain ⟨c1, c2⟩ := hcell j fs[j] (by simp [hlt])
      have hfo := HOK.out fs[j] (List.getElem_mem hlt)
      obtain ⟨q, hq⟩ : ∃ q, q = hasB xs fs[j] := ⟨_, rfl⟩
      have HF := Lib.hid (has72 b d xs fs[j] hx1 hfo.1 q hq wr (HX.out.below hb))
      have HN : Hid (q = false → ∀ f ∈ fs.take (j + 1), hasB xs f = false) := fun e f hf => by
        rw [List.take_add_one, List.getElem?_eq_getElem hlt, Option.toList_some, List.mem_append] at hf
        rcases hf with hf | hf
        · exact hno.out f hf
        · rw [List.mem_singleton] at hf; subst hf; rw [← hq, e]
      have HY : Hid (q = true → R = (j : Int)) := fun e => by rw [HR.out]; exact findI_at hlt hno.out (hq ▸ e)
      obtain ⟨f, hfe⟩ : ∃ f, f = fs[j] := ⟨_, rfl⟩
      rw [← hfe] at c1 c2 HF
      clear hcell hq hfo hfe
      obtain ⟨n, v⟩ := f
      have HF2 : Hid (Calls Tryz.prog 80 #[.slice b xs.length d, .agg #[.string (bs n), .string (bs v)]] wr fun e w' => e = .returned (.bool q) ∧ Below wr.heap.size wr w') := HF.out
      have c1' : wr.cell? ⟨bk, o + j * 2, none⟩ = some (.string (bs n)) := c1
      have c2' : wr.cell? ⟨bk, o + j * 2 + 1, none⟩ = some (.string (bs v)) := c2
      clear c1 c2 HF
      have j1 : (j : Int) < fs.length := by omega
      go_wp2_with fail
      refine HF2.out.mono ?_
      rintro e w2 ⟨rfl, hb2⟩
      have b2 := hb.trans (hb2.mono hb.size)
      cases q
      · have HN2 := Lib.hid (HN.out rfl)
        clear HN HY
        go_wp2_with fail
        go_roundw
        case rel => exact ⟨j + 1, hlt, by go_num, HN2, b2⟩
        case measure => simp [intOf]; omega
      · have HY2 := Lib.hid (HY.out rfl)
        clear HN HY
        go_wp2_with fail
        go_ret
        exact ⟨by rw [HY2.out]; rfl, b2⟩
    · have hn := hno.out
      rw [List.take_of_length_le (by omega)] at hn
      have HN : Hid (R = -1) := by
        have e := HR.out
        rw [findI_no hn] at e
        exact e
      clear hn hno
      go_wp2_with fail
      go_ret
      exact ⟨by rw [HN.out]; rfl, hb⟩
end Go.Proofs.YtbbphklhnngjmaaGreatDoor

/- fields: slices.Clone, slices.DeleteFunc, Drop. -/
namespace Go.Proofs.YtbbphklhnngjmaaGreatDoor
open Go.RowKit

/-- The cells of fields. -/
def cellsF (fs : List Fld) : List Value := fs.flatMap fun f => [.string (bs f.1), .string (bs f.2)]
theorem cellsF_length (fs : List Fld) : (cellsF fs).length = fs.length * 2 := by
  induction fs with
  | nil => rfl
  | cons f r ih => simp [cellsF] at ih ⊢; omega
theorem cellsF_at : ∀ (fs : List Fld) (j : Nat) (f : Fld), fs[j]? = some f → (cellsF fs)[j * 2]? = some (.string (bs f.1)) ∧ (cellsF fs)[j * 2 + 1]? = some (.string (bs f.2))
  | [], j, f, h => by simp at h
  | g :: r, 0, f, h => by
    obtain rfl : g = f := by simpa using h
    simp [cellsF]
  | g :: r, j + 1, f, h => by
    have ih := cellsF_at r j f (by simpa using h)
    have e : cellsF (g :: r) = .string (bs g.1) :: .string (bs g.2) :: cellsF r := rfl
    rw [e, show (j + 1) * 2 = j * 2 + 1 + 1 by omega, show j * 2 + 1 + 1 + 1 = (j * 2 + 1) + 1 + 1 by omega]
    simpa using ih
theorem cellsF_one (fs : List Fld) : ∀ u ∈ cellsF fs, u.oneCell' = true := by
  intro u hu
  unfold cellsF at hu
  obtain ⟨f, _, hf⟩ := List.mem_flatMap.1 hu
  simp at hf
  rcases hf with rfl | rfl <;> rfl
theorem isFlds_cells {w : World} {bk o : Nat} {fs : List Fld} (hcell : ∀ (j : Nat) f, fs[j]? = some f → w.cell? ⟨bk, o + j * 2, none⟩ = some (.string (bs f.1)) ∧ w.cell? ⟨bk, o + j * 2 + 1, none⟩ = some (.string (bs f.2))) :
    ∀ (k : Nat) u, (cellsF fs)[k]? = some u → w.cell? ((⟨bk, o, none⟩ : Addr).add k) = some u := by
  intro k u hu
  rw [Addr.add_mid]
  have hk := (List.getElem?_eq_some_iff.1 hu).1
  rw [cellsF_length] at hk
  have hj : k / 2 < fs.length := by omega
  have hf := List.getElem?_eq_getElem hj
  obtain ⟨h1, h2⟩ := hcell (k / 2) _ hf
  obtain ⟨g1, g2⟩ := cellsF_at fs (k / 2) _ hf
  rcases Nat.mod_two_eq_zero_or_one k with hm | hm
  · have e : k / 2 * 2 = k := by omega
    rw [e] at h1 g1
    rw [h1, ← hu, g1]
  · have e : k / 2 * 2 + 1 = k := by omega
    rw [show o + k / 2 * 2 + 1 = o + (k / 2 * 2 + 1) by omega, e] at h2
    rw [e] at g2
    rw [h2, ← hu, g2]
theorem infoFld : (Tryz.prog.info? 62).map (fun i => (i.zero, i.size, i.bytes)) = some (some (.agg #[.string ⟨#[]⟩, .string ⟨#[]⟩]), 2, 32) := by kernel_rfl
/-- A row that owns fields reads as them. -/
theorem own_isFlds {w : World} {base : Nat} {v : Value} {fs : List Fld} (h : w.ownsRow base 62 2 v fs.length (cellsF fs)) : ∃ a c, v = .slice a fs.length c ∧ IsFlds w a c fs := by
  obtain ⟨_, ⟨rfl, h0⟩ | ⟨g, cap, cur, rfl, _, hg, hcap, _, hcs, htk⟩⟩ := h
  · obtain rfl : fs = [] := List.eq_nil_of_length_eq_zero h0
    exact ⟨none, 0, rfl, .inl rfl⟩
  · refine ⟨some ⟨g, 0, none⟩, cap, rfl, .inr ⟨g, 0, rfl, (Array.getElem?_eq_some_iff.1 hg).1, hcap, fun j f hf => ?_⟩⟩
    obtain ⟨g1, g2⟩ := cellsF_at fs j f hf
    have hj := (List.getElem?_eq_some_iff.1 hf).1
    rw [← htk, List.getElem?_take, if_pos (by omega)] at g1 g2
    rw [Nat.zero_add]
    simp only [Array.getElem?_toList] at g1 g2
    exact ⟨by simp [World.cell?, hg, g1], by simp [World.cell?, hg, g2]⟩

set_option maxRecDepth 100000 in
set_option maxHeartbeats 2000000 in
theorem clone77 (a : Option Addr) (c : Nat) (fs : List Fld) (hfl : fs.length ≤ 1000000000) (ha : a = none → c = 0 ∧ fs = []) (w : World) (hf : IsFlds w a c fs) :
    Calls Tryz.prog 98 #[.slice a fs.length c] w fun e w' => ∃ v, e = .returned v ∧ w'.ownsRow w.heap.size 62 2 v fs.length (cellsF fs) ∧ Below w.heap.size w w' := by
  obtain ⟨i0, hi, hz0, hz1, hz2⟩ := info_parts infoFld
  have hnil := fun W (x : Option Addr) (n c' : Nat) => Lib.run_eql_slice_nil (P := Tryz.prog) W 31 62 x n c' 0 0 Tryz.underlying31
  cases a with
  | none =>
    obtain ⟨rfl, rfl⟩ := ha rfl
    have h1 := fun W => hnil W none 0 0
    clear hnil hf
    go_enter Tryz.func98, Tryz.ntmps98
    go_wp2_with fail
    go_ret
    exact ⟨_, rfl, World.ownsRow_nil _ _ _ _, Below.refl _ _⟩
  | some ad =>
    have h1 := fun W => hnil W (some ad) fs.length c
    have HF := Lib.hid hf
    have O0 : Hid ((w.alloc (.cells #[] 62)).ownsRow w.heap.size 62 2 (.slice (some ⟨w.heap.size, 0, none⟩) 0 0) 0 []) := World.ownsRow_lit w #[] 0 (Nat.le_refl _) (by decide) (by simp)
    have L0 := below_alloc w (.cells #[] 62)
    have hcells : Hid (∀ (k : Nat) u, (cellsF fs)[k]? = some u → (w.alloc (.cells #[] 62)).cell? (ad.add k) = some u) := by
      intro k u hu
      obtain h0 | ⟨bk, o, h2, hbk, hc, hcell⟩ := HF.out.below L0
      · subst h0; simp [cellsF] at hu
      · obtain rfl : ad = ⟨bk, o, none⟩ := by injection h2
        exact isFlds_cells hcell k u hu
    have hlen := cellsF_length fs
    have HL := Lib.hid hlen
    clear hnil hf ha hlen HF
    go_enter Tryz.func98, Tryz.ntmps98
    go_wp2_with (at_builtin; refine wpList_append_own _ rfl _ _ 31 rfl w.heap.size 62 i0 (.agg #[.string ⟨#[]⟩, .string ⟨#[]⟩]) 2 32 Tryz.underlying31 hi hz0 hz1 hz2 rfl (by decide) _ _ _ rfl O0.out ad fs.length c (cellsF fs) rfl HL.out hcells.out (cellsF_one fs) (by unfold maxLen; omega) (by omega) (by simp) ?_)
    intro v' w1 hown' hgrow _
    have hb1 : Below w.heap.size w w1 := L0.grown hgrow (by simp) (fun k hk => by simp [Value.ownBlock] at hk; omega)
    have HO := Lib.hid hown'
    clear hown' hgrow O0 hcells
    go_wp2_with fail
    go_ret
    exact ⟨_, rfl, HO.out, hb1⟩
end Go.Proofs.YtbbphklhnngjmaaGreatDoor

/- fields: slices.DeleteFunc, Drop. -/
namespace Go.Proofs.YtbbphklhnngjmaaGreatDoor
open Go.RowKit

/-- What is left without these names. -/
def dropL (xs : List ByteArray) (fs : List Fld) : List Fld := fs.filter fun f => !hasB xs f
/-- The two cells of a place. -/
def PairAt (w : World) (g k : Nat) (f : Fld) : Prop := w.cell? ⟨g, k * 2, none⟩ = some (.string (bs f.1)) ∧ w.cell? ⟨g, k * 2 + 1, none⟩ = some (.string (bs f.2))
/-- A block of places that may be written. -/
def Open2 (w : World) (g n : Nat) : Prop := g < w.heap.size ∧ ∀ k, k < n * 2 → (w.cell? ⟨g, k, none⟩).isSome = true ∧ w.frozen? ⟨g, k, none⟩ = false
theorem PairAt.below {w w' : World} {g k : Nat} {f : Fld} (h : PairAt w g k f) (hb : Below w.heap.size w w') (hg : g < w.heap.size) : PairAt w' g k f := by
  obtain ⟨hc, _⟩ := bcell hb
  exact ⟨(hc _ _ hg).trans h.1, (hc _ _ hg).trans h.2⟩
theorem Open2.below {w w' : World} {g n : Nat} (h : Open2 w g n) (hb : Below w.heap.size w w') : Open2 w' g n := by
  obtain ⟨hc, hf⟩ := bcell hb
  exact ⟨Nat.lt_of_lt_of_le h.1 hb.size, fun k hk => by rw [hc _ _ h.1, hf _ _ h.1]; exact h.2 k hk⟩
theorem Open2.set {w : World} {g n : Nat} (h : Open2 w g n) (p : Nat) (v : Value) : Open2 (w.setCell ⟨g, p, none⟩ v) g n := by
  refine ⟨by simpa [World.setCell] using h.1, fun k hk => ?_⟩
  obtain ⟨h1, h2⟩ := h.2 k hk
  refine ⟨?_, by rw [World.frozen?_setCell]; exact h2⟩
  by_cases e : k = p
  · subst e
    obtain ⟨u, hu⟩ := Option.isSome_iff_exists.1 h1
    rw [World.cell?_setCell_same _ _ _ hu]; rfl
  · rw [World.cell?_setCell_other _ _ _ _ (by simp <;> omega)]; exact h1
theorem PairAt.set {w : World} {g k : Nat} {f : Fld} (h : PairAt w g k f) (p : Nat) (v : Value) (hp : p ≠ k * 2 ∧ p ≠ k * 2 + 1) : PairAt (w.setCell ⟨g, p, none⟩ v) g k f :=
  ⟨by rw [World.cell?_setCell_other _ _ _ _ (by simp <;> omega)]; exact h.1, by rw [World.cell?_setCell_other _ _ _ _ (by simp <;> omega)]; exact h.2⟩
theorem PairAt.put {w : World} {g n k : Nat} (h : Open2 w g n) (hk : k < n) (f : Fld) : PairAt ((w.setCell ⟨g, k * 2, none⟩ (.string (bs f.1))).setCell ⟨g, k * 2 + 1, none⟩ (.string (bs f.2))) g k f := by
  obtain ⟨u, hu⟩ := Option.isSome_iff_exists.1 (h.2 (k * 2) (by omega)).1
  obtain ⟨u2, hu2⟩ := Option.isSome_iff_exists.1 ((h.set (k * 2) (.string (bs f.1))).2 (k * 2 + 1) (by omega)).1
  refine ⟨?_, World.cell?_setCell_same _ _ _ hu2⟩
  rw [World.cell?_setCell_other _ _ _ _ (by simp <;> omega)]
  exact World.cell?_setCell_same _ _ _ hu
theorem dropL_step_keep {xs : List ByteArray} {fs : List Fld} {j : Nat} (hj : j < fs.length) (h : hasB xs fs[j] = false) : dropL xs (fs.take (j + 1)) = dropL xs (fs.take j) ++ [fs[j]] := by
  unfold dropL
  rw [List.take_add_one, List.getElem?_eq_getElem hj, Option.toList_some, List.filter_append]
  simp [h]
theorem dropL_step_drop {xs : List ByteArray} {fs : List Fld} {j : Nat} (hj : j < fs.length) (h : hasB xs fs[j] = true) : dropL xs (fs.take (j + 1)) = dropL xs (fs.take j) := by
  unfold dropL
  rw [List.take_add_one, List.getElem?_eq_getElem hj, Option.toList_some, List.filter_append]
  simp [h]
theorem dropL_none {xs : List ByteArray} {fs : List Fld} (h : ∀ f ∈ fs, hasB xs f = false) : dropL xs fs = fs := by
  unfold dropL
  rw [List.filter_eq_self]
  intro f hf
  simp [h f hf]
theorem findI_cases (xs : List ByteArray) (fs : List Fld) : (findI xs fs = -1 ∧ ∀ f ∈ fs, hasB xs f = false) ∨ ∃ i, ∃ h : i < fs.length, findI xs fs = (i : Int) ∧ hasB xs fs[i] = true ∧ ∀ f ∈ fs.take i, hasB xs f = false := by
  unfold findI
  cases hfi : fs.findIdx? (hasB xs) with
  | none => exact .inl ⟨rfl, List.findIdx?_eq_none_iff.1 hfi⟩
  | some i =>
    obtain ⟨h, h1, h2⟩ := List.findIdx?_eq_some_iff_getElem.1 hfi
    refine .inr ⟨i, h, rfl, h1, fun f hf => ?_⟩
    obtain ⟨k, hk, rfl⟩ := List.mem_take_iff_getElem.1 hf
    have := h2 k (by omega)
    simpa using this
/-- clear on places. -/
theorem run_clear2 (w : World) (ty : TypeId) (b o n c : Nat) (hn : 0 < n) (hc : ∀ j, j < n * 2 → (w.cell? ⟨b, o + j, none⟩).isSome = true) (hf : ∀ j, j < n * 2 → w.frozen? ⟨b, o + j, none⟩ = false) :
    (Builtin.clear_ #[31] ty #[.slice (some ⟨b, o, none⟩) n c]).run Tryz.prog w = .ok (.tuple #[]) (w.setCells b o (Builtin.zeroCells #[.string ⟨#[]⟩, .string ⟨#[]⟩] n).toList) := by
  have hv : ∀ w, (zeroValue 62).run Tryz.prog w = .ok (.agg #[.string ⟨#[]⟩, .string ⟨#[]⟩]) w := fun w => by kernel_rfl
  have hz : (Builtin.zeroCells #[Value.string ⟨#[]⟩, .string ⟨#[]⟩] n).toList.length = n * 2 := by simp [Builtin.zeroCells]
  have hone : ∀ v ∈ (Builtin.zeroCells #[Value.string ⟨#[]⟩, .string ⟨#[]⟩] n).toList, v.oneCell' = true := by
    intro v hv'
    simp [Builtin.zeroCells] at hv'
    obtain ⟨i, _, rfl⟩ := hv'
    rcases Nat.mod_two_eq_zero_or_one i with h | h <;> rw [h] <;> rfl
  have hst := run_storeCells_cells (P := Tryz.prog) b o (Builtin.zeroCells #[Value.string ⟨#[]⟩, .string ⟨#[]⟩] n).toList 0 w (by rw [hz]; simpa using hc) (by rw [hz]; simpa using hf) hone
  simp only [Nat.add_zero] at hst
  obtain ⟨m, rfl⟩ : ∃ m, n = m + 1 := ⟨n - 1, by omega⟩
  simp [Builtin.clear_, run_underlying Tryz.underlying31, hv, Value.cells, hst]
theorem cell_setCells_before (g : Nat) : ∀ (vs : List Value) (o : Nat) (w : World) (k : Nat), k < o → (w.setCells g o vs).cell? ⟨g, k, none⟩ = w.cell? ⟨g, k, none⟩
  | [], _, _, _, _ => rfl
  | v :: r, o, w, k, h => by
    have ih := cell_setCells_before g r (o + 1) (w.setCell ⟨g, o, none⟩ v) k (by omega)
    have e : w.setCells g o (v :: r) = (w.setCell ⟨g, o, none⟩ v).setCells g (o + 1) r := rfl
    rw [e, ih, World.cell?_setCell_other _ _ _ _ (by simp <;> omega)]
theorem size_setCells (g : Nat) : ∀ (vs : List Value) (o : Nat) (w : World), (w.setCells g o vs).heap.size = w.heap.size
  | [], _, _ => rfl
  | v :: r, o, w => by
    have e : w.setCells g o (v :: r) = (w.setCell ⟨g, o, none⟩ v).setCells g (o + 1) r := rfl
    rw [e, size_setCells g r]
    simp
theorem below_setCells {B : Nat} {a : World} (g : Nat) (hg : B ≤ g) : ∀ (vs : List Value) (o : Nat) (w : World), Below B a w → Below B a (w.setCells g o vs)
  | [], _, _, h => h
  | v :: r, o, _, h => below_setCells g hg r (o + 1) _ (h.setCell (p := ⟨g, o, none⟩) hg v)

set_option maxRecDepth 1000000 in
set_option maxHeartbeats 4000000 in
theorem delete76 (w0 : World) (g cap : Nat) (fs : List Fld) (b : Option Addr) (d : Nat) (xs : List ByteArray) (hfl : fs.length ≤ 1000000000) (hx1 : xs.length ≤ 1000000000) (hok : ∀ f ∈ fs, FldOk f) (hx : IsStrs w0 b d xs) (hg : w0.heap.size ≤ g) (hcap : fs.length ≤ cap)
    (w : World) (hbl : Below w0.heap.size w0 w) (hop : Open2 w g fs.length) (hp : ∀ (k : Nat) f, fs[k]? = some f → PairAt w g k f) :
    Calls Tryz.prog 103 #[.slice (some ⟨g, 0, none⟩) fs.length cap, hasV b xs.length d] w fun e w' =>
      e = .returned (.slice (some ⟨g, 0, none⟩) (dropL xs fs).length cap) ∧ IsFlds w' (some ⟨g, 0, none⟩) cap (dropL xs fs) ∧ Below w0.heap.size w0 w' := by
  have hif : IsFlds w (some ⟨g, 0, none⟩) cap fs := .inr ⟨g, 0, rfl, hop.1, hcap, fun j f hf => by rw [Nat.zero_add]; exact hp j f hf⟩
  have HI := Lib.hid (index93 (some ⟨g, 0, none⟩) cap fs b d xs hfl hx1 hok w hif (hx.below hbl))
  obtain ⟨V, hV⟩ : ∃ V, V = hasV b xs.length d := ⟨_, rfl⟩
  rw [← hV] at HI ⊢
  have HV := Lib.hid hV
  have HX := Lib.hid hx
  have HOK := Lib.hid hok
  have HOP := Lib.hid hop
  have HP := Lib.hid hp
  clear hV hx hok hop hp hif
  rcases findI_cases xs fs with ⟨hi, hno⟩ | ⟨i, hil, hi, hyes, hno⟩
  · rw [hi] at HI
    have hd := dropL_none hno
    have HD := Lib.hid hd
    rw [hd]
    clear hi hno hd
    go_enter Tryz.func103, Tryz.ntmps103
    go_wp2_with fail
    refine HI.out.mono ?_
    rintro e w1 ⟨rfl, hb1⟩
    go_wp2_with fail
    go_ret
    refine ⟨rfl, ?_, hbl.trans (hb1.mono hbl.size)⟩
    have : IsFlds w (some ⟨g, 0, none⟩) cap fs := .inr ⟨g, 0, rfl, HOP.out.1, hcap, fun j f hf => by rw [Nat.zero_add]; exact HP.out j f hf⟩
    exact this.below hb1
  · rw [hi] at HI
    have ht : dropL xs (fs.take (i + 1)) = fs.take i := by rw [dropL_step_drop hil hyes, dropL_none hno]
    have hl : i = (dropL xs (fs.take (i + 1))).length := by rw [ht, List.length_take]; omega
    have HT := Lib.hid ht
    have HL := Lib.hid hl
    have i1 : ((i : Int) == -1) = false := beq_eq_false_iff_ne.2 (by omega)
    clear hi hno hyes ht hl
    go_enter Tryz.func103, Tryz.ntmps103
    go_wp2_with fail
    refine HI.out.mono ?_
    rintro e w1 ⟨rfl, hb1⟩
    have b1 := hbl.trans (hb1.mono hbl.size)
    have O1 : Hid (Open2 w1 g fs.length) := HOP.out.below hb1
    have P1 : Hid (∀ (k : Nat) f, fs[k]? = some f → PairAt w1 g k f) := fun k f hf => (HP.out k f hf).below hb1 HOP.out.1
    go_wp2_with fail
    clear i1 hbl hb1
    go_loopw [5, 6] (fun vi vj wr => ∃ i j : Nat, vi = .int .i64 (i : Int) ∧ vj = .int .i64 (j : Int) ∧ i < j ∧ j ≤ fs.length ∧ Hid (i = (dropL xs (fs.take j)).length) ∧ Hid (Open2 wr g fs.length) ∧ Hid (∀ (k : Nat) f, (dropL xs (fs.take j))[k]? = some f → PairAt wr g k f) ∧ Hid (∀ (k : Nat) f, j ≤ k → fs[k]? = some f → PairAt wr g k f) ∧ Below w0.heap.size w0 wr)
      (fun _ vj _ => fs.length - (intOf vj).toNat)
    case atStart =>
      refine ⟨i, i + 1, rfl, by first | rfl | go_num, by omega, by omega, HL, O1, ?_, fun k f _ hf => P1.out k f hf, b1⟩
      show ∀ _ _, _
      rw [HT.out]
      intro k f hf
      rw [List.getElem?_take] at hf
      split at hf
      · exact P1.out k f hf
      · cases hf
    case round =>
      clear O1 P1 b1 HL HT hil HI HOP HP
      obtain ⟨i, j, rfl, rfl, hij, hj, hlen, hO, hK, hS, hb⟩ := hrel
      by_cases hlt : j < fs.length
      · obtain ⟨c1, c2⟩ := hS.out j fs[j] (Nat.le_refl _) (by simp [hlt])
        have hgl := hO.out.1
        have hfo := HOK.out fs[j] (List.getElem_mem hlt)
        obtain ⟨q, hq⟩ : ∃ q, q = hasB xs fs[j] := ⟨_, rfl⟩
        obtain ⟨f, hfe⟩ : ∃ f, f = fs[j] := ⟨_, rfl⟩
        have HKeep : Hid (q = false → dropL xs (fs.take (j + 1)) = dropL xs (fs.take j) ++ [f]) := fun e => by rw [hfe]; exact dropL_step_keep hlt (hq ▸ e)
        have HDrop : Hid (q = true → dropL xs (fs.take (j + 1)) = dropL xs (fs.take j)) := fun e => dropL_step_drop hlt (hq ▸ e)
        rw [← hfe] at c1 c2 hfo hq
        clear hfe
        obtain ⟨n, v⟩ := f
        have HC := Lib.hid (fun W hW => has72 b d xs (n, v) hx1 hfo.1 q hq W hW)
        clear hq hfo
        simp only at c1 c2
        have j1 : (j : Int) < fs.length := by omega
        rw [HV.out]
        unfold hasV
        go_wp2_with fail
        have bA := hb.alloc hb.size (.cells #[.string (bs n), .string (bs v)] 62)
        have LA := below_alloc wr (.cells #[.string (bs n), .string (bs v)] 62)
        have e0 : (wr.alloc (.cells #[.string (bs n), .string (bs v)] 62)).cell? ⟨wr.heap.size, 0, none⟩ = some (.string (bs n)) := by simp
        have e1 : (wr.alloc (.cells #[.string (bs n), .string (bs v)] 62)).cell? ⟨wr.heap.size, 1, none⟩ = some (.string (bs v)) := by simp
        have hzz : wr.heap.size < (wr.alloc (.cells #[.string (bs n), .string (bs v)] 62)).heap.size := by simp
        have HXA : Hid (IsStrs (wr.alloc (.cells #[.string (bs n), .string (bs v)] 62)) b d xs) := HX.out.below bA
        refine (HC.out _ HXA.out).mono ?_
        rintro e w2 ⟨rfl, hb2⟩
        have b2 := bA.trans (hb2.mono bA.size)
        have bl2 : Below wr.heap.size wr w2 := LA.trans (hb2.mono LA.size)
        have f0 : w2.cell? ⟨wr.heap.size, 0, none⟩ = some (.string (bs n)) := by rw [(bcell hb2).1 _ _ hzz, e0]
        have f1 : w2.cell? ⟨wr.heap.size, 1, none⟩ = some (.string (bs v)) := by rw [(bcell hb2).1 _ _ hzz, e1]
        have O2 : Hid (Open2 w2 g fs.length) := hO.out.below bl2
        have K2 : Hid (∀ (k : Nat) f, (dropL xs (fs.take j))[k]? = some f → PairAt w2 g k f) := fun k f hf => (hK.out k f hf).below bl2 hgl
        have S2 : Hid (∀ (k : Nat) f, j ≤ k → fs[k]? = some f → PairAt w2 g k f) := fun k f hk hf => (hS.out k f hk hf).below bl2 hgl
        clear e0 e1 hzz HXA bA LA hb2 hO hK hS c1 c2 HC hb
        cases q
        · have HK3 := Lib.hid (HKeep.out rfl)
          clear HKeep HDrop
          obtain ⟨u0, hu0⟩ := Option.isSome_iff_exists.1 (O2.out.2 (i * 2) (by omega)).1
          obtain ⟨u1, hu1⟩ := Option.isSome_iff_exists.1 (O2.out.2 (i * 2 + 1) (by omega)).1
          have z0 := (O2.out.2 (i * 2) (by omega)).2
          have z1 := (O2.out.2 (i * 2 + 1) (by omega)).2
          have ii : (i : Int) < fs.length := by omega
          have hput := PairAt.put O2.out (show i < fs.length by omega) (n, v)
          have O3 : Hid (Open2 ((w2.setCell ⟨g, i * 2, none⟩ (.string (bs n))).setCell ⟨g, i * 2 + 1, none⟩ (.string (bs v))) g fs.length) := (O2.out.set _ _).set _ _
          have hl3 : Hid (i + 1 = (dropL xs (fs.take (j + 1))).length) := by
            show i + 1 = _
            rw [HK3.out, List.length_append, ← hlen.out]; rfl
          have K3 : Hid (∀ (k : Nat) f, (dropL xs (fs.take (j + 1)))[k]? = some f → PairAt ((w2.setCell ⟨g, i * 2, none⟩ (.string (bs n))).setCell ⟨g, i * 2 + 1, none⟩ (.string (bs v))) g k f) := by
            intro k f hf
            rw [HK3.out] at hf
            by_cases hk : k < i
            · rw [List.getElem?_append_left (by rw [← hlen.out]; exact hk)] at hf
              exact ((K2.out k f hf).set _ _ (by omega)).set _ _ (by omega)
            · rw [List.getElem?_append_right (by rw [← hlen.out]; omega), ← hlen.out] at hf
              have hk0 : k - i = 0 := by
                have := (List.getElem?_eq_some_iff.1 hf).1
                simp at this
                omega
              rw [hk0] at hf
              obtain rfl : (n, v) = f := by simpa using hf
              obtain rfl : k = i := by omega
              exact hput
          have S3 : Hid (∀ (k : Nat) f, j + 1 ≤ k → fs[k]? = some f → PairAt ((w2.setCell ⟨g, i * 2, none⟩ (.string (bs n))).setCell ⟨g, i * 2 + 1, none⟩ (.string (bs v))) g k f) := fun k f hk hf =>
            ((S2.out k f (by omega) hf).set _ _ (by omega)).set _ _ (by omega)
          have b3 := (b2.setCell (p := ⟨g, i * 2, none⟩) hg (.string (bs n))).setCell (p := ⟨g, i * 2 + 1, none⟩) hg (.string (bs v))
          clear hput O2 K2 S2 hlen HK3
          go_wp2_with fail
          go_roundw
          case rel => exact ⟨i + 1, j + 1, by go_num, by go_num, by omega, hlt, hl3, O3, K3, S3, b3⟩
          case measure => simp [intOf]; omega
        · have HD3 := Lib.hid (HDrop.out rfl)
          clear HKeep HDrop
          have hl3 : Hid (i = (dropL xs (fs.take (j + 1))).length) := by show i = _; rw [HD3.out]; exact hlen.out
          have K3 : Hid (∀ (k : Nat) f, (dropL xs (fs.take (j + 1)))[k]? = some f → PairAt w2 g k f) := by
            intro k f hf
            rw [HD3.out] at hf
            exact K2.out k f hf
          have S3 : Hid (∀ (k : Nat) f, j + 1 ≤ k → fs[k]? = some f → PairAt w2 g k f) := fun k f hk hf => S2.out k f (by omega) hf
          clear K2 S2 hlen HD3
          go_wp2_with fail
          go_roundw
          case rel => exact ⟨i, j + 1, rfl, by go_num, by omega, hlt, hl3, O2, K3, S3, b2⟩
          case measure => simp [intOf]; omega
      · obtain rfl : j = fs.length := by omega
        have hK2 := hK.out
        have hl2 := hlen.out
        rw [List.take_of_length_le (Nat.le_refl _)] at hK2 hl2
        have hclr := run_clear2 wr 0 g (i * 2) (fs.length - i) (cap - i) (by omega) (fun k hk => (hO.out.2 _ (by omega)).1) (fun k hk => (hO.out.2 _ (by omega)).2)
        have HKK := Lib.hid hK2
        have HLL := Lib.hid hl2
        have ii : (i : Int) ≤ fs.length := by omega
        have ic : (i : Int) ≤ cap := by omega
        have i00 : (0 : Int) ≤ i := by omega
        have hcc : (fs.length : Int) ≤ cap := by omega
        have hgl := hO.out.1
        have hbz : Below w0.heap.size w0 (wr.setCells g (i * 2) (Builtin.zeroCells #[.string ⟨#[]⟩, .string ⟨#[]⟩] (fs.length - i)).toList) := below_setCells g hg _ _ _ hb
        clear hK2 hl2 hK hlen hS
        have hsz : g < (wr.setCells g (i * 2) (Builtin.zeroCells #[.string ⟨#[]⟩, .string ⟨#[]⟩] (fs.length - i)).toList).heap.size := Nat.lt_of_lt_of_le (Nat.lt_of_lt_of_le hgl (Nat.le_of_eq (size_setCells g _ _ _).symm)) (Nat.le_refl _)
        go_wp2_with fail
        go_ret
        refine ⟨by rw [← HLL.out]; rfl, ?_, hbz⟩
        have hcl : (dropL xs fs).length ≤ cap := by have := HLL.out; omega
        refine .inr ⟨g, 0, rfl, hsz, hcl, fun k f hf => ?_⟩
        have hki : k < i := by have := (List.getElem?_eq_some_iff.1 hf).1; have := HLL.out; omega
        obtain ⟨p0, p1⟩ := HKK.out k f hf
        rw [Nat.zero_add]
        exact ⟨by rw [cell_setCells_before g _ _ _ _ (by omega)]; exact p0, by rw [cell_setCells_before g _ _ _ _ (by omega)]; exact p1⟩
end Go.Proofs.YtbbphklhnngjmaaGreatDoor

/- fields: Drop, index, Get, Has. -/
namespace Go.Proofs.YtbbphklhnngjmaaGreatDoor
open Go.RowKit

/-- A row that owns fields: nil, or places that may be written. -/
theorem own_open {w : World} {base : Nat} {v : Value} {fs : List Fld} (h : w.ownsRow base 62 2 v fs.length (cellsF fs)) :
    (v = .slice none 0 0 ∧ fs = []) ∨ ∃ g cap, v = .slice (some ⟨g, 0, none⟩) fs.length cap ∧ base ≤ g ∧ fs.length ≤ cap ∧ Open2 w g fs.length ∧ ∀ (k : Nat) f, fs[k]? = some f → PairAt w g k f := by
  obtain ⟨_, ⟨rfl, h0⟩ | ⟨g, cap, cur, rfl, hbg, hg, hcap, _, hcs, htk⟩⟩ := h
  · exact .inl ⟨rfl, List.eq_nil_of_length_eq_zero h0⟩
  · refine .inr ⟨g, cap, rfl, hbg, hcap, ⟨(Array.getElem?_eq_some_iff.1 hg).1, fun k hk => ?_⟩, fun k f hf => ?_⟩
    · have hks : k < cur.size := by omega
      exact ⟨by simp [World.cell?, hg, hks], by simp [World.frozen?, hg]⟩
    · obtain ⟨g1, g2⟩ := cellsF_at fs k f hf
      have hj := (List.getElem?_eq_some_iff.1 hf).1
      rw [← htk, List.getElem?_take, if_pos (by omega)] at g1 g2
      simp only [Array.getElem?_toList] at g1 g2
      exact ⟨by simp [World.cell?, hg, g1], by simp [World.cell?, hg, g2]⟩
set_option maxRecDepth 100000 in
set_option maxHeartbeats 2000000 in
theorem delete76_nil (b : Option Addr) (d : Nat) (xs : List ByteArray) (hx1 : xs.length ≤ 1000000000) (w : World) (hx : IsStrs w b d xs) :
    Calls Tryz.prog 103 #[.slice none 0 0, hasV b xs.length d] w fun e w' => e = .returned (.slice none 0 0) ∧ Below w.heap.size w w' := by
  have HI := Lib.hid (index93 none 0 [] b d xs (by simp) hx1 (by simp) w (.inl rfl) hx)
  have e0 : findI xs [] = -1 := rfl
  rw [e0] at HI
  obtain ⟨V, hV⟩ : ∃ V, V = hasV b xs.length d := ⟨_, rfl⟩
  rw [← hV] at HI ⊢
  clear hV hx e0
  go_enter Tryz.func103, Tryz.ntmps103
  go_wp2_with fail
  refine HI.out.mono ?_
  rintro e w1 ⟨rfl, hb1⟩
  go_wp2_with fail
  go_ret
  exact ⟨rfl, hb1⟩
set_option maxRecDepth 100000 in
set_option maxHeartbeats 2000000 in
theorem drop55 (a : Option Addr) (c : Nat) (fs : List Fld) (b : Option Addr) (d : Nat) (xs : List ByteArray) (hfl : fs.length ≤ 1000000000) (hx1 : xs.length ≤ 1000000000) (ha : a = none → c = 0 ∧ fs = []) (hok : ∀ f ∈ fs, FldOk f) (w : World) (hf : IsFlds w a c fs) (hx : IsStrs w b d xs) :
    Calls Tryz.prog 78 #[.slice a fs.length c, .slice b xs.length d] w fun e w' => ∃ a' c', e = .returned (.slice a' (dropL xs fs).length c') ∧ (a' = none → c' = 0 ∧ dropL xs fs = []) ∧ IsFlds w' a' c' (dropL xs fs) ∧ Below w.heap.size w w' := by
  have HX := Lib.hid hx
  have HC := Lib.hid (clone77 a c fs hfl ha w hf)
  have HOK := Lib.hid hok
  clear hx hf ha hok
  go_enter Tryz.func78, Tryz.ntmps78
  go_wp2_with fail
  refine HC.out.mono ?_
  rintro e w1 ⟨v, rfl, hown, hb1⟩
  have X1 : Hid (IsStrs w1 b d xs) := HX.out.below hb1
  obtain ⟨rfl, rfl⟩ | ⟨g, cap, rfl, hg, hcap, hop, hpa⟩ := own_open hown
  · have HD := Lib.hid (delete76_nil b d xs hx1 w1 X1.out)
    unfold hasV at HD
    clear HX HC HOK hown
    go_wp2_with fail
    refine HD.out.mono ?_
    rintro e w2 ⟨rfl, hb2⟩
    go_wp2_with fail
    go_ret
    exact ⟨none, 0, rfl, fun _ => ⟨rfl, rfl⟩, .inl rfl, hb1.trans (hb2.mono hb1.size)⟩
  · have HD := Lib.hid (delete76 w g cap fs b d xs hfl hx1 HOK.out HX.out hg hcap w1 hb1 hop hpa)
    unfold hasV at HD
    clear HX HC HOK hown hop hpa X1
    go_wp2_with fail
    refine HD.out.mono ?_
    rintro e w2 ⟨rfl, hfl2, hb2⟩
    have HF2 := Lib.hid hfl2
    clear hfl2 HD
    go_wp2_with fail
    go_ret
    exact ⟨some ⟨g, 0, none⟩, cap, rfl, (fun h => by cases h), HF2.out, hb2⟩
/-- One name that is asked for. -/
theorem isStrs_new1 (w : World) (x : ByteArray) (T : TypeId) : IsStrs (w.alloc (.cells #[.string x] T)) (some ⟨w.heap.size, 0, none⟩) 1 [x] := by
  refine .inr ⟨w.heap.size, 0, rfl, by simp, by simp, fun j y hy => ?_⟩
  obtain rfl : j = 0 := by
    have := (List.getElem?_eq_some_iff.1 hy).1
    simp at this
    omega
  obtain rfl : x = y := by simpa using hy
  simp
set_option maxRecDepth 100000 in
set_option maxHeartbeats 2000000 in
theorem index71 (a : Option Addr) (c : Nat) (fs : List Fld) (n : ByteArray) (hfl : fs.length ≤ 1000000000) (hok : ∀ f ∈ fs, FldOk f) (w : World) (hf : IsFlds w a c fs) :
    Calls Tryz.prog 81 #[.slice a fs.length c, .string n] w fun e w' => e = .returned (.int .i64 (findI [n] fs)) ∧ Below w.heap.size w w' := by
  have L0 := below_alloc w (.cells #[.string n] 9)
  have HI := Lib.hid (index93 a c fs (some ⟨w.heap.size, 0, none⟩) 1 [n] hfl (by simp) hok (w.alloc (.cells #[.string n] 9)) (hf.below L0) (isStrs_new1 w n _))
  obtain ⟨R, hR⟩ : ∃ R, R = findI [n] fs := ⟨_, rfl⟩
  rw [← hR] at HI ⊢
  unfold hasV at HI
  clear hf hok hR
  go_enter Tryz.func81, Tryz.ntmps81
  go_wp2_with fail
  refine HI.out.mono ?_
  rintro e w1 ⟨rfl, hb1⟩
  go_wp2_with fail
  go_ret
  exact ⟨rfl, L0.trans (hb1.mono L0.size)⟩
end Go.Proofs.YtbbphklhnngjmaaGreatDoor

/- strings.Builder: copyCheck, WriteString. -/
namespace Go.Proofs.YtbbphklhnngjmaaGreatDoor
open Go.RowKit

theorem sizeBld : (Tryz.prog.info? 121).map (·.size) = some 2 := by kernel_rfl
theorem liesBld : liesAt Tryz.prog Tryz.prog.depth 121 (2 / Tryz.prog.cellsOf 121) 0 121 1 = true := by kernel_rfl
theorem infoByt : (Tryz.prog.info? 5).map (fun i => (i.zero, i.size, i.bytes)) = some (some (.int .u8 0), 1, 1) := by kernel_rfl
set_option maxHeartbeats 1000000 in
set_option maxRecDepth 100000 in
theorem copy95_used (b : Nat) (w : World) (h0 : w.cell? ⟨b, 0, none⟩ = some (.pointer (some ⟨b, 0, none⟩))) :
    Calls Tryz.prog 101 #[.pointer (some ⟨b, 0, none⟩)] w fun e w' => e = .returned (.tuple #[]) ∧ w' = w := by
  obtain ⟨j, hj, _⟩ := Option.map_eq_some_iff.1 sizeBld
  go_enter Tryz.func101, Tryz.ntmps101
  go_wp2
  rw [Lib.run_neq_ptr_same w _ Tryz.underlying119 hj]
  go_wp2
  go_end0
  exact ⟨rfl, rfl⟩
set_option maxHeartbeats 1000000 in
set_option maxRecDepth 100000 in
theorem copy95_fresh (b : Nat) (w : World) (h0 : w.cell? ⟨b, 0, none⟩ = some (.pointer none)) (hsh : w.shape? b = some (121, 2)) (hfz : w.frozen? ⟨b, 0, none⟩ = false) :
    Calls Tryz.prog 101 #[.pointer (some ⟨b, 0, none⟩)] w fun e w' => e = .returned (.tuple #[]) ∧ w' = w.setCell ⟨b, 0, none⟩ (.pointer (some ⟨b, 0, none⟩)) := by
  obtain ⟨j, hj, hjs⟩ := Option.map_eq_some_iff.1 sizeBld
  go_enter Tryz.func101, Tryz.ntmps101
  go_wp2
  rw [Lib.run_to_unsafe w ⟨b, 0, none⟩ Tryz.underlying119 Tryz.underlying158 hj (by rw [hjs]; decide) hsh (Nat.zero_lt_succ 1)]
  simp only [Result.andThen]
  rw [Oper.upon_value]
  go_wp2
  rw [run_callFunc_extern Tryz.func122 (by kernel_rfl) (by kernel_rfl) (by kernel_rfl) (e := Extern.AbiNoEscape.same) (by kernel_rfl)]
  rw [Lib.run_noEscape]
  simp only [Result.andThen]
  rw [Oper.upon_value]
  go_wp2
  rw [Lib.run_from_unsafe w ⟨b, 0, none⟩ Tryz.underlying158 Tryz.underlying119 hj hsh liesBld]
  simp only [Result.andThen]
  rw [Oper.upon_value]
  go_wp2
  go_end0
  exact ⟨rfl, rfl⟩
theorem copy95 (B b : Nat) (bs : List Value) (w : World) (h : Lib.IsBuilder 121 5 B b bs w) :
    Calls Tryz.prog 101 #[.pointer (some ⟨b, 0, none⟩)] w fun e w' => e = .returned (.tuple #[]) ∧ (Lib.BuilderAt 121 5 B b (.pointer (some ⟨b, 0, none⟩)) bs w' ∧ Below B w w') := by
  rcases h with h | h
  · refine (copy95_fresh b w h.cell0 h.shape h.frozen0).mono ?_
    rintro e w' ⟨rfl, rfl⟩
    exact ⟨rfl, h.used _, (Below.refl B w).setCell (p := ⟨b, 0, none⟩) h.1 _⟩
  · refine (copy95_used b w h.cell0).mono ?_
    rintro e w' ⟨rfl, rfl⟩
    exact ⟨rfl, h, Below.refl B _⟩
set_option maxHeartbeats 2000000 in
set_option maxRecDepth 100000 in
theorem write74 (B b : Nat) (bs : List Value) (s : ByteArray) (w : World) (h : Lib.IsBuilder 121 5 B b bs w) (hlen : bs.length + s.size ≤ 140737488355328) (hBw : B ≤ w.heap.size) :
    Calls Tryz.prog 74 #[.pointer (some ⟨b, 0, none⟩), .string s] w fun e w' => e = .returned (.tuple #[.int .i64 s.size, .nilIface]) ∧ (Lib.BuilderAt 121 5 B b (.pointer (some ⟨b, 0, none⟩)) (bs ++ Lib.strCells s) w' ∧ Below B w w') := by
  obtain ⟨i0, hi, hz0, hz1, hz2⟩ := info_parts infoByt
  have HC := Lib.hid (copy95 B b bs w h)
  go_enter Tryz.func74, Tryz.ntmps74
  go_wp2_with fail
  refine HC.out.mono ?_
  rintro e w1 ⟨rfl, h1, hb1⟩
  obtain ⟨hB, v, hbk, hown, hne⟩ := h1
  have c0 : w1.cell? ⟨b, 0, none⟩ = some (.pointer (some ⟨b, 0, none⟩)) := by rw [Lib.cell_of_heap hbk]; rfl
  have c1 : w1.cell? ⟨b, 1, none⟩ = some v := by rw [Lib.cell_of_heap hbk]; rfl
  go_wp2_with (at_builtin; refine Lib.wpList_append_own_string _ rfl _ _ 101 9 rfl B 5 i0 Tryz.underlying101 Tryz.underlying9 hi hz0 hz1 hz2 _ _ _ rfl hown s rfl (by unfold maxLen; omega) (by omega) (by have := hb1.size; omega) ?_)
  intro v' w2 hown' hgrow _
  have hlt : b < w1.heap.size := (Array.getElem?_eq_some_iff.1 hbk).1
  have hb2 : w2.heap[b]? = some (.cells #[.pointer (some ⟨b, 0, none⟩), v] 121 (0, 0)) := by
    rw [hgrow.block b hlt (fun e => hne e.symm)]
    exact hbk
  have d0 : w2.cell? ⟨b, 0, none⟩ = some (.pointer (some ⟨b, 0, none⟩)) := by rw [Lib.cell_of_heap hb2]; rfl
  have d1 : w2.cell? ⟨b, 1, none⟩ = some v := by rw [Lib.cell_of_heap hb2]; rfl
  have f1 : w2.frozen? ⟨b, 1, none⟩ = false := Lib.frozen_of_heap hb2 1
  obtain ⟨ao, n', cap, rfl⟩ : ∃ ao n' cap, v' = .slice ao n' cap := by
    rcases hown'.2 with ⟨hv, _⟩ | ⟨g, cap, cur, hv, _⟩
    · exact ⟨_, _, _, hv⟩
    · exact ⟨_, _, _, hv⟩
  go_wp2
  go_ret2
  refine ⟨rfl, ?_, ?_⟩
  · exact Lib.BuilderAt.put (T := 121) (e := 5) hB hb2 (bs' := bs ++ Lib.strCells s) (by simpa [Lib.strCells_length] using hown') (by decide)
  · exact (hb1.grown hgrow (by have := hb1.size; omega) (fun k hk => (hown.lt k hk).1)).setCell (p := ⟨b, 1, none⟩) hB _
end Go.Proofs.YtbbphklhnngjmaaGreatDoor

/- fields: Text, Size. -/
namespace Go.Proofs.YtbbphklhnngjmaaGreatDoor
open Go.RowKit

theorem own_below {w w' : World} {base size n : Nat} {e : TypeId} {v : Value} {xs : List Value} (h : w.ownsRow base e size v n xs) (hb : Below w.heap.size w w') : w'.ownsRow base e size v n xs := by
  obtain ⟨hl, h0 | ⟨g, cap, cur, hv, hg, hc, r⟩⟩ := h
  · exact ⟨hl, .inl h0⟩
  · exact ⟨hl, .inr ⟨g, cap, cur, hv, hg, by rw [hb.block g (Array.getElem?_eq_some_iff.1 hc).1]; exact hc, r⟩⟩
/-- A builder that holds these bytes. -/
def Bld (B b : Nat) (l : List UInt8) (w : World) : Prop := Lib.IsBuilder 121 5 B b (Lib.byteCells l) w
theorem bldAt_below {w w' : World} {B b : Nat} {p : Value} {bs : List Value} (h : Lib.BuilderAt 121 5 B b p bs w) (hb : Below w.heap.size w w') : Lib.BuilderAt 121 5 B b p bs w' := by
  obtain ⟨hB, v, hv, ho, hn⟩ := h
  exact ⟨hB, v, by rw [hb.block b (Array.getElem?_eq_some_iff.1 hv).1]; exact hv, own_below ho hb, hn⟩
theorem Bld.below {w w' : World} {B b : Nat} {l : List UInt8} (h : Bld B b l w) (hb : Below w.heap.size w w') : Bld B b l w' := h.imp (fun x => bldAt_below x hb) (fun x => bldAt_below x hb)
theorem Bld.lt {w : World} {B b : Nat} {l : List UInt8} (h : Bld B b l w) : b < w.heap.size := by
  rcases h with h | h <;> exact h.lt
/-- WriteString of a builder of bytes. -/
theorem writeB (B b : Nat) (l x : List UInt8) (w : World) (h : Bld B b l w) (hlen : l.length + x.length ≤ 140737488355328) (hBw : B ≤ w.heap.size) :
    Calls Tryz.prog 74 #[.pointer (some ⟨b, 0, none⟩), .string (bs x)] w fun e w' => e = .returned (.tuple #[.int .i64 (bs x).size, .nilIface]) ∧ Bld B b (l ++ x) w' ∧ Below B w w' := by
  refine (write74 B b (Lib.byteCells l) (bs x) w h (by rw [Lib.byteCells_length, bs_size]; exact hlen) hBw).mono ?_
  rintro e w' ⟨he, h1, h2⟩
  refine ⟨he, .inr ?_, h2⟩
  rw [Lib.byteCells_append]
  exact h1
/-- The text of fields. -/
def textL (fs : List Fld) : List UInt8 := fs.flatMap lineL
theorem textL_step {fs : List Fld} {j : Nat} (hj : j < fs.length) : textL (fs.take (j + 1)) = textL (fs.take j) ++ lineL fs[j] := by
  unfold textL
  rw [List.take_add_one, List.getElem?_eq_getElem hj, Option.toList_some, List.flatMap_append]
  simp
theorem textL_le {fs : List Fld} {j : Nat} : (textL (fs.take j)).length ≤ (textL fs).length := by
  conv => rhs; rw [← List.take_append_drop j fs]
  unfold textL
  rw [List.flatMap_append, List.length_append]
  omega
set_option maxHeartbeats 2000000 in
set_option maxRecDepth 100000 in
theorem text49 (a : Option Addr) (c : Nat) (fs : List Fld) (hfl : fs.length ≤ 1000000000) (hok : ∀ f ∈ fs, FldOk f) (hsum : (textL fs).length ≤ 100000000000) (w : World) (hf : IsFlds w a c fs) :
    Calls Tryz.prog 38 #[.slice a fs.length c] w fun e w' => e = .returned (.string (bs (textL fs))) ∧ Below w.heap.size w w' := by
  have HFF := Lib.hid hf
  have HOK := Lib.hid hok
  have HS := Lib.hid hsum
  obtain ⟨X, hX⟩ : ∃ X, X = bs (textL fs) := ⟨_, rfl⟩
  have HX : Hid ((⟨(textL fs).toArray⟩ : ByteArray) = X) := by show _ = _; rw [hX]; rfl
  rw [← hX]
  clear hX
  have B0 : Hid (Bld w.heap.size w.heap.size [] (w.alloc (.cells #[.pointer none, .slice none 0 0] 121))) := Lib.fresh_isBuilder _ _ w
  have L0 := below_alloc w (.cells #[.pointer none, .slice none 0 0] 121)
  clear hf hok hsum
  go_enter Tryz.func38, Tryz.ntmps38
  go_wp2_with fail
  go_loopw [8] (fun i wr => ∃ j : Nat, j ≤ fs.length ∧ i = .int .i64 (j : Int) ∧ Hid (Bld w.heap.size w.heap.size (textL (fs.take j)) wr) ∧ Below w.heap.size w wr) (fun i _ => fs.length - (intOf i).toNat)
  case atStart => exact ⟨0, Nat.zero_le _, rfl, B0, L0⟩
  case round =>
    clear B0 L0
    obtain ⟨j, hj, rfl, hB, hb⟩ := hrel
    by_cases hlt : j < fs.length
    · obtain h0 | ⟨bk, o, rfl, hbk, hc, hcell⟩ := HFF.out.below hb
      · subst h0; simp at hlt
      obtain ⟨c1, c2⟩ := hcell j fs[j] (by simp [hlt])
      have hfo := HOK.out fs[j] (List.getElem_mem hlt)
      have hsz : (textL (fs.take j)).length + (lineL fs[j]).length ≤ 140737488355328 := by
        have h1 := textL_le (fs := fs) (j := j + 1)
        rw [textL_step hlt, List.length_append] at h1
        have := HS.out
        omega
      have HN := Lib.hid (textL_step hlt)
      obtain ⟨f, hfe⟩ : ∃ f, f = fs[j] := ⟨_, rfl⟩
      rw [← hfe] at c1 c2 hfo hsz HN
      clear hcell hfe
      have HL := Lib.hid (fun W => line38 f hfo.1 hfo.2 W)
      have HW := Lib.hid (fun W h hw => writeB w.heap.size w.heap.size (textL (fs.take j)) (lineL f) W h hsz hw)
      obtain ⟨n, v⟩ := f
      generalize lineL (n, v) = ll at HL HW HN
      unfold fldV at HL
      simp only at c1 c2 HL
      have j1 : (j : Int) < fs.length := by omega
      clear hsz hfo
      go_wp2_with fail
      have LA := below_alloc wr (.cells #[.string (bs n), .string (bs v)] 62)
      refine (HL.out _).mono ?_
      rintro e w2 ⟨rfl, hb2⟩
      have b2 := LA.trans (hb2.mono LA.size)
      have B2 := hB.out.below b2
      have bb2 := hb.trans (b2.mono hb.size)
      clear LA hb2
      go_wp2_with fail
      refine (HW.out _ B2 bb2.size).mono ?_
      rintro e w3 ⟨rfl, B3, hb3⟩
      rw [← HN.out] at B3
      have HB3 := Lib.hid B3
      have bb3 := bb2.trans hb3
      clear hB B2 b2 B3 hb3 HL HW bb2
      go_wp2_with fail
      go_roundw
      case rel => exact ⟨j + 1, hlt, by go_num, HB3, bb3⟩
      case measure => simp [intOf]; omega
    · have hB2 := hB.out
      rw [List.take_of_length_le (by omega)] at hB2
      have HE := Lib.hid (Tryz.Builder_String_any w.heap.size w.heap.size (textL fs) wr hB2 hb.size)
      clear hB hB2
      rw [HX.out] at HE
      go_wp2_with fail
      refine HE.out.mono ?_
      rintro e w2 ⟨rfl, hb2⟩
      go_wp2_with fail
      go_ret
      exact ⟨rfl, hb.trans hb2⟩
end Go.Proofs.YtbbphklhnngjmaaGreatDoor

