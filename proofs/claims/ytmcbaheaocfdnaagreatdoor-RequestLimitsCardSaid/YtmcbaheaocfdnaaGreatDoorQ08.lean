/- Packed: RegT, HeB, FldE, FldF, FldG, FldH, FldJ, FldK, FldL, FldN, HeC, HeD. -/
import Derived.Maps.AppendAt
import Derived.IntWalk
import Derived.WalkSpells
import Derived.Deep.QuietTactic
import Derived.BigQuiet
import Derived.Deep.MidRow
import Derived.Lib.Builder
import Derived.Lib.AppendStr
import Derived.Laws.Externs
import Derived.Lib.UnsafeStr
import Derived.Lib.AppendZerosOnto
import Derived.Laws.IdiomCopy
import Derived.Laws.AppendOwnNone
import Derived.Deep.Cut
import Derived.Test.YtmcbaheaocfdnaaGreatDoorQ05
import Derived.Test.YtmcbaheaocfdnaaGreatDoorQ07
import Derived.Test.YtmcbaheaocfdnaaGreatDoorShelf
/- A region that draws its order, by an invariant over its first operations; the others, each of which waits for all before it, follow in their order. -/
namespace Go.Proofs.YtmcbaheaocfdnaaGreatDoor
open Go.RowKit

section
variable {P : Program} {ops : Array Oper} {Q : Exit → Act → World → Prop}

theorem wpAny_act (hd : edgesDown ops.toList 0 = true) (I : (Nat → Bool) → Act → World → Prop)
    (hstep : ∀ (i : Nat) (o : Oper), ops[i]? = some o → ∀ (L : Nat → Bool) (a : Act) (w : World), I L a w → L i = false → AllL L (predsOf o) → wpOp P ops Q i (fun a' w' => I (setL L i) a' w') a w)
    (hfin : ∀ (L : Nat → Bool) (a : Act) (w : World), I L a w → (∀ i, i < ops.size → L i = true) → Q .normal a w) :
    ∀ (fuel : Nat) (listed : Array Bool) (a : Act) (w : World), listed.size = ops.size → I (fun i => listed.getD i false) a w →
      (∃ l : List Nat, l.length ≤ fuel ∧ ∀ i, i < ops.size → listed.getD i false = false → i ∈ l) → wpAny P .any ops Q fuel listed a w
  | 0, listed, a, w, hs, hI, ⟨l, hl, hc⟩ => by
    obtain rfl : l = [] := List.eq_nil_of_length_eq_zero (by omega)
    have hall : ∀ i, i < ops.size → listed.getD i false = true := fun i hi => by
      cases h : listed.getD i false with
      | true => rfl
      | false => have := hc i hi h; cases this
    refine ⟨?_, hfin _ a w hI hall⟩
    cases hr : Region.ready .any ops listed with
    | nil => rfl
    | cons j r =>
      have hj : j ∈ Region.ready .any ops listed := by rw [hr]; exact List.mem_cons_self ..
      obtain ⟨h1, o, ho, _⟩ := mem_ready.1 hj
      have hlt : j < ops.size := by
        rcases Nat.lt_or_ge j ops.size with h | h
        · exact h
        · rw [Array.getElem?_eq_none h] at ho; cases ho
      have h2 := hall j hlt
      simp [Array.getD, hs, hlt] at h1 h2
      rw [h2] at h1
      cases h1
  | fuel + 1, listed, a, w, hs, hI, ⟨l, hl, hc⟩ => by
    refine ⟨fun h => hfin _ a w hI (ready_nil hd hs h), fun i hi => ?_⟩
    obtain ⟨h1, o, ho, _⟩ := mem_ready.1 hi
    have hlt : i < ops.size := by
      rcases Nat.lt_or_ge i ops.size with h | h
      · exact h
      · rw [Array.getElem?_eq_none h] at ho; cases ho
    have h1' : listed.getD i false = false := by simp [Array.getD, hs, hlt] at h1 ⊢; exact h1
    have hset : (fun j => (listed.setIfInBounds i true).getD j false) = setL (fun j => listed.getD j false) i := by
      funext j
      unfold setL
      by_cases e : j = i
      · subst e; rw [if_pos rfl]; simp [Array.getD, hs, hlt]
      · rw [if_neg e]
        simp only [Array.getD_eq_getD_getElem?, Array.getElem?_setIfInBounds_ne (Ne.symm e)]
    refine wpOp_mono (fun a' w' hI' => ?_) (hstep i o ho _ a w hI h1' (listed_preds hi ho))
    refine wpAny_act hd I hstep hfin fuel _ a' w' (by simpa using hs) (by rw [hset]; exact hI') ⟨l.erase i, ?_, fun j hj hjl => ?_⟩
    · rw [List.length_erase_of_mem (hc i hlt h1')]; omega
    · have hji : j ≠ i := by
        rintro rfl
        simp [Array.getD, hs, hlt] at hjl
      have : listed.getD j false = false := by
        rw [Array.getD_eq_getD_getElem?, Array.getElem?_setIfInBounds_ne (Ne.symm hji), ← Array.getD_eq_getD_getElem?] at hjl
        exact hjl
      exact (List.mem_erase_of_ne hji).2 (hc j hj this)

/-- The first behind so many waits for all before it, each later one for the one before it. -/
def tailOk : List Oper → Nat → Nat → Bool
  | [], _, _ => true
  | o :: r, i, n => (decide (i < n) || (if i = n then (List.range n).all (fun j => (predsOf o).contains j) else (predsOf o).contains (i - 1))) && tailOk r (i + 1) n
theorem tailOk_n {n : Nat} : ∀ {l : List Oper} {k i : Nat} {o : Oper}, tailOk l k n = true → l[i]? = some o → k + i = n → ∀ j, j < n → j ∈ predsOf o
  | [], _, i, _, _, h, _, _, _ => by simp at h
  | p :: r, k, i, o, ht, h, hn, j, hj => by
    simp only [tailOk, Bool.and_eq_true, Bool.or_eq_true, decide_eq_true_eq] at ht
    match i, h with
    | 0, h =>
      obtain rfl : p = o := Option.some.inj h
      rcases ht.1 with h1 | h1
      · omega
      · rw [if_pos (by omega)] at h1
        simp only [List.all_eq_true, List.mem_range] at h1
        simpa using h1 j hj
    | i + 1, h => exact tailOk_n ht.2 (show r[i]? = some o from h) (by omega) j (by omega)
theorem tailOk_s {n : Nat} : ∀ {l : List Oper} {k i : Nat} {o : Oper}, tailOk l k n = true → l[i]? = some o → n < k + i → k + i - 1 ∈ predsOf o
  | [], _, i, _, _, h, _ => by simp at h
  | p :: r, k, i, o, ht, h, hn => by
    simp only [tailOk, Bool.and_eq_true, Bool.or_eq_true, decide_eq_true_eq] at ht
    match i, h with
    | 0, h =>
      obtain rfl : p = o := Option.some.inj h
      rcases ht.1 with h1 | h1
      · omega
      · rw [if_neg (by omega)] at h1
        simpa using h1
    | i + 1, h =>
      have := tailOk_s ht.2 (show r[i]? = some o from h) (by omega)
      rwa [show k + (i + 1) - 1 = k + 1 + i - 1 by omega]
theorem wpList_op {k : Nat} {o : Oper} (ho : ops[k]? = some o) {rest : List Oper} {a : Act} {w : World} (h : wpList P ops Q (o :: rest) a w) : wpOp P ops Q k (wpList P ops Q rest) a w := by
  unfold wpOp
  simp only [ho]
  exact h
/-- One goal for each operation. -/
def StepsT (P : Program) (ops : Array Oper) (Q : Exit → Act → World → Prop) (a : Act) (hd : List Oper) (vals : List (Option Value)) (S : (Nat → Bool) → (Nat → Value) → World → Prop) : List Oper → List (List Bool) → List (Option Value) → Nat → Prop
  | [], _, _, _ => True
  | o :: r, m :: ms, some v :: vs, i => (∀ (L : Nat → Bool) (x : Nat → Value) (w : World), S L x w → L i = false → AllL L (predsOf o) →
      ∀ K : Act → World → Prop, Shut (∀ w', S (setL L i) (updV x i v) w' → K ((actMix hd m vals x 0 a).put o.dst v) w') →
        if Region.wanted o (yielded ops (actMix hd m vals x 0 a).tmps) = true then o.wp P (actMix hd m vals x 0 a) w K Q else K ((actMix hd m vals x 0 a).put o.dst undef) w) ∧ StepsT P ops Q a hd vals S r ms vs (i + 1)
  | o :: r, m :: ms, none :: vs, i => (∀ (L : Nat → Bool) (x : Nat → Value) (w : World), S L x w → L i = false → AllL L (predsOf o) →
      ∀ K : Act → World → Prop, Shut (∀ v w', S (setL L i) (updV x i v) w' → K ((actMix hd m vals x 0 a).put o.dst v) w') →
        if Region.wanted o (yielded ops (actMix hd m vals x 0 a).tmps) = true then o.wp P (actMix hd m vals x 0 a) w K Q else K ((actMix hd m vals x 0 a).put o.dst undef) w) ∧ StepsT P ops Q a hd vals S r ms vs (i + 1)
  | _, _, _, _ => False
def masksT (n : Nat) (l : List Oper) : List (List Bool) := l.map fun o => (List.range n).map fun j => (predsOf o).contains j
theorem stepsT_at {a : Act} {hd : List Oper} {vals : List (Option Value)} {S : (Nat → Bool) → (Nat → Value) → World → Prop} : ∀ (l : List Oper) (ms : List (List Bool)) (vs : List (Option Value)) (k : Nat), ms = masksT hd.length l → (∀ i, vs[i]? = vals[k + i]?) →
    StepsT P ops Q a hd vals S l ms vs k → ∀ (i : Nat) (o : Oper), l[i]? = some o → ∀ (L : Nat → Bool) (x : Nat → Value) (w : World), HoldsM L x vals ∧ S L x w → L (k + i) = false → AllL L (predsOf o) →
      ∀ K : Act → World → Prop, Shut (∀ v w', HoldsM (setL L (k + i)) (updV x (k + i) v) vals ∧ S (setL L (k + i)) (updV x (k + i) v) w' → K ((actOf hd x 0 a).put o.dst v) w') →
        if Region.wanted o (yielded ops (actOf hd x 0 a).tmps) = true then o.wp P (actOf hd x 0 a) w K Q else K ((actOf hd x 0 a).put o.dst undef) w
  | [], _, _, _, _, _, _, i, o, h => by simp at h
  | o :: r, m :: ms, some v :: vs, k, hm, hv, h, 0, p, hp0 => by
    obtain rfl : o = p := Option.some.inj hp0
    simp only [masksT, List.map_cons, List.cons.injEq] at hm
    intro L x w ⟨hh, hS⟩ hl hp K hK
    rw [Nat.add_zero] at hl hK
    have he := mask_eq (a := a) hh (allL_mem hp) hm.1
    have := h.1 L x w hS hl hp K
    rw [he] at this
    refine this fun w' hS' => hK _ w' ⟨hh.step fun u hu => ?_, hS'⟩
    have h0 := hv 0
    rw [Nat.add_zero, hu] at h0
    exact (Option.some.inj (Option.some.inj h0)).symm
  | o :: r, m :: ms, none :: vs, k, hm, hv, h, 0, p, hp0 => by
    obtain rfl : o = p := Option.some.inj hp0
    simp only [masksT, List.map_cons, List.cons.injEq] at hm
    intro L x w ⟨hh, hS⟩ hl hp K hK
    rw [Nat.add_zero] at hl hK
    have he := mask_eq (a := a) hh (allL_mem hp) hm.1
    have := h.1 L x w hS hl hp K
    rw [he] at this
    refine this fun v w' hS' => hK _ w' ⟨hh.step fun u hu => ?_, hS'⟩
    have h0 := hv 0
    rw [Nat.add_zero, hu] at h0
    cases h0
  | o :: r, m :: ms, some v :: vs, k, hm, hv, h, i + 1, p, hp0 => by
    simp only [masksT, List.map_cons, List.cons.injEq] at hm
    have := stepsT_at r ms vs (k + 1) hm.2 (fun i => by have := hv (i + 1); rw [show k + (i + 1) = k + 1 + i by omega] at this; exact this) h.2 i p hp0
    rw [show k + 1 + i = k + (i + 1) by omega] at this
    exact this
  | o :: r, m :: ms, none :: vs, k, hm, hv, h, i + 1, p, hp0 => by
    simp only [masksT, List.map_cons, List.cons.injEq] at hm
    have := stepsT_at r ms vs (k + 1) hm.2 (fun i => by have := hv (i + 1); rw [show k + (i + 1) = k + 1 + i by omega] at this; exact this) h.2 i p hp0
    rw [show k + 1 + i = k + (i + 1) by omega] at this
    exact this
  | _ :: _, [], _, _, _, _, h, _, _, _ => h.elim
  | _ :: _, _ :: _, [], _, _, _, h, _, _, _ => h.elim
def HeadS (P : Program) (ops : Array Oper) (Q : Exit → Act → World → Prop) (n : Nat) (a0 : Act) (vals : List (Option Value)) (S : (Nat → Bool) → (Nat → Value) → World → Prop) (L : Nat → Bool) (a : Act) (w : World) : Prop :=
  ((∀ i, n ≤ i → L i = false) ∧ ∃ x, a = actOf (ops.toList.take n) x 0 a0 ∧ HoldsM L x vals ∧ S L x w) ∨
  ∃ k, n ≤ k ∧ (∀ i, i < k → i < ops.size → L i = true) ∧ (∀ i, k ≤ i → L i = false) ∧ wpList P ops Q (ops.toList.drop k) a w

/-- The region. -/
theorem region_mixt {id : Nat} {a : Act} {w : World} (n : Nat) (vals : List (Option Value)) (masks : List (List Bool)) (S : (Nat → Bool) → (Nat → Value) → World → Prop) (hm : P.follows .mixedOrders = true)
    (hn : dstsOk (ops.toList.take n) a.tmps.size = true) (hd : edgesDown ops.toList 0 = true) (ht : tailOk ops.toList 0 n = true) (hk : masks = masksT n (ops.toList.take n)) (hnn : n ≤ ops.size) (h0 : ∀ x, S (fun _ => false) x w.drew)
    (hstep : StepsT P ops Q a (ops.toList.take n) vals S (ops.toList.take n) masks vals 0)
    (hfin : ∀ (L : Nat → Bool) (x : Nat → Value) (w : World), S L x w → (∀ i, i < n → L i = true) → wpList P ops Q (ops.toList.drop n) (actMix (ops.toList.take n) (List.replicate n true) vals x 0 a) w) : (Code.region id ops true).wp P Q a w := by
  refine wp_region_any hm ?_
  have hself := actOf_self (ops.toList.take n) (valsAt (ops.toList.take n) a) 0 a hn (fun i => by rw [Nat.zero_add])
  have hlen : (ops.toList.take n).length = n := by simp; omega
  have hL : (fun i => (Array.replicate ops.size false).getD i false) = fun _ => false := by
    funext i
    simp [Array.getD]
  refine wpAny_act (P := P) (ops := ops) (Q := Q) hd (HeadS P ops Q n a vals S) ?_ ?_ ops.size (Array.replicate ops.size false) a w.drew (by simp) ?_ ⟨List.range ops.size, by simp, fun i hi _ => by simpa using hi⟩
  · intro i o ho L a1 w1 hI hl hp
    have hol : ops.toList[i]? = some o := by simpa using ho
    have hlt : i < ops.size := by
      rcases Nat.lt_or_ge i ops.size with h | h
      · exact h
      · rw [Array.getElem?_eq_none h] at ho; cases ho
    have tail : ∀ k, n ≤ k → (∀ j, j < k → j < ops.size → L j = true) → (∀ j, k ≤ j → L j = false) → wpList P ops Q (ops.toList.drop k) a1 w1 → wpOp P ops Q i (fun a' w' => HeadS P ops Q n a vals S (setL L i) a' w') a1 w1 := by
      intro k hk1 hk2 hk3 hw
      have hik : k ≤ i := by
        rcases Nat.lt_or_ge i k with h | h
        · have := hk2 i h hlt
          rw [hl] at this
          cases this
        · exact h
      have hki : i = k := by
        rcases Nat.lt_or_ge k i with h | h
        · have h1 := allL_mem hp _ (tailOk_s ht hol (by omega))
          rw [hk3 _ (by omega)] at h1
          cases h1
        · omega
      subst hki
      have hdr : ops.toList.drop i = o :: ops.toList.drop (i + 1) := by
        rw [List.drop_eq_getElem_cons (by simpa using hlt)]
        congr 1
        have := List.getElem?_eq_some_iff.1 hol
        exact this.2
      rw [hdr] at hw
      refine wpOp_mono (fun a' w' h => ?_) (wpList_op ho hw)
      refine .inr ⟨i + 1, by omega, fun j hj hjs => ?_, fun j hj => ?_, h⟩
      · unfold setL
        by_cases e : j = i
        · rw [if_pos e]
        · rw [if_neg e]; exact hk2 j (by omega) hjs
      · unfold setL
        rw [if_neg (by omega)]
        exact hk3 j (by omega)
    rcases hI with ⟨hu, x, rfl, hh, hS⟩ | ⟨k, hk1, hk2, hk3, hw⟩
    · rcases Nat.lt_or_ge i n with hin | hin
      · have hti : (ops.toList.take n)[i]? = some o := by rw [List.getElem?_take, if_pos hin]; exact hol
        have hst := stepsT_at (ops.toList.take n) masks vals 0 (by rw [hlen]; exact hk) (fun i => by rw [Nat.zero_add]) hstep i o hti L x w1 ⟨hh, hS⟩ (by rw [Nat.zero_add]; exact hl) hp
        rw [Nat.zero_add] at hst
        refine wpOp_step ho (fun K hK => hst K (fun v w' ⟨hh', hS'⟩ => hK _ _ (.inl ⟨fun j hj => ?_, updV x i v, ?_, hh', hS'⟩)))
        · unfold setL
          rw [if_neg (by omega)]
          exact hu j hj
        · rw [actOf_put (ops.toList.take n) _ x 0 a hn i o hti v, Nat.zero_add]
      · have hin' : i = n := by
          rcases Nat.lt_or_ge n i with h | h
          · have h1 := allL_mem hp _ (tailOk_s ht hol (by omega))
            rw [hu _ (by omega)] at h1
            cases h1
          · omega
        have hall : ∀ j, j < i → L j = true := fun j hj => allL_mem hp j (tailOk_n ht hol (by omega) j (by omega))
        subst hin'
        have he : actMix (ops.toList.take i) (List.replicate i true) vals x 0 a = actOf (ops.toList.take i) x 0 a := by
          refine actMix_eq _ _ _ _ fun j v hb hv => ?_
          rw [Nat.zero_add]
          obtain ⟨h1, _⟩ := List.getElem?_eq_some_iff.1 hb
          exact hh j v hv (hall j (by simpa using h1))
        have hw := hfin L x w1 hS hall
        rw [he] at hw
        exact tail i (Nat.le_refl _) (fun j hj _ => hall j hj) hu hw
    · exact tail k hk1 hk2 hk3 hw
  · intro L a1 w1 hI hall
    rcases hI with ⟨hu, x, rfl, hh, hS⟩ | ⟨k, hk1, hk2, hk3, hw⟩
    · have hns : n = ops.size := by
        rcases Nat.lt_or_ge n ops.size with h | h
        · have h1 := hall n h
          rw [hu n (Nat.le_refl _)] at h1
          cases h1
        · omega
      have hw := hfin L x w1 hS (fun j hj => hall j (by omega))
      have he : actMix (ops.toList.take n) (List.replicate n true) vals x 0 a = actOf (ops.toList.take n) x 0 a := by
        refine actMix_eq _ _ _ _ fun j v hb hv => ?_
        rw [Nat.zero_add]
        obtain ⟨h1, _⟩ := List.getElem?_eq_some_iff.1 hb
        exact hh j v hv (hall j (by have : j < n := by simpa using h1
                                    omega))
      rw [he, List.drop_eq_nil_of_le (by simp; omega)] at hw
      exact hw
    · have hns : ops.size ≤ k := by
        rcases Nat.lt_or_ge k ops.size with h | h
        · have h1 := hall k h
          rw [hk3 k (Nat.le_refl _)] at h1
          cases h1
        · exact h
      rw [List.drop_eq_nil_of_le (by simpa using hns)] at hw
      exact hw
  · rw [hL]
    exact .inl ⟨fun _ _ => rfl, valsAt (ops.toList.take n) a, hself.symm, fun i v _ hl => (by cases hl), h0 _⟩
end
end Go.Proofs.YtmcbaheaocfdnaaGreatDoor

/- request: a head in memory; NewHead, a byte that lengthens the line. -/
namespace Go.Proofs.YtmcbaheaocfdnaaGreatDoor
open Go.RowKit

/-- append, at an operation, with where the result lies. -/
theorem wp_append_at {P : Program} (w : World) {o : Oper} {a : Act} {K : Act → World → Prop} {Q : Exit → Act → World → Prop} (s x : Operand) (t : TypeId)
    (ho : o.op = .call { callee := .builtin .append, args := #[s, x], argTypes := #[t, t] })
    (base : Nat) (e : TypeId) (i : TypeInfo) (z : Value) (size bytes : Nat) (ht : P.underlying t = some (.slice e)) (hi : P.info? e = some i) (hz : i.zero = some z)
    (hsize : i.size = size) (hby : i.bytes = bytes) (hzs : z.cells.size = size) (hsz : 0 < size)
    (v : Value) (n : Nat) (xs : List Value) (hs : a.eval s = v) (hown : w.ownsRow base e size v n xs)
    (ad : Addr) (m c : Nat) (news : List Value) (hx : a.eval x = .slice (some ad) m c) (hl : news.length = m * size) (hnews : ∀ j u, news[j]? = some u → w.cell? (ad.add j) = some u) (h1 : ∀ u ∈ news, u.oneCell' = true)
    (h63 : n + m ≤ maxLen) (hbytes : (n + m) * bytes ≤ 140737488355328) (hbase : base ≤ w.heap.size)
    (h : ∀ v' w', w'.ownsRow base e size v' (n + m) (xs ++ news) → w.grownBy w' v.ownBlock → (v'.ownBlock = v.ownBlock ∨ v'.ownBlock = some w.heap.size) → K (a.put o.dst v') w') : o.wp P a w K Q := by
  obtain ⟨v', w', hr, h2, h3, _, h5⟩ := run_append_own_at (P := P) w base t o.type e i z size bytes ht hi hz hsize hby hzs hsz v n xs hown ad m c news hl hnews h1 h63 hbytes hbase
  unfold Oper.wp execOp
  simp only [ho, resolve, invoke, builtin, Sem.run_bind, Sem.run_pure, Result.andThen_ok, List.map_toArray, List.map_cons, List.map_nil, hs, hx, hr]
  exact h v' w' h2 h3 h5
section
variable {G : Nat → Prop} {T : TypeId} {rest : List Value} {w w' : World} {g : Nat} {L H C B st : Int} {f : ByteArray} {fs : List Fld} {sz : Nat} {cur : List UInt8} {cr : Bool} {e : Int} {rv ln : Value}
theorem HeAt.he (h : HeAt G T rest w g L H C B st f fs sz cur cr e rv ln) : He G T rest w g L H C B st f fs sz cur cr e := ⟨_, _, h⟩
/-- The line's row has grown. -/
theorem HeAt.grewL {row : Option Nat} {ln' : Value} {cur' : List UInt8} (h : HeAt G T rest w g L H C B st f fs sz cur cr e rv ln) (hg : w.grownBy w' row) (hr : row = ln.ownBlock) (ha : ln'.ownBlock = ln.ownBlock ∨ ln'.ownBlock = some w.heap.size) (hu : Up G w)
    (ho : w'.ownsRow 0 5 1 ln' cur'.length (byteVals cur')) :
    HeAt G T rest (w'.setCell ⟨g, 8, none⟩ ln') g L H C B st f fs sz cur' cr e rv ln' ∧ Row w' g T (heCells L H C B st f rv sz ln cr e rest) ∧ Keep G w (w'.setCell ⟨g, 8, none⟩ ln') := by
  subst hr
  have hrow := h.row.grown hg (own_ne h.lo h.row h.t1)
  have hro := own_grown h.ro hg (fun j hj he => own_apart h.ro h.lo (by decide) hj he)
  have hG : ∀ j, ln'.ownBlock = some j → G j := fun j hj => by
    rcases ha with e | e
    · exact h.lG j (by rw [← e]; exact hj)
    · rw [e] at hj; injection hj with hj; exact hu j (by omega)
  have hk : Keep G w w' := .grown hg h.lG
  have r8 : Row (w'.setCell ⟨g, 8, none⟩ ln') g T ((heL L H C B st f rv sz ln cr e rest).set 8 ln').toArray := by
    rw [← he_put]; exact hrow.put 8 _
  exact ⟨⟨r8, h.t1, h.t2, h.gG, own_set hro hrow h.t2 _, own_set ho hrow h.t1 _, h.rG, hG⟩, hrow, hk.trans (Keep.setCell w' (p := ⟨g, 8, none⟩) h.gG ln')⟩
/-- The fields' row has grown. -/
theorem HeAt.grewR {row : Option Nat} {rv' : Value} {fs' : List Fld} (h : HeAt G T rest w g L H C B st f fs sz cur cr e rv ln) (hg : w.grownBy w' row) (hr : row = rv.ownBlock) (ha : rv'.ownBlock = rv.ownBlock ∨ rv'.ownBlock = some w.heap.size) (hu : Up G w)
    (ho : w'.ownsRow 0 75 2 rv' fs'.length (cellsF fs')) :
    HeAt G T rest (w'.setCell ⟨g, 6, none⟩ rv') g L H C B st f fs' sz cur cr e rv' ln ∧ Row w' g T (heCells L H C B st f rv sz ln cr e rest) ∧ Keep G w (w'.setCell ⟨g, 6, none⟩ rv') ∧ Keep G w w' := by
  subst hr
  have hrow := h.row.grown hg (own_ne h.ro h.row h.t2)
  have hlo := own_grown h.lo hg (fun j hj he => own_apart h.lo h.ro (by decide) hj he)
  have hG : ∀ j, rv'.ownBlock = some j → G j := fun j hj => by
    rcases ha with e | e
    · exact h.rG j (by rw [← e]; exact hj)
    · rw [e] at hj; injection hj with hj; exact hu j (by omega)
  have hk : Keep G w w' := .grown hg h.rG
  have r6 : Row (w'.setCell ⟨g, 6, none⟩ rv') g T ((heL L H C B st f rv sz ln cr e rest).set 6 rv').toArray := by
    rw [← he_put]; exact hrow.put 6 _
  exact ⟨⟨r6, h.t1, h.t2, h.gG, own_set ho hrow h.t2 _, own_set hlo hrow h.t1 _, hG, h.lG⟩, hrow, hk.trans (Keep.setCell w' (p := ⟨g, 6, none⟩) h.gG rv'), hk⟩
end
theorem infoU8r : (Tryz.prog.info? 5).map (fun i => (i.zero, i.size, i.bytes)) = some (some (.int .u8 0), 1, 1) := by kernel_rfl
set_option maxRecDepth 100000 in
set_option maxHeartbeats 2000000 in
/-- NewHead. -/
theorem newhead7 (l h c b : Int) (w : World) :
    Calls Tryz.prog 7 #[.agg #[.int .i64 l, .int .i64 h, .int .i64 c, .int .i64 b]] w fun x w' => ∃ g, x = .returned (.pointer (some ⟨g, 0, none⟩)) ∧ w.heap.size ≤ g ∧ He (fun j => j = g) 66 [] w' g (max l 0) (max h 0) (max c 0) b 0 ⟨#[]⟩ [] 0 [] false 0 ∧ Below w.heap.size w w' := by
  go_enter Tryz.func7, Tryz.ntmps7
  go_wp2_with fail
  go_ret
  refine ⟨w.heap.size + 1, rfl, Nat.le_succ _, ⟨.slice none 0 0, .slice none 0 0, ?_⟩, ((below_alloc w _).alloc (by simp) _)⟩
  have hr := Row.new (w.alloc (.cells #[.int .i64 (max l 0), .int .i64 (max h 0), .int .i64 (max c 0), .int .i64 b] 29)) 66 #[.int .i64 (max l 0), .int .i64 (max h 0), .int .i64 (max c 0), .int .i64 b, .int .i64 0, .string ⟨#[]⟩, .slice none 0 0, .int .i64 0, .slice none 0 0, .bool false, .int .i64 0]
  have hz : (w.alloc (.cells #[.int .i64 (max l 0), .int .i64 (max h 0), .int .i64 (max c 0), .int .i64 b] 29)).heap.size = w.heap.size + 1 := by simp
  rw [hz] at hr
  exact ⟨hr, by decide, by decide, rfl, nil_flds _, nil_byt _, (fun j h => by cases h), (fun j h => by cases h)⟩
/-- The way that a byte's line takes: is it too long? -/
def TooLong (L H st : Int) (sz n : Nat) (q : Bool) : Prop := (st = 0 ∧ q = decide (L < (n : Int))) ∨ (st = 1 ∧ q = decide (H < (sz : Int) + (n : Int)))
def HSel (q : Bool) (A B : Prop) : Prop := if q = true then A else B
set_option maxRecDepth 100000 in
set_option maxHeartbeats 4000000 in
theorem hext42 (G : Nat → Prop) (T : TypeId) (rest : List Value) (g : Nat) (L H C B st : Int) (f : ByteArray) (fs : List Fld) (sz : Nat) (cur : List UInt8) (cr : Bool) (e : Int) (c : UInt8) (q : Bool) (hq : TooLong L H st sz (cur.length + 1) q) (hsz : sz + cur.length ≤ 1000000000) (w : World) (h : He G T rest w g L H C B st f fs sz cur cr e) (hu : Up G w) :
    Calls Tryz.prog 42 #[.pointer (some ⟨g, 0, none⟩), .int .u8 (c.toNat : Int)] w fun r w' => r = .returned (.tuple #[]) ∧ HSel q (He G T rest w' g 0 0 0 0 3 ⟨#[]⟩ [] 0 [] false 4) (He G T rest w' g L H C B st f fs sz (cur ++ [c]) cr e) ∧ Keep G w w' := by
  obtain ⟨i0, hi, hz0, hz1, hz2⟩ := info_parts infoU8r
  obtain ⟨rv, ln, h⟩ := h
  have c8 := h.c.2.2.2.2.2.2.2.2.1
  have f8 := h.row.free 8
  have HD := Lib.hid h
  have HU := Lib.hid hu
  have HQ := Lib.hid hq
  clear h hu hq
  go_enter Tryz.func42, Tryz.ntmps42
  go_wp2_with (at_builtin; refine wpList_append_own_at _ rfl _ _ 64 rfl 0 5 i0 (.int .u8 0) 1 1 Tryz.underlying64 hi hz0 hz1 hz2 rfl (by decide) _ _ _ rfl (HD.out.lo.alloc _) ⟨w.heap.size, 0, none⟩ 1 1 [.int .u8 (c.toNat : Int)] rfl rfl (cell_one _ _ _) (one_cell _ _) (by unfold maxLen; omega) (by omega) (Nat.zero_le _) ?_)
  intro v' w1 hown' hgrow _ hat
  have L0 := below_alloc w (.cells #[.int .u8 (c.toNat : Int)] 5)
  rw [byteVals_snoc] at hown'
  obtain ⟨n, hn⟩ : ∃ n, cur.length + 1 = n := ⟨_, rfl⟩
  have hown2 := own_len hown' (show cur.length + 1 = (cur ++ [c]).length by simp)
  rw [hn] at hown' HQ
  obtain ⟨va, vc, rfl⟩ := own_slice hown'
  obtain ⟨HD2, row1, K1⟩ := (HD.out.below L0).grewL hgrow rfl (hat.imp id (fun e => e.trans (by simp))) (HU.out.below L0) hown2
  have HK2 := Lib.hid ((Keep.of_below (G := G) L0).trans K1)
  have c81 : w1.cell? ⟨g, 8, none⟩ = some ln := (row1.cell 8).trans (by simp [heCells, heL])
  have f81 := row1.free 8
  have hnz : n ≤ 1000000001 := by omega
  have hnz2 : sz + n ≤ 1000000001 := by omega
  clear L0 row1 K1 hown' hown2 hgrow hat c8 f8 hi hz0 hz1 hz2 hn
  go_wp2_with fail
  clear c81 f81
  have HD3 := Lib.hid HD2
  clear HD2
  generalize w1.setCell ⟨g, 8, none⟩ (.slice va n vc) = w2 at *
  obtain ⟨c0, c1, c2, c3, c4, c5, c6, c7, c8, c9, c10⟩ := HD3.out.c
  clear c2 c3 c5 c6 c9 c10
  have HF := Lib.hid (fun (W : World) (st : Int) (h : He G T rest W g L H C B st f fs sz (cur ++ [c]) cr e) => hfail40 G T rest g L H C B st f fs sz (cur ++ [c]) cr e 4 W h)
  have DN : ∀ k, Below w2.heap.size w2 (w2.drewN k) := fun k => ⟨rfl, rfl, rfl, Nat.le_refl _, fun _ _ => rfl⟩
  have HDN := Lib.hid DN
  clear DN
  rcases HQ.out with ⟨rfl, hq⟩ | ⟨rfl, hq⟩
  · by_cases hlt : L < (n : Int)
    · have h1 : decide (L < (n : Int)) = true := decide_eq_true hlt
      obtain rfl : q = true := by rw [hq, h1]
      clear hq
      go_quiet (fail)
      go_wp2_with fail
      with_reducible refine (HF.out _ _ (HD3.out.below (HDN.out _)).he).mono ?_
      rintro e9 w' ⟨rfl, hd, hk⟩
      go_wp2_with fail
      go_end0
      exact ⟨rfl, hd, (HK2.out.trans (.of_below (HDN.out _))).trans hk⟩
    · have h1 : decide (L < (n : Int)) = false := decide_eq_false hlt
      obtain rfl : q = false := by rw [hq, h1]
      clear hq
      go_quiet (fail)
      go_wp2_with fail
      go_end0
      exact ⟨rfl, ⟨_, _, HD3.out.below (HDN.out _)⟩, HK2.out.trans (.of_below (HDN.out _))⟩
  · by_cases hlt : H < (sz : Int) + (n : Int)
    · have h1 : decide (H < (sz : Int) + (n : Int)) = true := decide_eq_true hlt
      obtain rfl : q = true := by rw [hq, h1]
      clear hq
      go_quiet (fail)
      go_wp2_with fail
      with_reducible refine (HF.out _ _ (HD3.out.below (HDN.out _)).he).mono ?_
      rintro e9 w' ⟨rfl, hd, hk⟩
      go_wp2_with fail
      go_end0
      exact ⟨rfl, hd, (HK2.out.trans (.of_below (HDN.out _))).trans hk⟩
    · have h1 : decide (H < (sz : Int) + (n : Int)) = false := decide_eq_false hlt
      obtain rfl : q = false := by rw [hq, h1]
      clear hq
      go_quiet (fail)
      go_wp2_with fail
      go_end0
      exact ⟨rfl, ⟨_, _, HD3.out.below (HDN.out _)⟩, HK2.out.trans (.of_below (HDN.out _))⟩
end Go.Proofs.YtmcbaheaocfdnaaGreatDoor

/- fields: slices.DeleteFunc, Drop. -/
namespace Go.Proofs.YtmcbaheaocfdnaaGreatDoor
open Go.RowKit

/-- What is left without these names. -/
def dropL (xs : List ByteArray) (fs : List Fld) : List Fld := fs.filter fun f => !hasB xs f
/-- The two cells of a place. -/
def PairAt (w : World) (g k : Nat) (f : Fld) : Prop := w.cell? ⟨g, k * 2, none⟩ = some (.string (bs f.1)) ∧ w.cell? ⟨g, k * 2 + 1, none⟩ = some (.string (bs f.2))
/-- A block of places that may be written. -/
def Open2 (w : World) (g n : Nat) : Prop := g < w.heap.size ∧ ∀ k, k < n * 2 → (w.cell? ⟨g, k, none⟩).isSome = true ∧ w.frozen? ⟨g, k, none⟩ = false
theorem PairAt.below {w w' : World} {g k : Nat} {f : Fld} (h : PairAt w g k f) (hb : Below w.heap.size w w') (hg : g < w.heap.size) : PairAt w' g k f := by
  obtain ⟨hc, _⟩ := bcell hb
  exact ⟨(hc _ _ hg).trans h.1, (hc _ _ hg).trans h.2⟩
theorem Open2.below {w w' : World} {g n : Nat} (h : Open2 w g n) (hb : Below w.heap.size w w') : Open2 w' g n := by
  obtain ⟨hc, hf⟩ := bcell hb
  exact ⟨Nat.lt_of_lt_of_le h.1 hb.size, fun k hk => by rw [hc _ _ h.1, hf _ _ h.1]; exact h.2 k hk⟩
theorem Open2.set {w : World} {g n : Nat} (h : Open2 w g n) (p : Nat) (v : Value) : Open2 (w.setCell ⟨g, p, none⟩ v) g n := by
  refine ⟨by simpa [World.setCell] using h.1, fun k hk => ?_⟩
  obtain ⟨h1, h2⟩ := h.2 k hk
  refine ⟨?_, by rw [World.frozen?_setCell]; exact h2⟩
  by_cases e : k = p
  · subst e
    obtain ⟨u, hu⟩ := Option.isSome_iff_exists.1 h1
    rw [World.cell?_setCell_same _ _ _ hu]; rfl
  · rw [World.cell?_setCell_other _ _ _ _ (by simp <;> omega)]; exact h1
theorem PairAt.set {w : World} {g k : Nat} {f : Fld} (h : PairAt w g k f) (p : Nat) (v : Value) (hp : p ≠ k * 2 ∧ p ≠ k * 2 + 1) : PairAt (w.setCell ⟨g, p, none⟩ v) g k f :=
  ⟨by rw [World.cell?_setCell_other _ _ _ _ (by simp <;> omega)]; exact h.1, by rw [World.cell?_setCell_other _ _ _ _ (by simp <;> omega)]; exact h.2⟩
theorem PairAt.put {w : World} {g n k : Nat} (h : Open2 w g n) (hk : k < n) (f : Fld) : PairAt ((w.setCell ⟨g, k * 2, none⟩ (.string (bs f.1))).setCell ⟨g, k * 2 + 1, none⟩ (.string (bs f.2))) g k f := by
  obtain ⟨u, hu⟩ := Option.isSome_iff_exists.1 (h.2 (k * 2) (by omega)).1
  obtain ⟨u2, hu2⟩ := Option.isSome_iff_exists.1 ((h.set (k * 2) (.string (bs f.1))).2 (k * 2 + 1) (by omega)).1
  refine ⟨?_, World.cell?_setCell_same _ _ _ hu2⟩
  rw [World.cell?_setCell_other _ _ _ _ (by simp <;> omega)]
  exact World.cell?_setCell_same _ _ _ hu
theorem dropL_step_keep {xs : List ByteArray} {fs : List Fld} {j : Nat} (hj : j < fs.length) (h : hasB xs fs[j] = false) : dropL xs (fs.take (j + 1)) = dropL xs (fs.take j) ++ [fs[j]] := by
  unfold dropL
  rw [List.take_add_one, List.getElem?_eq_getElem hj, Option.toList_some, List.filter_append]
  simp [h]
theorem dropL_step_drop {xs : List ByteArray} {fs : List Fld} {j : Nat} (hj : j < fs.length) (h : hasB xs fs[j] = true) : dropL xs (fs.take (j + 1)) = dropL xs (fs.take j) := by
  unfold dropL
  rw [List.take_add_one, List.getElem?_eq_getElem hj, Option.toList_some, List.filter_append]
  simp [h]
theorem dropL_none {xs : List ByteArray} {fs : List Fld} (h : ∀ f ∈ fs, hasB xs f = false) : dropL xs fs = fs := by
  unfold dropL
  rw [List.filter_eq_self]
  intro f hf
  simp [h f hf]
theorem findI_cases (xs : List ByteArray) (fs : List Fld) : (findI xs fs = -1 ∧ ∀ f ∈ fs, hasB xs f = false) ∨ ∃ i, ∃ h : i < fs.length, findI xs fs = (i : Int) ∧ hasB xs fs[i] = true ∧ ∀ f ∈ fs.take i, hasB xs f = false := by
  unfold findI
  cases hfi : fs.findIdx? (hasB xs) with
  | none => exact .inl ⟨rfl, List.findIdx?_eq_none_iff.1 hfi⟩
  | some i =>
    obtain ⟨h, h1, h2⟩ := List.findIdx?_eq_some_iff_getElem.1 hfi
    refine .inr ⟨i, h, rfl, h1, fun f hf => ?_⟩
    obtain ⟨k, hk, rfl⟩ := List.mem_take_iff_getElem.1 hf
    have := h2 k (by omega)
    simpa using this
/-- clear on places. -/
theorem run_clear2 (w : World) (ty : TypeId) (b o n c : Nat) (hn : 0 < n) (hc : ∀ j, j < n * 2 → (w.cell? ⟨b, o + j, none⟩).isSome = true) (hf : ∀ j, j < n * 2 → w.frozen? ⟨b, o + j, none⟩ = false) :
    (Builtin.clear_ #[42] ty #[.slice (some ⟨b, o, none⟩) n c]).run Tryz.prog w = .ok (.tuple #[]) (w.setCells b o (Builtin.zeroCells #[.string ⟨#[]⟩, .string ⟨#[]⟩] n).toList) := by
  have hv : ∀ w, (zeroValue 75).run Tryz.prog w = .ok (.agg #[.string ⟨#[]⟩, .string ⟨#[]⟩]) w := fun w => by kernel_rfl
  have hz : (Builtin.zeroCells #[Value.string ⟨#[]⟩, .string ⟨#[]⟩] n).toList.length = n * 2 := by simp [Builtin.zeroCells]
  have hone : ∀ v ∈ (Builtin.zeroCells #[Value.string ⟨#[]⟩, .string ⟨#[]⟩] n).toList, v.oneCell' = true := by
    intro v hv'
    simp [Builtin.zeroCells] at hv'
    obtain ⟨i, _, rfl⟩ := hv'
    rcases Nat.mod_two_eq_zero_or_one i with h | h <;> rw [h] <;> rfl
  have hst := run_storeCells_cells (P := Tryz.prog) b o (Builtin.zeroCells #[Value.string ⟨#[]⟩, .string ⟨#[]⟩] n).toList 0 w (by rw [hz]; simpa using hc) (by rw [hz]; simpa using hf) hone
  simp only [Nat.add_zero] at hst
  obtain ⟨m, rfl⟩ : ∃ m, n = m + 1 := ⟨n - 1, by omega⟩
  simp [Builtin.clear_, run_underlying Tryz.underlying42, hv, Value.cells, hst]
theorem cell_setCells_before (g : Nat) : ∀ (vs : List Value) (o : Nat) (w : World) (k : Nat), k < o → (w.setCells g o vs).cell? ⟨g, k, none⟩ = w.cell? ⟨g, k, none⟩
  | [], _, _, _, _ => rfl
  | v :: r, o, w, k, h => by
    have ih := cell_setCells_before g r (o + 1) (w.setCell ⟨g, o, none⟩ v) k (by omega)
    have e : w.setCells g o (v :: r) = (w.setCell ⟨g, o, none⟩ v).setCells g (o + 1) r := rfl
    rw [e, ih, World.cell?_setCell_other _ _ _ _ (by simp <;> omega)]
theorem size_setCells (g : Nat) : ∀ (vs : List Value) (o : Nat) (w : World), (w.setCells g o vs).heap.size = w.heap.size
  | [], _, _ => rfl
  | v :: r, o, w => by
    have e : w.setCells g o (v :: r) = (w.setCell ⟨g, o, none⟩ v).setCells g (o + 1) r := rfl
    rw [e, size_setCells g r]
    simp
theorem below_setCells {B : Nat} {a : World} (g : Nat) (hg : B ≤ g) : ∀ (vs : List Value) (o : Nat) (w : World), Below B a w → Below B a (w.setCells g o vs)
  | [], _, _, h => h
  | v :: r, o, _, h => below_setCells g hg r (o + 1) _ (h.setCell (p := ⟨g, o, none⟩) hg v)

end Go.Proofs.YtmcbaheaocfdnaaGreatDoor

/- fields: Drop, index, Get, Has. -/
namespace Go.Proofs.YtmcbaheaocfdnaaGreatDoor
open Go.RowKit

/-- A row that owns fields: nil, or places that may be written. -/
theorem own_open {w : World} {base : Nat} {v : Value} {fs : List Fld} (h : w.ownsRow base 75 2 v fs.length (cellsF fs)) :
    (v = .slice none 0 0 ∧ fs = []) ∨ ∃ g cap, v = .slice (some ⟨g, 0, none⟩) fs.length cap ∧ base ≤ g ∧ fs.length ≤ cap ∧ Open2 w g fs.length ∧ ∀ (k : Nat) f, fs[k]? = some f → PairAt w g k f := by
  obtain ⟨_, ⟨rfl, h0⟩ | ⟨g, cap, cur, rfl, hbg, hg, hcap, _, hcs, htk⟩⟩ := h
  · exact .inl ⟨rfl, List.eq_nil_of_length_eq_zero h0⟩
  · refine .inr ⟨g, cap, rfl, hbg, hcap, ⟨(Array.getElem?_eq_some_iff.1 hg).1, fun k hk => ?_⟩, fun k f hf => ?_⟩
    · have hks : k < cur.size := by omega
      exact ⟨by simp [World.cell?, hg, hks], by simp [World.frozen?, hg]⟩
    · obtain ⟨g1, g2⟩ := cellsF_at fs k f hf
      have hj := (List.getElem?_eq_some_iff.1 hf).1
      rw [← htk, List.getElem?_take, if_pos (by omega)] at g1 g2
      simp only [Array.getElem?_toList] at g1 g2
      exact ⟨by simp [World.cell?, hg, g1], by simp [World.cell?, hg, g2]⟩
/-- One name that is asked for. -/
theorem isStrs_new1 (w : World) (x : ByteArray) (T : TypeId) : IsStrs (w.alloc (.cells #[.string x] T)) (some ⟨w.heap.size, 0, none⟩) 1 [x] := by
  refine .inr ⟨w.heap.size, 0, rfl, by simp, by simp, fun j y hy => ?_⟩
  obtain rfl : j = 0 := by
    have := (List.getElem?_eq_some_iff.1 hy).1
    simp at this
    omega
  obtain rfl : x = y := by simpa using hy
  simp
end Go.Proofs.YtmcbaheaocfdnaaGreatDoor

/- strings.Builder: copyCheck, WriteString. -/
namespace Go.Proofs.YtmcbaheaocfdnaaGreatDoor
open Go.RowKit

theorem sizeBld : (Tryz.prog.info? 102).map (·.size) = some 2 := by kernel_rfl
theorem liesBld : liesAt Tryz.prog Tryz.prog.depth 102 (2 / Tryz.prog.cellsOf 102) 0 102 1 = true := by kernel_rfl
theorem infoByt : (Tryz.prog.info? 5).map (fun i => (i.zero, i.size, i.bytes)) = some (some (.int .u8 0), 1, 1) := by kernel_rfl
set_option maxHeartbeats 1000000 in
set_option maxRecDepth 100000 in
theorem copy95_used (b : Nat) (w : World) (h0 : w.cell? ⟨b, 0, none⟩ = some (.pointer (some ⟨b, 0, none⟩))) :
    Calls Tryz.prog 64 #[.pointer (some ⟨b, 0, none⟩)] w fun e w' => e = .returned (.tuple #[]) ∧ w' = w := by
  obtain ⟨j, hj, _⟩ := Option.map_eq_some_iff.1 sizeBld
  go_enter Tryz.func64, Tryz.ntmps64
  go_wp2
  rw [Lib.run_neq_ptr_same w _ Tryz.underlying100 hj]
  go_wp2
  go_end0
  exact ⟨rfl, rfl⟩
set_option maxHeartbeats 1000000 in
set_option maxRecDepth 100000 in
theorem copy95_fresh (b : Nat) (w : World) (h0 : w.cell? ⟨b, 0, none⟩ = some (.pointer none)) (hsh : w.shape? b = some (102, 2)) (hfz : w.frozen? ⟨b, 0, none⟩ = false) :
    Calls Tryz.prog 64 #[.pointer (some ⟨b, 0, none⟩)] w fun e w' => e = .returned (.tuple #[]) ∧ w' = w.setCell ⟨b, 0, none⟩ (.pointer (some ⟨b, 0, none⟩)) := by
  obtain ⟨j, hj, hjs⟩ := Option.map_eq_some_iff.1 sizeBld
  go_enter Tryz.func64, Tryz.ntmps64
  go_wp2
  rw [Lib.run_to_unsafe w ⟨b, 0, none⟩ Tryz.underlying100 Tryz.underlying120 hj (by rw [hjs]; decide) hsh (Nat.zero_lt_succ 1)]
  simp only [Result.andThen]
  rw [Oper.upon_value]
  go_wp2
  rw [run_callFunc_extern Tryz.func70 (by kernel_rfl) (by kernel_rfl) (by kernel_rfl) (e := Extern.AbiNoEscape.same) (by kernel_rfl)]
  rw [Lib.run_noEscape]
  simp only [Result.andThen]
  rw [Oper.upon_value]
  go_wp2
  rw [Lib.run_from_unsafe w ⟨b, 0, none⟩ Tryz.underlying120 Tryz.underlying100 hj hsh liesBld]
  simp only [Result.andThen]
  rw [Oper.upon_value]
  go_wp2
  go_end0
  exact ⟨rfl, rfl⟩
theorem copy95 (B b : Nat) (bs : List Value) (w : World) (h : Lib.IsBuilder 102 5 B b bs w) :
    Calls Tryz.prog 64 #[.pointer (some ⟨b, 0, none⟩)] w fun e w' => e = .returned (.tuple #[]) ∧ (Lib.BuilderAt 102 5 B b (.pointer (some ⟨b, 0, none⟩)) bs w' ∧ Below B w w') := by
  rcases h with h | h
  · refine (copy95_fresh b w h.cell0 h.shape h.frozen0).mono ?_
    rintro e w' ⟨rfl, rfl⟩
    exact ⟨rfl, h.used _, (Below.refl B w).setCell (p := ⟨b, 0, none⟩) h.1 _⟩
  · refine (copy95_used b w h.cell0).mono ?_
    rintro e w' ⟨rfl, rfl⟩
    exact ⟨rfl, h, Below.refl B _⟩
set_option maxHeartbeats 2000000 in
set_option maxRecDepth 100000 in
theorem write74 (B b : Nat) (bs : List Value) (s : ByteArray) (w : World) (h : Lib.IsBuilder 102 5 B b bs w) (hlen : bs.length + s.size ≤ 140737488355328) (hBw : B ≤ w.heap.size) :
    Calls Tryz.prog 53 #[.pointer (some ⟨b, 0, none⟩), .string s] w fun e w' => e = .returned (.tuple #[.int .i64 s.size, .nilIface]) ∧ (Lib.BuilderAt 102 5 B b (.pointer (some ⟨b, 0, none⟩)) (bs ++ Lib.strCells s) w' ∧ Below B w w') := by
  obtain ⟨i0, hi, hz0, hz1, hz2⟩ := info_parts infoByt
  have HC := Lib.hid (copy95 B b bs w h)
  go_enter Tryz.func53, Tryz.ntmps53
  go_wp2_with fail
  refine HC.out.mono ?_
  rintro e w1 ⟨rfl, h1, hb1⟩
  obtain ⟨hB, v, hbk, hown, hne⟩ := h1
  have c0 : w1.cell? ⟨b, 0, none⟩ = some (.pointer (some ⟨b, 0, none⟩)) := by rw [Lib.cell_of_heap hbk]; rfl
  have c1 : w1.cell? ⟨b, 1, none⟩ = some v := by rw [Lib.cell_of_heap hbk]; rfl
  go_wp2_with (at_builtin; refine Lib.wpList_append_own_string _ rfl _ _ 64 9 rfl B 5 i0 Tryz.underlying64 Tryz.underlying9 hi hz0 hz1 hz2 _ _ _ rfl hown s rfl (by unfold maxLen; omega) (by omega) (by have := hb1.size; omega) ?_)
  intro v' w2 hown' hgrow _
  have hlt : b < w1.heap.size := (Array.getElem?_eq_some_iff.1 hbk).1
  have hb2 : w2.heap[b]? = some (.cells #[.pointer (some ⟨b, 0, none⟩), v] 102 (0, 0)) := by
    rw [hgrow.block b hlt (fun e => hne e.symm)]
    exact hbk
  have d0 : w2.cell? ⟨b, 0, none⟩ = some (.pointer (some ⟨b, 0, none⟩)) := by rw [Lib.cell_of_heap hb2]; rfl
  have d1 : w2.cell? ⟨b, 1, none⟩ = some v := by rw [Lib.cell_of_heap hb2]; rfl
  have f1 : w2.frozen? ⟨b, 1, none⟩ = false := Lib.frozen_of_heap hb2 1
  obtain ⟨ao, n', cap, rfl⟩ : ∃ ao n' cap, v' = .slice ao n' cap := by
    rcases hown'.2 with ⟨hv, _⟩ | ⟨g, cap, cur, hv, _⟩
    · exact ⟨_, _, _, hv⟩
    · exact ⟨_, _, _, hv⟩
  go_wp2
  go_ret2
  refine ⟨rfl, ?_, ?_⟩
  · exact Lib.BuilderAt.put (T := 102) (e := 5) hB hb2 (bs' := bs ++ Lib.strCells s) (by simpa [Lib.strCells_length] using hown') (by decide)
  · exact (hb1.grown hgrow (by have := hb1.size; omega) (fun k hk => (hown.lt k hk).1)).setCell (p := ⟨b, 1, none⟩) hB _
end Go.Proofs.YtmcbaheaocfdnaaGreatDoor

/- fields: Text, Size. -/
namespace Go.Proofs.YtmcbaheaocfdnaaGreatDoor
open Go.RowKit

theorem own_below {w w' : World} {base size n : Nat} {e : TypeId} {v : Value} {xs : List Value} (h : w.ownsRow base e size v n xs) (hb : Below w.heap.size w w') : w'.ownsRow base e size v n xs := by
  obtain ⟨hl, h0 | ⟨g, cap, cur, hv, hg, hc, r⟩⟩ := h
  · exact ⟨hl, .inl h0⟩
  · exact ⟨hl, .inr ⟨g, cap, cur, hv, hg, by rw [hb.block g (Array.getElem?_eq_some_iff.1 hc).1]; exact hc, r⟩⟩
/-- A builder that holds these bytes. -/
def Bld (B b : Nat) (l : List UInt8) (w : World) : Prop := Lib.IsBuilder 102 5 B b (Lib.byteCells l) w
theorem bldAt_below {w w' : World} {B b : Nat} {p : Value} {bs : List Value} (h : Lib.BuilderAt 102 5 B b p bs w) (hb : Below w.heap.size w w') : Lib.BuilderAt 102 5 B b p bs w' := by
  obtain ⟨hB, v, hv, ho, hn⟩ := h
  exact ⟨hB, v, by rw [hb.block b (Array.getElem?_eq_some_iff.1 hv).1]; exact hv, own_below ho hb, hn⟩
theorem Bld.below {w w' : World} {B b : Nat} {l : List UInt8} (h : Bld B b l w) (hb : Below w.heap.size w w') : Bld B b l w' := h.imp (fun x => bldAt_below x hb) (fun x => bldAt_below x hb)
theorem Bld.lt {w : World} {B b : Nat} {l : List UInt8} (h : Bld B b l w) : b < w.heap.size := by
  rcases h with h | h <;> exact h.lt
/-- WriteString of a builder of bytes. -/
theorem writeB (B b : Nat) (l x : List UInt8) (w : World) (h : Bld B b l w) (hlen : l.length + x.length ≤ 140737488355328) (hBw : B ≤ w.heap.size) :
    Calls Tryz.prog 53 #[.pointer (some ⟨b, 0, none⟩), .string (bs x)] w fun e w' => e = .returned (.tuple #[.int .i64 (bs x).size, .nilIface]) ∧ Bld B b (l ++ x) w' ∧ Below B w w' := by
  refine (write74 B b (Lib.byteCells l) (bs x) w h (by rw [Lib.byteCells_length, bs_size]; exact hlen) hBw).mono ?_
  rintro e w' ⟨he, h1, h2⟩
  refine ⟨he, .inr ?_, h2⟩
  rw [Lib.byteCells_append]
  exact h1
/-- The text of fields. -/
def textL (fs : List Fld) : List UInt8 := fs.flatMap lineL
theorem textL_step {fs : List Fld} {j : Nat} (hj : j < fs.length) : textL (fs.take (j + 1)) = textL (fs.take j) ++ lineL fs[j] := by
  unfold textL
  rw [List.take_add_one, List.getElem?_eq_getElem hj, Option.toList_some, List.flatMap_append]
  simp
theorem textL_le {fs : List Fld} {j : Nat} : (textL (fs.take j)).length ≤ (textL fs).length := by
  conv => rhs; rw [← List.take_append_drop j fs]
  unfold textL
  rw [List.flatMap_append, List.length_append]
  omega
set_option maxHeartbeats 2000000 in
set_option maxRecDepth 100000 in
theorem text49 (a : Option Addr) (c : Nat) (fs : List Fld) (hfl : fs.length ≤ 1000000000) (hok : ∀ f ∈ fs, FldOk f) (hsum : (textL fs).length ≤ 100000000000) (w : World) (hf : IsFlds w a c fs) :
    Calls Tryz.prog 36 #[.slice a fs.length c] w fun e w' => e = .returned (.string (bs (textL fs))) ∧ Below w.heap.size w w' := by
  have HFF := Lib.hid hf
  have HOK := Lib.hid hok
  have HS := Lib.hid hsum
  obtain ⟨X, hX⟩ : ∃ X, X = bs (textL fs) := ⟨_, rfl⟩
  have HX : Hid ((⟨(textL fs).toArray⟩ : ByteArray) = X) := by show _ = _; rw [hX]; rfl
  rw [← hX]
  clear hX
  have B0 : Hid (Bld w.heap.size w.heap.size [] (w.alloc (.cells #[.pointer none, .slice none 0 0] 102))) := Lib.fresh_isBuilder _ _ w
  have L0 := below_alloc w (.cells #[.pointer none, .slice none 0 0] 102)
  clear hf hok hsum
  go_enter Tryz.func36, Tryz.ntmps36
  go_wp2_with fail
  go_loopw [8] (fun i wr => ∃ j : Nat, j ≤ fs.length ∧ i = .int .i64 (j : Int) ∧ Hid (Bld w.heap.size w.heap.size (textL (fs.take j)) wr) ∧ Below w.heap.size w wr) (fun i _ => fs.length - (intOf i).toNat)
  case atStart => exact ⟨0, Nat.zero_le _, rfl, B0, L0⟩
  case round =>
    clear B0 L0
    obtain ⟨j, hj, rfl, hB, hb⟩ := hrel
    by_cases hlt : j < fs.length
    · obtain h0 | ⟨bk, o, rfl, hbk, hc, hcell⟩ := HFF.out.below hb
      · subst h0; simp at hlt
      obtain ⟨c1, c2⟩ := hcell j fs[j] (by simp [hlt])
      have hfo := HOK.out fs[j] (List.getElem_mem hlt)
      have hsz : (textL (fs.take j)).length + (lineL fs[j]).length ≤ 140737488355328 := by
        have h1 := textL_le (fs := fs) (j := j + 1)
        rw [textL_step hlt, List.length_append] at h1
        have := HS.out
        omega
      have HN := Lib.hid (textL_step hlt)
      obtain ⟨f, hfe⟩ : ∃ f, f = fs[j] := ⟨_, rfl⟩
      rw [← hfe] at c1 c2 hfo hsz HN
      clear hcell hfe
      have HL := Lib.hid (fun W => line38 f hfo.1 hfo.2 W)
      have HW := Lib.hid (fun W h hw => writeB w.heap.size w.heap.size (textL (fs.take j)) (lineL f) W h hsz hw)
      obtain ⟨n, v⟩ := f
      generalize lineL (n, v) = ll at HL HW HN
      unfold fldV at HL
      simp only at c1 c2 HL
      have j1 : (j : Int) < fs.length := by omega
      clear hsz hfo
      go_wp2_with fail
      have LA := below_alloc wr (.cells #[.string (bs n), .string (bs v)] 75)
      refine (HL.out _).mono ?_
      rintro e w2 ⟨rfl, hb2⟩
      have b2 := LA.trans (hb2.mono LA.size)
      have B2 := hB.out.below b2
      have bb2 := hb.trans (b2.mono hb.size)
      clear LA hb2
      go_wp2_with fail
      refine (HW.out _ B2 bb2.size).mono ?_
      rintro e w3 ⟨rfl, B3, hb3⟩
      rw [← HN.out] at B3
      have HB3 := Lib.hid B3
      have bb3 := bb2.trans hb3
      clear hB B2 b2 B3 hb3 HL HW bb2
      go_wp2_with fail
      go_roundw
      case rel => exact ⟨j + 1, hlt, by go_num, HB3, bb3⟩
      case measure => simp [intOf]; omega
    · have hB2 := hB.out
      rw [List.take_of_length_le (by omega)] at hB2
      have HE := Lib.hid (Tryz.Builder_String_any w.heap.size w.heap.size (textL fs) wr hB2 hb.size)
      clear hB hB2
      rw [HX.out] at HE
      go_wp2_with fail
      refine HE.out.mono ?_
      rintro e w2 ⟨rfl, hb2⟩
      go_wp2_with fail
      go_ret
      exact ⟨rfl, hb.trans hb2⟩
end Go.Proofs.YtmcbaheaocfdnaaGreatDoor

/- fields: slices.Concat. -/
namespace Go.Proofs.YtmcbaheaocfdnaaGreatDoor
open Go.RowKit

/-- A part: where it lies, its capacity, its fields. -/
abbrev Part := Option Addr × Nat × List Fld
def partV (p : Part) : Value := .slice p.1 p.2.2.length p.2.1
def flatP (L : List Part) : List Fld := L.flatMap (·.2.2)
def PartOk (w : World) (p : Part) : Prop := IsFlds w p.1 p.2.1 p.2.2 ∧ (p.1 = none → p.2.1 = 0 ∧ p.2.2 = [])
theorem flatP_step {L : List Part} {j : Nat} (hj : j < L.length) : flatP (L.take (j + 1)) = flatP (L.take j) ++ L[j].2.2 := by
  unfold flatP
  rw [List.take_add_one, List.getElem?_eq_getElem hj, Option.toList_some, List.flatMap_append]
  simp
theorem flatP_le {L : List Part} {j : Nat} : (flatP (L.take j)).length ≤ (flatP L).length := by
  conv => rhs; rw [← List.take_append_drop j L]
  unfold flatP
  rw [List.flatMap_append, List.length_append]
  omega
theorem cellsF_append (a b : List Fld) : cellsF (a ++ b) = cellsF a ++ cellsF b := by simp [cellsF]
end Go.Proofs.YtmcbaheaocfdnaaGreatDoor

/- fields: Add, Set. -/
namespace Go.Proofs.YtmcbaheaocfdnaaGreatDoor
open Go.RowKit

theorem own_mono {w : World} {B B' size n : Nat} {e : TypeId} {v : Value} {xs : List Value} (h : w.ownsRow B e size v n xs) (hB : B' ≤ B) : w.ownsRow B' e size v n xs := by
  obtain ⟨hl, h0 | ⟨g, cap, cur, hv, hg, r⟩⟩ := h
  · exact ⟨hl, .inl h0⟩
  · exact ⟨hl, .inr ⟨g, cap, cur, hv, Nat.le_trans hB hg, r⟩⟩
theorem isFlds_new1 (w : World) (n v : List UInt8) (T : TypeId) : IsFlds (w.alloc (.cells #[.string (bs n), .string (bs v)] T)) (some ⟨w.heap.size, 0, none⟩) 1 [(n, v)] := by
  refine .inr ⟨w.heap.size, 0, rfl, by simp, by simp, fun j f hf => ?_⟩
  obtain rfl : j = 0 := by
    have := (List.getElem?_eq_some_iff.1 hf).1
    simp at this
    omega
  obtain rfl : (n, v) = f := by simpa using hf
  simp
end Go.Proofs.YtmcbaheaocfdnaaGreatDoor

/- fields: Set. -/
namespace Go.Proofs.YtmcbaheaocfdnaaGreatDoor
open Go.RowKit

/-- The fields with the given one in place of all of its name. -/
def setF (n v : List UInt8) (fs : List Fld) : List Fld :=
  let i := findI [bs n] fs
  if 0 ≤ i then fs.take i.toNat ++ ((n, v) :: dropL [bs n] (fs.drop (i.toNat + 1))) else fs ++ [(n, v)]
/-- What holds while the region runs. -/
structure SetS (W : World) (bk o c i : Nat) (fs : List Fld) (n v : List UInt8) (ds : List Fld) (L : Nat → Bool) (x : Nat → Value) (w : World) : Prop where
  bel : Below W.heap.size W w
  p6 : L 6 = true → ∃ b, x 6 = .slice (some ⟨b, 0, none⟩) 1 1 ∧ IsFlds w (some ⟨b, 0, none⟩) 1 [(n, v)]
  p12 : L 12 = true → ∃ b, x 12 = .slice (some ⟨b, 0, none⟩) 1 1 ∧ IsStrs w (some ⟨b, 0, none⟩) 1 [bs n]
  p13 : L 13 = true → ∃ a' c', x 13 = .slice a' ds.length c' ∧ (a' = none → c' = 0 ∧ ds = []) ∧ IsFlds w a' c' ds
  p14 : L 14 = true → ∃ g b a' c', x 14 = .slice (some ⟨g, 0, none⟩) 3 3 ∧ g < w.heap.size ∧ w.cell? ⟨g, 0, none⟩ = some (.slice (some ⟨bk, o, none⟩) i c) ∧ w.cell? ⟨g, 1, none⟩ = some (.slice (some ⟨b, 0, none⟩) 1 1) ∧ w.cell? ⟨g, 2, none⟩ = some (.slice a' ds.length c') ∧ IsFlds w (some ⟨b, 0, none⟩) 1 [(n, v)] ∧ (a' = none → c' = 0 ∧ ds = []) ∧ IsFlds w a' c' ds
  p15 : L 15 = true → w.ownsRow W.heap.size 75 2 (x 15) (fs.take i ++ ((n, v) :: ds)).length (cellsF (fs.take i ++ ((n, v) :: ds)))
theorem SetS.below {W : World} {bk o c i : Nat} {fs : List Fld} {n v : List UInt8} {ds : List Fld} {L : Nat → Bool} {x : Nat → Value} {w w' : World} (h : SetS W bk o c i fs n v ds L x w) (hb : Below w.heap.size w w') : SetS W bk o c i fs n v ds L x w' := by
  refine ⟨h.bel.trans (hb.mono h.bel.size), fun e => ?_, fun e => ?_, fun e => ?_, fun e => ?_, fun e => own_below (h.p15 e) hb⟩
  · obtain ⟨b, h1, h2⟩ := h.p6 e; exact ⟨b, h1, h2.below hb⟩
  · obtain ⟨b, h1, h2⟩ := h.p12 e; exact ⟨b, h1, h2.below hb⟩
  · obtain ⟨a', c', h1, h2, h3⟩ := h.p13 e; exact ⟨a', c', h1, h2, h3.below hb⟩
  · obtain ⟨g, b, a', c', h1, h2, h3, h4, h5, h6, h7, h8⟩ := h.p14 e
    obtain ⟨hc, _⟩ := bcell hb
    exact ⟨g, b, a', c', h1, Nat.lt_of_lt_of_le h2 hb.size, by rw [hc _ _ h2]; exact h3, by rw [hc _ _ h2]; exact h4, by rw [hc _ _ h2]; exact h5, h6.below hb, h7, h8.below hb⟩
theorem SetS.keep {W : World} {bk o c i : Nat} {fs : List Fld} {n v : List UInt8} {ds : List Fld} {L : Nat → Bool} {x : Nat → Value} {w : World} (h : SetS W bk o c i fs n v ds L x w) (k : Nat) (u : Value) (h6 : k ≠ 6) (h12 : k ≠ 12) (h13 : k ≠ 13) (h14 : k ≠ 14) (h15 : k ≠ 15) :
    SetS W bk o c i fs n v ds (setL L k) (updV x k u) w := by
  refine ⟨h.bel, fun e => ?_, fun e => ?_, fun e => ?_, fun e => ?_, fun e => ?_⟩
  · simp only [setL, if_neg (Ne.symm h6)] at e; simp only [updV, if_neg (Ne.symm h6)]; exact h.p6 e
  · simp only [setL, if_neg (Ne.symm h12)] at e; simp only [updV, if_neg (Ne.symm h12)]; exact h.p12 e
  · simp only [setL, if_neg (Ne.symm h13)] at e; simp only [updV, if_neg (Ne.symm h13)]; exact h.p13 e
  · simp only [setL, if_neg (Ne.symm h14)] at e; simp only [updV, if_neg (Ne.symm h14)]; exact h.p14 e
  · simp only [setL, if_neg (Ne.symm h15)] at e; simp only [updV, if_neg (Ne.symm h15)]; exact h.p15 e
theorem IsFlds.take {w : World} {a : Option Addr} {c : Nat} {fs : List Fld} (h : IsFlds w a c fs) (i : Nat) : IsFlds w a c (fs.take i) := by
  obtain rfl | ⟨bk, o, ha, hlt, hc, hcell⟩ := h
  · exact .inl (by simp)
  · refine .inr ⟨bk, o, ha, hlt, by rw [List.length_take]; omega, fun j f hf => hcell j f ?_⟩
    rw [List.getElem?_take] at hf
    split at hf
    · exact hf
    · cases hf
theorem IsFlds.drop {w : World} {bk o c : Nat} {fs : List Fld} (h : IsFlds w (some ⟨bk, o, none⟩) c fs) (i : Nat) : IsFlds w (some ⟨bk, o + i * 2, none⟩) (c - i) (fs.drop i) := by
  obtain rfl | ⟨bk', o', ha, hlt, hc, hcell⟩ := h
  · exact .inl (by simp)
  · cases ha
    refine .inr ⟨bk, o + i * 2, rfl, hlt, by rw [List.length_drop]; omega, fun j f hf => ?_⟩
    rw [List.getElem?_drop] at hf
    have := hcell (i + j) f hf
    rw [Nat.add_mul] at this
    rw [Nat.add_assoc o, ]
    exact this

end Go.Proofs.YtmcbaheaocfdnaaGreatDoor

/- stewardlaw06.Own. -/
namespace Go.Proofs.YtmcbaheaocfdnaaGreatDoor
open Go.RowKit

theorem cells_new1 (w : World) (n v : ByteArray) (T : TypeId) : ∀ (k : Nat) u, [Value.string n, .string v][k]? = some u → (w.alloc (.cells #[.string n, .string v] T)).cell? ((⟨w.heap.size, 0, none⟩ : Addr).add k) = some u := by
  intro k u hu
  rw [Addr.add_mid]
  match k, hu with
  | 0, hu => obtain rfl := Option.some.inj hu; simp
  | 1, hu => obtain rfl := Option.some.inj hu; simp
  | k + 2, hu => simp at hu
theorem cellsF_step {fs : List Fld} {j : Nat} (hj : j < fs.length) : cellsF (fs.take (j + 1)) = cellsF (fs.take j) ++ [.string (bs fs[j].1), .string (bs fs[j].2)] := by
  rw [List.take_add_one, List.getElem?_eq_getElem hj, Option.toList_some, cellsF_append]
  rfl
set_option maxHeartbeats 4000000 in
set_option maxRecDepth 100000 in
theorem own40 (a : Option Addr) (c : Nat) (fs : List Fld) (hfl : fs.length ≤ 1000000) (w : World) (hf : IsFlds w a c fs) :
    Calls Tryz.prog 34 #[.slice a fs.length c] w fun e w' => ∃ u, e = .returned u ∧ w'.ownsRow w.heap.size 75 2 u fs.length (cellsF fs) ∧ Below w.heap.size w w' := by
  obtain ⟨i0, hi, hz0, hz1, hz2⟩ := info_parts infoFld
  have HFF := Lib.hid hf
  clear hf
  go_enter Tryz.func34, Tryz.ntmps34
  go_wp2_with fail
  go_loopw [3, 8] (fun v i wr => ∃ j : Nat, j ≤ fs.length ∧ i = .int .i64 (j : Int) ∧ Hid (wr.ownsRow w.heap.size 75 2 v j (cellsF (fs.take j))) ∧ Hid (Below w.heap.size w wr)) (fun _ i _ => fs.length - (intOf i).toNat)
  case atStart => exact ⟨0, Nat.zero_le _, rfl, World.ownsRow_nil _ _ _ _, Below.refl _ _⟩
  case round =>
    obtain ⟨j, hj, rfl, ho, hb⟩ := hrel
    by_cases hlt : j < fs.length
    · obtain h0 | ⟨bk, o, rfl, hbk, hc, hcell⟩ := HFF.out.below hb.out
      · subst h0; simp at hlt
      obtain ⟨c1, c2⟩ := hcell j fs[j] (by simp [hlt])
      have hst := Lib.hid (cellsF_step hlt)
      obtain ⟨f, hfe⟩ : ∃ f, f = fs[j] := ⟨_, rfl⟩
      rw [← hfe] at c1 c2 hst
      clear hcell hfe
      obtain ⟨n, v⟩ := f
      simp only at c1 c2 hst
      generalize bs n = N at *
      generalize bs v = V at *
      have j1 : (j : Int) < fs.length := by omega
      have hsz : (wr.alloc (.cells #[.string N, .string V] 46)).heap.size = wr.heap.size + 1 := World.size_alloc _ _
      have hnews := cells_new1 (wr.alloc (.cells #[.string N, .string V] 46)) N V 75
      rw [hsz] at hnews
      have HNW := Lib.hid hnews
      have HO2 : Hid (((wr.alloc (.cells #[.string N, .string V] 46)).alloc (.cells #[.string N, .string V] 75)).ownsRow w.heap.size 75 2 _ j (cellsF (fs.take j))) := (ho.out.alloc _).alloc _
      have hgr := hb.out.size
      have hb2 : Hid (Below w.heap.size w ((wr.alloc (.cells #[.string N, .string V] 46)).alloc (.cells #[.string N, .string V] 75))) := (hb.out.alloc hgr _).alloc (by rw [hsz]; omega) _
      clear hnews ho hb
      go_wp2_with (at_builtin; refine wpList_append_own _ rfl _ _ 42 rfl w.heap.size 75 i0 (.agg #[.string ⟨#[]⟩, .string ⟨#[]⟩]) 2 32 Tryz.underlying42 hi hz0 hz1 hz2 rfl (by decide) _ _ _ rfl HO2.out ⟨wr.heap.size + 1, 0, none⟩ 1 1 [.string N, .string V] rfl rfl HNW.out (by intro u hu; simp at hu; rcases hu with rfl | rfl <;> rfl) (by unfold maxLen; omega) (by omega) (by simp; omega) ?_)
      intro v' w2 hown' hgrow _
      have hb3 : Hid (Below w.heap.size w w2) := hb2.out.grown hgrow hb2.out.size (fun k hk => (HO2.out.lt k hk).1)
      rw [← hst.out] at hown'
      have HO3 := Lib.hid hown'
      clear hown' hgrow hb2 HO2 HNW hst
      go_wp2_with fail
      go_roundw
      case rel => exact ⟨j + 1, hlt, by go_num, HO3, hb3⟩
      case measure => simp [intOf]; omega
    · obtain rfl : j = fs.length := by omega
      have ho2 := ho.out
      rw [List.take_of_length_le (Nat.le_refl _)] at ho2
      have HO := Lib.hid ho2
      clear ho ho2
      go_wp2_with fail
      go_ret
      exact ⟨_, rfl, HO.out, hb.out⟩
end Go.Proofs.YtmcbaheaocfdnaaGreatDoor

/- request: a head in memory; a field line. -/
namespace Go.Proofs.YtmcbaheaocfdnaaGreatDoor
open Go.RowKit

/-- What holds while a field is put behind the others. -/
structure AddS (G : Nat → Prop) (T : TypeId) (rest : List Value) (w0 : World) (g : Nat) (L H C B st : Int) (f : ByteArray) (fs : List Fld) (sz : Nat) (cur : List UInt8) (cr : Bool) (e : Int) (rv ln : Value) (N V : List UInt8) (S : (Nat → Bool)) (x : Nat → Value) (w : World) : Prop where
  a : S 7 = false → Below w0.heap.size w0 w
  o : S 6 = true → S 5 = true
  b : S 6 = true → S 7 = false → ∃ b, x 6 = .slice (some ⟨b, 0, none⟩) 1 1 ∧ ∀ (k : Nat) u, [Value.string (bs N), .string (bs V)][k]? = some u → w.cell? ((⟨b, 0, none⟩ : Addr).add k) = some u
  d : S 7 = true → (S 4 = true ∧ S 6 = true) ∧ HeAt G T rest (w.setCell ⟨g, 6, none⟩ (x 7)) g L H C B st f (fs ++ [(N, V)]) sz cur cr e (x 7) ln ∧ Row w g T (heCells L H C B st f rv sz ln cr e rest) ∧ Keep G w0 (w.setCell ⟨g, 6, none⟩ (x 7)) ∧ ∃ va vc, x 7 = .slice va (fs.length + 1) vc
theorem AddS.keep {G : Nat → Prop} {T : TypeId} {rest : List Value} {w0 : World} {g : Nat} {L H C B st : Int} {f : ByteArray} {fs : List Fld} {sz : Nat} {cur : List UInt8} {cr : Bool} {e : Int} {rv ln : Value} {N V : List UInt8} {S : (Nat → Bool)} {x : Nat → Value} {w : World} (h : AddS G T rest w0 g L H C B st f fs sz cur cr e rv ln N V S x w) (i : Nat) (u : Value) (h6 : i ≠ 6) (h7 : i ≠ 7) : AddS G T rest w0 g L H C B st f fs sz cur cr e rv ln N V (setL S i) (updV x i u) w := by
  have e6 : setL S i 6 = S 6 := by simp only [setL, if_neg (Ne.symm h6)]
  have e7 : setL S i 7 = S 7 := by simp only [setL, if_neg (Ne.symm h7)]
  have e4 : S 4 = true → setL S i 4 = true := fun h => by simp only [setL]; split; rfl; exact h
  have e5 : S 5 = true → setL S i 5 = true := fun h => by simp only [setL]; split; rfl; exact h
  have x6 : updV x i u 6 = x 6 := by simp only [updV, if_neg (Ne.symm h6)]
  have x7 : updV x i u 7 = x 7 := by simp only [updV, if_neg (Ne.symm h7)]
  refine ⟨by rw [e7]; exact h.a, by rw [e6]; exact fun q => e5 (h.o q), by rw [e6, e7, x6]; exact h.b, ?_⟩
  rw [e6, e7, x7]
  intro q
  exact ⟨⟨e4 (h.d q).1.1, (h.d q).1.2⟩, (h.d q).2⟩
theorem cellsF_snoc (fs : List Fld) (N V : List UInt8) : cellsF fs ++ [.string (bs N), .string (bs V)] = cellsF (fs ++ [(N, V)]) := by simp [cellsF]
theorem infoFldr : (Tryz.prog.info? 75).map (fun i => (i.zero, i.size, i.bytes)) = some (some (.agg #[.string ⟨#[]⟩, .string ⟨#[]⟩]), 2, 32) := by kernel_rfl
set_option maxRecDepth 100000 in
set_option maxHeartbeats 4000000 in
theorem hadd61 (G : Nat → Prop) (T : TypeId) (rest : List Value) (g : Nat) (L H C B st : Int) (f : ByteArray) (fs : List Fld) (sz : Nat) (cur : List UInt8) (cr : Bool) (e : Int) (s : ByteArray) (N V : List UInt8) (e1 E : Int) (he1 : e1 = 0 ∨ e1 = 2) (hp : parseV s.data.toList = .tuple #[fldV (N, V), .int .i64 e1])
    (hE : E = if H < (sz : Int) + ((s.size : Int) + 2) ∨ C < (fs.length : Int) + 1 then 4 else e1) (hsz : sz + s.size ≤ 1000000000) (hfl : fs.length ≤ 1000000000) (w : World) (h : He G T rest w g L H C B st f fs sz cur cr e) (hu : Up G w) (hM : MaxL w) :
    Calls Tryz.prog 61 #[.pointer (some ⟨g, 0, none⟩), .string s] w fun r w' => r = .returned (.tuple #[]) ∧ (if E = 0 then He G T rest w' g L H C B st f (fs ++ [(N, V)]) (sz + (s.size + 2)) cur cr e else He G T rest w' g 0 0 0 0 3 ⟨#[]⟩ [] 0 [] false E) ∧ Keep G w w' := by
  obtain ⟨i0, hi, hz0, hz1, hz2⟩ := info_parts infoFldr
  obtain ⟨rv, ln, h⟩ := h
  have HD := Lib.hid h
  have HU := Lib.hid hu
  have HP := Lib.hid (parse36 s (by omega) w hM)
  rw [hp] at HP
  unfold fldV at HP
  simp only at HP
  clear h hu hM hp
  go_enter Tryz.func61, Tryz.ntmps61
  go_wp2_with fail
  with_reducible refine HP.out.mono ?_
  rintro e9 wA ⟨rfl, hbA⟩
  have cF0 : (wA.alloc (.cells #[.string (bs N), .string (bs V)] 75)).cell? ⟨wA.heap.size, 0, none⟩ = some (.string (bs N)) := by simp
  have cF1 : (wA.alloc (.cells #[.string (bs N), .string (bs V)] 75)).cell? ⟨wA.heap.size, 1, none⟩ = some (.string (bs V)) := by simp
  have hlt : wA.heap.size < (wA.alloc (.cells #[.string (bs N), .string (bs V)] 75)).heap.size := by simp
  have hb0 := hbA.alloc hbA.size (.cells #[.string (bs N), .string (bs V)] 75)
  go_upto_region 1 with fail
  obtain ⟨bF, hbF⟩ : ∃ bF, bF = wA.heap.size := ⟨_, rfl⟩
  rw [← hbF] at cF0 cF1 hlt ⊢
  generalize wA.alloc (.cells #[.string (bs N), .string (bs V)] 75) = w0 at *
  have HD0 := Lib.hid (HD.out.below hb0)
  have HU0 := Lib.hid (HU.out.below hb0)
  have HB0 := Lib.hid (Keep.of_below (G := G) hb0)
  clear hbF hbA hb0 HD HU HP
  refine region_mixt 8 [some (.pointer (some ⟨g, 0, none⟩)), some (.pointer (some ⟨g, 0, none⟩)), some (.pointer (some ⟨g, 0, none⟩)), some (.pointer (some ⟨g, 6, none⟩)), some (rv), some (.agg #[.string (bs N), .string (bs V)]), none, none]
    [[false, false, false, false, false, false, false, false], [false, false, false, false, false, false, false, false], [false, true, false, false, false, false, false, false], [false, false, true, false, false, false, false, false], [false, false, false, true, false, false, false, false], [false, false, false, false, false, false, false, false], [false, false, false, false, false, true, false, false], [false, false, false, false, true, false, true, false]]
    (fun L1 x w1 => AddS G T rest w0 g L H C B st f fs sz cur cr e rv ln N V L1 x w1)
    (by kernel_rfl) (by kernel_rfl) (by kernel_rfl) (by kernel_rfl) (by kernel_rfl) (by decide) ?_ ?_ ?_
  · intro _
    exact ⟨fun _ => ⟨rfl, rfl, rfl, Nat.le_refl _, fun _ _ => rfl⟩, fun h => (by cases h), fun h => (by cases h), fun h => (by cases h)⟩
  · simp only [List.take_succ_cons, List.take_zero]
    refine ⟨?_, ?_, ?_, ?_, ?_, ?_, ?_, ?_, trivial⟩
    all_goals
      intro S x w9 hS hl hp K hK
      have hs : AddS G T rest w0 g L H C B st f fs sz cur cr e rv ln N V S x w9 := hS
      clear hS
      replace hK := hK.out
      simp only [actMix, pickV, List.tail_cons, List.headD_cons, Act.put, List.setIfInBounds_toArray, List.set_cons_zero, List.set_cons_succ] at hK ⊢
    iterate 4
      · clear hp
        go_simp
        with_reducible refine hK _ ?_
        exact hs.keep _ _ (by decide) (by decide)
    · have h7 : S 7 = false := by
        cases h : S 7 with
        | false => rfl
        | true => have := (hs.d h).1.1; rw [hl] at this; cases this
      have c6 := (HD0.out.below (hs.a h7)).c.2.2.2.2.2.2.1
      clear hp
      go_simp
      with_reducible refine hK _ ?_
      exact hs.keep _ _ (by decide) (by decide)
    · have h7 : S 7 = false := by
        cases h : S 7 with
        | false => rfl
        | true => have := hs.o (hs.d h).1.2; rw [hl] at this; cases this
      have r0 : w9.cell? ⟨bF, 0, none⟩ = some (.string (bs N)) := by rw [(bcell (hs.a h7)).1 _ _ hlt]; exact cF0
      have r1 : w9.cell? ⟨bF, 1, none⟩ = some (.string (bs V)) := by rw [(bcell (hs.a h7)).1 _ _ hlt]; exact cF1
      clear hp
      go_simp
      with_reducible refine hK _ ?_
      exact hs.keep _ _ (by decide) (by decide)
    · have h7 : S 7 = false := by
        cases h : S 7 with
        | false => rfl
        | true => have := (hs.d h).1.2; rw [hl] at this; cases this
      have h5 : S 5 = true := allL_mem hp 5 (by decide +kernel)
      clear hp
      go_simp
      with_reducible refine hK _ _ ?_
      have hs9 := (hs.a h7).size
      refine ⟨fun _ => (hs.a h7).alloc hs9 _, fun _ => by simp [setL, h5], fun _ _ => ⟨w9.heap.size, by simp [updV], cells_new1 w9 (bs N) (bs V) _⟩, fun h => ?_⟩
      simp [setL, h7] at h
    · have h4 : S 4 = true := allL_mem hp 4 (by decide +kernel)
      have h6 : S 6 = true := allL_mem hp 6 (by decide +kernel)
      obtain ⟨b9, hx9, hc9⟩ := hs.b h6 hl
      have hd9 := HD0.out.below (hs.a hl)
      have hu9 := HU0.out.below (hs.a hl)
      clear hp
      rw [hx9] at hK ⊢
      rw [if_pos (by rfl)]
      refine wp_append_at w9 _ _ 42 rfl 0 75 i0 (.agg #[.string ⟨#[]⟩, .string ⟨#[]⟩]) 2 32 Tryz.underlying42 hi hz0 hz1 hz2 rfl (by decide) _ _ _ rfl hd9.ro ⟨b9, 0, none⟩ 1 1 [.string (bs N), .string (bs V)] rfl rfl hc9 (by intro u hu; simp at hu; rcases hu with rfl | rfl <;> rfl) (by unfold maxLen; omega) (by omega) (Nat.zero_le _) ?_
      intro v' w1 hown1 hgrow hat
      rw [cellsF_snoc] at hown1
      obtain ⟨va, vc, hv⟩ := own_slice hown1
      have hown2 := own_len hown1 (show fs.length + 1 = (fs ++ [(N, V)]).length by simp)
      obtain ⟨q1, q2, q3, _⟩ := hd9.grewR hgrow rfl hat hu9 hown2
      simp only [Act.put, List.setIfInBounds_toArray, List.set_cons_zero, List.set_cons_succ]
      with_reducible refine hK _ _ ?_
      refine ⟨fun h => ?_, fun _ => ?_, fun _ h => ?_, fun _ => ⟨⟨by simp [setL, h4], by simp [setL, h6]⟩, by simpa [updV] using q1, q2, by simpa [updV] using (Keep.of_below (hs.a hl)).trans q3, va, vc, by simpa [updV] using hv⟩⟩
      · simp [setL] at h
      · have := hs.o h6
        simp [setL, this]
      · simp [setL] at h
  intro S x w9 hS hL
  have hs : AddS G T rest w0 g L H C B st f fs sz cur cr e rv ln N V S x w9 := hS
  obtain ⟨_, q1, q2, q3, va, vc, hv⟩ := hs.d (hL 7 (by decide))
  have c6 : w9.cell? ⟨g, 6, none⟩ = some rv := (q2.cell 6).trans (by simp [heCells, heL])
  have f6 := q2.free 6
  rw [hv] at q1 q3
  have HQ1 := Lib.hid q1
  have HQ3 := Lib.hid (HB0.out.trans q3)
  clear hS hL hs q1 q2 q3 HD0 HU0 HB0 cF0 cF1 hlt hi hz0 hz1 hz2
  simp only [actMix, pickV, List.tail_cons, List.headD_cons, Act.put, List.setIfInBounds_toArray, List.set_cons_zero, List.set_cons_succ, List.replicate_succ, List.replicate_zero, List.drop_succ_cons, List.drop_zero, List.take_succ_cons, List.take_zero]
  rw [hv]
  clear hv
  go_upto_region 2 with fail
  clear c6 f6
  generalize w9.setCell ⟨g, 6, none⟩ (.slice va (fs.length + 1) vc) = w2 at *
  have c7 := HQ1.out.c.2.2.2.2.2.2.2.1
  have f7 := HQ1.out.row.free 7
  have HQ2 : Hid (HeAt G T rest (w2.setCell ⟨g, 7, none⟩ (.int .i64 ((sz + (s.size + 2) : Nat) : Int))) g L H C B st f (fs ++ [(N, V)]) (sz + (s.size + 2)) cur cr e (.slice va (fs.length + 1) vc) ln) := HQ1.out.set7 _
  have HQ4 := Lib.hid (HQ3.out.trans (Keep.setCell w2 (p := ⟨g, 7, none⟩) HQ1.out.gG (.int .i64 ((sz + (s.size + 2) : Nat) : Int))))
  obtain ⟨z, hz⟩ : ∃ z, z = sz + (s.size + 2) := ⟨_, rfl⟩
  have hzi : (sz : Int) + ((s.size : Int) + 2) = (z : Int) := by omega
  rw [hzi] at hE
  rw [← hz] at HQ2 HQ4
  have HZ := Lib.hid hz
  have hzz : z ≤ 1000000002 := by omega
  clear HQ1 HQ3 hz
  go_upto_region 3 with fail
  clear c7 f7
  generalize w2.setCell ⟨g, 7, none⟩ (.int .i64 (z : Int)) = w3 at *
  obtain ⟨c0, c1, c2, c3, c4, c5, c6, c7, c8, c9, c10⟩ := HQ2.out.c
  clear c0 c3 c4 c5 c8 c9 c10
  have HF := Lib.hid (fun (W : World) (x : Int) (h : He G T rest W g L H C B st f (fs ++ [(N, V)]) z cur cr e) => hfail40 G T rest g L H C B st f (fs ++ [(N, V)]) z cur cr e x W h)
  have DN : ∀ k, Below w3.heap.size w3 (w3.drewN k) := fun k => ⟨rfl, rfl, rfl, Nat.le_refl _, fun _ _ => rfl⟩
  have HDN := Lib.hid DN
  clear DN
  have hfl2 : ((fs.length + 1 : Nat) : Int) = (fs.length : Int) + 1 := by omega
  by_cases ha : H < (z : Int)
  · rw [if_pos (.inl ha)] at hE
    subst hE
    have h1 : decide (H < (z : Int)) = true := decide_eq_true ha
    go_quiet (fail)
    go_wp2_with fail
    with_reducible refine (HF.out _ _ (HQ2.out.below (HDN.out _)).he).mono ?_
    rintro e9 w' ⟨rfl, hd, hk⟩
    go_wp2_with fail
    go_end0
    exact ⟨rfl, hd, (HQ4.out.trans (.of_below (HDN.out _))).trans hk⟩
  · by_cases hb : C < (fs.length : Int) + 1
    · rw [if_pos (.inr hb)] at hE
      subst hE
      have h1 : decide (H < (z : Int)) = false := decide_eq_false ha
      have h2 : decide (C < (fs.length : Int) + 1) = true := decide_eq_true hb
      go_quiet (fail)
      go_wp2_with fail
      with_reducible refine (HF.out _ _ (HQ2.out.below (HDN.out _)).he).mono ?_
      rintro e9 w' ⟨rfl, hd, hk⟩
      go_wp2_with fail
      go_end0
      exact ⟨rfl, hd, (HQ4.out.trans (.of_below (HDN.out _))).trans hk⟩
    · rw [if_neg (by rintro (h | h); (· exact ha h); (· exact hb h))] at hE
      subst hE
      have h1 : decide (H < (z : Int)) = false := decide_eq_false ha
      have h2 : decide (C < (fs.length : Int) + 1) = false := decide_eq_false hb
      rcases he1 with rfl | rfl
      · go_quiet (fail)
        go_wp2_with fail
        go_end0
        rw [← HZ.out]
        exact ⟨rfl, (HQ2.out.below (HDN.out _)).he, HQ4.out.trans (.of_below (HDN.out _))⟩
      · skip
        go_quiet (fail)
        go_wp2_with fail
        with_reducible refine (HF.out _ _ (HQ2.out.below (HDN.out _)).he).mono ?_
        rintro e9 w' ⟨rfl, hd, hk⟩
        go_wp2_with fail
        go_end0
        exact ⟨rfl, hd, (HQ4.out.trans (.of_below (HDN.out _))).trans hk⟩
end Go.Proofs.YtmcbaheaocfdnaaGreatDoor

/- request: a head in memory; a line's end, a byte. -/
namespace Go.Proofs.YtmcbaheaocfdnaaGreatDoor
open Go.RowKit

def EndTo (E : Int) (A B : Prop) : Prop := if E = 0 then A else B
theorem own_anyH (a : Option Addr) (c n m : Nat) : (Value.slice a n c).ownBlock = (Value.slice a m c).ownBlock := by cases a <;> rfl
theorem own_zeroH {w : World} {e : TypeId} {n : Nat} {a : Option Addr} {c : Nat} {xs : List Value} (h : w.ownsRow 0 e 1 (.slice a n c) n xs) : w.ownsRow 0 e 1 (.slice a 0 c) ([] : List UInt8).length (byteVals []) := by
  obtain ⟨hl, ⟨h0, hn⟩ | ⟨g, cap, cur, hv, hb, hc, hn, hm, hs, ht⟩⟩ := h
  · injection h0 with h1 h2 h3
    subst h1 h3
    exact ⟨rfl, .inl ⟨rfl, rfl⟩⟩
  · injection hv with h1 h2 h3
    subst h1 h3
    exact ⟨rfl, .inr ⟨g, _, cur, rfl, hb, hc, Nat.zero_le _, hm, hs, by simp [byteVals]⟩⟩
set_option maxRecDepth 100000 in
set_option maxHeartbeats 2000000 in
/-- The first line's end. -/
theorem hend0 (G : Nat → Prop) (T : TypeId) (rest : List Value) (g : Nat) (L H C B : Int) (f : ByteArray) (fs : List Fld) (sz : Nat) (cur : List UInt8) (cr : Bool) (e : Int) (w : World) (h : He G T rest w g L H C B 0 f fs sz cur cr e) :
    Calls Tryz.prog 41 #[.pointer (some ⟨g, 0, none⟩)] w fun r w' => r = .returned (.tuple #[]) ∧ He G T rest w' g L H C B 1 (bs cur) fs sz [] false e ∧ Keep G w w' := by
  obtain ⟨rv, ln, h⟩ := h
  obtain ⟨c0, c1, c2, c3, c4, c5, c6, c7, c8, c9, c10⟩ := h.c
  have f4 := h.row.free 4
  have f5 := h.row.free 5
  have f8 := h.row.free 8
  have f9 := h.row.free 9
  have hcv := own_string w 0 _ _ h.lo
  obtain ⟨la, lc, rfl⟩ := own_slice h.lo
  have HD := Lib.hid h
  have HD1 : Hid (HeAt G T rest ((w.setCell ⟨g, 8, none⟩ (.slice la 0 lc)).setCell ⟨g, 9, none⟩ (.bool false)) g L H C B 0 f fs sz [] false e rv (.slice la 0 lc)) :=
    (h.set8 (own_zeroH h.lo) (fun j hj => h.lG j ((own_anyH la lc cur.length 0).trans hj))).set9 false
  have K : ∀ (v : World) (i : Nat) (u : Value), Keep G v (v.setCell ⟨g, i, none⟩ u) := fun v i u => Keep.setCell v (p := ⟨g, i, none⟩) HD.out.gG u
  have HK := Lib.hid K
  obtain ⟨x, hx⟩ : ∃ x, x = (⟨cur.toArray⟩ : ByteArray) := ⟨_, rfl⟩
  rw [← hx] at hcv
  have hxb : x = bs cur := hx
  have HX := Lib.hid hxb
  have HR : Hid (HeAt G T rest ((((w.setCell ⟨g, 8, none⟩ (.slice la 0 lc)).setCell ⟨g, 9, none⟩ (.bool false)).setCell ⟨g, 5, none⟩ (.string x)).setCell ⟨g, 4, none⟩ (.int .i64 1)) g L H C B 1 x fs sz [] false e rv (.slice la 0 lc)) := (HD1.out.set5 x).set4 1
  clear h K c0 c1 c2 c3 c6 c7 c10 hx hxb HD1
  go_enter Tryz.func41, Tryz.ntmps41
  go_wp2_with fail
  go_end0
  rw [← HX.out]
  exact ⟨rfl, HR.out.he, (((HK.out _ _ _).trans (HK.out _ _ _)).trans (HK.out _ _ _)).trans (HK.out _ _ _)⟩
set_option maxRecDepth 100000 in
set_option maxHeartbeats 2000000 in
/-- The empty line's end. -/
theorem hend1 (G : Nat → Prop) (T : TypeId) (rest : List Value) (g : Nat) (L H C B : Int) (f : ByteArray) (fs : List Fld) (sz : Nat) (cur : List UInt8) (cr : Bool) (e : Int) (h0 : cur = []) (w : World) (h : He G T rest w g L H C B 1 f fs sz cur cr e) :
    Calls Tryz.prog 41 #[.pointer (some ⟨g, 0, none⟩)] w fun r w' => r = .returned (.tuple #[]) ∧ He G T rest w' g L H C B 2 f fs sz [] false e ∧ Keep G w w' := by
  obtain ⟨rv, ln, h⟩ := h
  obtain ⟨c0, c1, c2, c3, c4, c5, c6, c7, c8, c9, c10⟩ := h.c
  have f4 := h.row.free 4
  have f5 := h.row.free 5
  have f8 := h.row.free 8
  have f9 := h.row.free 9
  have hcv := own_string w 0 _ _ h.lo
  obtain ⟨la, lc, rfl⟩ := own_slice h.lo
  have HD := Lib.hid h
  have HD1 : Hid (HeAt G T rest ((w.setCell ⟨g, 8, none⟩ (.slice la 0 lc)).setCell ⟨g, 9, none⟩ (.bool false)) g L H C B 1 f fs sz [] false e rv (.slice la 0 lc)) :=
    (h.set8 (own_zeroH h.lo) (fun j hj => h.lG j ((own_anyH la lc cur.length 0).trans hj))).set9 false
  have K : ∀ (v : World) (i : Nat) (u : Value), Keep G v (v.setCell ⟨g, i, none⟩ u) := fun v i u => Keep.setCell v (p := ⟨g, i, none⟩) HD.out.gG u
  have HK := Lib.hid K
  obtain ⟨x, hx⟩ : ∃ x, x = (⟨cur.toArray⟩ : ByteArray) := ⟨_, rfl⟩
  rw [← hx] at hcv
  have hxe : x = ⟨#[]⟩ := by rw [hx, h0]
  have HR : Hid (HeAt G T rest (((w.setCell ⟨g, 8, none⟩ (.slice la 0 lc)).setCell ⟨g, 9, none⟩ (.bool false)).setCell ⟨g, 4, none⟩ (.int .i64 2)) g L H C B 2 f fs sz [] false e rv (.slice la 0 lc)) := HD1.out.set4 2
  clear h K c0 c1 c2 c3 c6 c7 c10 HD1
  subst hxe
  clear hx h0
  go_enter Tryz.func41, Tryz.ntmps41
  go_wp2_with fail
  go_end0
  exact ⟨rfl, HR.out.he, ((HK.out _ _ _).trans (HK.out _ _ _)).trans (HK.out _ _ _)⟩
set_option maxRecDepth 100000 in
set_option maxHeartbeats 2000000 in
/-- A field line's end. -/
theorem hend2 (G : Nat → Prop) (T : TypeId) (rest : List Value) (g : Nat) (L H C B : Int) (f : ByteArray) (fs : List Fld) (sz : Nat) (cur : List UInt8) (cr : Bool) (e : Int) (h0 : cur ≠ []) (N V : List UInt8) (e1 E : Int) (he1 : e1 = 0 ∨ e1 = 2) (hp : parseV cur = .tuple #[fldV (N, V), .int .i64 e1])
    (hE : E = if H < (sz : Int) + ((cur.length : Int) + 2) ∨ C < (fs.length : Int) + 1 then 4 else e1) (hsz : sz + cur.length ≤ 1000000000) (hfl : fs.length ≤ 1000000000) (w : World) (h : He G T rest w g L H C B 1 f fs sz cur cr e) (hu : Up G w) (hM : ∀ w', Keep G w w' → MaxL w') :
    Calls Tryz.prog 41 #[.pointer (some ⟨g, 0, none⟩)] w fun r w' => r = .returned (.tuple #[]) ∧ EndTo E (He G T rest w' g L H C B 1 f (fs ++ [(N, V)]) (sz + (cur.length + 2)) [] false e) (He G T rest w' g 0 0 0 0 3 ⟨#[]⟩ [] 0 [] false E) ∧ Keep G w w' := by
  obtain ⟨rv, ln, h⟩ := h
  obtain ⟨c0, c1, c2, c3, c4, c5, c6, c7, c8, c9, c10⟩ := h.c
  have f4 := h.row.free 4
  have f5 := h.row.free 5
  have f8 := h.row.free 8
  have f9 := h.row.free 9
  have hcv := own_string w 0 _ _ h.lo
  obtain ⟨la, lc, rfl⟩ := own_slice h.lo
  have HD := Lib.hid h
  have HD1 : Hid (HeAt G T rest ((w.setCell ⟨g, 8, none⟩ (.slice la 0 lc)).setCell ⟨g, 9, none⟩ (.bool false)) g L H C B 1 f fs sz [] false e rv (.slice la 0 lc)) :=
    (h.set8 (own_zeroH h.lo) (fun j hj => h.lG j ((own_anyH la lc cur.length 0).trans hj))).set9 false
  have K : ∀ (v : World) (i : Nat) (u : Value), Keep G v (v.setCell ⟨g, i, none⟩ u) := fun v i u => Keep.setCell v (p := ⟨g, i, none⟩) HD.out.gG u
  have HK := Lib.hid K
  obtain ⟨x, hx⟩ : ∃ x, x = (⟨cur.toArray⟩ : ByteArray) := ⟨_, rfl⟩
  rw [← hx] at hcv
  have hxb : x = bs cur := hx
  have hxz : x.size = cur.length := by rw [hxb, bs_size]
  have hxl : x.data.toList = cur := by rw [hxb, bs_list]
  have hne : 0 < x.size := by rw [hxz]; exact List.length_pos_iff.2 h0
  have e1' := emp_false x hne
  have hk2 : Keep G w ((w.setCell ⟨g, 8, none⟩ (.slice la 0 lc)).setCell ⟨g, 9, none⟩ (.bool false)) := (K _ _ _).trans (K _ _ _)
  have HA := Lib.hid (hadd61 G T rest g L H C B 1 f fs sz [] false e x N V e1 E he1 (by rw [hxl]; exact hp) (by rw [hxz]; exact hE) (by rw [hxz]; exact hsz) hfl _ HD1.out.he (hu.keep hk2) (hM _ hk2))
  rw [hxz] at HA
  have HK2 := Lib.hid hk2
  clear h K c0 c1 c2 c3 c6 c7 c10 HD1 hx hxb hxz hxl h0 hp hE hu hM hk2 he1 HK HD
  go_enter Tryz.func41, Tryz.ntmps41
  go_wp2_with fail
  with_reducible refine HA.out.mono ?_
  rintro e9 w9 ⟨rfl, hd, hk⟩
  have HD9 : Hid (EndTo E (He G T rest w9 g L H C B 1 f (fs ++ [(N, V)]) (sz + (cur.length + 2)) [] false e) (He G T rest w9 g 0 0 0 0 3 ⟨#[]⟩ [] 0 [] false E)) := hd
  clear hd
  go_wp2_with fail
  go_end0
  exact ⟨rfl, HD9.out, HK2.out.trans hk⟩
end Go.Proofs.YtmcbaheaocfdnaaGreatDoor

