/- A region that draws its order, by an invariant: one step for each operation, whatever the order. -/
import Derived.Test.YtcdgmhglpcokdaaBase
import Derived.Deep.RegionHeld3
import Derived.Deep.MidRow
namespace Go.Proofs.Ytcdgmhglpcokdaa
open Go.RowKit

/-- The frame with the operations' values in their slots. -/
def actOf : List Oper → (Nat → Value) → Nat → Act → Act
  | [], _, _, a => a
  | o :: r, x, i, a => (actOf r x (i + 1) a).put o.dst (x i)
def setL (L : Nat → Bool) (i : Nat) : Nat → Bool := fun j => if j = i then true else L j
def updV (x : Nat → Value) (i : Nat) (v : Value) : Nat → Value := fun j => if j = i then v else x j
/-- What an operation waits for. -/
def predsOf (o : Oper) : List Nat := (o.after.toList.filter fun e => Region.binds .any e).map (·.on)
def AllL (L : Nat → Bool) : List Nat → Prop
  | [] => True
  | j :: r => L j = true ∧ AllL L r
theorem allL_of {L : Nat → Bool} : ∀ {l : List Nat}, (∀ j ∈ l, L j = true) → AllL L l
  | [], _ => trivial
  | j :: _, h => ⟨h j (List.mem_cons_self ..), allL_of (fun k hk => h k (List.mem_cons_of_mem _ hk))⟩
/-- Each slot is written by one operation, and is there. -/
def dstsOk : List Oper → Nat → Bool
  | [], _ => true
  | o :: r, n => (match o.dst with
    | some d => decide (d < n) && r.all fun q => q.dst != some d
    | none => true) && dstsOk r n
theorem put_same (a : Act) (d : Nat) (v u : Value) : (a.put (some d) v).put (some d) u = a.put (some d) u := by
  simp [Act.put, Array.setIfInBounds_setIfInBounds]
theorem actOf_put : ∀ (l : List Oper) (n : Nat) (x : Nat → Value) (k : Nat) (a : Act), dstsOk l n = true → ∀ (i : Nat) (o : Oper), l[i]? = some o → ∀ v, (actOf l x k a).put o.dst v = actOf l (updV x (k + i) v) k a
  | [], _, _, _, _, _, i, o, h, _ => by simp at h
  | p :: r, n, x, k, a, hd, i, o, h, v => by
    simp only [dstsOk, Bool.and_eq_true] at hd
    match i, h with
    | 0, h =>
      obtain rfl : p = o := Option.some.inj h
      have hrest : ∀ (l : List Oper) (m : Nat), k < m → actOf l (updV x k v) m a = actOf l x m a := by
        intro l
        induction l with
        | nil => intro m _; rfl
        | cons q l ih =>
          intro m hm
          simp only [actOf, ih (m + 1) (by omega)]
          rw [show updV x k v m = x m from if_neg (by omega)]
      simp only [actOf, Nat.add_zero, hrest r (k + 1) (by omega)]
      rw [show updV x k v k = v from if_pos rfl]
      cases hp : p.dst with
      | none => rfl
      | some d => exact put_same _ _ _ _
    | i + 1, h =>
      have h' : r[i]? = some o := h
      have ih := actOf_put r n x (k + 1) a hd.2 i o h' v
      simp only [actOf]
      rw [show updV x (k + (i + 1)) v k = x k from if_neg (by omega), show k + (i + 1) = k + 1 + i by omega, ← ih]
      refine (Act.put_comm _ _ _ fun d hdd => ?_)
      have := hd.1
      rw [hdd] at this
      simp only [Bool.and_eq_true, List.all_eq_true] at this
      have := this.2 o (List.mem_of_getElem? h')
      simpa using this
/-- The values at the start. -/
def valsAt (l : List Oper) (a : Act) (i : Nat) : Value :=
  match l[i]? with
  | some o => match o.dst with
    | some d => a.tmps.getD d undef
    | none => undef
  | none => undef
theorem actOf_self : ∀ (l : List Oper) (x : Nat → Value) (k : Nat) (a : Act), dstsOk l a.tmps.size = true → (∀ i, x (k + i) = valsAt l a i) → actOf l x k a = a
  | [], _, _, _, _, _ => rfl
  | o :: r, x, k, a, hd, hx => by
    simp only [dstsOk, Bool.and_eq_true] at hd
    simp only [actOf]
    rw [actOf_self r x (k + 1) a hd.2 (fun i => by rw [show k + 1 + i = k + (i + 1) by omega, hx (i + 1)]; rfl)]
    have h0 := hx 0
    cases ho : o.dst with
    | none => rfl
    | some d =>
      have hlt := hd.1
      rw [ho] at hlt
      simp only [Bool.and_eq_true, decide_eq_true_eq] at hlt
      simp only [valsAt, List.getElem?_cons_zero, ho, Nat.add_zero] at h0
      rw [h0]
      simp only [Act.put]
      congr 1
      apply Array.ext
      · simp
      · intro j h1 h2
        rw [Array.getElem_setIfInBounds]
        split
        · rename_i e; subst e; simp [Array.getD, hlt.1]
        · rfl

/-- Each operation waits for earlier ones alone. -/
def edgesDown : List Oper → Nat → Bool
  | [], _ => true
  | o :: r, i => (predsOf o).all (fun j => decide (j < i)) && edgesDown r (i + 1)
theorem edgesDown_at : ∀ {l : List Oper} {k i : Nat} {o : Oper}, edgesDown l k = true → l[i]? = some o → ∀ j ∈ predsOf o, j < k + i
  | [], _, i, _, _, h, _, _ => by simp at h
  | p :: r, k, i, o, hd, h, j, hj => by
    simp only [edgesDown, Bool.and_eq_true, List.all_eq_true, decide_eq_true_eq] at hd
    match i, h with
    | 0, h => obtain rfl : p = o := Option.some.inj h; exact hd.1 j hj
    | i + 1, h => have := edgesDown_at hd.2 (show r[i]? = some o from h) j hj; omega
theorem listed_preds {ops : Array Oper} {listed : Array Bool} {i : Nat} {o : Oper} (hi : i ∈ Region.ready .any ops listed) (ho : ops[i]? = some o) : AllL (fun j => listed.getD j false) (predsOf o) := by
  obtain ⟨_, o', ho', hall⟩ := mem_ready.1 hi
  obtain rfl : o = o' := Option.some.inj (ho.symm.trans ho')
  refine allL_of fun j hj => ?_
  simp only [predsOf, List.mem_map, List.mem_filter, Array.mem_toList_iff] at hj
  obtain ⟨e, ⟨he, hb⟩, rfl⟩ := hj
  exact hall e he hb
theorem ready_nil {ops : Array Oper} {listed : Array Bool} (hd : edgesDown ops.toList 0 = true) (hs : listed.size = ops.size) (h : Region.ready .any ops listed = []) : ∀ i, i < ops.size → listed.getD i false = true := by
  intro i
  induction i using Nat.strongRecOn with
  | ind i ih =>
    intro hi
    cases hl : listed.getD i false with
    | true => rfl
    | false =>
      have hm : i ∈ Region.ready .any ops listed := by
        refine mem_ready.2 ⟨?_, ops[i], by simp [hi], fun e he hb => ?_⟩
        · simpa [Array.getD, hs, hi] using hl
        · have hlt := edgesDown_at (i := i) (o := ops[i]) hd (by simp [hi]) e.on (by
            simp only [predsOf, List.mem_map, List.mem_filter, Array.mem_toList_iff]
            exact ⟨e, ⟨he, hb⟩, rfl⟩)
          exact ih e.on (by omega) (by omega)
      rw [h] at hm
      cases hm

section
variable {P : Program} {ops : Array Oper} {Q : Exit → Act → World → Prop}

/-- Any order, by an invariant over what is listed, the values, and the world. -/
theorem wpAny_inv (a : Act) (n : Nat) (hn : dstsOk ops.toList n = true) (hd : edgesDown ops.toList 0 = true) (I : (Nat → Bool) → (Nat → Value) → World → Prop)
    (hstep : ∀ (i : Nat) (o : Oper), ops[i]? = some o → ∀ (L : Nat → Bool) (x : Nat → Value) (w : World), I L x w → L i = false → AllL L (predsOf o) →
      ∀ K : Act → World → Prop, Shut (∀ v w', I (setL L i) (updV x i v) w' → K ((actOf ops.toList x 0 a).put o.dst v) w') →
        if Region.wanted o (yielded ops (actOf ops.toList x 0 a).tmps) = true then o.wp P (actOf ops.toList x 0 a) w K Q else K ((actOf ops.toList x 0 a).put o.dst undef) w)
    (hfin : ∀ (L : Nat → Bool) (x : Nat → Value) (w : World), I L x w → (∀ i, i < ops.size → L i = true) → Q .normal (actOf ops.toList x 0 a) w) :
    ∀ (fuel : Nat) (listed : Array Bool) (x : Nat → Value) (w : World), listed.size = ops.size → I (fun i => listed.getD i false) x w →
      (∃ l : List Nat, l.length ≤ fuel ∧ ∀ i, i < ops.size → listed.getD i false = false → i ∈ l) →
      wpAny P .any ops Q fuel listed (actOf ops.toList x 0 a) w
  | 0, listed, x, w, hs, hI, ⟨l, hl, hc⟩ => by
    obtain rfl : l = [] := List.eq_nil_of_length_eq_zero (by omega)
    have hall : ∀ i, i < ops.size → listed.getD i false = true := fun i hi => by
      cases h : listed.getD i false with
      | true => rfl
      | false => have := hc i hi h; cases this
    refine ⟨?_, hfin _ x w hI hall⟩
    cases hr : Region.ready .any ops listed with
    | nil => rfl
    | cons j r =>
      have hj : j ∈ Region.ready .any ops listed := by rw [hr]; exact List.mem_cons_self ..
      obtain ⟨h1, o, ho, _⟩ := mem_ready.1 hj
      have hlt : j < ops.size := by
        rcases Nat.lt_or_ge j ops.size with h | h
        · exact h
        · rw [Array.getElem?_eq_none h] at ho; cases ho
      have h2 := hall j hlt
      simp [Array.getD, hs, hlt] at h1 h2
      rw [h2] at h1
      cases h1
  | fuel + 1, listed, x, w, hs, hI, ⟨l, hl, hc⟩ => by
    refine ⟨fun h => hfin _ x w hI (ready_nil hd hs h), fun i hi => ?_⟩
    obtain ⟨h1, o, ho, _⟩ := mem_ready.1 hi
    have hlt : i < ops.size := by
      rcases Nat.lt_or_ge i ops.size with h | h
      · exact h
      · rw [Array.getElem?_eq_none h] at ho; cases ho
    have h1' : listed.getD i false = false := by simp [Array.getD, hs, hlt] at h1 ⊢; exact h1
    refine wpOp_step ho (fun K hK => hstep i o ho _ x w hI h1' (listed_preds hi ho) K (fun v w' hI' => ?_))
    refine hK _ _ ?_
    rw [actOf_put ops.toList n x 0 a hn i o (by simpa using ho) v, Nat.zero_add]
    have hset : (fun j => (listed.setIfInBounds i true).getD j false) = setL (fun j => listed.getD j false) i := by
      funext j
      unfold setL
      by_cases e : j = i
      · subst e; rw [if_pos rfl]; simp [Array.getD, hs, hlt]
      · rw [if_neg e]
        simp only [Array.getD_eq_getD_getElem?, Array.getElem?_setIfInBounds_ne (Ne.symm e)]
    refine wpAny_inv a n hn hd I hstep hfin fuel _ _ w' (by simpa using hs) (by rw [hset]; exact hI') ⟨l.erase i, ?_, fun j hj hjl => ?_⟩
    · rw [List.length_erase_of_mem (hc i hlt h1')]; omega
    · have hji : j ≠ i := by
        rintro rfl
        simp [Array.getD, hs, hlt] at hjl
      have : listed.getD j false = false := by
        rw [Array.getD_eq_getD_getElem?, Array.getElem?_setIfInBounds_ne (Ne.symm hji), ← Array.getD_eq_getD_getElem?] at hjl
        exact hjl
      exact (List.mem_erase_of_ne hji).2 (hc j hj this)

/-- One goal for each operation. -/
def StepsAll (P : Program) (ops : Array Oper) (Q : Exit → Act → World → Prop) (a : Act) (I : (Nat → Bool) → (Nat → Value) → World → Prop) : List Oper → Nat → Prop
  | [], _ => True
  | o :: r, i => (∀ (L : Nat → Bool) (x : Nat → Value) (w : World), I L x w → L i = false → AllL L (predsOf o) →
      ∀ K : Act → World → Prop, Shut (∀ v w', I (setL L i) (updV x i v) w' → K ((actOf ops.toList x 0 a).put o.dst v) w') →
        if Region.wanted o (yielded ops (actOf ops.toList x 0 a).tmps) = true then o.wp P (actOf ops.toList x 0 a) w K Q else K ((actOf ops.toList x 0 a).put o.dst undef) w) ∧ StepsAll P ops Q a I r (i + 1)
theorem stepsAll_at {a : Act} {I : (Nat → Bool) → (Nat → Value) → World → Prop} : ∀ {l : List Oper} {k : Nat}, StepsAll P ops Q a I l k → ∀ (i : Nat) (o : Oper), l[i]? = some o → ∀ (L : Nat → Bool) (x : Nat → Value) (w : World), I L x w → L (k + i) = false → AllL L (predsOf o) →
      ∀ K : Act → World → Prop, Shut (∀ v w', I (setL L (k + i)) (updV x (k + i) v) w' → K ((actOf ops.toList x 0 a).put o.dst v) w') →
        if Region.wanted o (yielded ops (actOf ops.toList x 0 a).tmps) = true then o.wp P (actOf ops.toList x 0 a) w K Q else K ((actOf ops.toList x 0 a).put o.dst undef) w
  | [], _, _, i, _, h => by simp at h
  | p :: r, k, hs, 0, o, h => by
    obtain rfl : p = o := Option.some.inj h
    exact hs.1
  | p :: r, k, hs, i + 1, o, h => by
    have := stepsAll_at hs.2 i o h
    rw [show k + 1 + i = k + (i + 1) by omega] at this
    exact this

/-- The region. -/
theorem region_inv {id : Nat} {a : Act} {w : World} (I : (Nat → Bool) → (Nat → Value) → World → Prop) (hm : P.follows .mixedOrders = true)
    (hn : dstsOk ops.toList a.tmps.size = true) (hd : edgesDown ops.toList 0 = true) (h0 : I (fun _ => false) (valsAt ops.toList a) w.drew)
    (hstep : StepsAll P ops Q a I ops.toList 0)
    (hfin : ∀ (L : Nat → Bool) (x : Nat → Value) (w : World), I L x w → (∀ i, i < ops.size → L i = true) → Q .normal (actOf ops.toList x 0 a) w) : (Code.region id ops true).wp P Q a w := by
  refine wp_region_any hm ?_
  have hself := actOf_self ops.toList (valsAt ops.toList a) 0 a hn (fun i => by rw [Nat.zero_add])
  have hL : (fun i => (Array.replicate ops.size false).getD i false) = fun _ => false := by
    funext i
    simp [Array.getD]
  have := wpAny_inv (P := P) (ops := ops) (Q := Q) a _ hn hd I (fun i o ho => by have := stepsAll_at hstep i o (by simpa using ho); rwa [Nat.zero_add] at this) hfin ops.size (Array.replicate ops.size false) (valsAt ops.toList a) w.drew (by simp) (by rw [hL]; exact h0) ⟨List.range ops.size, by simp, fun i hi _ => by simpa using hi⟩
  rw [hself] at this
  exact this

/-- The values of the operations that have come up. -/
def Holds (L : Nat → Bool) (x : Nat → Value) : List Value → Nat → Prop
  | [], _ => True
  | v :: r, i => (L i = true → x i = v) ∧ Holds L x r (i + 1)
theorem Holds.none (x : Nat → Value) : ∀ (vs : List Value) (k : Nat), Holds (fun _ => false) x vs k
  | [], _ => trivial
  | _ :: r, k => ⟨fun h => (by cases h), Holds.none x r (k + 1)⟩
theorem Holds.step {L : Nat → Bool} {x : Nat → Value} {i : Nat} {v : Value} : ∀ {vs : List Value} {k : Nat}, Holds L x vs k → (∀ j u, vs[j]? = some u → k + j = i → u = v) → Holds (setL L i) (updV x i v) vs k
  | [], _, _, _ => trivial
  | u :: r, k, h, hv => by
    refine ⟨fun hl => ?_, h.2.step fun j u' hj hk => hv (j + 1) u' hj (by omega)⟩
    by_cases e : k = i
    · subst e
      rw [hv 0 u rfl rfl]
      exact if_pos rfl
    · have h1 : L k = true := by rw [← hl]; exact (if_neg e).symm
      rw [← h.1 h1]
      exact if_neg e
/-- One goal for each operation, where the values are determined. -/
def StepsD (P : Program) (ops : Array Oper) (Q : Exit → Act → World → Prop) (a : Act) (vals : List Value) (S : (Nat → Bool) → World → Prop) : List Oper → Nat → Prop
  | [], _ => True
  | o :: r, i => (∀ (L : Nat → Bool) (x : Nat → Value) (w : World), Holds L x vals 0 → S L w → L i = false → AllL L (predsOf o) →
      ∀ K : Act → World → Prop, Shut (∀ w', S (setL L i) w' → K ((actOf ops.toList x 0 a).put o.dst (vals.getD i undef)) w') →
        if Region.wanted o (yielded ops (actOf ops.toList x 0 a).tmps) = true then o.wp P (actOf ops.toList x 0 a) w K Q else K ((actOf ops.toList x 0 a).put o.dst undef) w) ∧ StepsD P ops Q a vals S r (i + 1)
theorem stepsAll_of_det {a : Act} {vals : List Value} {S : (Nat → Bool) → World → Prop} : ∀ (l : List Oper) (k : Nat), StepsD P ops Q a vals S l k → StepsAll P ops Q a (fun L x w => Holds L x vals 0 ∧ S L w) l k
  | [], _, _ => trivial
  | o :: r, k, h => ⟨fun L x w ⟨hv, hS⟩ hl hp K hK => h.1 L x w hv hS hl hp K (fun w' hS' => hK _ w' ⟨hv.step fun j u hj e => by
      rw [Nat.zero_add] at e
      subst e
      rw [List.getD_eq_getElem?_getD, hj]; rfl, hS'⟩), stepsAll_of_det r (k + 1) h.2⟩
theorem Holds.at {L : Nat → Bool} {x : Nat → Value} : ∀ {vs : List Value} {k : Nat}, Holds L x vs k → ∀ (i : Nat) (v : Value), vs[i]? = some v → L (k + i) = true → x (k + i) = v
  | [], _, _, _, _, h, _ => by simp at h
  | u :: r, k, h, 0, v, hi, hl => by obtain rfl : u = v := Option.some.inj hi; exact h.1 hl
  | u :: r, k, h, i + 1, v, hi, hl => by
    have := h.2.at i v hi
    rw [show k + 1 + i = k + (i + 1) by omega] at this
    exact this hl
theorem actOf_congr {x y : Nat → Value} {a : Act} : ∀ (l : List Oper) (k : Nat), (∀ i, i < l.length → x (k + i) = y (k + i)) → actOf l x k a = actOf l y k a
  | [], _, _ => rfl
  | o :: r, k, h => by
    simp only [actOf]
    have h0 : ∀ i, i < r.length → x (k + 1 + i) = y (k + 1 + i) := fun i hi => by
      have h3 := h (i + 1) (Nat.succ_lt_succ hi)
      rw [show k + (i + 1) = k + 1 + i by omega] at h3
      exact h3
    have h1 := actOf_congr (a := a) r (k + 1) h0
    have h2 : x k = y k := h 0 (by simp)
    rw [h1, h2]
/-- The region, where the values are determined. -/
theorem region_det {id : Nat} {a : Act} {w : World} (vals : List Value) (S : (Nat → Bool) → World → Prop) (hm : P.follows .mixedOrders = true)
    (hn : dstsOk ops.toList a.tmps.size = true) (hd : edgesDown ops.toList 0 = true) (hl : vals.length = ops.size) (h0 : S (fun _ => false) w.drew)
    (hstep : StepsD P ops Q a vals S ops.toList 0)
    (hfin : ∀ (L : Nat → Bool) (w : World), S L w → (∀ i, i < ops.size → L i = true) → Q .normal (actOf ops.toList (fun i => vals.getD i undef) 0 a) w) : (Code.region id ops true).wp P Q a w := by
  refine region_inv (fun L x w => Holds L x vals 0 ∧ S L w) hm hn hd ⟨Holds.none _ _ _, h0⟩ (stepsAll_of_det _ _ hstep) fun L x w ⟨hv, hS⟩ hL => ?_
  have he : actOf ops.toList x 0 a = actOf ops.toList (fun i => vals.getD i undef) 0 a := by
    refine actOf_congr _ _ fun i hi => ?_
    have hi' : i < ops.size := by simpa using hi
    have hiv : vals[i]? = some (vals.getD i undef) := by rw [List.getD_eq_getElem?_getD, List.getElem?_eq_getElem (by omega)]; rfl
    have := hv.at i _ hiv (by rw [Nat.zero_add]; exact hL i hi')
    rw [Nat.zero_add] at this ⊢
    exact this
  rw [he]
  exact hfin L w hS hL

def pickV : Bool → Option Value → Value → Value
  | true, some v, _ => v
  | _, _, u => u
/-- The frame: what is determined and has surely come up stands in its slot. -/
def actMix : List Oper → List Bool → List (Option Value) → (Nat → Value) → Nat → Act → Act
  | [], _, _, _, _, a => a
  | o :: r, bs, vs, x, i, a => (actMix r bs.tail vs.tail x (i + 1) a).put o.dst (pickV (bs.headD false) (vs.headD none) (x i))
theorem actMix_eq {x : Nat → Value} {a : Act} : ∀ (l : List Oper) (bs : List Bool) (vs : List (Option Value)) (k : Nat), (∀ i v, bs[i]? = some true → vs[i]? = some (some v) → x (k + i) = v) → actMix l bs vs x k a = actOf l x k a
  | [], _, _, _, _ => rfl
  | o :: r, bs, vs, k, h => by
    simp only [actMix, actOf]
    have h1 := actMix_eq (x := x) (a := a) r bs.tail vs.tail (k + 1) (fun i v hb hv => by
      have h3 := h (i + 1) v (by cases bs <;> simp at hb ⊢; exact hb) (by cases vs <;> simp at hv ⊢; exact hv)
      rw [show k + (i + 1) = k + 1 + i by omega] at h3
      exact h3)
    have h2 : pickV (bs.headD false) (vs.headD none) (x k) = x k := by
      cases bs with
      | nil => rfl
      | cons b bs =>
        cases vs with
        | nil => cases b <;> rfl
        | cons v vs =>
          cases b with
          | false => rfl
          | true =>
            cases v with
            | none => rfl
            | some v => exact (h 0 v rfl rfl).symm
    rw [h1, h2]
/-- The masks: who has surely come up ahead of each operation. -/
def masksOf (ops : List Oper) (l : List Oper) : List (List Bool) := l.map fun o => (List.range ops.length).map fun j => (predsOf o).contains j
/-- One goal for each operation. -/
def StepsM (P : Program) (ops : Array Oper) (Q : Exit → Act → World → Prop) (a : Act) (vals : List (Option Value)) (S : (Nat → Bool) → (Nat → Value) → World → Prop) : List Oper → List (List Bool) → List (Option Value) → Nat → Prop
  | [], _, _, _ => True
  | o :: r, m :: ms, some v :: vs, i => (∀ (L : Nat → Bool) (x : Nat → Value) (w : World), S L x w → L i = false → AllL L (predsOf o) →
      ∀ K : Act → World → Prop, Shut (∀ w', S (setL L i) (updV x i v) w' → K ((actMix ops.toList m vals x 0 a).put o.dst v) w') →
        if Region.wanted o (yielded ops (actMix ops.toList m vals x 0 a).tmps) = true then o.wp P (actMix ops.toList m vals x 0 a) w K Q else K ((actMix ops.toList m vals x 0 a).put o.dst undef) w) ∧ StepsM P ops Q a vals S r ms vs (i + 1)
  | o :: r, m :: ms, none :: vs, i => (∀ (L : Nat → Bool) (x : Nat → Value) (w : World), S L x w → L i = false → AllL L (predsOf o) →
      ∀ K : Act → World → Prop, Shut (∀ v w', S (setL L i) (updV x i v) w' → K ((actMix ops.toList m vals x 0 a).put o.dst v) w') →
        if Region.wanted o (yielded ops (actMix ops.toList m vals x 0 a).tmps) = true then o.wp P (actMix ops.toList m vals x 0 a) w K Q else K ((actMix ops.toList m vals x 0 a).put o.dst undef) w) ∧ StepsM P ops Q a vals S r ms vs (i + 1)
  | _, _, _, _ => False
def HoldsM (L : Nat → Bool) (x : Nat → Value) (vals : List (Option Value)) : Prop := ∀ i v, vals[i]? = some (some v) → L i = true → x i = v
theorem HoldsM.step {L : Nat → Bool} {x : Nat → Value} {vals : List (Option Value)} {i : Nat} {v : Value} (h : HoldsM L x vals) (hv : ∀ u, vals[i]? = some (some u) → u = v) : HoldsM (setL L i) (updV x i v) vals := fun j u hj hl => by
  by_cases e : j = i
  · subst e
    rw [hv u hj]
    exact if_pos rfl
  · have h1 : L j = true := by rw [← hl]; exact (if_neg e).symm
    rw [← h j u hj h1]
    exact if_neg e
theorem mask_eq {x : Nat → Value} {a : Act} {vals : List (Option Value)} {L : Nat → Bool} {o : Oper} {m : List Bool} {l : List Oper} (hh : HoldsM L x vals) (hp : ∀ j ∈ predsOf o, L j = true) (hm : m = (List.range l.length).map fun j => (predsOf o).contains j) : actMix l m vals x 0 a = actOf l x 0 a := by
  refine actMix_eq _ _ _ _ fun i v hb hv => ?_
  rw [Nat.zero_add]
  refine hh i v hv (hp i ?_)
  rw [hm, List.getElem?_map, Option.map_eq_some_iff] at hb
  obtain ⟨k, hk, hc⟩ := hb
  obtain ⟨h1, h2⟩ := List.getElem?_eq_some_iff.1 hk
  rw [List.getElem_range] at h2
  subst h2
  simpa using hc
theorem allL_mem {L : Nat → Bool} : ∀ {l : List Nat}, AllL L l → ∀ j ∈ l, L j = true
  | [], _, j, hj => by cases hj
  | k :: r, h, j, hj => by
    rcases List.mem_cons.1 hj with rfl | hj
    · exact h.1
    · exact allL_mem h.2 j hj
theorem stepsAll_of_mix {a : Act} {vals : List (Option Value)} {S : (Nat → Bool) → (Nat → Value) → World → Prop} : ∀ (l : List Oper) (ms : List (List Bool)) (vs : List (Option Value)) (k : Nat), ms = masksOf ops.toList l → (∀ i, vs[i]? = vals[k + i]?) →
    StepsM P ops Q a vals S l ms vs k → StepsAll P ops Q a (fun L x w => HoldsM L x vals ∧ S L x w) l k
  | [], _, _, _, _, _, _ => trivial
  | o :: r, m :: ms, some v :: vs, k, hm, hv, h => by
    simp only [masksOf, List.map_cons, List.cons.injEq] at hm
    refine ⟨fun L x w ⟨hh, hS⟩ hl hp K hK => ?_, stepsAll_of_mix r ms vs (k + 1) hm.2 (fun i => by have := hv (i + 1); rw [show k + (i + 1) = k + 1 + i by omega] at this; exact this) h.2⟩
    have he := mask_eq (a := a) hh (allL_mem hp) hm.1
    have := h.1 L x w hS hl hp K
    rw [he] at this
    refine this fun w' hS' => hK _ w' ⟨hh.step fun u hu => ?_, hS'⟩
    have h0 := hv 0
    rw [Nat.add_zero, hu] at h0
    exact (Option.some.inj (Option.some.inj h0)).symm
  | o :: r, m :: ms, none :: vs, k, hm, hv, h => by
    simp only [masksOf, List.map_cons, List.cons.injEq] at hm
    refine ⟨fun L x w ⟨hh, hS⟩ hl hp K hK => ?_, stepsAll_of_mix r ms vs (k + 1) hm.2 (fun i => by have := hv (i + 1); rw [show k + (i + 1) = k + 1 + i by omega] at this; exact this) h.2⟩
    have he := mask_eq (a := a) hh (allL_mem hp) hm.1
    have := h.1 L x w hS hl hp K
    rw [he] at this
    refine this fun v w' hS' => hK _ w' ⟨hh.step fun u hu => ?_, hS'⟩
    have h0 := hv 0
    rw [Nat.add_zero, hu] at h0
    cases h0
  | _ :: _, [], _, _, _, _, h => h.elim
  | _ :: _, _ :: _, [], _, _, _, h => h.elim
/-- The region: what is determined stands in the list, of the rest S speaks. -/
theorem region_mix {id : Nat} {a : Act} {w : World} (vals : List (Option Value)) (masks : List (List Bool)) (S : (Nat → Bool) → (Nat → Value) → World → Prop) (hm : P.follows .mixedOrders = true)
    (hn : dstsOk ops.toList a.tmps.size = true) (hd : edgesDown ops.toList 0 = true) (hk : masks = masksOf ops.toList ops.toList) (h0 : ∀ x, S (fun _ => false) x w.drew)
    (hstep : StepsM P ops Q a vals S ops.toList masks vals 0)
    (hfin : ∀ (L : Nat → Bool) (x : Nat → Value) (w : World), S L x w → (∀ i, i < ops.size → L i = true) → Q .normal (actMix ops.toList (List.replicate ops.size true) vals x 0 a) w) : (Code.region id ops true).wp P Q a w := by
  refine region_inv (fun L x w => HoldsM L x vals ∧ S L x w) hm hn hd ⟨fun i v _ hl => (by cases hl), h0 _⟩ (stepsAll_of_mix _ _ _ _ hk (fun i => by rw [Nat.zero_add]) hstep) fun L x w ⟨hh, hS⟩ hL => ?_
  have he : actMix ops.toList (List.replicate ops.size true) vals x 0 a = actOf ops.toList x 0 a := by
    refine actMix_eq _ _ _ _ fun i v hb hv => ?_
    rw [Nat.zero_add]
    refine hh i v hv (hL i ?_)
    obtain ⟨h1, _⟩ := List.getElem?_eq_some_iff.1 hb
    simpa using h1
  rw [← he]
  exact hfin L x w hS hL
end
end Go.Proofs.Ytcdgmhglpcokdaa
