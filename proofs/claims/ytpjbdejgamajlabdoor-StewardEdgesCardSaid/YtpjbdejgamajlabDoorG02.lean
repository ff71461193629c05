/- Packed: FmA, Reg, RegT, FmB, FmC, FmD. -/
import Derived.Deep.RegionHeld3
import Derived.Deep.MidRow
import GoSem.PinnedTables
import Derived.Test.YtpjbdejgamajlabDoorG00
import Derived.Test.YtpjbdejgamajlabDoorShelfM
/- strconv's shortest digits: the small functions. -/
namespace Go.Proofs.YtpjbdejgamajlabDoor
open Go.RowKit

theorem l10_48 (x : Int) (h0 : -3000 ≤ x) (h1 : x ≤ 3000) (w : World) : Calls Tryd.prog 98 #[.int .i64 x] w fun e w' => e = .returned (.int .i64 (x * 78913 / 262144)) ∧ w' = w := by
  go_enter Tryd.func98, Tryd.ntmps98
  go_wp2
  go_ret
  refine ⟨?_, rfl⟩
  (congr 2) <;> omega
theorem skew57 (x : Int) (h0 : -3000 ≤ x) (h1 : x ≤ 3000) (w : World) : Calls Tryd.prog 120 #[.int .i64 x] w fun e w' => e = .returned (.int .i64 ((x * 631305 - 261663) / 2097152)) ∧ w' = w := by
  go_enter Tryd.func120, Tryd.ntmps120
  go_wp2
  go_ret
  refine ⟨?_, rfl⟩
  (congr 2) <;> omega
theorem l2_59 (x : Int) (h0 : -3000 ≤ x) (h1 : x ≤ 3000) (w : World) : Calls Tryd.prog 122 #[.int .i64 x] w fun e w' => e = .returned (.int .i64 (x * 108853 / 32768)) ∧ w' = w := by
  go_enter Tryd.func122, Tryd.ntmps122
  go_wp2
  go_ret
  refine ⟨?_, rfl⟩
  (congr 2) <;> omega
theorem b2u78 (q : Bool) (w : World) : Calls Tryd.prog 149 #[.bool q] w fun e w' => e = .returned (.int .u64 (if q then 1 else 0)) ∧ w' = w := by
  cases q <;> (
  go_enter Tryd.func149, Tryd.ntmps149
  go_wp2
  go_ret
  exact ⟨rfl, rfl⟩)
/-- unrounded's methods, as they come. -/
theorem nudge61 (u z : Int) (w : World) : Calls Tryd.prog 124 #[.int .u64 u, .int .i64 z] w fun e w' => e = .returned (.int .u64 (IntKind.u64.wrap (u + IntKind.u64.wrap z))) ∧ w' = w := by
  go_enter Tryd.func124, Tryd.ntmps124
  go_wp2
  go_ret
  exact ⟨rfl, rfl⟩
theorem ceil62 (u : Int) (w : World) : Calls Tryd.prog 125 #[.int .u64 u] w fun e w' => e = .returned (.int .u64 (IntKind.u64.wrap (u + 3) / 4)) ∧ w' = w := by
  go_enter Tryd.func125, Tryd.ntmps125
  go_wp2
  go_ret
  exact ⟨rfl, rfl⟩
theorem floor63 (u : Int) (w : World) : Calls Tryd.prog 126 #[.int .u64 u] w fun e w' => e = .returned (.int .u64 (IntKind.u64.wrap u / 4)) ∧ w' = w := by
  go_enter Tryd.func126, Tryd.ntmps126
  go_wp2
  go_ret
  exact ⟨rfl, rfl⟩
theorem round64 (u : Int) (w : World) : Calls Tryd.prog 127 #[.int .u64 u] w fun e w' => e = .returned (.int .u64 (IntKind.u64.wrap (IntKind.u64.wrap (u + 1) + bits .and .u64 (u / 4) 1) / 4)) ∧ w' = w := by
  go_enter Tryd.func127, Tryd.ntmps127
  go_wp2
  go_ret
  exact ⟨rfl, rfl⟩
end Go.Proofs.YtpjbdejgamajlabDoor

/- A region that draws its order, by an invariant: one step for each operation, whatever the order. -/
namespace Go.Proofs.YtpjbdejgamajlabDoor
open Go.RowKit

/-- The frame with the operations' values in their slots. -/
def actOf : List Oper → (Nat → Value) → Nat → Act → Act
  | [], _, _, a => a
  | o :: r, x, i, a => (actOf r x (i + 1) a).put o.dst (x i)
def setL (L : Nat → Bool) (i : Nat) : Nat → Bool := fun j => if j = i then true else L j
def updV (x : Nat → Value) (i : Nat) (v : Value) : Nat → Value := fun j => if j = i then v else x j
/-- What an operation waits for. -/
def predsOf (o : Oper) : List Nat := (o.after.toList.filter fun e => Region.binds .any e).map (·.on)
def AllL (L : Nat → Bool) : List Nat → Prop
  | [] => True
  | j :: r => L j = true ∧ AllL L r
theorem allL_of {L : Nat → Bool} : ∀ {l : List Nat}, (∀ j ∈ l, L j = true) → AllL L l
  | [], _ => trivial
  | j :: _, h => ⟨h j (List.mem_cons_self ..), allL_of (fun k hk => h k (List.mem_cons_of_mem _ hk))⟩
/-- Each slot is written by one operation, and is there. -/
def dstsOk : List Oper → Nat → Bool
  | [], _ => true
  | o :: r, n => (match o.dst with
    | some d => decide (d < n) && r.all fun q => q.dst != some d
    | none => true) && dstsOk r n
theorem put_same (a : Act) (d : Nat) (v u : Value) : (a.put (some d) v).put (some d) u = a.put (some d) u := by
  simp [Act.put, Array.setIfInBounds_setIfInBounds]
theorem actOf_put : ∀ (l : List Oper) (n : Nat) (x : Nat → Value) (k : Nat) (a : Act), dstsOk l n = true → ∀ (i : Nat) (o : Oper), l[i]? = some o → ∀ v, (actOf l x k a).put o.dst v = actOf l (updV x (k + i) v) k a
  | [], _, _, _, _, _, i, o, h, _ => by simp at h
  | p :: r, n, x, k, a, hd, i, o, h, v => by
    simp only [dstsOk, Bool.and_eq_true] at hd
    match i, h with
    | 0, h =>
      obtain rfl : p = o := Option.some.inj h
      have hrest : ∀ (l : List Oper) (m : Nat), k < m → actOf l (updV x k v) m a = actOf l x m a := by
        intro l
        induction l with
        | nil => intro m _; rfl
        | cons q l ih =>
          intro m hm
          simp only [actOf, ih (m + 1) (by omega)]
          rw [show updV x k v m = x m from if_neg (by omega)]
      simp only [actOf, Nat.add_zero, hrest r (k + 1) (by omega)]
      rw [show updV x k v k = v from if_pos rfl]
      cases hp : p.dst with
      | none => rfl
      | some d => exact put_same _ _ _ _
    | i + 1, h =>
      have h' : r[i]? = some o := h
      have ih := actOf_put r n x (k + 1) a hd.2 i o h' v
      simp only [actOf]
      rw [show updV x (k + (i + 1)) v k = x k from if_neg (by omega), show k + (i + 1) = k + 1 + i by omega, ← ih]
      refine (Act.put_comm _ _ _ fun d hdd => ?_)
      have := hd.1
      rw [hdd] at this
      simp only [Bool.and_eq_true, List.all_eq_true] at this
      have := this.2 o (List.mem_of_getElem? h')
      simpa using this
/-- The values at the start. -/
def valsAt (l : List Oper) (a : Act) (i : Nat) : Value :=
  match l[i]? with
  | some o => match o.dst with
    | some d => a.tmps.getD d undef
    | none => undef
  | none => undef
theorem actOf_self : ∀ (l : List Oper) (x : Nat → Value) (k : Nat) (a : Act), dstsOk l a.tmps.size = true → (∀ i, x (k + i) = valsAt l a i) → actOf l x k a = a
  | [], _, _, _, _, _ => rfl
  | o :: r, x, k, a, hd, hx => by
    simp only [dstsOk, Bool.and_eq_true] at hd
    simp only [actOf]
    rw [actOf_self r x (k + 1) a hd.2 (fun i => by rw [show k + 1 + i = k + (i + 1) by omega, hx (i + 1)]; rfl)]
    have h0 := hx 0
    cases ho : o.dst with
    | none => rfl
    | some d =>
      have hlt := hd.1
      rw [ho] at hlt
      simp only [Bool.and_eq_true, decide_eq_true_eq] at hlt
      simp only [valsAt, List.getElem?_cons_zero, ho, Nat.add_zero] at h0
      rw [h0]
      simp only [Act.put]
      congr 1
      apply Array.ext
      · simp
      · intro j h1 h2
        rw [Array.getElem_setIfInBounds]
        split
        · rename_i e; subst e; simp [Array.getD, hlt.1]
        · rfl

/-- Each operation waits for earlier ones alone. -/
def edgesDown : List Oper → Nat → Bool
  | [], _ => true
  | o :: r, i => (predsOf o).all (fun j => decide (j < i)) && edgesDown r (i + 1)
theorem edgesDown_at : ∀ {l : List Oper} {k i : Nat} {o : Oper}, edgesDown l k = true → l[i]? = some o → ∀ j ∈ predsOf o, j < k + i
  | [], _, i, _, _, h, _, _ => by simp at h
  | p :: r, k, i, o, hd, h, j, hj => by
    simp only [edgesDown, Bool.and_eq_true, List.all_eq_true, decide_eq_true_eq] at hd
    match i, h with
    | 0, h => obtain rfl : p = o := Option.some.inj h; exact hd.1 j hj
    | i + 1, h => have := edgesDown_at hd.2 (show r[i]? = some o from h) j hj; omega
theorem listed_preds {ops : Array Oper} {listed : Array Bool} {i : Nat} {o : Oper} (hi : i ∈ Region.ready .any ops listed) (ho : ops[i]? = some o) : AllL (fun j => listed.getD j false) (predsOf o) := by
  obtain ⟨_, o', ho', hall⟩ := mem_ready.1 hi
  obtain rfl : o = o' := Option.some.inj (ho.symm.trans ho')
  refine allL_of fun j hj => ?_
  simp only [predsOf, List.mem_map, List.mem_filter, Array.mem_toList_iff] at hj
  obtain ⟨e, ⟨he, hb⟩, rfl⟩ := hj
  exact hall e he hb
theorem ready_nil {ops : Array Oper} {listed : Array Bool} (hd : edgesDown ops.toList 0 = true) (hs : listed.size = ops.size) (h : Region.ready .any ops listed = []) : ∀ i, i < ops.size → listed.getD i false = true := by
  intro i
  induction i using Nat.strongRecOn with
  | ind i ih =>
    intro hi
    cases hl : listed.getD i false with
    | true => rfl
    | false =>
      have hm : i ∈ Region.ready .any ops listed := by
        refine mem_ready.2 ⟨?_, ops[i], by simp [hi], fun e he hb => ?_⟩
        · simpa [Array.getD, hs, hi] using hl
        · have hlt := edgesDown_at (i := i) (o := ops[i]) hd (by simp [hi]) e.on (by
            simp only [predsOf, List.mem_map, List.mem_filter, Array.mem_toList_iff]
            exact ⟨e, ⟨he, hb⟩, rfl⟩)
          exact ih e.on (by omega) (by omega)
      rw [h] at hm
      cases hm

section
variable {P : Program} {ops : Array Oper} {Q : Exit → Act → World → Prop}

/-- Any order, by an invariant over what is listed, the values, and the world. -/
theorem wpAny_inv (a : Act) (n : Nat) (hn : dstsOk ops.toList n = true) (hd : edgesDown ops.toList 0 = true) (I : (Nat → Bool) → (Nat → Value) → World → Prop)
    (hstep : ∀ (i : Nat) (o : Oper), ops[i]? = some o → ∀ (L : Nat → Bool) (x : Nat → Value) (w : World), I L x w → L i = false → AllL L (predsOf o) →
      ∀ K : Act → World → Prop, Shut (∀ v w', I (setL L i) (updV x i v) w' → K ((actOf ops.toList x 0 a).put o.dst v) w') →
        if Region.wanted o (yielded ops (actOf ops.toList x 0 a).tmps) = true then o.wp P (actOf ops.toList x 0 a) w K Q else K ((actOf ops.toList x 0 a).put o.dst undef) w)
    (hfin : ∀ (L : Nat → Bool) (x : Nat → Value) (w : World), I L x w → (∀ i, i < ops.size → L i = true) → Q .normal (actOf ops.toList x 0 a) w) :
    ∀ (fuel : Nat) (listed : Array Bool) (x : Nat → Value) (w : World), listed.size = ops.size → I (fun i => listed.getD i false) x w →
      (∃ l : List Nat, l.length ≤ fuel ∧ ∀ i, i < ops.size → listed.getD i false = false → i ∈ l) →
      wpAny P .any ops Q fuel listed (actOf ops.toList x 0 a) w
  | 0, listed, x, w, hs, hI, ⟨l, hl, hc⟩ => by
    obtain rfl : l = [] := List.eq_nil_of_length_eq_zero (by omega)
    have hall : ∀ i, i < ops.size → listed.getD i false = true := fun i hi => by
      cases h : listed.getD i false with
      | true => rfl
      | false => have := hc i hi h; cases this
    refine ⟨?_, hfin _ x w hI hall⟩
    cases hr : Region.ready .any ops listed with
    | nil => rfl
    | cons j r =>
      have hj : j ∈ Region.ready .any ops listed := by rw [hr]; exact List.mem_cons_self ..
      obtain ⟨h1, o, ho, _⟩ := mem_ready.1 hj
      have hlt : j < ops.size := by
        rcases Nat.lt_or_ge j ops.size with h | h
        · exact h
        · rw [Array.getElem?_eq_none h] at ho; cases ho
      have h2 := hall j hlt
      simp [Array.getD, hs, hlt] at h1 h2
      rw [h2] at h1
      cases h1
  | fuel + 1, listed, x, w, hs, hI, ⟨l, hl, hc⟩ => by
    refine ⟨fun h => hfin _ x w hI (ready_nil hd hs h), fun i hi => ?_⟩
    obtain ⟨h1, o, ho, _⟩ := mem_ready.1 hi
    have hlt : i < ops.size := by
      rcases Nat.lt_or_ge i ops.size with h | h
      · exact h
      · rw [Array.getElem?_eq_none h] at ho; cases ho
    have h1' : listed.getD i false = false := by simp [Array.getD, hs, hlt] at h1 ⊢; exact h1
    refine wpOp_step ho (fun K hK => hstep i o ho _ x w hI h1' (listed_preds hi ho) K (fun v w' hI' => ?_))
    refine hK _ _ ?_
    rw [actOf_put ops.toList n x 0 a hn i o (by simpa using ho) v, Nat.zero_add]
    have hset : (fun j => (listed.setIfInBounds i true).getD j false) = setL (fun j => listed.getD j false) i := by
      funext j
      unfold setL
      by_cases e : j = i
      · subst e; rw [if_pos rfl]; simp [Array.getD, hs, hlt]
      · rw [if_neg e]
        simp only [Array.getD_eq_getD_getElem?, Array.getElem?_setIfInBounds_ne (Ne.symm e)]
    refine wpAny_inv a n hn hd I hstep hfin fuel _ _ w' (by simpa using hs) (by rw [hset]; exact hI') ⟨l.erase i, ?_, fun j hj hjl => ?_⟩
    · rw [List.length_erase_of_mem (hc i hlt h1')]; omega
    · have hji : j ≠ i := by
        rintro rfl
        simp [Array.getD, hs, hlt] at hjl
      have : listed.getD j false = false := by
        rw [Array.getD_eq_getD_getElem?, Array.getElem?_setIfInBounds_ne (Ne.symm hji), ← Array.getD_eq_getD_getElem?] at hjl
        exact hjl
      exact (List.mem_erase_of_ne hji).2 (hc j hj this)

/-- One goal for each operation. -/
def StepsAll (P : Program) (ops : Array Oper) (Q : Exit → Act → World → Prop) (a : Act) (I : (Nat → Bool) → (Nat → Value) → World → Prop) : List Oper → Nat → Prop
  | [], _ => True
  | o :: r, i => (∀ (L : Nat → Bool) (x : Nat → Value) (w : World), I L x w → L i = false → AllL L (predsOf o) →
      ∀ K : Act → World → Prop, Shut (∀ v w', I (setL L i) (updV x i v) w' → K ((actOf ops.toList x 0 a).put o.dst v) w') →
        if Region.wanted o (yielded ops (actOf ops.toList x 0 a).tmps) = true then o.wp P (actOf ops.toList x 0 a) w K Q else K ((actOf ops.toList x 0 a).put o.dst undef) w) ∧ StepsAll P ops Q a I r (i + 1)
theorem stepsAll_at {a : Act} {I : (Nat → Bool) → (Nat → Value) → World → Prop} : ∀ {l : List Oper} {k : Nat}, StepsAll P ops Q a I l k → ∀ (i : Nat) (o : Oper), l[i]? = some o → ∀ (L : Nat → Bool) (x : Nat → Value) (w : World), I L x w → L (k + i) = false → AllL L (predsOf o) →
      ∀ K : Act → World → Prop, Shut (∀ v w', I (setL L (k + i)) (updV x (k + i) v) w' → K ((actOf ops.toList x 0 a).put o.dst v) w') →
        if Region.wanted o (yielded ops (actOf ops.toList x 0 a).tmps) = true then o.wp P (actOf ops.toList x 0 a) w K Q else K ((actOf ops.toList x 0 a).put o.dst undef) w
  | [], _, _, i, _, h => by simp at h
  | p :: r, k, hs, 0, o, h => by
    obtain rfl : p = o := Option.some.inj h
    exact hs.1
  | p :: r, k, hs, i + 1, o, h => by
    have := stepsAll_at hs.2 i o h
    rw [show k + 1 + i = k + (i + 1) by omega] at this
    exact this

/-- The region. -/
theorem region_inv {id : Nat} {a : Act} {w : World} (I : (Nat → Bool) → (Nat → Value) → World → Prop) (hm : P.follows .mixedOrders = true)
    (hn : dstsOk ops.toList a.tmps.size = true) (hd : edgesDown ops.toList 0 = true) (h0 : I (fun _ => false) (valsAt ops.toList a) w.drew)
    (hstep : StepsAll P ops Q a I ops.toList 0)
    (hfin : ∀ (L : Nat → Bool) (x : Nat → Value) (w : World), I L x w → (∀ i, i < ops.size → L i = true) → Q .normal (actOf ops.toList x 0 a) w) : (Code.region id ops true).wp P Q a w := by
  refine wp_region_any hm ?_
  have hself := actOf_self ops.toList (valsAt ops.toList a) 0 a hn (fun i => by rw [Nat.zero_add])
  have hL : (fun i => (Array.replicate ops.size false).getD i false) = fun _ => false := by
    funext i
    simp [Array.getD]
  have := wpAny_inv (P := P) (ops := ops) (Q := Q) a _ hn hd I (fun i o ho => by have := stepsAll_at hstep i o (by simpa using ho); rwa [Nat.zero_add] at this) hfin ops.size (Array.replicate ops.size false) (valsAt ops.toList a) w.drew (by simp) (by rw [hL]; exact h0) ⟨List.range ops.size, by simp, fun i hi _ => by simpa using hi⟩
  rw [hself] at this
  exact this

/-- The values of the operations that have come up. -/
def Holds (L : Nat → Bool) (x : Nat → Value) : List Value → Nat → Prop
  | [], _ => True
  | v :: r, i => (L i = true → x i = v) ∧ Holds L x r (i + 1)
theorem Holds.none (x : Nat → Value) : ∀ (vs : List Value) (k : Nat), Holds (fun _ => false) x vs k
  | [], _ => trivial
  | _ :: r, k => ⟨fun h => (by cases h), Holds.none x r (k + 1)⟩
theorem Holds.step {L : Nat → Bool} {x : Nat → Value} {i : Nat} {v : Value} : ∀ {vs : List Value} {k : Nat}, Holds L x vs k → (∀ j u, vs[j]? = some u → k + j = i → u = v) → Holds (setL L i) (updV x i v) vs k
  | [], _, _, _ => trivial
  | u :: r, k, h, hv => by
    refine ⟨fun hl => ?_, h.2.step fun j u' hj hk => hv (j + 1) u' hj (by omega)⟩
    by_cases e : k = i
    · subst e
      rw [hv 0 u rfl rfl]
      exact if_pos rfl
    · have h1 : L k = true := by rw [← hl]; exact (if_neg e).symm
      rw [← h.1 h1]
      exact if_neg e
/-- One goal for each operation, where the values are determined. -/
def StepsD (P : Program) (ops : Array Oper) (Q : Exit → Act → World → Prop) (a : Act) (vals : List Value) (S : (Nat → Bool) → World → Prop) : List Oper → Nat → Prop
  | [], _ => True
  | o :: r, i => (∀ (L : Nat → Bool) (x : Nat → Value) (w : World), Holds L x vals 0 → S L w → L i = false → AllL L (predsOf o) →
      ∀ K : Act → World → Prop, Shut (∀ w', S (setL L i) w' → K ((actOf ops.toList x 0 a).put o.dst (vals.getD i undef)) w') →
        if Region.wanted o (yielded ops (actOf ops.toList x 0 a).tmps) = true then o.wp P (actOf ops.toList x 0 a) w K Q else K ((actOf ops.toList x 0 a).put o.dst undef) w) ∧ StepsD P ops Q a vals S r (i + 1)
theorem stepsAll_of_det {a : Act} {vals : List Value} {S : (Nat → Bool) → World → Prop} : ∀ (l : List Oper) (k : Nat), StepsD P ops Q a vals S l k → StepsAll P ops Q a (fun L x w => Holds L x vals 0 ∧ S L w) l k
  | [], _, _ => trivial
  | o :: r, k, h => ⟨fun L x w ⟨hv, hS⟩ hl hp K hK => h.1 L x w hv hS hl hp K (fun w' hS' => hK _ w' ⟨hv.step fun j u hj e => by
      rw [Nat.zero_add] at e
      subst e
      rw [List.getD_eq_getElem?_getD, hj]; rfl, hS'⟩), stepsAll_of_det r (k + 1) h.2⟩
theorem Holds.at {L : Nat → Bool} {x : Nat → Value} : ∀ {vs : List Value} {k : Nat}, Holds L x vs k → ∀ (i : Nat) (v : Value), vs[i]? = some v → L (k + i) = true → x (k + i) = v
  | [], _, _, _, _, h, _ => by simp at h
  | u :: r, k, h, 0, v, hi, hl => by obtain rfl : u = v := Option.some.inj hi; exact h.1 hl
  | u :: r, k, h, i + 1, v, hi, hl => by
    have := h.2.at i v hi
    rw [show k + 1 + i = k + (i + 1) by omega] at this
    exact this hl
theorem actOf_congr {x y : Nat → Value} {a : Act} : ∀ (l : List Oper) (k : Nat), (∀ i, i < l.length → x (k + i) = y (k + i)) → actOf l x k a = actOf l y k a
  | [], _, _ => rfl
  | o :: r, k, h => by
    simp only [actOf]
    have h0 : ∀ i, i < r.length → x (k + 1 + i) = y (k + 1 + i) := fun i hi => by
      have h3 := h (i + 1) (Nat.succ_lt_succ hi)
      rw [show k + (i + 1) = k + 1 + i by omega] at h3
      exact h3
    have h1 := actOf_congr (a := a) r (k + 1) h0
    have h2 : x k = y k := h 0 (by simp)
    rw [h1, h2]
/-- The region, where the values are determined. -/
theorem region_det {id : Nat} {a : Act} {w : World} (vals : List Value) (S : (Nat → Bool) → World → Prop) (hm : P.follows .mixedOrders = true)
    (hn : dstsOk ops.toList a.tmps.size = true) (hd : edgesDown ops.toList 0 = true) (hl : vals.length = ops.size) (h0 : S (fun _ => false) w.drew)
    (hstep : StepsD P ops Q a vals S ops.toList 0)
    (hfin : ∀ (L : Nat → Bool) (w : World), S L w → (∀ i, i < ops.size → L i = true) → Q .normal (actOf ops.toList (fun i => vals.getD i undef) 0 a) w) : (Code.region id ops true).wp P Q a w := by
  refine region_inv (fun L x w => Holds L x vals 0 ∧ S L w) hm hn hd ⟨Holds.none _ _ _, h0⟩ (stepsAll_of_det _ _ hstep) fun L x w ⟨hv, hS⟩ hL => ?_
  have he : actOf ops.toList x 0 a = actOf ops.toList (fun i => vals.getD i undef) 0 a := by
    refine actOf_congr _ _ fun i hi => ?_
    have hi' : i < ops.size := by simpa using hi
    have hiv : vals[i]? = some (vals.getD i undef) := by rw [List.getD_eq_getElem?_getD, List.getElem?_eq_getElem (by omega)]; rfl
    have := hv.at i _ hiv (by rw [Nat.zero_add]; exact hL i hi')
    rw [Nat.zero_add] at this ⊢
    exact this
  rw [he]
  exact hfin L w hS hL

def pickV : Bool → Option Value → Value → Value
  | true, some v, _ => v
  | _, _, u => u
/-- The frame: what is determined and has surely come up stands in its slot. -/
def actMix : List Oper → List Bool → List (Option Value) → (Nat → Value) → Nat → Act → Act
  | [], _, _, _, _, a => a
  | o :: r, bs, vs, x, i, a => (actMix r bs.tail vs.tail x (i + 1) a).put o.dst (pickV (bs.headD false) (vs.headD none) (x i))
theorem actMix_eq {x : Nat → Value} {a : Act} : ∀ (l : List Oper) (bs : List Bool) (vs : List (Option Value)) (k : Nat), (∀ i v, bs[i]? = some true → vs[i]? = some (some v) → x (k + i) = v) → actMix l bs vs x k a = actOf l x k a
  | [], _, _, _, _ => rfl
  | o :: r, bs, vs, k, h => by
    simp only [actMix, actOf]
    have h1 := actMix_eq (x := x) (a := a) r bs.tail vs.tail (k + 1) (fun i v hb hv => by
      have h3 := h (i + 1) v (by cases bs <;> simp at hb ⊢; exact hb) (by cases vs <;> simp at hv ⊢; exact hv)
      rw [show k + (i + 1) = k + 1 + i by omega] at h3
      exact h3)
    have h2 : pickV (bs.headD false) (vs.headD none) (x k) = x k := by
      cases bs with
      | nil => rfl
      | cons b bs =>
        cases vs with
        | nil => cases b <;> rfl
        | cons v vs =>
          cases b with
          | false => rfl
          | true =>
            cases v with
            | none => rfl
            | some v => exact (h 0 v rfl rfl).symm
    rw [h1, h2]
/-- The masks: who has surely come up ahead of each operation. -/
def masksOf (ops : List Oper) (l : List Oper) : List (List Bool) := l.map fun o => (List.range ops.length).map fun j => (predsOf o).contains j
/-- One goal for each operation. -/
def StepsM (P : Program) (ops : Array Oper) (Q : Exit → Act → World → Prop) (a : Act) (vals : List (Option Value)) (S : (Nat → Bool) → (Nat → Value) → World → Prop) : List Oper → List (List Bool) → List (Option Value) → Nat → Prop
  | [], _, _, _ => True
  | o :: r, m :: ms, some v :: vs, i => (∀ (L : Nat → Bool) (x : Nat → Value) (w : World), S L x w → L i = false → AllL L (predsOf o) →
      ∀ K : Act → World → Prop, Shut (∀ w', S (setL L i) (updV x i v) w' → K ((actMix ops.toList m vals x 0 a).put o.dst v) w') →
        if Region.wanted o (yielded ops (actMix ops.toList m vals x 0 a).tmps) = true then o.wp P (actMix ops.toList m vals x 0 a) w K Q else K ((actMix ops.toList m vals x 0 a).put o.dst undef) w) ∧ StepsM P ops Q a vals S r ms vs (i + 1)
  | o :: r, m :: ms, none :: vs, i => (∀ (L : Nat → Bool) (x : Nat → Value) (w : World), S L x w → L i = false → AllL L (predsOf o) →
      ∀ K : Act → World → Prop, Shut (∀ v w', S (setL L i) (updV x i v) w' → K ((actMix ops.toList m vals x 0 a).put o.dst v) w') →
        if Region.wanted o (yielded ops (actMix ops.toList m vals x 0 a).tmps) = true then o.wp P (actMix ops.toList m vals x 0 a) w K Q else K ((actMix ops.toList m vals x 0 a).put o.dst undef) w) ∧ StepsM P ops Q a vals S r ms vs (i + 1)
  | _, _, _, _ => False
def HoldsM (L : Nat → Bool) (x : Nat → Value) (vals : List (Option Value)) : Prop := ∀ i v, vals[i]? = some (some v) → L i = true → x i = v
theorem HoldsM.step {L : Nat → Bool} {x : Nat → Value} {vals : List (Option Value)} {i : Nat} {v : Value} (h : HoldsM L x vals) (hv : ∀ u, vals[i]? = some (some u) → u = v) : HoldsM (setL L i) (updV x i v) vals := fun j u hj hl => by
  by_cases e : j = i
  · subst e
    rw [hv u hj]
    exact if_pos rfl
  · have h1 : L j = true := by rw [← hl]; exact (if_neg e).symm
    rw [← h j u hj h1]
    exact if_neg e
theorem mask_eq {x : Nat → Value} {a : Act} {vals : List (Option Value)} {L : Nat → Bool} {o : Oper} {m : List Bool} {l : List Oper} (hh : HoldsM L x vals) (hp : ∀ j ∈ predsOf o, L j = true) (hm : m = (List.range l.length).map fun j => (predsOf o).contains j) : actMix l m vals x 0 a = actOf l x 0 a := by
  refine actMix_eq _ _ _ _ fun i v hb hv => ?_
  rw [Nat.zero_add]
  refine hh i v hv (hp i ?_)
  rw [hm, List.getElem?_map, Option.map_eq_some_iff] at hb
  obtain ⟨k, hk, hc⟩ := hb
  obtain ⟨h1, h2⟩ := List.getElem?_eq_some_iff.1 hk
  rw [List.getElem_range] at h2
  subst h2
  simpa using hc
theorem allL_mem {L : Nat → Bool} : ∀ {l : List Nat}, AllL L l → ∀ j ∈ l, L j = true
  | [], _, j, hj => by cases hj
  | k :: r, h, j, hj => by
    rcases List.mem_cons.1 hj with rfl | hj
    · exact h.1
    · exact allL_mem h.2 j hj
theorem stepsAll_of_mix {a : Act} {vals : List (Option Value)} {S : (Nat → Bool) → (Nat → Value) → World → Prop} : ∀ (l : List Oper) (ms : List (List Bool)) (vs : List (Option Value)) (k : Nat), ms = masksOf ops.toList l → (∀ i, vs[i]? = vals[k + i]?) →
    StepsM P ops Q a vals S l ms vs k → StepsAll P ops Q a (fun L x w => HoldsM L x vals ∧ S L x w) l k
  | [], _, _, _, _, _, _ => trivial
  | o :: r, m :: ms, some v :: vs, k, hm, hv, h => by
    simp only [masksOf, List.map_cons, List.cons.injEq] at hm
    refine ⟨fun L x w ⟨hh, hS⟩ hl hp K hK => ?_, stepsAll_of_mix r ms vs (k + 1) hm.2 (fun i => by have := hv (i + 1); rw [show k + (i + 1) = k + 1 + i by omega] at this; exact this) h.2⟩
    have he := mask_eq (a := a) hh (allL_mem hp) hm.1
    have := h.1 L x w hS hl hp K
    rw [he] at this
    refine this fun w' hS' => hK _ w' ⟨hh.step fun u hu => ?_, hS'⟩
    have h0 := hv 0
    rw [Nat.add_zero, hu] at h0
    exact (Option.some.inj (Option.some.inj h0)).symm
  | o :: r, m :: ms, none :: vs, k, hm, hv, h => by
    simp only [masksOf, List.map_cons, List.cons.injEq] at hm
    refine ⟨fun L x w ⟨hh, hS⟩ hl hp K hK => ?_, stepsAll_of_mix r ms vs (k + 1) hm.2 (fun i => by have := hv (i + 1); rw [show k + (i + 1) = k + 1 + i by omega] at this; exact this) h.2⟩
    have he := mask_eq (a := a) hh (allL_mem hp) hm.1
    have := h.1 L x w hS hl hp K
    rw [he] at this
    refine this fun v w' hS' => hK _ w' ⟨hh.step fun u hu => ?_, hS'⟩
    have h0 := hv 0
    rw [Nat.add_zero, hu] at h0
    cases h0
  | _ :: _, [], _, _, _, _, h => h.elim
  | _ :: _, _ :: _, [], _, _, _, h => h.elim
/-- The region: what is determined stands in the list, of the rest S speaks. -/
theorem region_mix {id : Nat} {a : Act} {w : World} (vals : List (Option Value)) (masks : List (List Bool)) (S : (Nat → Bool) → (Nat → Value) → World → Prop) (hm : P.follows .mixedOrders = true)
    (hn : dstsOk ops.toList a.tmps.size = true) (hd : edgesDown ops.toList 0 = true) (hk : masks = masksOf ops.toList ops.toList) (h0 : ∀ x, S (fun _ => false) x w.drew)
    (hstep : StepsM P ops Q a vals S ops.toList masks vals 0)
    (hfin : ∀ (L : Nat → Bool) (x : Nat → Value) (w : World), S L x w → (∀ i, i < ops.size → L i = true) → Q .normal (actMix ops.toList (List.replicate ops.size true) vals x 0 a) w) : (Code.region id ops true).wp P Q a w := by
  refine region_inv (fun L x w => HoldsM L x vals ∧ S L x w) hm hn hd ⟨fun i v _ hl => (by cases hl), h0 _⟩ (stepsAll_of_mix _ _ _ _ hk (fun i => by rw [Nat.zero_add]) hstep) fun L x w ⟨hh, hS⟩ hL => ?_
  have he : actMix ops.toList (List.replicate ops.size true) vals x 0 a = actOf ops.toList x 0 a := by
    refine actMix_eq _ _ _ _ fun i v hb hv => ?_
    rw [Nat.zero_add]
    refine hh i v hv (hL i ?_)
    obtain ⟨h1, _⟩ := List.getElem?_eq_some_iff.1 hb
    simpa using h1
  rw [← he]
  exact hfin L x w hS hL
end
end Go.Proofs.YtpjbdejgamajlabDoor

/- A region that draws its order, by an invariant over its first operations; the others, each of which waits for all before it, follow in their order. -/
namespace Go.Proofs.YtpjbdejgamajlabDoor
open Go.RowKit

section
variable {P : Program} {ops : Array Oper} {Q : Exit → Act → World → Prop}

theorem wpAny_act (hd : edgesDown ops.toList 0 = true) (I : (Nat → Bool) → Act → World → Prop)
    (hstep : ∀ (i : Nat) (o : Oper), ops[i]? = some o → ∀ (L : Nat → Bool) (a : Act) (w : World), I L a w → L i = false → AllL L (predsOf o) → wpOp P ops Q i (fun a' w' => I (setL L i) a' w') a w)
    (hfin : ∀ (L : Nat → Bool) (a : Act) (w : World), I L a w → (∀ i, i < ops.size → L i = true) → Q .normal a w) :
    ∀ (fuel : Nat) (listed : Array Bool) (a : Act) (w : World), listed.size = ops.size → I (fun i => listed.getD i false) a w →
      (∃ l : List Nat, l.length ≤ fuel ∧ ∀ i, i < ops.size → listed.getD i false = false → i ∈ l) → wpAny P .any ops Q fuel listed a w
  | 0, listed, a, w, hs, hI, ⟨l, hl, hc⟩ => by
    obtain rfl : l = [] := List.eq_nil_of_length_eq_zero (by omega)
    have hall : ∀ i, i < ops.size → listed.getD i false = true := fun i hi => by
      cases h : listed.getD i false with
      | true => rfl
      | false => have := hc i hi h; cases this
    refine ⟨?_, hfin _ a w hI hall⟩
    cases hr : Region.ready .any ops listed with
    | nil => rfl
    | cons j r =>
      have hj : j ∈ Region.ready .any ops listed := by rw [hr]; exact List.mem_cons_self ..
      obtain ⟨h1, o, ho, _⟩ := mem_ready.1 hj
      have hlt : j < ops.size := by
        rcases Nat.lt_or_ge j ops.size with h | h
        · exact h
        · rw [Array.getElem?_eq_none h] at ho; cases ho
      have h2 := hall j hlt
      simp [Array.getD, hs, hlt] at h1 h2
      rw [h2] at h1
      cases h1
  | fuel + 1, listed, a, w, hs, hI, ⟨l, hl, hc⟩ => by
    refine ⟨fun h => hfin _ a w hI (ready_nil hd hs h), fun i hi => ?_⟩
    obtain ⟨h1, o, ho, _⟩ := mem_ready.1 hi
    have hlt : i < ops.size := by
      rcases Nat.lt_or_ge i ops.size with h | h
      · exact h
      · rw [Array.getElem?_eq_none h] at ho; cases ho
    have h1' : listed.getD i false = false := by simp [Array.getD, hs, hlt] at h1 ⊢; exact h1
    have hset : (fun j => (listed.setIfInBounds i true).getD j false) = setL (fun j => listed.getD j false) i := by
      funext j
      unfold setL
      by_cases e : j = i
      · subst e; rw [if_pos rfl]; simp [Array.getD, hs, hlt]
      · rw [if_neg e]
        simp only [Array.getD_eq_getD_getElem?, Array.getElem?_setIfInBounds_ne (Ne.symm e)]
    refine wpOp_mono (fun a' w' hI' => ?_) (hstep i o ho _ a w hI h1' (listed_preds hi ho))
    refine wpAny_act hd I hstep hfin fuel _ a' w' (by simpa using hs) (by rw [hset]; exact hI') ⟨l.erase i, ?_, fun j hj hjl => ?_⟩
    · rw [List.length_erase_of_mem (hc i hlt h1')]; omega
    · have hji : j ≠ i := by
        rintro rfl
        simp [Array.getD, hs, hlt] at hjl
      have : listed.getD j false = false := by
        rw [Array.getD_eq_getD_getElem?, Array.getElem?_setIfInBounds_ne (Ne.symm hji), ← Array.getD_eq_getD_getElem?] at hjl
        exact hjl
      exact (List.mem_erase_of_ne hji).2 (hc j hj this)

/-- The first behind so many waits for all before it, each later one for the one before it. -/
def tailOk : List Oper → Nat → Nat → Bool
  | [], _, _ => true
  | o :: r, i, n => (decide (i < n) || (if i = n then (List.range n).all (fun j => (predsOf o).contains j) else (predsOf o).contains (i - 1))) && tailOk r (i + 1) n
theorem tailOk_n {n : Nat} : ∀ {l : List Oper} {k i : Nat} {o : Oper}, tailOk l k n = true → l[i]? = some o → k + i = n → ∀ j, j < n → j ∈ predsOf o
  | [], _, i, _, _, h, _, _, _ => by simp at h
  | p :: r, k, i, o, ht, h, hn, j, hj => by
    simp only [tailOk, Bool.and_eq_true, Bool.or_eq_true, decide_eq_true_eq] at ht
    match i, h with
    | 0, h =>
      obtain rfl : p = o := Option.some.inj h
      rcases ht.1 with h1 | h1
      · omega
      · rw [if_pos (by omega)] at h1
        simp only [List.all_eq_true, List.mem_range] at h1
        simpa using h1 j hj
    | i + 1, h => exact tailOk_n ht.2 (show r[i]? = some o from h) (by omega) j (by omega)
theorem tailOk_s {n : Nat} : ∀ {l : List Oper} {k i : Nat} {o : Oper}, tailOk l k n = true → l[i]? = some o → n < k + i → k + i - 1 ∈ predsOf o
  | [], _, i, _, _, h, _ => by simp at h
  | p :: r, k, i, o, ht, h, hn => by
    simp only [tailOk, Bool.and_eq_true, Bool.or_eq_true, decide_eq_true_eq] at ht
    match i, h with
    | 0, h =>
      obtain rfl : p = o := Option.some.inj h
      rcases ht.1 with h1 | h1
      · omega
      · rw [if_neg (by omega)] at h1
        simpa using h1
    | i + 1, h =>
      have := tailOk_s ht.2 (show r[i]? = some o from h) (by omega)
      rwa [show k + (i + 1) - 1 = k + 1 + i - 1 by omega]
theorem wpList_op {k : Nat} {o : Oper} (ho : ops[k]? = some o) {rest : List Oper} {a : Act} {w : World} (h : wpList P ops Q (o :: rest) a w) : wpOp P ops Q k (wpList P ops Q rest) a w := by
  unfold wpOp
  simp only [ho]
  exact h
/-- One goal for each operation. -/
def StepsT (P : Program) (ops : Array Oper) (Q : Exit → Act → World → Prop) (a : Act) (hd : List Oper) (vals : List (Option Value)) (S : (Nat → Bool) → (Nat → Value) → World → Prop) : List Oper → List (List Bool) → List (Option Value) → Nat → Prop
  | [], _, _, _ => True
  | o :: r, m :: ms, some v :: vs, i => (∀ (L : Nat → Bool) (x : Nat → Value) (w : World), S L x w → L i = false → AllL L (predsOf o) →
      ∀ K : Act → World → Prop, Shut (∀ w', S (setL L i) (updV x i v) w' → K ((actMix hd m vals x 0 a).put o.dst v) w') →
        if Region.wanted o (yielded ops (actMix hd m vals x 0 a).tmps) = true then o.wp P (actMix hd m vals x 0 a) w K Q else K ((actMix hd m vals x 0 a).put o.dst undef) w) ∧ StepsT P ops Q a hd vals S r ms vs (i + 1)
  | o :: r, m :: ms, none :: vs, i => (∀ (L : Nat → Bool) (x : Nat → Value) (w : World), S L x w → L i = false → AllL L (predsOf o) →
      ∀ K : Act → World → Prop, Shut (∀ v w', S (setL L i) (updV x i v) w' → K ((actMix hd m vals x 0 a).put o.dst v) w') →
        if Region.wanted o (yielded ops (actMix hd m vals x 0 a).tmps) = true then o.wp P (actMix hd m vals x 0 a) w K Q else K ((actMix hd m vals x 0 a).put o.dst undef) w) ∧ StepsT P ops Q a hd vals S r ms vs (i + 1)
  | _, _, _, _ => False
def masksT (n : Nat) (l : List Oper) : List (List Bool) := l.map fun o => (List.range n).map fun j => (predsOf o).contains j
theorem stepsT_at {a : Act} {hd : List Oper} {vals : List (Option Value)} {S : (Nat → Bool) → (Nat → Value) → World → Prop} : ∀ (l : List Oper) (ms : List (List Bool)) (vs : List (Option Value)) (k : Nat), ms = masksT hd.length l → (∀ i, vs[i]? = vals[k + i]?) →
    StepsT P ops Q a hd vals S l ms vs k → ∀ (i : Nat) (o : Oper), l[i]? = some o → ∀ (L : Nat → Bool) (x : Nat → Value) (w : World), HoldsM L x vals ∧ S L x w → L (k + i) = false → AllL L (predsOf o) →
      ∀ K : Act → World → Prop, Shut (∀ v w', HoldsM (setL L (k + i)) (updV x (k + i) v) vals ∧ S (setL L (k + i)) (updV x (k + i) v) w' → K ((actOf hd x 0 a).put o.dst v) w') →
        if Region.wanted o (yielded ops (actOf hd x 0 a).tmps) = true then o.wp P (actOf hd x 0 a) w K Q else K ((actOf hd x 0 a).put o.dst undef) w
  | [], _, _, _, _, _, _, i, o, h => by simp at h
  | o :: r, m :: ms, some v :: vs, k, hm, hv, h, 0, p, hp0 => by
    obtain rfl : o = p := Option.some.inj hp0
    simp only [masksT, List.map_cons, List.cons.injEq] at hm
    intro L x w ⟨hh, hS⟩ hl hp K hK
    rw [Nat.add_zero] at hl hK
    have he := mask_eq (a := a) hh (allL_mem hp) hm.1
    have := h.1 L x w hS hl hp K
    rw [he] at this
    refine this fun w' hS' => hK _ w' ⟨hh.step fun u hu => ?_, hS'⟩
    have h0 := hv 0
    rw [Nat.add_zero, hu] at h0
    exact (Option.some.inj (Option.some.inj h0)).symm
  | o :: r, m :: ms, none :: vs, k, hm, hv, h, 0, p, hp0 => by
    obtain rfl : o = p := Option.some.inj hp0
    simp only [masksT, List.map_cons, List.cons.injEq] at hm
    intro L x w ⟨hh, hS⟩ hl hp K hK
    rw [Nat.add_zero] at hl hK
    have he := mask_eq (a := a) hh (allL_mem hp) hm.1
    have := h.1 L x w hS hl hp K
    rw [he] at this
    refine this fun v w' hS' => hK _ w' ⟨hh.step fun u hu => ?_, hS'⟩
    have h0 := hv 0
    rw [Nat.add_zero, hu] at h0
    cases h0
  | o :: r, m :: ms, some v :: vs, k, hm, hv, h, i + 1, p, hp0 => by
    simp only [masksT, List.map_cons, List.cons.injEq] at hm
    have := stepsT_at r ms vs (k + 1) hm.2 (fun i => by have := hv (i + 1); rw [show k + (i + 1) = k + 1 + i by omega] at this; exact this) h.2 i p hp0
    rw [show k + 1 + i = k + (i + 1) by omega] at this
    exact this
  | o :: r, m :: ms, none :: vs, k, hm, hv, h, i + 1, p, hp0 => by
    simp only [masksT, List.map_cons, List.cons.injEq] at hm
    have := stepsT_at r ms vs (k + 1) hm.2 (fun i => by have := hv (i + 1); rw [show k + (i + 1) = k + 1 + i by omega] at this; exact this) h.2 i p hp0
    rw [show k + 1 + i = k + (i + 1) by omega] at this
    exact this
  | _ :: _, [], _, _, _, _, h, _, _, _ => h.elim
  | _ :: _, _ :: _, [], _, _, _, h, _, _, _ => h.elim
def HeadS (P : Program) (ops : Array Oper) (Q : Exit → Act → World → Prop) (n : Nat) (a0 : Act) (vals : List (Option Value)) (S : (Nat → Bool) → (Nat → Value) → World → Prop) (L : Nat → Bool) (a : Act) (w : World) : Prop :=
  ((∀ i, n ≤ i → L i = false) ∧ ∃ x, a = actOf (ops.toList.take n) x 0 a0 ∧ HoldsM L x vals ∧ S L x w) ∨
  ∃ k, n ≤ k ∧ (∀ i, i < k → i < ops.size → L i = true) ∧ (∀ i, k ≤ i → L i = false) ∧ wpList P ops Q (ops.toList.drop k) a w

/-- The region. -/
theorem region_mixt {id : Nat} {a : Act} {w : World} (n : Nat) (vals : List (Option Value)) (masks : List (List Bool)) (S : (Nat → Bool) → (Nat → Value) → World → Prop) (hm : P.follows .mixedOrders = true)
    (hn : dstsOk (ops.toList.take n) a.tmps.size = true) (hd : edgesDown ops.toList 0 = true) (ht : tailOk ops.toList 0 n = true) (hk : masks = masksT n (ops.toList.take n)) (hnn : n ≤ ops.size) (h0 : ∀ x, S (fun _ => false) x w.drew)
    (hstep : StepsT P ops Q a (ops.toList.take n) vals S (ops.toList.take n) masks vals 0)
    (hfin : ∀ (L : Nat → Bool) (x : Nat → Value) (w : World), S L x w → (∀ i, i < n → L i = true) → wpList P ops Q (ops.toList.drop n) (actMix (ops.toList.take n) (List.replicate n true) vals x 0 a) w) : (Code.region id ops true).wp P Q a w := by
  refine wp_region_any hm ?_
  have hself := actOf_self (ops.toList.take n) (valsAt (ops.toList.take n) a) 0 a hn (fun i => by rw [Nat.zero_add])
  have hlen : (ops.toList.take n).length = n := by simp; omega
  have hL : (fun i => (Array.replicate ops.size false).getD i false) = fun _ => false := by
    funext i
    simp [Array.getD]
  refine wpAny_act (P := P) (ops := ops) (Q := Q) hd (HeadS P ops Q n a vals S) ?_ ?_ ops.size (Array.replicate ops.size false) a w.drew (by simp) ?_ ⟨List.range ops.size, by simp, fun i hi _ => by simpa using hi⟩
  · intro i o ho L a1 w1 hI hl hp
    have hol : ops.toList[i]? = some o := by simpa using ho
    have hlt : i < ops.size := by
      rcases Nat.lt_or_ge i ops.size with h | h
      · exact h
      · rw [Array.getElem?_eq_none h] at ho; cases ho
    have tail : ∀ k, n ≤ k → (∀ j, j < k → j < ops.size → L j = true) → (∀ j, k ≤ j → L j = false) → wpList P ops Q (ops.toList.drop k) a1 w1 → wpOp P ops Q i (fun a' w' => HeadS P ops Q n a vals S (setL L i) a' w') a1 w1 := by
      intro k hk1 hk2 hk3 hw
      have hik : k ≤ i := by
        rcases Nat.lt_or_ge i k with h | h
        · have := hk2 i h hlt
          rw [hl] at this
          cases this
        · exact h
      have hki : i = k := by
        rcases Nat.lt_or_ge k i with h | h
        · have h1 := allL_mem hp _ (tailOk_s ht hol (by omega))
          rw [hk3 _ (by omega)] at h1
          cases h1
        · omega
      subst hki
      have hdr : ops.toList.drop i = o :: ops.toList.drop (i + 1) := by
        rw [List.drop_eq_getElem_cons (by simpa using hlt)]
        congr 1
        have := List.getElem?_eq_some_iff.1 hol
        exact this.2
      rw [hdr] at hw
      refine wpOp_mono (fun a' w' h => ?_) (wpList_op ho hw)
      refine .inr ⟨i + 1, by omega, fun j hj hjs => ?_, fun j hj => ?_, h⟩
      · unfold setL
        by_cases e : j = i
        · rw [if_pos e]
        · rw [if_neg e]; exact hk2 j (by omega) hjs
      · unfold setL
        rw [if_neg (by omega)]
        exact hk3 j (by omega)
    rcases hI with ⟨hu, x, rfl, hh, hS⟩ | ⟨k, hk1, hk2, hk3, hw⟩
    · rcases Nat.lt_or_ge i n with hin | hin
      · have hti : (ops.toList.take n)[i]? = some o := by rw [List.getElem?_take, if_pos hin]; exact hol
        have hst := stepsT_at (ops.toList.take n) masks vals 0 (by rw [hlen]; exact hk) (fun i => by rw [Nat.zero_add]) hstep i o hti L x w1 ⟨hh, hS⟩ (by rw [Nat.zero_add]; exact hl) hp
        rw [Nat.zero_add] at hst
        refine wpOp_step ho (fun K hK => hst K (fun v w' ⟨hh', hS'⟩ => hK _ _ (.inl ⟨fun j hj => ?_, updV x i v, ?_, hh', hS'⟩)))
        · unfold setL
          rw [if_neg (by omega)]
          exact hu j hj
        · rw [actOf_put (ops.toList.take n) _ x 0 a hn i o hti v, Nat.zero_add]
      · have hin' : i = n := by
          rcases Nat.lt_or_ge n i with h | h
          · have h1 := allL_mem hp _ (tailOk_s ht hol (by omega))
            rw [hu _ (by omega)] at h1
            cases h1
          · omega
        have hall : ∀ j, j < i → L j = true := fun j hj => allL_mem hp j (tailOk_n ht hol (by omega) j (by omega))
        subst hin'
        have he : actMix (ops.toList.take i) (List.replicate i true) vals x 0 a = actOf (ops.toList.take i) x 0 a := by
          refine actMix_eq _ _ _ _ fun j v hb hv => ?_
          rw [Nat.zero_add]
          obtain ⟨h1, _⟩ := List.getElem?_eq_some_iff.1 hb
          exact hh j v hv (hall j (by simpa using h1))
        have hw := hfin L x w1 hS hall
        rw [he] at hw
        exact tail i (Nat.le_refl _) (fun j hj _ => hall j hj) hu hw
    · exact tail k hk1 hk2 hk3 hw
  · intro L a1 w1 hI hall
    rcases hI with ⟨hu, x, rfl, hh, hS⟩ | ⟨k, hk1, hk2, hk3, hw⟩
    · have hns : n = ops.size := by
        rcases Nat.lt_or_ge n ops.size with h | h
        · have h1 := hall n h
          rw [hu n (Nat.le_refl _)] at h1
          cases h1
        · omega
      have hw := hfin L x w1 hS (fun j hj => hall j (by omega))
      have he : actMix (ops.toList.take n) (List.replicate n true) vals x 0 a = actOf (ops.toList.take n) x 0 a := by
        refine actMix_eq _ _ _ _ fun j v hb hv => ?_
        rw [Nat.zero_add]
        obtain ⟨h1, _⟩ := List.getElem?_eq_some_iff.1 hb
        exact hh j v hv (hall j (by have : j < n := by simpa using h1
                                    omega))
      rw [he, List.drop_eq_nil_of_le (by simp; omega)] at hw
      exact hw
    · have hns : ops.size ≤ k := by
        rcases Nat.lt_or_ge k ops.size with h | h
        · have h1 := hall k h
          rw [hk3 k (Nat.le_refl _)] at h1
          cases h1
        · exact h
      rw [List.drop_eq_nil_of_le (by simpa using hns)] at hw
      exact hw
  · rw [hL]
    exact .inl ⟨fun _ _ => rfl, valsAt (ops.toList.take n) a, hself.symm, fun i v _ hl => (by cases hl), h0 _⟩
end
end Go.Proofs.YtpjbdejgamajlabDoor

/- strconv: uscale. -/
namespace Go.Proofs.YtpjbdejgamajlabDoor
open Go.RowKit

theorem and63 (x : Int) : ∃ k : Nat, k ≤ 63 ∧ bits .and .i64 x 63 = (k : Int) := by
  have e : bits .and .i64 x 63 = IntKind.i64.wrap (((BitVec.ofInt 64 x &&& BitVec.ofInt 64 63).toNat : Nat) : Int) := rfl
  have h : (BitVec.ofInt 64 x &&& BitVec.ofInt 64 63).toNat ≤ 63 := by
    rw [BitVec.toNat_and]
    exact Nat.and_le_right
  refine ⟨_, h, ?_⟩
  rw [e, IntKind.wrap_i64]
  omega
/-- What uscale reads. -/
structure PreAt (w : World) (g hi lo : Nat) (s : Int) : Prop where
  lt : g < w.heap.size
  c0 : w.cell? ⟨g, 0, none⟩ = some (.int .u64 (hi : Int))
  c1 : w.cell? ⟨g, 1, none⟩ = some (.int .u64 (lo : Int))
  c2 : w.cell? ⟨g, 2, none⟩ = some (.int .i64 s)
theorem PreAt.below {w w' : World} {g hi lo : Nat} {s : Int} (h : PreAt w g hi lo s) (hb : Below w.heap.size w w') : PreAt w' g hi lo s :=
  ⟨Nat.lt_of_lt_of_le h.lt hb.size, by rw [(bcell hb).1 _ _ h.lt]; exact h.c0, by rw [(bcell hb).1 _ _ h.lt]; exact h.c1, by rw [(bcell hb).1 _ _ h.lt]; exact h.c2⟩
def Still (W w : World) : Prop := w = W
/-- What uscale gives. -/
def uscI (H M M2 : Int) (k : Nat) : Int :=
  if (IntKind.u64.wrap (H / 2 ^ k * 2 ^ k) != H) = true then bits .or .u64 (H / 2 ^ k) 1
  else bits .or .u64 (IntKind.u64.wrap (H - if decide (M < M2) then 1 else 0) / 2 ^ k) (if decide (IntKind.u64.wrap (M - M2) > 1) then 1 else 0)
def uscF (x hi lo : Nat) (s : Int) : Int := uscI ((x * hi / 18446744073709551616 : Nat) : Int) ((x * hi % 18446744073709551616 : Nat) : Int) ((x * lo / 18446744073709551616 : Nat) : Int) (bits .and .i64 s 63).toNat
set_option maxHeartbeats 2000000 in
set_option maxRecDepth 100000 in
theorem usc60 (x hi lo : Nat) (s : Int) (hx : x < 18446744073709551616) (hh : hi < 18446744073709551616) (hl : lo < 18446744073709551616) (g : Nat) (w : World) (hp : PreAt w g hi lo s) :
    Calls Tryd.prog 123 #[.int .u64 x, .pointer (some ⟨g, 0, none⟩)] w fun e w' => e = .returned (.int .u64 (uscF x hi lo s)) ∧ Below w.heap.size w w' := by
  obtain ⟨k, hk, hk2⟩ := and63 s
  obtain ⟨_, c0, c1, c2⟩ := hp
  have m1 := Tryd.bits_Mul64 x hi hx hh
  have m2 := Tryd.bits_Mul64 x lo hx hl
  unfold uscF
  rw [hk2, Int.toNat_natCast]
  generalize ((x * hi / 18446744073709551616 : Nat) : Int) = H at *
  generalize ((x * hi % 18446744073709551616 : Nat) : Int) = M at *
  generalize ((x * lo / 18446744073709551616 : Nat) : Int) = M2 at *
  generalize ((x * lo % 18446744073709551616 : Nat) : Int) = M3 at *
  have M1' := Lib.hid m1
  have M2' := Lib.hid m2
  clear m1 m2 hx hh hl
  have hb0 : Below w.heap.size w w.drew := (Below.refl _ _).drew
  have HB := Lib.hid hb0
  clear hb0
  obtain ⟨R, hR⟩ : ∃ R, R = uscI H M M2 k := ⟨_, rfl⟩
  rw [← hR]
  unfold uscI at hR
  generalize hq1 : (IntKind.u64.wrap (H / 2 ^ k * 2 ^ k) != H) = q1 at *
  cases q1
  · simp only [Bool.false_eq_true, if_false] at hR
    obtain ⟨d2, hd2⟩ : ∃ d2 : Int, d2 = if decide (M < M2) then 1 else 0 := ⟨_, rfl⟩
    obtain ⟨d3, hd3⟩ : ∃ d3 : Int, d3 = if decide (IntKind.u64.wrap (M - M2) > 1) then 1 else 0 := ⟨_, rfl⟩
    rw [← hd2, ← hd3] at hR
    have B3 := Lib.hid (fun w => hd3 ▸ b2u78 (decide (IntKind.u64.wrap (M - M2) > 1)) w)
    have B2 := Lib.hid (fun w => hd2 ▸ b2u78 (decide (M < M2)) w)
    have HR := Lib.hid hR
    clear hR hd2 hd3
    go_enter Tryd.func123, Tryd.ntmps123
    go_wp2_with fail
    refine (calls_flop (M1'.out _)).mono ?_
    rintro e w' ⟨rfl, rfl⟩
    go_wp2_with fail
    refine (calls_flop (M2'.out _)).mono ?_
    rintro e w' ⟨rfl, rfl⟩
    go_wp2_with fail
    refine (calls_flop (B2.out _)).mono ?_
    rintro e w' ⟨rfl, rfl⟩
    go_wp2_with fail
    obtain ⟨W9, hW9⟩ : ∃ W9, W9 = w.drew := ⟨_, rfl⟩
    have HW9 := Lib.hid hW9
    have HB9 : Hid (Below w.heap.size w W9) := by rw [hW9]; exact HB.out
    clear hW9 HB
    refine region_mixt 10 [some (.int .u64 (IntKind.u64.wrap (H - d2))), some (.int .i64 (k : Int)), some (.int .u64 (IntKind.u64.wrap (H - d2) / 2 ^ k)), some (.int .u64 M), some (.int .u64 M2), some (.int .u64 (IntKind.u64.wrap (M - M2))), some (.bool (decide (IntKind.u64.wrap (M - M2) > 1))), some (.int .u64 d3), some (.int .u64 (bits .or .u64 (IntKind.u64.wrap (H - d2) / 2 ^ k) d3)), some (.int .u64 (bits .or .u64 (IntKind.u64.wrap (H - d2) / 2 ^ k) d3))]
      [[false, false, false, false, false, false, false, false, false, false], [false, false, false, false, false, false, false, false, false, false], [true, true, false, false, false, false, false, false, false, false], [false, false, false, false, false, false, false, false, false, false], [false, false, false, false, false, false, false, false, false, false], [false, false, false, true, true, false, false, false, false, false], [false, false, false, false, false, true, false, false, false, false], [false, false, false, false, false, false, true, false, false, false], [false, false, true, false, false, false, false, true, false, false], [true, true, true, true, true, true, true, true, true, false]]
      (fun L x w1 => Still W9 w1)
      (by kernel_rfl) (by kernel_rfl) (by kernel_rfl) (by kernel_rfl) (by kernel_rfl) (by decide) ?_ ?_ ?_
    · intro _
      exact HW9.out.symm
    · simp only [List.take_succ_cons, List.take_zero]
      refine ⟨?_, ?_, ?_, ?_, ?_, ?_, ?_, ?_, ?_, ?_, trivial⟩
      all_goals
        intro L x9 w9 hS hl9 hp K hK
        have hs9 : Still W9 w9 := hS
        clear hS
        replace hK := hK.out
        clear hp hl9
        simp only [actMix, pickV, List.tail_cons, List.headD_cons, Act.put, List.setIfInBounds_toArray, List.set_cons_zero, List.set_cons_succ] at hK ⊢
      iterate 7
        · go_simp
          with_reducible refine hK _ ?_
          exact hs9
      · go_simp
        with_reducible refine (calls_flop (B3.out _)).mono ?_
        rintro e w' ⟨rfl, rfl⟩
        go_simp
        with_reducible refine hK _ ?_
        exact hs9
      iterate 2
        · go_simp
          with_reducible refine hK _ ?_
          exact hs9
    · intro L x9 w9 hS hall
      have hs9 : Still W9 w9 := hS
      obtain rfl : w9 = W9 := hs9
      clear hall hS
      simp only [actMix, pickV, List.tail_cons, List.headD_cons, Act.put, List.setIfInBounds_toArray, List.set_cons_zero, List.set_cons_succ, List.replicate_succ, List.replicate_zero, List.drop_succ_cons, List.drop_zero, List.take_succ_cons, List.take_zero]
      go_wp2_with fail
      go_ret
      exact ⟨by rw [HR.out]; rfl, HB9.out⟩
  · simp only [if_true] at hR
    have HR := Lib.hid hR
    clear hR
    go_enter Tryd.func123, Tryd.ntmps123
    go_wp2_with fail
    refine (calls_flop (M1'.out _)).mono ?_
    rintro e w' ⟨rfl, rfl⟩
    go_wp2_with fail
    go_ret
    exact ⟨by rw [HR.out]; rfl, Below.refl _ _⟩
end Go.Proofs.YtpjbdejgamajlabDoor

/- strconv: prescale, shortFloat. -/
namespace Go.Proofs.YtpjbdejgamajlabDoor
open Go.RowKit

/-- Go's table of powers of ten lies in a world. -/
def PmAt (w : World) : Prop := 4 < w.heap.size ∧ ∀ (j : Nat) x, Go.Pinned.pow10Rows[j]? = some x → w.cell? ⟨4, j * 2, none⟩ = some (.int .u64 (x.1 : Int)) ∧ w.cell? ⟨4, j * 2 + 1, none⟩ = some (.int .u64 (x.2 : Int))
theorem PmAt.below {w w' : World} (h : PmAt w) (hb : Below w.heap.size w w') : PmAt w' :=
  ⟨Nat.lt_of_lt_of_le h.1 hb.size, fun j x hx => ⟨by rw [(bcell hb).1 _ _ h.1]; exact (h.2 j x hx).1, by rw [(bcell hb).1 _ _ h.1]; exact (h.2 j x hx).2⟩⟩
/-- An empty scaler. -/
structure ScAt (w : World) (g : Nat) : Prop where
  lt : g < w.heap.size
  c0 : ∃ v, w.cell? ⟨g, 0, none⟩ = some v
  c1 : ∃ v, w.cell? ⟨g, 1, none⟩ = some v
  c2 : ∃ v, w.cell? ⟨g, 2, none⟩ = some v
  f0 : w.frozen? ⟨g, 0, none⟩ = false
  f1 : w.frozen? ⟨g, 1, none⟩ = false
  f2 : w.frozen? ⟨g, 2, none⟩ = false
set_option maxHeartbeats 1000000 in
set_option maxRecDepth 100000 in
theorem pre58 (g j : Nat) (x : Nat × Nat) (hj : j < 696) (hx : Go.Pinned.pow10Rows[j]? = some x) (e p lp : Int) (he : -3000 ≤ e) (he1 : e ≤ 3000) (hp : p = (j : Int) - 348) (hl : -3000 ≤ lp) (hl1 : lp ≤ 3000) (w : World) (hw : PmAt w) (hs : ScAt w g) (hg : g ≠ 4) :
    Calls Tryd.prog 121 #[.pointer (some ⟨g, 0, none⟩), .int .i64 e, .int .i64 p, .int .i64 lp] w fun r w' => r = .returned (.tuple #[]) ∧ PreAt w' g x.1 x.2 (-(e + lp + 3)) ∧ ∀ B, B ≤ g → Below B w w' := by
  subst hp
  obtain ⟨t0, t1⟩ := hw.2 j x hx
  obtain ⟨hlt, ⟨v0, c0⟩, ⟨v1, c1⟩, ⟨v2, c2⟩, f0, f1, f2⟩ := hs
  have hne : g ≠ 4 := hg
  clear hw hx
  go_enter Tryd.func121, Tryd.ntmps121
  go_wp2_with fail
  go_end0
  refine ⟨rfl, ⟨?_, ?_, ?_, ?_⟩, fun B hB => (((Below.refl B w).setCell (p := ⟨g, 0, none⟩) hB _).setCell (p := ⟨g, 1, none⟩) hB _).setCell (p := ⟨g, 2, none⟩) hB _⟩
  · simpa using hlt
  · rw [World.cell?_setCell_other _ _ _ _ (by simp), World.cell?_setCell_other _ _ _ _ (by simp), World.cell?_setCell_same _ _ _ c0]
  · rw [World.cell?_setCell_other _ _ _ _ (by simp), World.cell?_setCell_same _ _ _ (show (w.setCell ⟨g, 0, none⟩ (.int .u64 (x.1 : Int))).cell? ⟨g, 1, none⟩ = some v1 by rw [World.cell?_setCell_other _ _ _ _ (by simp)]; exact c1)]
  · rw [World.cell?_setCell_same _ _ _ (show ((w.setCell ⟨g, 0, none⟩ (.int .u64 (x.1 : Int))).setCell ⟨g, 1, none⟩ (.int .u64 (x.2 : Int))).cell? ⟨g, 2, none⟩ = some v2 by rw [World.cell?_setCell_other _ _ _ _ (by simp), World.cell?_setCell_other _ _ _ _ (by simp)]; exact c2)]
end Go.Proofs.YtpjbdejgamajlabDoor

/- strconv: shortFloat. -/
namespace Go.Proofs.YtpjbdejgamajlabDoor
open Go.RowKit

theorem usc60z (z : Int) (h0 : 0 ≤ z ∧ z < 18446744073709551616) (hi lo : Nat) (s : Int) (hh : hi < 18446744073709551616) (hl : lo < 18446744073709551616) (g : Nat) (w : World) (hp : PreAt w g hi lo s) :
    Calls Tryd.prog 123 #[.int .u64 z, .pointer (some ⟨g, 0, none⟩)] w fun e w' => e = .returned (.int .u64 (uscF z.toNat hi lo s)) ∧ Below w.heap.size w w' := by
  obtain ⟨n, rfl⟩ := Int.eq_ofNat_of_zero_le h0.1
  exact usc60 n hi lo s (by omega) hh hl g w hp
theorem wrap_in (z : Int) : 0 ≤ IntKind.u64.wrap z ∧ IntKind.u64.wrap z < 18446744073709551616 := by rw [IntKind.wrap_u64]; omega
/-- What shortFloat gives. -/
def dminF (x : Nat × Nat) (s mn od : Int) : Int := IntKind.u64.wrap (IntKind.u64.wrap (uscF mn.toNat x.1 x.2 s + IntKind.u64.wrap od) + 3) / 4
def dmaxF (x : Nat × Nat) (s mx od : Int) : Int := IntKind.u64.wrap (IntKind.u64.wrap (uscF mx.toNat x.1 x.2 s + IntKind.u64.wrap (wrap64 (-od)))) / 4
def rndF (x : Nat × Nat) (s m : Int) : Int := IntKind.u64.wrap (IntKind.u64.wrap (uscF m.toNat x.1 x.2 s + 1) + bits .and .u64 (uscF m.toNat x.1 x.2 s / 4) 1) / 4
def rowF (p : Int) : Nat × Nat := Go.Pinned.pow10Rows.getD (p + 348).toNat (0, 0)
def shRF (m e mn mx od p : Int) : Int × Int :=
  let s := -(e + p * 108853 / 32768 + 3)
  let dmin := dminF (rowF p) s mn od
  let dmax := dmaxF (rowF p) s mx od
  let d := IntKind.u64.wrap (dmax.tdiv 10)
  if IntKind.u64.wrap (d * 10) ≥ dmin then (d, wrap64 (-wrap64 (p - 1))) else if dmin < dmax then (rndF (rowF p) s m, wrap64 (-p)) else (dmin, wrap64 (-p))
theorem rowF_at (p : Int) (h0 : -348 ≤ p) (h1 : p ≤ 347) : ∃ j : Nat, j < 696 ∧ p = (j : Int) - 348 ∧ Go.Pinned.pow10Rows[j]? = some (rowF p) ∧ (rowF p).1 < 18446744073709551616 ∧ (rowF p).2 < 18446744073709551616 := by
  have hlen := pmLen
  have hwf := pmWf
  rw [List.all_eq_true] at hwf
  unfold rowF
  generalize Go.Pinned.pow10Rows = rows at *
  have hj : (p + 348).toNat < rows.length := by omega
  have hx : rows[(p + 348).toNat]? = some (rows[(p + 348).toNat]'hj) := by simp [hj]
  have e : rows.getD (p + 348).toNat (0, 0) = rows[(p + 348).toNat]'hj := by simp [List.getD, hx]
  have hw := hwf _ (List.getElem_mem hj)
  simp only [Bool.and_eq_true, decide_eq_true_eq] at hw
  rw [e]
  exact ⟨(p + 348).toNat, by omega, by omega, hx, hw.1, hw.2⟩
theorem newSc (w : World) (T : TypeId) (u v z : Value) : ScAt (w.alloc (.cells #[u, v, z] T)) w.heap.size :=
  ⟨by simp, ⟨u, by simp⟩, ⟨v, by simp⟩, ⟨z, by simp⟩, by simp, by simp, by simp⟩
set_option maxHeartbeats 2000000 in
set_option maxRecDepth 100000 in
theorem shf53A (e : Int) (he : -1137 ≤ e) (he1 : e ≤ 960) (hc : -1085 < e) (w : World) (hw : PmAt w) :
    Calls Tryd.prog 103 #[.int .u64 9223372036854775808, .int .i64 e] w fun r w' => r = .returned (.tuple #[.int .u64 (shRF ((9223372036854775808 : Int)) e ((9223372036854775296 : Int)) ((9223372036854776832 : Int)) (bits BinOp.and IntKind.i64 4503599627370496 1) (-(((e + 11) * 631305 - 261663) / 2097152))).1, .int .i64 (shRF ((9223372036854775808 : Int)) e ((9223372036854775296 : Int)) ((9223372036854776832 : Int)) (bits BinOp.and IntKind.i64 4503599627370496 1) (-(((e + 11) * 631305 - 261663) / 2097152))).2]) ∧ Below w.heap.size w w' := by
  skip
  have p0 : -348 ≤ -(((e + 11) * 631305 - 261663) / 2097152) ∧ -(((e + 11) * 631305 - 261663) / 2097152) ≤ 347 := by omega
  have n0 : (0 : Int) ≤ (9223372036854775296 : Int) ∧ (9223372036854775296 : Int) < 18446744073709551616 := by omega
  have x0 : (0 : Int) ≤ (9223372036854776832 : Int) ∧ (9223372036854776832 : Int) < 18446744073709551616 := by omega
  have HW := Lib.hid hw
  have P0 := Lib.hid p0
  have N0 := Lib.hid n0
  have X0 := Lib.hid x0
  have MM : Hid ((0 : Int) ≤ (9223372036854775808 : Int) ∧ (9223372036854775808 : Int) < 18446744073709551616) := by show (0 : Int) ≤ _ ∧ _; omega
  skip
  clear p0 n0 x0 hw
  obtain ⟨R, hR⟩ : ∃ R, R = shRF ((9223372036854775808 : Int)) e ((9223372036854775296 : Int)) ((9223372036854776832 : Int)) (bits BinOp.and IntKind.i64 4503599627370496 1) (-(((e + 11) * 631305 - 261663) / 2097152)) := ⟨_, rfl⟩
  rw [← hR]
  have HR := Lib.hid hR
  clear hR
  go_enter Tryd.func103, Tryd.ntmps103
  go_wp2_with (first
    | (go_at_call 120; with_reducible refine (calls_flop (skew57 _ (by omega) (by omega) _)).mono ?_; rintro r w' ⟨rfl, rfl⟩)
    | (go_at_call 98; with_reducible refine (calls_flop (l10_48 _ (by omega) (by omega) _)).mono ?_; rintro r w' ⟨rfl, rfl⟩))
  generalize hp : -(((e + 11) * 631305 - 261663) / 2097152) = p at *
  generalize hmn : (9223372036854775296 : Int) = mn at *
  generalize hmx : (9223372036854776832 : Int) = mx at *
  generalize hod : bits BinOp.and IntKind.i64 4503599627370496 1 = od at *
  clear hp hmn hmx hod 
  have p0 := P0.out
  have hb1 : ∀ v, Below w.heap.size w (w.alloc v) := fun v => (Below.refl _ _).alloc (Nat.le_refl _) _
  obtain ⟨j, hj, hpj, hrow, hrow1, hrow2⟩ := rowF_at p p0.1 p0.2
  have hlt3 := HW.out.1
  have HS := Lib.hid (fun T u v z => pre58 w.heap.size j (rowF p) hj hrow e p (p * 108853 / 32768) (by omega) (by omega) hpj (by omega) (by omega) (w.alloc (.cells #[u, v, z] T)) (HW.out.below ((Below.refl _ _).alloc (Nat.le_refl _) _)) (newSc w T u v z) (by omega))
  clear hrow hj hpj
  refine (calls_flop (l2_59 p (by omega) (by omega) _)).mono ?_
  rintro r w' ⟨rfl, rfl⟩
  go_wp2_with fail
  with_reducible refine (HS.out _ _ _ _).mono ?_
  rintro r w2 ⟨rfl, hpre, hbel⟩
  have hb2 := (hb1 _).trans (hbel w.heap.size (Nat.le_refl _))
  have hgl := hpre.lt
  have HP := Lib.hid hpre
  have HB2 := Lib.hid hb2
  clear hpre hbel hb1 hb2 HS p0 P0
  unfold shRF at HR
  generalize hs : -(e + p * 108853 / 32768 + 3) = s at *
  generalize hx : rowF p = x at *
  clear hs hx
  go_wp2_with fail
  with_reducible refine (usc60z mn N0.out x.1 x.2 s hrow1 hrow2 _ w2 HP.out).mono ?_
  rintro r w3 ⟨rfl, hb3⟩
  have HP3 := Lib.hid (HP.out.below hb3)
  go_wp2_with (first
    | (go_at_call 124; with_reducible refine (calls_flop (nudge61 _ _ _)).mono ?_; rintro r w' ⟨rfl, rfl⟩)
    | (go_at_call 125; with_reducible refine (calls_flop (ceil62 _ _)).mono ?_; rintro r w' ⟨rfl, rfl⟩))
  with_reducible refine (usc60z mx X0.out x.1 x.2 s hrow1 hrow2 _ w3 HP3.out).mono ?_
  rintro r w4 ⟨rfl, hb4⟩
  have HP4 := Lib.hid (HP3.out.below hb4)
  go_wp2_with (first
    | (go_at_call 124; with_reducible refine (calls_flop (nudge61 _ _ _)).mono ?_; rintro r w' ⟨rfl, rfl⟩)
    | (go_at_call 126; with_reducible refine (calls_flop (floor63 _ _)).mono ?_; rintro r w' ⟨rfl, rfl⟩))
  · rename_i h1
    have hR := HR.out.trans (if_pos h1)
    go_ret2
    exact ⟨by rw [hR]; rfl, HB2.out.trans ((hb3.trans (hb4.mono hb3.size)).mono HB2.out.size)⟩
  · rename_i h1 _ _ h2 _ _
    with_reducible refine (usc60z _ MM.out x.1 x.2 s hrow1 hrow2 _ w4 HP4.out).mono ?_
    rintro r w5 ⟨rfl, hb5⟩
    go_wp2_with (go_at_call 127; with_reducible refine (calls_flop (round64 _ _)).mono ?_; rintro r w' ⟨rfl, rfl⟩)
    have hR := HR.out.trans ((if_neg (Int.not_le.2 h1)).trans (if_pos h2))
    go_ret2
    exact ⟨by rw [hR]; rfl, HB2.out.trans (((hb3.trans (hb4.mono hb3.size)).trans (hb5.mono (Nat.le_trans hb3.size hb4.size))).mono HB2.out.size)⟩
  · rename_i h1 h2
    have hR := HR.out.trans ((if_neg (Int.not_le.2 h1)).trans (if_neg (Int.not_lt.2 h2)))
    go_ret2
    exact ⟨by rw [hR]; rfl, HB2.out.trans ((hb3.trans (hb4.mono hb3.size)).mono HB2.out.size)⟩
set_option maxHeartbeats 2000000 in
set_option maxRecDepth 100000 in
theorem shf53B (e : Int) (he : -1137 ≤ e) (he1 : e ≤ 960) (hc : -1085 ≤ e ∧ e ≤ -1085) (w : World) (hw : PmAt w) :
    Calls Tryd.prog 103 #[.int .u64 9223372036854775808, .int .i64 e] w fun r w' => r = .returned (.tuple #[.int .u64 (shRF ((9223372036854775808 : Int)) e ((9223372036854774784 : Int)) ((9223372036854776832 : Int)) (bits BinOp.and IntKind.i64 4503599627370496 1) (-((e + 11) * 78913 / 262144))).1, .int .i64 (shRF ((9223372036854775808 : Int)) e ((9223372036854774784 : Int)) ((9223372036854776832 : Int)) (bits BinOp.and IntKind.i64 4503599627370496 1) (-((e + 11) * 78913 / 262144))).2]) ∧ Below w.heap.size w w' := by
  obtain ⟨hc1, hc2⟩ := hc
  have p0 : -348 ≤ -((e + 11) * 78913 / 262144) ∧ -((e + 11) * 78913 / 262144) ≤ 347 := by omega
  have n0 : (0 : Int) ≤ (9223372036854774784 : Int) ∧ (9223372036854774784 : Int) < 18446744073709551616 := by omega
  have x0 : (0 : Int) ≤ (9223372036854776832 : Int) ∧ (9223372036854776832 : Int) < 18446744073709551616 := by omega
  have HW := Lib.hid hw
  have P0 := Lib.hid p0
  have N0 := Lib.hid n0
  have X0 := Lib.hid x0
  have MM : Hid ((0 : Int) ≤ (9223372036854775808 : Int) ∧ (9223372036854775808 : Int) < 18446744073709551616) := by show (0 : Int) ≤ _ ∧ _; omega
  skip
  clear p0 n0 x0 hw
  obtain ⟨R, hR⟩ : ∃ R, R = shRF ((9223372036854775808 : Int)) e ((9223372036854774784 : Int)) ((9223372036854776832 : Int)) (bits BinOp.and IntKind.i64 4503599627370496 1) (-((e + 11) * 78913 / 262144)) := ⟨_, rfl⟩
  rw [← hR]
  have HR := Lib.hid hR
  clear hR
  go_enter Tryd.func103, Tryd.ntmps103
  go_wp2_with (first
    | (go_at_call 120; with_reducible refine (calls_flop (skew57 _ (by omega) (by omega) _)).mono ?_; rintro r w' ⟨rfl, rfl⟩)
    | (go_at_call 98; with_reducible refine (calls_flop (l10_48 _ (by omega) (by omega) _)).mono ?_; rintro r w' ⟨rfl, rfl⟩))
  generalize hp : -((e + 11) * 78913 / 262144) = p at *
  generalize hmn : (9223372036854774784 : Int) = mn at *
  generalize hmx : (9223372036854776832 : Int) = mx at *
  generalize hod : bits BinOp.and IntKind.i64 4503599627370496 1 = od at *
  clear hp hmn hmx hod 
  have p0 := P0.out
  have hb1 : ∀ v, Below w.heap.size w (w.alloc v) := fun v => (Below.refl _ _).alloc (Nat.le_refl _) _
  obtain ⟨j, hj, hpj, hrow, hrow1, hrow2⟩ := rowF_at p p0.1 p0.2
  have hlt3 := HW.out.1
  have HS := Lib.hid (fun T u v z => pre58 w.heap.size j (rowF p) hj hrow e p (p * 108853 / 32768) (by omega) (by omega) hpj (by omega) (by omega) (w.alloc (.cells #[u, v, z] T)) (HW.out.below ((Below.refl _ _).alloc (Nat.le_refl _) _)) (newSc w T u v z) (by omega))
  clear hrow hj hpj
  refine (calls_flop (l2_59 p (by omega) (by omega) _)).mono ?_
  rintro r w' ⟨rfl, rfl⟩
  go_wp2_with fail
  with_reducible refine (HS.out _ _ _ _).mono ?_
  rintro r w2 ⟨rfl, hpre, hbel⟩
  have hb2 := (hb1 _).trans (hbel w.heap.size (Nat.le_refl _))
  have hgl := hpre.lt
  have HP := Lib.hid hpre
  have HB2 := Lib.hid hb2
  clear hpre hbel hb1 hb2 HS p0 P0
  unfold shRF at HR
  generalize hs : -(e + p * 108853 / 32768 + 3) = s at *
  generalize hx : rowF p = x at *
  clear hs hx
  go_wp2_with fail
  with_reducible refine (usc60z mn N0.out x.1 x.2 s hrow1 hrow2 _ w2 HP.out).mono ?_
  rintro r w3 ⟨rfl, hb3⟩
  have HP3 := Lib.hid (HP.out.below hb3)
  go_wp2_with (first
    | (go_at_call 124; with_reducible refine (calls_flop (nudge61 _ _ _)).mono ?_; rintro r w' ⟨rfl, rfl⟩)
    | (go_at_call 125; with_reducible refine (calls_flop (ceil62 _ _)).mono ?_; rintro r w' ⟨rfl, rfl⟩))
  with_reducible refine (usc60z mx X0.out x.1 x.2 s hrow1 hrow2 _ w3 HP3.out).mono ?_
  rintro r w4 ⟨rfl, hb4⟩
  have HP4 := Lib.hid (HP3.out.below hb4)
  go_wp2_with (first
    | (go_at_call 124; with_reducible refine (calls_flop (nudge61 _ _ _)).mono ?_; rintro r w' ⟨rfl, rfl⟩)
    | (go_at_call 126; with_reducible refine (calls_flop (floor63 _ _)).mono ?_; rintro r w' ⟨rfl, rfl⟩))
  · rename_i h1
    have hR := HR.out.trans (if_pos h1)
    go_ret2
    exact ⟨by rw [hR]; rfl, HB2.out.trans ((hb3.trans (hb4.mono hb3.size)).mono HB2.out.size)⟩
  · rename_i h1 _ _ h2 _ _
    with_reducible refine (usc60z _ MM.out x.1 x.2 s hrow1 hrow2 _ w4 HP4.out).mono ?_
    rintro r w5 ⟨rfl, hb5⟩
    go_wp2_with (go_at_call 127; with_reducible refine (calls_flop (round64 _ _)).mono ?_; rintro r w' ⟨rfl, rfl⟩)
    have hR := HR.out.trans ((if_neg (Int.not_le.2 h1)).trans (if_pos h2))
    go_ret2
    exact ⟨by rw [hR]; rfl, HB2.out.trans (((hb3.trans (hb4.mono hb3.size)).trans (hb5.mono (Nat.le_trans hb3.size hb4.size))).mono HB2.out.size)⟩
  · rename_i h1 h2
    have hR := HR.out.trans ((if_neg (Int.not_le.2 h1)).trans (if_neg (Int.not_lt.2 h2)))
    go_ret2
    exact ⟨by rw [hR]; rfl, HB2.out.trans ((hb3.trans (hb4.mono hb3.size)).mono HB2.out.size)⟩
set_option maxHeartbeats 2000000 in
set_option maxRecDepth 100000 in
theorem shf53C (e : Int) (he : -1137 ≤ e) (he1 : e ≤ 960) (hc : e < -1085) (w : World) (hw : PmAt w) :
    Calls Tryd.prog 103 #[.int .u64 9223372036854775808, .int .i64 e] w fun r w' => r = .returned (.tuple #[.int .u64 (shRF ((9223372036854775808 : Int)) e (IntKind.u64.wrap (9223372036854775808 - IntKind.u64.wrap (2 ^ ((11 + (-1085 - e)).toNat - 1)))) (IntKind.u64.wrap (9223372036854775808 + IntKind.u64.wrap (2 ^ ((11 + (-1085 - e)).toNat - 1)))) (bits BinOp.and IntKind.i64 (wrap64 (9223372036854775808 / 2 ^ (11 + (-1085 - e)).toNat)) 1) (-((e + (11 + (-1085 - e))) * 78913 / 262144))).1, .int .i64 (shRF ((9223372036854775808 : Int)) e (IntKind.u64.wrap (9223372036854775808 - IntKind.u64.wrap (2 ^ ((11 + (-1085 - e)).toNat - 1)))) (IntKind.u64.wrap (9223372036854775808 + IntKind.u64.wrap (2 ^ ((11 + (-1085 - e)).toNat - 1)))) (bits BinOp.and IntKind.i64 (wrap64 (9223372036854775808 / 2 ^ (11 + (-1085 - e)).toNat)) 1) (-((e + (11 + (-1085 - e))) * 78913 / 262144))).2]) ∧ Below w.heap.size w w' := by
  skip
  have p0 : -348 ≤ -((e + (11 + (-1085 - e))) * 78913 / 262144) ∧ -((e + (11 + (-1085 - e))) * 78913 / 262144) ≤ 347 := by omega
  have n0 : (0 : Int) ≤ IntKind.u64.wrap (9223372036854775808 - IntKind.u64.wrap (2 ^ ((11 + (-1085 - e)).toNat - 1))) ∧ IntKind.u64.wrap (9223372036854775808 - IntKind.u64.wrap (2 ^ ((11 + (-1085 - e)).toNat - 1))) < 18446744073709551616 := wrap_in _
  have x0 : (0 : Int) ≤ IntKind.u64.wrap (9223372036854775808 + IntKind.u64.wrap (2 ^ ((11 + (-1085 - e)).toNat - 1))) ∧ IntKind.u64.wrap (9223372036854775808 + IntKind.u64.wrap (2 ^ ((11 + (-1085 - e)).toNat - 1))) < 18446744073709551616 := wrap_in _
  have HW := Lib.hid hw
  have P0 := Lib.hid p0
  have N0 := Lib.hid n0
  have X0 := Lib.hid x0
  have MM : Hid ((0 : Int) ≤ (9223372036854775808 : Int) ∧ (9223372036854775808 : Int) < 18446744073709551616) := by show (0 : Int) ≤ _ ∧ _; omega
  skip
  clear p0 n0 x0 hw
  obtain ⟨R, hR⟩ : ∃ R, R = shRF ((9223372036854775808 : Int)) e (IntKind.u64.wrap (9223372036854775808 - IntKind.u64.wrap (2 ^ ((11 + (-1085 - e)).toNat - 1)))) (IntKind.u64.wrap (9223372036854775808 + IntKind.u64.wrap (2 ^ ((11 + (-1085 - e)).toNat - 1)))) (bits BinOp.and IntKind.i64 (wrap64 (9223372036854775808 / 2 ^ (11 + (-1085 - e)).toNat)) 1) (-((e + (11 + (-1085 - e))) * 78913 / 262144)) := ⟨_, rfl⟩
  rw [← hR]
  have HR := Lib.hid hR
  clear hR
  go_enter Tryd.func103, Tryd.ntmps103
  go_wp2_with (first
    | (go_at_call 120; with_reducible refine (calls_flop (skew57 _ (by omega) (by omega) _)).mono ?_; rintro r w' ⟨rfl, rfl⟩)
    | (go_at_call 98; with_reducible refine (calls_flop (l10_48 _ (by omega) (by omega) _)).mono ?_; rintro r w' ⟨rfl, rfl⟩))
  generalize hp : -((e + (11 + (-1085 - e))) * 78913 / 262144) = p at *
  generalize hmn : IntKind.u64.wrap (9223372036854775808 - IntKind.u64.wrap (2 ^ ((11 + (-1085 - e)).toNat - 1))) = mn at *
  generalize hmx : IntKind.u64.wrap (9223372036854775808 + IntKind.u64.wrap (2 ^ ((11 + (-1085 - e)).toNat - 1))) = mx at *
  generalize hod : bits BinOp.and IntKind.i64 (wrap64 (9223372036854775808 / 2 ^ (11 + (-1085 - e)).toNat)) 1 = od at *
  clear hp hmn hmx hod 
  have p0 := P0.out
  have hb1 : ∀ v, Below w.heap.size w (w.alloc v) := fun v => (Below.refl _ _).alloc (Nat.le_refl _) _
  obtain ⟨j, hj, hpj, hrow, hrow1, hrow2⟩ := rowF_at p p0.1 p0.2
  have hlt3 := HW.out.1
  have HS := Lib.hid (fun T u v z => pre58 w.heap.size j (rowF p) hj hrow e p (p * 108853 / 32768) (by omega) (by omega) hpj (by omega) (by omega) (w.alloc (.cells #[u, v, z] T)) (HW.out.below ((Below.refl _ _).alloc (Nat.le_refl _) _)) (newSc w T u v z) (by omega))
  clear hrow hj hpj
  refine (calls_flop (l2_59 p (by omega) (by omega) _)).mono ?_
  rintro r w' ⟨rfl, rfl⟩
  go_wp2_with fail
  with_reducible refine (HS.out _ _ _ _).mono ?_
  rintro r w2 ⟨rfl, hpre, hbel⟩
  have hb2 := (hb1 _).trans (hbel w.heap.size (Nat.le_refl _))
  have hgl := hpre.lt
  have HP := Lib.hid hpre
  have HB2 := Lib.hid hb2
  clear hpre hbel hb1 hb2 HS p0 P0
  unfold shRF at HR
  generalize hs : -(e + p * 108853 / 32768 + 3) = s at *
  generalize hx : rowF p = x at *
  clear hs hx
  go_wp2_with fail
  with_reducible refine (usc60z mn N0.out x.1 x.2 s hrow1 hrow2 _ w2 HP.out).mono ?_
  rintro r w3 ⟨rfl, hb3⟩
  have HP3 := Lib.hid (HP.out.below hb3)
  go_wp2_with (first
    | (go_at_call 124; with_reducible refine (calls_flop (nudge61 _ _ _)).mono ?_; rintro r w' ⟨rfl, rfl⟩)
    | (go_at_call 125; with_reducible refine (calls_flop (ceil62 _ _)).mono ?_; rintro r w' ⟨rfl, rfl⟩))
  with_reducible refine (usc60z mx X0.out x.1 x.2 s hrow1 hrow2 _ w3 HP3.out).mono ?_
  rintro r w4 ⟨rfl, hb4⟩
  have HP4 := Lib.hid (HP3.out.below hb4)
  go_wp2_with (first
    | (go_at_call 124; with_reducible refine (calls_flop (nudge61 _ _ _)).mono ?_; rintro r w' ⟨rfl, rfl⟩)
    | (go_at_call 126; with_reducible refine (calls_flop (floor63 _ _)).mono ?_; rintro r w' ⟨rfl, rfl⟩))
  · rename_i h1
    have hR := HR.out.trans (if_pos h1)
    go_ret2
    exact ⟨by rw [hR]; rfl, HB2.out.trans ((hb3.trans (hb4.mono hb3.size)).mono HB2.out.size)⟩
  · rename_i h1 _ _ h2 _ _
    with_reducible refine (usc60z _ MM.out x.1 x.2 s hrow1 hrow2 _ w4 HP4.out).mono ?_
    rintro r w5 ⟨rfl, hb5⟩
    go_wp2_with (go_at_call 127; with_reducible refine (calls_flop (round64 _ _)).mono ?_; rintro r w' ⟨rfl, rfl⟩)
    have hR := HR.out.trans ((if_neg (Int.not_le.2 h1)).trans (if_pos h2))
    go_ret2
    exact ⟨by rw [hR]; rfl, HB2.out.trans (((hb3.trans (hb4.mono hb3.size)).trans (hb5.mono (Nat.le_trans hb3.size hb4.size))).mono HB2.out.size)⟩
  · rename_i h1 h2
    have hR := HR.out.trans ((if_neg (Int.not_le.2 h1)).trans (if_neg (Int.not_lt.2 h2)))
    go_ret2
    exact ⟨by rw [hR]; rfl, HB2.out.trans ((hb3.trans (hb4.mono hb3.size)).mono HB2.out.size)⟩
set_option maxHeartbeats 2000000 in
set_option maxRecDepth 100000 in
theorem shf53D (m : Nat) (e : Int) (hm0 : 9223372036854775808 < m) (hm1 : m < 18446744073709551616) (he : -1137 ≤ e) (he1 : e ≤ 960) (hc : -1085 ≤ e) (w : World) (hw : PmAt w) :
    Calls Tryd.prog 103 #[.int .u64 (m : Int), .int .i64 e] w fun r w' => r = .returned (.tuple #[.int .u64 (shRF ((m : Int)) e ((m : Int) - 1024) (IntKind.u64.wrap ((m : Int) + 1024)) (bits BinOp.and IntKind.i64 ((m : Int) / 2048) 1) (-((e + 11) * 78913 / 262144))).1, .int .i64 (shRF ((m : Int)) e ((m : Int) - 1024) (IntKind.u64.wrap ((m : Int) + 1024)) (bits BinOp.and IntKind.i64 ((m : Int) / 2048) 1) (-((e + 11) * 78913 / 262144))).2]) ∧ Below w.heap.size w w' := by
  skip
  have p0 : -348 ≤ -((e + 11) * 78913 / 262144) ∧ -((e + 11) * 78913 / 262144) ≤ 347 := by omega
  have n0 : (0 : Int) ≤ (m : Int) - 1024 ∧ (m : Int) - 1024 < 18446744073709551616 := by omega
  have x0 : (0 : Int) ≤ IntKind.u64.wrap ((m : Int) + 1024) ∧ IntKind.u64.wrap ((m : Int) + 1024) < 18446744073709551616 := wrap_in _
  have HW := Lib.hid hw
  have P0 := Lib.hid p0
  have N0 := Lib.hid n0
  have X0 := Lib.hid x0
  have MM : Hid ((0 : Int) ≤ (m : Int) ∧ (m : Int) < 18446744073709551616) := by show (0 : Int) ≤ _ ∧ _; omega
  have hmne : ((m : Int) == 9223372036854775808) = false := by rw [beq_eq_false_iff_ne]; omega
  clear p0 n0 x0 hw
  obtain ⟨R, hR⟩ : ∃ R, R = shRF ((m : Int)) e ((m : Int) - 1024) (IntKind.u64.wrap ((m : Int) + 1024)) (bits BinOp.and IntKind.i64 ((m : Int) / 2048) 1) (-((e + 11) * 78913 / 262144)) := ⟨_, rfl⟩
  rw [← hR]
  have HR := Lib.hid hR
  clear hR
  go_enter Tryd.func103, Tryd.ntmps103
  go_wp2_with (first
    | (go_at_call 120; with_reducible refine (calls_flop (skew57 _ (by omega) (by omega) _)).mono ?_; rintro r w' ⟨rfl, rfl⟩)
    | (go_at_call 98; with_reducible refine (calls_flop (l10_48 _ (by omega) (by omega) _)).mono ?_; rintro r w' ⟨rfl, rfl⟩))
  generalize hp : -((e + 11) * 78913 / 262144) = p at *
  generalize hmn : (m : Int) - 1024 = mn at *
  generalize hmx : IntKind.u64.wrap ((m : Int) + 1024) = mx at *
  generalize hod : bits BinOp.and IntKind.i64 ((m : Int) / 2048) 1 = od at *
  clear hp hmn hmx hod hmne
  have p0 := P0.out
  have hb1 : ∀ v, Below w.heap.size w (w.alloc v) := fun v => (Below.refl _ _).alloc (Nat.le_refl _) _
  obtain ⟨j, hj, hpj, hrow, hrow1, hrow2⟩ := rowF_at p p0.1 p0.2
  have hlt3 := HW.out.1
  have HS := Lib.hid (fun T u v z => pre58 w.heap.size j (rowF p) hj hrow e p (p * 108853 / 32768) (by omega) (by omega) hpj (by omega) (by omega) (w.alloc (.cells #[u, v, z] T)) (HW.out.below ((Below.refl _ _).alloc (Nat.le_refl _) _)) (newSc w T u v z) (by omega))
  clear hrow hj hpj
  refine (calls_flop (l2_59 p (by omega) (by omega) _)).mono ?_
  rintro r w' ⟨rfl, rfl⟩
  go_wp2_with fail
  with_reducible refine (HS.out _ _ _ _).mono ?_
  rintro r w2 ⟨rfl, hpre, hbel⟩
  have hb2 := (hb1 _).trans (hbel w.heap.size (Nat.le_refl _))
  have hgl := hpre.lt
  have HP := Lib.hid hpre
  have HB2 := Lib.hid hb2
  clear hpre hbel hb1 hb2 HS p0 P0
  unfold shRF at HR
  generalize hs : -(e + p * 108853 / 32768 + 3) = s at *
  generalize hx : rowF p = x at *
  clear hs hx
  go_wp2_with fail
  with_reducible refine (usc60z mn N0.out x.1 x.2 s hrow1 hrow2 _ w2 HP.out).mono ?_
  rintro r w3 ⟨rfl, hb3⟩
  have HP3 := Lib.hid (HP.out.below hb3)
  go_wp2_with (first
    | (go_at_call 124; with_reducible refine (calls_flop (nudge61 _ _ _)).mono ?_; rintro r w' ⟨rfl, rfl⟩)
    | (go_at_call 125; with_reducible refine (calls_flop (ceil62 _ _)).mono ?_; rintro r w' ⟨rfl, rfl⟩))
  with_reducible refine (usc60z mx X0.out x.1 x.2 s hrow1 hrow2 _ w3 HP3.out).mono ?_
  rintro r w4 ⟨rfl, hb4⟩
  have HP4 := Lib.hid (HP3.out.below hb4)
  go_wp2_with (first
    | (go_at_call 124; with_reducible refine (calls_flop (nudge61 _ _ _)).mono ?_; rintro r w' ⟨rfl, rfl⟩)
    | (go_at_call 126; with_reducible refine (calls_flop (floor63 _ _)).mono ?_; rintro r w' ⟨rfl, rfl⟩))
  · rename_i h1
    have hR := HR.out.trans (if_pos h1)
    go_ret2
    exact ⟨by rw [hR]; rfl, HB2.out.trans ((hb3.trans (hb4.mono hb3.size)).mono HB2.out.size)⟩
  · rename_i h1 _ _ h2 _ _
    with_reducible refine (usc60z _ MM.out x.1 x.2 s hrow1 hrow2 _ w4 HP4.out).mono ?_
    rintro r w5 ⟨rfl, hb5⟩
    go_wp2_with (go_at_call 127; with_reducible refine (calls_flop (round64 _ _)).mono ?_; rintro r w' ⟨rfl, rfl⟩)
    have hR := HR.out.trans ((if_neg (Int.not_le.2 h1)).trans (if_pos h2))
    go_ret2
    exact ⟨by rw [hR]; rfl, HB2.out.trans (((hb3.trans (hb4.mono hb3.size)).trans (hb5.mono (Nat.le_trans hb3.size hb4.size))).mono HB2.out.size)⟩
  · rename_i h1 h2
    have hR := HR.out.trans ((if_neg (Int.not_le.2 h1)).trans (if_neg (Int.not_lt.2 h2)))
    go_ret2
    exact ⟨by rw [hR]; rfl, HB2.out.trans ((hb3.trans (hb4.mono hb3.size)).mono HB2.out.size)⟩
set_option maxHeartbeats 2000000 in
set_option maxRecDepth 100000 in
theorem shf53E (m : Nat) (e : Int) (hm0 : 9223372036854775808 < m) (hm1 : m < 18446744073709551616) (he : -1137 ≤ e) (he1 : e ≤ 960) (hc : e < -1085) (w : World) (hw : PmAt w) :
    Calls Tryd.prog 103 #[.int .u64 (m : Int), .int .i64 e] w fun r w' => r = .returned (.tuple #[.int .u64 (shRF ((m : Int)) e (IntKind.u64.wrap ((m : Int) - IntKind.u64.wrap (2 ^ ((11 + (-1085 - e)).toNat - 1)))) (IntKind.u64.wrap ((m : Int) + IntKind.u64.wrap (2 ^ ((11 + (-1085 - e)).toNat - 1)))) (bits BinOp.and IntKind.i64 (wrap64 ((m : Int) / 2 ^ (11 + (-1085 - e)).toNat)) 1) (-((e + (11 + (-1085 - e))) * 78913 / 262144))).1, .int .i64 (shRF ((m : Int)) e (IntKind.u64.wrap ((m : Int) - IntKind.u64.wrap (2 ^ ((11 + (-1085 - e)).toNat - 1)))) (IntKind.u64.wrap ((m : Int) + IntKind.u64.wrap (2 ^ ((11 + (-1085 - e)).toNat - 1)))) (bits BinOp.and IntKind.i64 (wrap64 ((m : Int) / 2 ^ (11 + (-1085 - e)).toNat)) 1) (-((e + (11 + (-1085 - e))) * 78913 / 262144))).2]) ∧ Below w.heap.size w w' := by
  skip
  have p0 : -348 ≤ -((e + (11 + (-1085 - e))) * 78913 / 262144) ∧ -((e + (11 + (-1085 - e))) * 78913 / 262144) ≤ 347 := by omega
  have n0 : (0 : Int) ≤ IntKind.u64.wrap ((m : Int) - IntKind.u64.wrap (2 ^ ((11 + (-1085 - e)).toNat - 1))) ∧ IntKind.u64.wrap ((m : Int) - IntKind.u64.wrap (2 ^ ((11 + (-1085 - e)).toNat - 1))) < 18446744073709551616 := wrap_in _
  have x0 : (0 : Int) ≤ IntKind.u64.wrap ((m : Int) + IntKind.u64.wrap (2 ^ ((11 + (-1085 - e)).toNat - 1))) ∧ IntKind.u64.wrap ((m : Int) + IntKind.u64.wrap (2 ^ ((11 + (-1085 - e)).toNat - 1))) < 18446744073709551616 := wrap_in _
  have HW := Lib.hid hw
  have P0 := Lib.hid p0
  have N0 := Lib.hid n0
  have X0 := Lib.hid x0
  have MM : Hid ((0 : Int) ≤ (m : Int) ∧ (m : Int) < 18446744073709551616) := by show (0 : Int) ≤ _ ∧ _; omega
  have hmne : ((m : Int) == 9223372036854775808) = false := by rw [beq_eq_false_iff_ne]; omega
  clear p0 n0 x0 hw
  obtain ⟨R, hR⟩ : ∃ R, R = shRF ((m : Int)) e (IntKind.u64.wrap ((m : Int) - IntKind.u64.wrap (2 ^ ((11 + (-1085 - e)).toNat - 1)))) (IntKind.u64.wrap ((m : Int) + IntKind.u64.wrap (2 ^ ((11 + (-1085 - e)).toNat - 1)))) (bits BinOp.and IntKind.i64 (wrap64 ((m : Int) / 2 ^ (11 + (-1085 - e)).toNat)) 1) (-((e + (11 + (-1085 - e))) * 78913 / 262144)) := ⟨_, rfl⟩
  rw [← hR]
  have HR := Lib.hid hR
  clear hR
  go_enter Tryd.func103, Tryd.ntmps103
  go_wp2_with (first
    | (go_at_call 120; with_reducible refine (calls_flop (skew57 _ (by omega) (by omega) _)).mono ?_; rintro r w' ⟨rfl, rfl⟩)
    | (go_at_call 98; with_reducible refine (calls_flop (l10_48 _ (by omega) (by omega) _)).mono ?_; rintro r w' ⟨rfl, rfl⟩))
  generalize hp : -((e + (11 + (-1085 - e))) * 78913 / 262144) = p at *
  generalize hmn : IntKind.u64.wrap ((m : Int) - IntKind.u64.wrap (2 ^ ((11 + (-1085 - e)).toNat - 1))) = mn at *
  generalize hmx : IntKind.u64.wrap ((m : Int) + IntKind.u64.wrap (2 ^ ((11 + (-1085 - e)).toNat - 1))) = mx at *
  generalize hod : bits BinOp.and IntKind.i64 (wrap64 ((m : Int) / 2 ^ (11 + (-1085 - e)).toNat)) 1 = od at *
  clear hp hmn hmx hod hmne
  have p0 := P0.out
  have hb1 : ∀ v, Below w.heap.size w (w.alloc v) := fun v => (Below.refl _ _).alloc (Nat.le_refl _) _
  obtain ⟨j, hj, hpj, hrow, hrow1, hrow2⟩ := rowF_at p p0.1 p0.2
  have hlt3 := HW.out.1
  have HS := Lib.hid (fun T u v z => pre58 w.heap.size j (rowF p) hj hrow e p (p * 108853 / 32768) (by omega) (by omega) hpj (by omega) (by omega) (w.alloc (.cells #[u, v, z] T)) (HW.out.below ((Below.refl _ _).alloc (Nat.le_refl _) _)) (newSc w T u v z) (by omega))
  clear hrow hj hpj
  refine (calls_flop (l2_59 p (by omega) (by omega) _)).mono ?_
  rintro r w' ⟨rfl, rfl⟩
  go_wp2_with fail
  with_reducible refine (HS.out _ _ _ _).mono ?_
  rintro r w2 ⟨rfl, hpre, hbel⟩
  have hb2 := (hb1 _).trans (hbel w.heap.size (Nat.le_refl _))
  have hgl := hpre.lt
  have HP := Lib.hid hpre
  have HB2 := Lib.hid hb2
  clear hpre hbel hb1 hb2 HS p0 P0
  unfold shRF at HR
  generalize hs : -(e + p * 108853 / 32768 + 3) = s at *
  generalize hx : rowF p = x at *
  clear hs hx
  go_wp2_with fail
  with_reducible refine (usc60z mn N0.out x.1 x.2 s hrow1 hrow2 _ w2 HP.out).mono ?_
  rintro r w3 ⟨rfl, hb3⟩
  have HP3 := Lib.hid (HP.out.below hb3)
  go_wp2_with (first
    | (go_at_call 124; with_reducible refine (calls_flop (nudge61 _ _ _)).mono ?_; rintro r w' ⟨rfl, rfl⟩)
    | (go_at_call 125; with_reducible refine (calls_flop (ceil62 _ _)).mono ?_; rintro r w' ⟨rfl, rfl⟩))
  with_reducible refine (usc60z mx X0.out x.1 x.2 s hrow1 hrow2 _ w3 HP3.out).mono ?_
  rintro r w4 ⟨rfl, hb4⟩
  have HP4 := Lib.hid (HP3.out.below hb4)
  go_wp2_with (first
    | (go_at_call 124; with_reducible refine (calls_flop (nudge61 _ _ _)).mono ?_; rintro r w' ⟨rfl, rfl⟩)
    | (go_at_call 126; with_reducible refine (calls_flop (floor63 _ _)).mono ?_; rintro r w' ⟨rfl, rfl⟩))
  · rename_i h1
    have hR := HR.out.trans (if_pos h1)
    go_ret2
    exact ⟨by rw [hR]; rfl, HB2.out.trans ((hb3.trans (hb4.mono hb3.size)).mono HB2.out.size)⟩
  · rename_i h1 _ _ h2 _ _
    with_reducible refine (usc60z _ MM.out x.1 x.2 s hrow1 hrow2 _ w4 HP4.out).mono ?_
    rintro r w5 ⟨rfl, hb5⟩
    go_wp2_with (go_at_call 127; with_reducible refine (calls_flop (round64 _ _)).mono ?_; rintro r w' ⟨rfl, rfl⟩)
    have hR := HR.out.trans ((if_neg (Int.not_le.2 h1)).trans (if_pos h2))
    go_ret2
    exact ⟨by rw [hR]; rfl, HB2.out.trans (((hb3.trans (hb4.mono hb3.size)).trans (hb5.mono (Nat.le_trans hb3.size hb4.size))).mono HB2.out.size)⟩
  · rename_i h1 h2
    have hR := HR.out.trans ((if_neg (Int.not_le.2 h1)).trans (if_neg (Int.not_lt.2 h2)))
    go_ret2
    exact ⟨by rw [hR]; rfl, HB2.out.trans ((hb3.trans (hb4.mono hb3.size)).mono HB2.out.size)⟩
end Go.Proofs.YtpjbdejgamajlabDoor

