/- maglev: how places are assigned, as math. -/
import Derived.Test.YtlcpkplipfcdaaaDoorPqM
namespace Go.Proofs.YtlcpkplipfcdaaaDoor

/-- How many of the first ones. -/
def cntF (p : Nat → Bool) : Nat → Nat
  | 0 => 0
  | m + 1 => cntF p m + (if p m then 1 else 0)
theorem cntF_le (p : Nat → Bool) : ∀ m, cntF p m ≤ m
  | 0 => Nat.le_refl _
  | m + 1 => by unfold cntF; have := cntF_le p m; split <;> omega
theorem cntF_congr {p q : Nat → Bool} : ∀ {m : Nat}, (∀ i, i < m → p i = q i) → cntF p m = cntF q m
  | 0, _ => rfl
  | m + 1, h => by unfold cntF; rw [cntF_congr (fun i hi => h i (by omega)), h m (by omega)]
theorem cntF_set {p q : Nat → Bool} {k : Nat} (hp : p k = false) (hq : q k = true) : ∀ {m : Nat}, k < m → (∀ i, i ≠ k → q i = p i) → cntF q m = cntF p m + 1
  | 0, h, _ => by omega
  | m + 1, h, he => by
    unfold cntF
    by_cases e : k = m
    · subst e
      rw [cntF_congr (fun i hi => he i (by omega)), hp, hq]; simp
    · rw [cntF_set hp hq (by omega) he, he m (fun h => e h.symm)]; omega
theorem cntF_same {p q : Nat → Bool} {k : Nat} (hpq : p k = q k) {m : Nat} (he : ∀ i, i ≠ k → q i = p i) : cntF q m = cntF p m :=
  cntF_congr fun i _ => by
    by_cases e : i = k
    · subst e; exact hpq.symm
    · exact he i e
theorem cntF_full {p : Nat → Bool} : ∀ {m : Nat}, cntF p m = m → ∀ i, i < m → p i = true
  | 0, _, i, hi => by omega
  | m + 1, h, i, hi => by
    unfold cntF at h
    have h1 := cntF_le p m
    cases hp : p m with
    | false => rw [hp] at h; simp at h; omega
    | true =>
      rw [hp] at h
      by_cases e : i = m
      · subst e; exact hp
      · exact cntF_full (m := m) (by simpa using h) i (by omega)
theorem cntF_none : ∀ (m : Nat), cntF (fun _ => false) m = 0
  | 0 => rfl
  | m + 1 => by unfold cntF; rw [cntF_none m]; rfl
theorem cntF_hole {p : Nat → Bool} {m : Nat} (h : cntF p m < m) : ∃ i, i < m ∧ p i = false := by
  by_cases hn : ∃ i, i < m ∧ p i = false
  · exact hn
  · exfalso
    have : cntF p m = m := by
      have h2 : cntF p m = cntF (fun _ => true) m := cntF_congr fun i hi => by
        cases hp : p i with
        | true => rfl
        | false => exact absurd ⟨i, hi, hp⟩ hn
      rw [h2]
      clear h h2 hn
      induction m with
      | zero => rfl
      | succ m ih => unfold cntF; rw [ih]; rfl
    omega
/-- A list without repeats is no longer than one that has all its members. -/
theorem nodup_length : ∀ {l l' : List Nat}, l.Nodup → (∀ x ∈ l, x ∈ l') → l.length ≤ l'.length
  | [], _, _, _ => Nat.zero_le _
  | a :: l, l', h, hs => by
    have hn := List.nodup_cons.1 h
    have ha := hs a (List.mem_cons_self ..)
    have ih := nodup_length (l := l) (l' := l'.erase a) hn.2 (fun x hx => (List.mem_erase_of_ne (fun e => hn.1 (by rw [← e]; exact hx))).2 (hs x (List.mem_cons_of_mem _ hx)))
    rw [List.length_erase_of_mem ha] at ih
    have := List.length_pos_of_mem ha
    simp only [List.length_cons]
    omega
/-- An injective map of the first m numbers among themselves reaches each. -/
theorem inj_onto {m : Nat} {p : Nat → Nat} (hlt : ∀ t, t < m → p t < m) (hinj : ∀ a b, a < b → b < m → p a ≠ p b) (q : Nat) (hq : q < m) : ∃ t, t < m ∧ p t = q := by
  by_cases h : ∃ t, t < m ∧ p t = q
  · exact h
  · exfalso
    have hn : ((List.range m).map p).Nodup := by
      rw [List.Nodup, List.pairwise_iff_getElem]
      intro i j hi hj hij
      simp only [List.length_map, List.length_range] at hi hj
      simp only [List.getElem_map, List.getElem_range]
      exact hinj i j hij hj
    have := nodup_length (l' := (List.range m).erase q) hn (fun x hx => by
      obtain ⟨t, ht, rfl⟩ := List.mem_map.1 hx
      have ht := List.mem_range.1 ht
      exact (List.mem_erase_of_ne (fun e => h ⟨t, ht, e⟩)).2 (List.mem_range.2 (hlt t ht)))
    rw [List.length_map, List.length_range, List.length_erase_of_mem (List.mem_range.2 hq), List.length_range] at this
    omega
/-- The first free place of a row from a place on. -/
def ff (own : Nat → Int) (p : Nat → Nat) : Nat → Nat → Nat
  | 0, t => t
  | k + 1, t => if own (p t) = -1 then t else ff own p k (t + 1)
theorem ff_is {own : Nat → Int} {p : Nat → Nat} : ∀ {k t u : Nat}, t ≤ u → u ≤ t + k → own (p u) = -1 → (∀ v, t ≤ v → v < u → own (p v) ≠ -1) → ff own p k t = u
  | 0, t, u, h1, h2, _, _ => by unfold ff; omega
  | k + 1, t, u, h1, h2, hu, hv => by
    unfold ff
    by_cases e : t = u
    · subst e; rw [if_pos hu]
    · rw [if_neg (hv t (Nat.le_refl _) (by omega))]
      exact ff_is (by omega) (by omega) hu (fun v h3 h4 => hv v (by omega) h4)
theorem first_free {own : Nat → Int} {p : Nat → Nat} {t u : Nat} (h1 : t ≤ u) (hu : own (p u) = -1) : ∃ v, t ≤ v ∧ v ≤ u ∧ own (p v) = -1 ∧ ∀ x, t ≤ x → x < v → own (p x) ≠ -1 := by
  obtain ⟨d, hd⟩ : ∃ d, u = t + d := ⟨u - t, by omega⟩
  clear h1
  induction d generalizing t with
  | zero => exact ⟨u, by omega, Nat.le_refl _, hu, fun x h2 h3 => by omega⟩
  | succ d ih =>
    by_cases e : own (p t) = -1
    · exact ⟨t, Nat.le_refl _, by omega, e, fun x h2 h3 => by omega⟩
    · obtain ⟨v, h2, h3, h4, h5⟩ := ih (t := t + 1) (by omega)
      refine ⟨v, by omega, h3, h4, fun x h6 h7 => ?_⟩
      by_cases ex : x = t
      · subst ex; exact e
      · exact h5 x (by omega) h7
/-- What an assignment of places is made of. -/
structure Par where
  n : Nat
  m : Nat
  G : Nat
  W : Nat → Nat
  F : Nat → Nat
  S : Nat → Nat
structure St where
  own : Nat → Int
  nx : Nat → Nat
  ow : Nat → Int
  cnt : Nat
def setI (f : Nat → Int) (i : Nat) (v : Int) : Nat → Int := fun k => if k = i then v else f k
def setN (f : Nat → Nat) (i : Nat) (v : Nat) : Nat → Nat := fun k => if k = i then v else f k
namespace Par
variable (P : Par)
def pl (i t : Nat) : Nat := (P.F i + t * P.S i) % P.m
def nxt (i : Nat) (st : St) : Nat := ff st.own (P.pl i) P.m (st.nx i)
/-- An entry receives a place. -/
def take (i : Nat) (st : St) : St := ⟨setI st.own (P.pl i (P.nxt i st)) i, setN st.nx i (P.nxt i st), setI st.ow i (st.ow i + P.W i - P.G), st.cnt + 1⟩
def wait (i : Nat) (st : St) : St := ⟨st.own, st.nx, setI st.ow i (st.ow i + P.W i), st.cnt⟩
def stp (i : Nat) (st : St) : St := if st.cnt = P.m then st else if st.ow i + P.W i < P.G then P.wait i st else P.take i st
def start : St := ⟨fun _ => -1, fun _ => 0, fun _ => 0, 0⟩
def run : Nat → St
  | 0 => start
  | T + 1 => P.stp (T % P.n) (run T)
theorem run_stop {T : Nat} (h : (P.run T).cnt = P.m) : ∀ d, P.run (T + d) = P.run T
  | 0 => rfl
  | d + 1 => by
    show P.stp ((T + d) % P.n) (P.run (T + d)) = _
    rw [run_stop h d]
    unfold stp
    rw [if_pos h]
theorem run_same {T U : Nat} (h : (P.run T).cnt = P.m) (h' : (P.run U).cnt = P.m) : P.run T = P.run U := by
  rcases Nat.le_total T U with hl | hl
  · obtain ⟨d, rfl⟩ := Nat.exists_eq_add_of_le hl
    exact (P.run_stop h d).symm
  · obtain ⟨d, rfl⟩ := Nat.exists_eq_add_of_le hl
    exact P.run_stop h' d
/-- What is asked of the parameters. -/
structure Ok : Prop where
  n0 : 0 < P.n
  m2 : 2 ≤ P.m
  row : ∀ i, i < P.n → Nat.gcd (P.S i) P.m = 1
  w1 : ∀ i, i < P.n → 1 ≤ P.W i ∧ P.W i ≤ P.G
  g : ∃ i, i < P.n ∧ P.W i = P.G
/-- What holds on the way. -/
structure Inv (st : St) : Prop where
  cnt : st.cnt = cntF (fun q => decide (st.own q ≠ -1)) P.m
  nx : ∀ i, i < P.n → st.nx i < P.m ∧ ∀ u, u < st.nx i → st.own (P.pl i u) ≠ -1
  ow : ∀ i, i < P.n → 0 ≤ st.ow i ∧ st.ow i < P.G
  rng : ∀ q, st.own q = -1 ∨ (0 ≤ st.own q ∧ st.own q < P.n)
variable {P}
theorem pl_lt (h : P.Ok) (i t : Nat) : P.pl i t < P.m := Nat.mod_lt _ (by have := h.m2; omega)
theorem Inv.start (h : P.Ok) : P.Inv Par.start := by
  refine ⟨?_, fun i _ => ⟨by show 0 < P.m; have := h.m2; omega, fun u hu => by have : u < 0 := hu; omega⟩, fun i hi => ⟨Int.le_refl _, ?_⟩, fun q => .inl rfl⟩
  · show 0 = _
    rw [cntF_congr (q := fun _ => false) (fun i _ => by simp [Par.start]), cntF_none]
  · show (0 : Int) < P.G
    have := h.w1 i hi; omega
theorem Inv.free {st : St} (h : P.Ok) (hI : P.Inv st) (hc : st.cnt < P.m) {i : Nat} (hi : i < P.n) :
    st.nx i ≤ P.nxt i st ∧ P.nxt i st < P.m ∧ st.own (P.pl i (P.nxt i st)) = -1 ∧ ∀ u, st.nx i ≤ u → u < P.nxt i st → st.own (P.pl i u) ≠ -1 := by
  obtain ⟨q, hq, hqf⟩ := cntF_hole (by rw [← hI.cnt]; exact hc)
  have hq1 : st.own q = -1 := by simpa using hqf
  obtain ⟨u, hu, hpu⟩ := inj_onto (p := P.pl i) (fun t _ => pl_lt h i t) (fun a b hab hb => row_inj (h.row i hi) hab hb) q hq
  have hle : st.nx i ≤ u := by
    rcases Nat.lt_or_ge u (st.nx i) with h1 | h1
    · exact absurd (by rw [hpu]; exact hq1) ((hI.nx i hi).2 u h1)
    · exact h1
  obtain ⟨v, h1, h2, h3, h4⟩ := first_free (own := st.own) (p := P.pl i) hle (by rw [hpu]; exact hq1)
  have hv : P.nxt i st = v := ff_is h1 (by omega) h3 h4
  rw [hv]
  exact ⟨h1, by omega, h3, h4⟩
theorem Inv.wait {st : St} (hI : P.Inv st) {i : Nat} (hi : i < P.n) (hw : st.ow i + P.W i < P.G) : P.Inv (P.wait i st) := by
  refine ⟨hI.cnt, hI.nx, fun k hk => ?_, hI.rng⟩
  show 0 ≤ setI st.ow i (st.ow i + P.W i) k ∧ setI st.ow i (st.ow i + P.W i) k < P.G
  unfold setI
  have := hI.ow i hi
  split
  · omega
  · exact hI.ow k hk
theorem Inv.take {st : St} (h : P.Ok) (hI : P.Inv st) (hc : st.cnt < P.m) {i : Nat} (hi : i < P.n) (hw : ¬ st.ow i + P.W i < P.G) : P.Inv (P.take i st) := by
  obtain ⟨f1, f2, f3, f4⟩ := hI.free h hc hi
  have hwi := h.w1 i hi
  refine ⟨?_, fun k hk => ?_, fun k hk => ?_, fun q => ?_⟩
  · show st.cnt + 1 = _
    rw [hI.cnt]
    refine (cntF_set (k := P.pl i (P.nxt i st)) (by simp [f3]) ?_ (pl_lt h _ _) (fun q hq => ?_)).symm
    · show decide (setI st.own (P.pl i (P.nxt i st)) i (P.pl i (P.nxt i st)) ≠ -1) = true
      unfold setI; rw [if_pos rfl]; exact decide_eq_true (by omega)
    · show decide (setI st.own (P.pl i (P.nxt i st)) i q ≠ -1) = _
      unfold setI; rw [if_neg hq]
  · show setN st.nx i (P.nxt i st) k < P.m ∧ ∀ u, u < setN st.nx i (P.nxt i st) k → setI st.own (P.pl i (P.nxt i st)) i (P.pl k u) ≠ -1
    have key : ∀ u, st.own (P.pl k u) ≠ -1 → setI st.own (P.pl i (P.nxt i st)) i (P.pl k u) ≠ -1 := fun u hu => by
      unfold setI; split
      · omega
      · exact hu
    unfold setN
    by_cases e : k = i
    · subst e
      rw [if_pos rfl]
      refine ⟨f2, fun u hu => key u ?_⟩
      rcases Nat.lt_or_ge u (st.nx k) with h1 | h1
      · exact (hI.nx k hk).2 u h1
      · exact f4 u h1 hu
    · rw [if_neg e]
      exact ⟨(hI.nx k hk).1, fun u hu => key u ((hI.nx k hk).2 u hu)⟩
  · show 0 ≤ setI st.ow i (st.ow i + P.W i - P.G) k ∧ setI st.ow i (st.ow i + P.W i - P.G) k < P.G
    unfold setI
    have := hI.ow i hi
    split
    · omega
    · exact hI.ow k hk
  · show setI st.own (P.pl i (P.nxt i st)) i q = -1 ∨ (0 ≤ setI st.own (P.pl i (P.nxt i st)) i q ∧ setI st.own (P.pl i (P.nxt i st)) i q < P.n)
    unfold setI
    split
    · exact .inr ⟨by omega, by omega⟩
    · exact hI.rng q
theorem Inv.le {st : St} (hI : P.Inv st) : st.cnt ≤ P.m := by rw [hI.cnt]; exact cntF_le _ _
theorem Inv.stp {st : St} (h : P.Ok) (hI : P.Inv st) {i : Nat} (hi : i < P.n) : P.Inv (P.stp i st) := by
  unfold Par.stp
  split
  · exact hI
  · have := hI.le
    split
    · exact hI.wait hi (by assumption)
    · exact hI.take h (by omega) hi (by assumption)
theorem run_inv (h : P.Ok) : ∀ T, P.Inv (P.run T)
  | 0 => Inv.start h
  | T + 1 => (run_inv h T).stp h (Nat.mod_lt _ h.n0)
end Par
/-- A step below a prime has no divisor in common with it. -/
theorem prime_coprime {m s : Nat} (h : primeB m = true) (h1 : 1 ≤ s) (h2 : s < m) : Nat.gcd s m = 1 := by
  obtain ⟨hm, hd⟩ := primeB_spec h
  have g1 := Nat.gcd_dvd_right s m
  have g2 := Nat.gcd_dvd_left s m
  have g3 := Nat.le_of_dvd (by omega) g2
  have g4 := Nat.gcd_pos_of_pos_left m (show 0 < s by omega)
  rcases Nat.lt_or_ge (Nat.gcd s m) 2 with h5 | h5
  · omega
  · exact absurd g1 (hd _ (by omega) h5)
/-- Where a place lies in a row. -/
def Par.pos (P : Par) (i q : Nat) : Nat := ((List.range P.m).find? fun t => P.pl i t == q).getD 0
theorem Par.pos_pl {P : Par} (h : P.Ok) {i : Nat} (hi : i < P.n) {t : Nat} (ht : t < P.m) : P.pos i (P.pl i t) = t := by
  unfold Par.pos
  have : (List.range P.m).find? (fun u => P.pl i u == P.pl i t) = some t := by
    rw [List.find?_range_eq_some]
    refine ⟨by simp, by simpa using ht, fun j hj => ?_⟩
    have : ¬ P.pl i j = P.pl i t := row_inj (m := P.m) (f := P.F i) (h.row i hi) hj ht
    simpa using this
  rw [this]; rfl
theorem Par.pl_next (P : Par) (i t : Nat) : (P.pl i t + P.S i) % P.m = P.pl i (t + 1) := row_next P.m (P.F i) (P.S i) t
theorem setN_same (f : Nat → Nat) (i v : Nat) : setN f i v i = v := if_pos rfl
theorem setN_twice (f : Nat → Nat) (i v u : Nat) : setN (setN f i v) i u = setN f i u := by
  funext k; unfold setN; split <;> rfl
theorem setN_id (f : Nat → Nat) (i : Nat) : setN f i (f i) = f := by
  funext k; unfold setN; split
  · rename_i e; rw [e]
  · rfl
end Go.Proofs.YtlcpkplipfcdaaaDoor
