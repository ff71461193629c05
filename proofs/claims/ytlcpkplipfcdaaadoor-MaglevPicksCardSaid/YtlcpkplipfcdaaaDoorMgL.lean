/- maglev: slices of entries; sets of names with their size (out of XRoC). -/
import Derived.Test.YtlcpkplipfcdaaaDoorKeepN
import Derived.Maps.OwnSet
import Derived.WalkSpells
namespace Go.Proofs.YtlcpkplipfcdaaaDoor
open Go.RowKit Go.Maps

abbrev Ent := ByteArray × Int
theorem infoMEnt : (Tryd.prog.info? 72).map (fun i => (i.zero, i.size, i.bytes)) = some (some (.agg #[.string ⟨#[]⟩, .int .i64 0]), 2, 24) := by kernel_rfl
theorem infoXEnt : (Tryd.prog.info? 44).map (fun i => (i.zero, i.size, i.bytes)) = some (some (.agg #[.string ⟨#[]⟩, .int .i64 0]), 2, 24) := by kernel_rfl
/-- The cells of entries. -/
def cellsE (es : List Ent) : List Value := es.flatMap fun e => [.string e.1, .int .i64 e.2]
theorem cellsE_append (a b : List Ent) : cellsE (a ++ b) = cellsE a ++ cellsE b := by simp [cellsE]
theorem cellsE_length (a : List Ent) : (cellsE a).length = a.length * 2 := by
  induction a with
  | nil => rfl
  | cons e a ih => simp [cellsE] at ih ⊢; omega
theorem cellsE_at : ∀ (es : List Ent) (j : Nat) (e : Ent), es[j]? = some e → (cellsE es)[j * 2]? = some (.string e.1) ∧ (cellsE es)[j * 2 + 1]? = some (.int .i64 e.2)
  | [], j, e, h => by cases j <;> cases h
  | x :: es, 0, e, h => by
    simp at h; subst h
    exact ⟨rfl, rfl⟩
  | x :: es, j + 1, e, h => by
    have := cellsE_at es j e (by simpa using h)
    rw [show (j + 1) * 2 = j * 2 + 1 + 1 by omega]
    exact ⟨this.1, this.2⟩
theorem cellsE_step {es : List Ent} {j : Nat} (hj : j < es.length) : cellsE (es.take (j + 1)) = cellsE (es.take j) ++ [.string es[j].1, .int .i64 es[j].2] := by
  rw [List.take_add_one, List.getElem?_eq_getElem hj, Option.toList_some, cellsE_append]
  rfl
/-- A slice that reads as these entries. -/
def IsEnts (w : World) (a : Option Addr) (c : Nat) (es : List Ent) : Prop :=
  es = [] ∨ ∃ bk o, a = some ⟨bk, o, none⟩ ∧ bk < w.heap.size ∧ es.length ≤ c ∧ ∀ (j : Nat) e, es[j]? = some e → w.cell? ⟨bk, o + j * 2, none⟩ = some (.string e.1) ∧ w.cell? ⟨bk, o + j * 2 + 1, none⟩ = some (.int .i64 e.2)
theorem keep_cell {G : Nat → Prop} {w w' : World} (h : Keep G w w') {b : Nat} (hb : b < w.heap.size) (hg : ¬ G b) (o : Nat) : w'.cell? ⟨b, o, none⟩ = w.cell? ⟨b, o, none⟩ := by
  have := h.block b hb hg
  simp only [World.cell?, this]
theorem IsEnts.keep {G : Nat → Prop} {w w' : World} {a : Option Addr} {c : Nat} {es : List Ent} (h : IsEnts w a c es) (hk : Keep G w w') (hg : ∀ p, a = some p → ¬ G p.block) : IsEnts w' a c es := by
  obtain h | ⟨bk, o, ha, hlt, hc, hcell⟩ := h
  · exact .inl h
  · have hb := hg _ ha
    exact .inr ⟨bk, o, ha, Nat.lt_of_lt_of_le hlt hk.size, hc, fun j f hf => by rw [keep_cell hk hlt hb, keep_cell hk hlt hb]; exact hcell j f hf⟩
theorem IsEnts.below {w w' : World} {a : Option Addr} {c : Nat} {es : List Ent} (h : IsEnts w a c es) (hb : Below w.heap.size w w') : IsEnts w' a c es :=
  h.keep (G := fun _ => False) (.of_below hb) (fun _ _ h => h)
theorem isEnts_own {w : World} {base : Nat} {e : TypeId} {a : Option Addr} {m c : Nat} {es : List Ent} (h : w.ownsRow base e 2 (.slice a m c) es.length (cellsE es)) : m = es.length ∧ IsEnts w a c es ∧ ∀ p, a = some p → base ≤ p.block ∧ p.block < w.heap.size := by
  have hl := fun k hk => h.lt k hk
  obtain ⟨_, ⟨hv, h0⟩ | ⟨g, cap, cur, hv, hb, hg, hcap, _, hcs, htk⟩⟩ := h
  · injection hv with h1 h2 h3
    refine ⟨by omega, .inl (List.eq_nil_of_length_eq_zero h0), fun p hp => ?_⟩
    rw [h1] at hp; cases hp
  · injection hv with h1 h2 h3
    have hlt : g < w.heap.size := (Array.getElem?_eq_some_iff.1 hg).1
    subst h1 h2 h3
    refine ⟨rfl, .inr ⟨g, 0, rfl, hlt, hcap, fun j e' he => ?_⟩, fun p hp => ?_⟩
    · have hj : j < es.length := by
        rcases Nat.lt_or_ge j es.length with h | h
        · exact h
        · rw [List.getElem?_eq_none h] at he; cases he
      obtain ⟨q1, q2⟩ := cellsE_at es j e' he
      rw [← htk, List.getElem?_take, if_pos (by omega)] at q1 q2
      rw [Nat.zero_add]
      constructor
      · simpa [World.cell?, hg] using q1
      · simpa [World.cell?, hg] using q2
    · injection hp with hp; subst hp; exact ⟨hb, hlt⟩
theorem cells_ent (w : World) (n : ByteArray) (v : Int) (T : TypeId) : ∀ (k : Nat) u, [Value.string n, .int .i64 v][k]? = some u → (w.alloc (.cells #[.string n, .int .i64 v] T)).cell? ((⟨w.heap.size, 0, none⟩ : Addr).add k) = some u := by
  intro k u hu
  rw [Addr.add_mid]
  match k, hu with
  | 0, hu => obtain rfl := Option.some.inj hu; simp
  | 1, hu => obtain rfl := Option.some.inj hu; simp
  | k + 2, hu => simp at hu
theorem ent_one (n : ByteArray) (v : Int) : ∀ u ∈ [Value.string n, Value.int .i64 v], u.oneCell' = true := by intro u hu; simp at hu; rcases hu with rfl | rfl <;> rfl

theorem lawS : Keyed Tryd.prog 9 := string_keyed Tryd.underlying9
theorem key_ne {x s : ByteArray} (h : x ≠ s) : (Lit.string x.data.toList) ≠ (Lit.string s.data.toList) := by
  intro e
  injection e with e
  exact h (ByteArray.ext (Array.ext' e))
/-- A set of names, so many. -/
def SetN (w : World) (b n k : Nat) (p : ByteArray → Bool) : Prop :=
  ∃ D : DataW Unit, w.ownsMap Tryd.prog 9 unitElem b n D ∧ (∀ s : ByteArray, Maps.has D (.string s.data.toList) = p s) ∧ Maps.size D = k
theorem SetN.lt {w : World} {b n k : Nat} {p : ByteArray → Bool} (h : SetN w b n k p) : b < w.heap.size := by
  obtain ⟨D, ho, _⟩ := h
  exact ho.lt
theorem SetN.same {w w' : World} {b n k : Nat} {p : ByteArray → Bool} (h : SetN w b n k p) (hb : w'.heap[b]? = w.heap[b]?) : SetN w' b n k p := by
  obtain ⟨D, ⟨es, clock, hm, F, hs, hD⟩, r⟩ := h
  exact ⟨D, ⟨es, clock, hb.trans hm, F, hs, hD⟩, r⟩
theorem SetN.alloc {w : World} {b n k : Nat} {p : ByteArray → Bool} (h : SetN w b n k p) (o : Obj) : SetN (w.alloc o) b n k p := h.same ((below_alloc w o).block b h.lt)
theorem SetN.new (w : World) : SetN (w.alloc (.map #[] 0)) w.heap.size 0 0 (fun _ => false) := ⟨_, World.ownsMap_made w _ _ _, fun _ => rfl, rfl⟩
theorem zeroU (w : World) : (zeroValue 90).run Tryd.prog w = .ok (.agg #[]) w := by kernel_rfl
section
variable (w : World) {ops : Array Oper} {rest : List Oper} {o : Oper} {a : Act} {Q : Exit → Act → World → Prop}
theorem wpl_seenN (hg : o.guard = none) (m x : Operand) (hop : o.op = Op.lookup 89 m x true) (b n k : Nat) (p : ByteArray → Bool)
    (hm : a.eval m = .map (some b)) (hown : SetN w b n k p) (s : ByteArray) (hx : a.eval x = .string s) (hs : s.size ≤ maxLen)
    (hK : wpList Tryd.prog ops Q rest (a.put o.dst (.tuple #[.agg #[], .bool (p s)])) w) :
    wpList Tryd.prog ops Q (o :: rest) a w := by
  obtain ⟨D, ho, r, _⟩ := hown
  rw [← r s] at hK
  exact wpList_lookup_own_unit w hg m x _ hop _ _ lawS Tryd.underlying89 (zeroU _) b n D hm ho _ _ hx (WideMaps.keyOf_string_mk Tryd.underlying9 hs) hK
theorem wpl_markN (hg : o.guard = none) (m x v : Operand) (hop : o.op = Op.mapUpdate 89 m x v) (b n k : Nat) (p : ByteArray → Bool)
    (hm : a.eval m = .map (some b)) (hown : SetN w b n k p) (hn : n < maxLen) (s : ByteArray) (hx : a.eval x = .string s) (hv : a.eval v = .agg #[]) (hs : s.size ≤ maxLen)
    (hK : ∀ w', SetN w' b (n + 1) (if p s then k else k + 1) (fun y => p y || decide (s = y)) → w.grownBy w' (some b) → wpList Tryd.prog ops Q rest (a.put o.dst undef) w') :
    wpList Tryd.prog ops Q (o :: rest) a w := by
  obtain ⟨D, ho, r, hk⟩ := hown
  refine wpList_mapUpdate_own w hg m x v _ hop _ _ lawS Tryd.underlying89 unitElem b n D hm ho hn _ _ _ hx hv (WideMaps.keyOf_string_mk Tryd.underlying9 hs) _ [] unitElem_mk ?_
  intro w' ho' hg'
  refine hK w' ⟨_, ho', fun y => ?_, ?_⟩ hg'
  · by_cases h : y = s
    · subst h
      rw [has_put_same ho.isMap (by unfold WideAt.IsKeyLit; trivial)]
      simp
    · rw [has_put_other (key_ne h), r y]
      have : ¬ s = y := fun e => h e.symm
      simp [this]
  · rw [size_put (ho.tidy lawS), r s, hk]
end
end Go.Proofs.YtlcpkplipfcdaaaDoor
