/- Maps from strings to whatever reads plainly, as partial functions. -/
import Derived.Test.YtoikgphbicnhaabKeepN
import Derived.Maps.OwnSet
import Derived.Maps.RangeWalk
namespace Go.Proofs.Ytoikgphbicnhaab
open Go.RowKit Go.Maps

theorem lawStr : Keyed Try.prog 9 := string_keyed Try.underlying9
/-- A kind of elements: how they read, and the map's type. -/
structure MTy (α : Type) where
  R : Value → Option (DataW Unit × List MemPlace)
  mv : α → Value
  md : α → DataW Unit
  z0 : α
  T : TypeId
  e : TypeId
  hR : ∀ a, R (mv a) = some (md a, [])
  inv : ∀ v z, R v = some z → ∃ a, v = mv a ∧ z = (md a, [])
  inj : ∀ a b, md a = md b → a = b
  hT : Try.prog.underlying T = some (.map 9 e)
  hz : ∀ w, (zeroValue e).run Try.prog w = .ok (mv z0) w

/-- One entry changed. -/
def updO {α : Type} (f : ByteArray → Option α) (s : ByteArray) (c : Option α) : ByteArray → Option α := fun x => if x = s then c else f x
theorem updO_same {α : Type} (f : ByteArray → Option α) (s : ByteArray) (c : Option α) : updO f s c s = c := if_pos rfl
theorem updO_other {α : Type} (f : ByteArray → Option α) {s x : ByteArray} (c : Option α) (h : x ≠ s) : updO f s c x = f x := if_neg h
/-- A datum reads as a partial function. -/
def ReadsO {α : Type} (M : MTy α) (D : DataW Unit) (f : ByteArray → Option α) : Prop :=
  ∀ s : ByteArray, Maps.has D (.string s.data.toList) = (f s).isSome ∧ ∀ a, f s = some a → ∀ zd, D.atKey (.string s.data.toList) zd = M.md a
/-- A map in memory. -/
def MapO {α : Type} (M : MTy α) (w : World) (b n : Nat) (f : ByteArray → Option α) : Prop :=
  ∃ D : DataW Unit, w.ownsMap Try.prog 9 M.R b n D ∧ ReadsO M D f
theorem keyO_ne {x s : ByteArray} (h : x ≠ s) : (Lit.string x.data.toList) ≠ (Lit.string s.data.toList) := by
  intro e
  injection e with e
  exact h (ByteArray.ext (Array.ext' e))
theorem keyO {s : ByteArray} (hs : s.size ≤ maxLen) : keyOf Try.prog 9 (.string s) = some (.string s.data.toList) := WideMaps.keyOf_string_mk Try.underlying9 hs
theorem keyO_inv {key : Value} {kl : Lit} (h : keyOf Try.prog 9 key = some kl) : ∃ s : ByteArray, key = .string s ∧ s.size ≤ maxLen ∧ kl = .string s.data.toList := by
  cases key <;> simp [keyOf, Try.underlying9, mapKey] at h
  obtain ⟨h1, h2⟩ := h
  exact ⟨_, rfl, h1, h2.symm⟩
section
variable {α : Type} {M : MTy α} {w w' : World} {b n m : Nat} {f : ByteArray → Option α}
theorem MapO.lt (h : MapO M w b n f) : b < w.heap.size := by
  obtain ⟨D, ho, _⟩ := h
  exact ho.lt
theorem MapO.same (h : MapO M w b n f) (hb : w'.heap[b]? = w.heap[b]?) : MapO M w' b n f := by
  obtain ⟨D, ⟨es, clock, hm, F, hs, hD⟩, r⟩ := h
  exact ⟨D, ⟨es, clock, hb.trans hm, F, hs, hD⟩, r⟩
theorem MapO.mono (h : MapO M w b n f) (hm : n ≤ m) : MapO M w b m f := by
  obtain ⟨D, ho, r⟩ := h
  exact ⟨D, ho.mono hm, r⟩
theorem MapO.keep {G : Nat → Prop} (h : MapO M w b n f) (hk : Keep G w w') (hg : ¬ G b) : MapO M w' b n f := h.same (hk.block b h.lt hg)
theorem MapO.below (h : MapO M w b n f) (hb : Below w.heap.size w w') : MapO M w' b n f := h.same (hb.block b h.lt)
theorem MapO.grown {row : Option Nat} (h : MapO M w b n f) (hg : w.grownBy w' row) (hne : row ≠ some b) : MapO M w' b n f := h.same (hg.block b h.lt (fun e => hne e.symm))
theorem MapO.far (h : MapO M w b n f) {p : Addr} (hp : b ≠ p.block) (u : Value) : MapO M (w.setCell p u) b n f := h.same (Below.heap_setCell w p u b hp)
theorem MapO.ne_row (h : MapO M w b n f) {g : Nat} {t : TypeId} {cs : Array Value} (hr : Row w g t cs) : b ≠ g := by
  obtain ⟨D, ⟨es, clock, hm, _⟩, _⟩ := h
  intro e
  subst e
  unfold Row at hr
  rw [hm] at hr
  cases hr
theorem MapO.ne_own (h : MapO M w b n f) {base sz len : Nat} {t : TypeId} {v : Value} {xs : List Value} (hr : w.ownsRow base t sz v len xs) : v.ownBlock ≠ some b := by
  obtain ⟨D, ⟨es, clock, hm, _⟩, _⟩ := h
  obtain ⟨_, ⟨rfl, _⟩ | ⟨k, cap, cur, rfl, _, hk, _⟩⟩ := hr
  · simp [Value.ownBlock]
  · intro he
    have : k = b := by simpa [Value.ownBlock] using he
    subst this
    rw [hm] at hk
    cases hk
theorem MapO.new (M : MTy α) (w : World) : MapO M (w.alloc (.map #[] 0)) w.heap.size 0 (fun _ => none) :=
  ⟨_, World.ownsMap_made w _ _ _, fun _ => ⟨rfl, fun a h => by cases h⟩⟩
/-- 'm[k]'. -/
theorem MapO.look (h : MapO M w b n f) {s : ByteArray} (hs : s.size ≤ maxLen) : (Instr.lookup M.T (.map (some b)) (.string s) false).run Try.prog w = .ok (M.mv ((f s).getD M.z0)) w := by
  obtain ⟨D, ho, r⟩ := h
  obtain ⟨v, ps, hrun, hv⟩ := ho.lookup lawStr M.hT (M.hz w) (M.hR M.z0) (keyO hs)
  rw [hrun]
  obtain ⟨a, rfl, hz⟩ := M.inv _ _ hv
  simp only [Prod.mk.injEq] at hz
  obtain ⟨r1, r2⟩ := r s
  cases hf : f s with
  | none =>
    rw [hf] at r1
    rw [atKey_of_not_has r1] at hz
    rw [M.inj _ _ hz.1]; rfl
  | some c =>
    rw [r2 c hf] at hz
    rw [M.inj _ _ hz.1]; rfl
/-- 'v, ok := m[k]'. -/
theorem MapO.look_ok (h : MapO M w b n f) {s : ByteArray} (hs : s.size ≤ maxLen) : (Instr.lookup M.T (.map (some b)) (.string s) true).run Try.prog w = .ok (.tuple #[M.mv ((f s).getD M.z0), .bool (f s).isSome]) w := by
  obtain ⟨D, ho, r⟩ := h
  obtain ⟨v, ps, hrun, hv⟩ := ho.look_ok lawStr M.hT (M.hz w) (M.hR M.z0) (keyO hs)
  rw [hrun]
  obtain ⟨a, rfl, hz⟩ := M.inv _ _ hv
  simp only [Prod.mk.injEq] at hz
  obtain ⟨r1, r2⟩ := r s
  cases hf : f s with
  | none =>
    rw [hf] at r1
    rw [atKey_of_not_has r1] at hz
    rw [M.inj _ _ hz.1, r1]; rfl
  | some c =>
    rw [hf] at r1
    rw [r2 c hf] at hz
    rw [M.inj _ _ hz.1, r1]; rfl
theorem look_nilO (M : MTy α) (w : World) {s : ByteArray} (hs : s.size ≤ maxLen) : (Instr.lookup M.T (.map none) (.string s) false).run Try.prog w = .ok (M.mv M.z0) w :=
  Maps.look_nil false lawStr M.hT (M.hz w) (keyO hs)
theorem look_ok_nilO (M : MTy α) (w : World) {s : ByteArray} (hs : s.size ≤ maxLen) : (Instr.lookup M.T (.map none) (.string s) true).run Try.prog w = .ok (.tuple #[M.mv M.z0, .bool false]) w :=
  Maps.look_nil true lawStr M.hT (M.hz w) (keyO hs)
theorem MapO.store (h : MapO M w b n f) (hn : n < maxLen) {s : ByteArray} (hs : s.size ≤ maxLen) (c : α) :
    ∃ w', (Instr.mapUpdate M.T (.map (some b)) (.string s) (M.mv c)).run Try.prog w = .ok () w' ∧ MapO M w' b (n + 1) (updO f s (some c)) ∧ w.mapTurned w' b := by
  obtain ⟨D, ho, r⟩ := h
  obtain ⟨w', hrun, ho', ht⟩ := ho.store lawStr M.hT hn (keyO hs) (M.hR c)
  refine ⟨w', hrun, ⟨_, ho', fun x => ?_⟩, ht⟩
  by_cases hx : x = s
  · subst hx
    rw [updO_same]
    refine ⟨has_put_same ho.isMap (by unfold WideAt.IsKeyLit; trivial) _, fun a ha zd => ?_⟩
    cases ha
    exact atKey_put_same ho.isMap (by unfold WideAt.IsKeyLit; trivial) _ _
  · rw [updO_other f _ hx, has_put_other (keyO_ne hx)]
    exact ⟨(r x).1, fun a ha zd => by rw [atKey_put_other (keyO_ne hx)]; exact (r x).2 a ha zd⟩
theorem MapO.drop (h : MapO M w b n f) {s : ByteArray} (hs : s.size ≤ maxLen) (ty : TypeId) :
    ∃ w', (Builtin.delete_ #[M.T, 9] ty #[.map (some b), .string s]).run Try.prog w = .ok (.tuple #[]) w' ∧ MapO M w' b n (updO f s none) ∧ w.mapTurned w' b := by
  obtain ⟨D, ho, r⟩ := h
  obtain ⟨w', hrun, ho', ht⟩ := ho.drop lawStr M.hT (keyO hs) ty
  refine ⟨w', hrun, ⟨_, ho', fun x => ?_⟩, ht⟩
  by_cases hx : x = s
  · subst hx
    rw [updO_same]
    exact ⟨has_del_same, fun a ha => by cases ha⟩
  · rw [updO_other f _ hx, has_del_other (keyO_ne hx)]
    exact ⟨(r x).1, fun a ha zd => by rw [atKey_del_other (keyO_ne hx)]; exact (r x).2 a ha zd⟩
end
section
variable {α : Type} (M : MTy α) (w : World) {ops : Array Oper} {rest : List Oper} {o : Oper} {a : Act} {Q : Exit → Act → World → Prop}
/-- 'm[k] = c' at the operation. -/
theorem wpl_storeO (hg : o.guard = none) (m x v : Operand) (hop : o.op = Op.mapUpdate M.T m x v) (b n : Nat) (f : ByteArray → Option α)
    (hm : a.eval m = .map (some b)) (hown : MapO M w b n f) (hn : n < maxLen) (s : ByteArray) (c : α) (hx : a.eval x = .string s) (hv : a.eval v = M.mv c) (hs : s.size ≤ maxLen)
    (hK : ∀ w', MapO M w' b (n + 1) (updO f s (some c)) → w.mapTurned w' b → wpList Try.prog ops Q rest (a.put o.dst undef) w') :
    wpList Try.prog ops Q (o :: rest) a w := by
  refine wpList_plain hg fun K' hK' => ?_
  obtain ⟨w', hrun, r1, r2⟩ := hown.store hn hs c
  unfold Oper.wp
  simp [execOp, hop, hm, hx, hv, hrun, Result.andThen]
  exact hK' _ _ (hK w' r1 r2)
/-- 'delete(m, k)' at the operation. -/
theorem wpl_dropO (hg : o.guard = none) (m x : Operand) (hop : o.op = Op.call { callee := Callee.builtin Builtin.delete, args := #[m, x], argTypes := #[M.T, 9] }) (b n : Nat) (f : ByteArray → Option α)
    (hm : a.eval m = .map (some b)) (hown : MapO M w b n f) (s : ByteArray) (hx : a.eval x = .string s) (hs : s.size ≤ maxLen)
    (hK : ∀ w', MapO M w' b n (updO f s none) → w.mapTurned w' b → wpList Try.prog ops Q rest (a.put o.dst (.tuple #[])) w') :
    wpList Try.prog ops Q (o :: rest) a w := by
  refine wpList_plain hg fun K' hK' => ?_
  obtain ⟨w', hrun, r1, r2⟩ := hown.drop hs o.type
  unfold Oper.wp
  simp [execOp, hop, resolve, invoke, builtin, hm, hx, hrun, Result.andThen]
  exact hK' _ _ (hK w' r1 r2)
/-- 'delete(nil, k)' at the operation. -/
theorem wpl_drop_nilO (hg : o.guard = none) (m x : Operand) (hop : o.op = Op.call { callee := Callee.builtin Builtin.delete, args := #[m, x], argTypes := #[M.T, 9] })
    (hm : a.eval m = .map none) (s : ByteArray) (hx : a.eval x = .string s) (hs : s.size ≤ maxLen)
    (hK : wpList Try.prog ops Q rest (a.put o.dst (.tuple #[])) w) :
    wpList Try.prog ops Q (o :: rest) a w := by
  refine wpList_plain hg fun K' hK' => ?_
  have hrun := Maps.drop_nil (w := w) lawStr M.hT (keyO hs) o.type
  unfold Oper.wp
  simp [execOp, hop, resolve, invoke, builtin, hm, hx, hrun, Result.andThen]
  exact hK' _ _ hK
end
theorem Keep.turned {w w' : World} {G : Nat → Prop} {b : Nat} (h : w.mapTurned w' b) (hg : G b) : Keep G w w' := Keep.grown h.grown (fun k hk => by injection hk with hk; rw [← hk]; exact hg)
theorem turned_size {w w' : World} {b : Nat} (h : w.mapTurned w' b) : w'.heap.size = w.heap.size := by
  obtain ⟨es, cl, es', cl', _, rfl⟩ := h
  simp [ChangeMaps.setBlock]
end Go.Proofs.Ytoikgphbicnhaab
