/- Maps from keys of any kind to whatever reads plainly, as partial functions (MpO for other keys than strings). -/
import Derived.Test.YtcdgmhglpcokdaaKeepN
import Derived.Maps.OwnSet
import Derived.Maps.RangeWalk
namespace Go.Proofs.Ytcdgmhglpcokdaa
open Go.RowKit Go.Maps

/-- A kind of keys. -/
structure KTy (κ : Type) where
  t : TypeId
  kv : κ → Value
  kl : κ → Lit
  ok : κ → Prop
  keyed : Keyed Try.prog t
  key : ∀ k, ok k → keyOf Try.prog t (kv k) = some (kl k)
  inj : ∀ a b, kl a = kl b → a = b
  lit : ∀ k, WideAt.IsKeyLit (kl k)
/-- A kind of elements: how they read, and the map's type. -/
structure MTyK {κ : Type} (K : KTy κ) (α : Type) where
  R : Value → Option (DataW Unit × List MemPlace)
  mv : α → Value
  md : α → DataW Unit
  z0 : α
  T : TypeId
  e : TypeId
  hR : ∀ a, R (mv a) = some (md a, [])
  inv : ∀ v z, R v = some z → ∃ a, v = mv a ∧ z = (md a, [])
  inj : ∀ a b, md a = md b → a = b
  hT : Try.prog.underlying T = some (.map K.t e)
  hz : ∀ w, (zeroValue e).run Try.prog w = .ok (mv z0) w

open Classical in
/-- One entry changed. -/
noncomputable def updK {κ α : Type} (f : κ → Option α) (s : κ) (c : Option α) : κ → Option α := fun x => if x = s then c else f x
theorem updK_same {κ α : Type} (f : κ → Option α) (s : κ) (c : Option α) : updK f s c s = c := if_pos rfl
theorem updK_other {κ α : Type} (f : κ → Option α) {s x : κ} (c : Option α) (h : x ≠ s) : updK f s c x = f x := if_neg h
/-- A datum reads as a partial function. -/
def ReadsK {κ α : Type} {K : KTy κ} (M : MTyK K α) (D : DataW Unit) (f : κ → Option α) : Prop :=
  ∀ s : κ, Maps.has D (K.kl s) = (f s).isSome ∧ ∀ a, f s = some a → ∀ zd, D.atKey (K.kl s) zd = M.md a
/-- A map in memory. -/
def MapK {κ α : Type} {K : KTy κ} (M : MTyK K α) (w : World) (b n : Nat) (f : κ → Option α) : Prop :=
  ∃ D : DataW Unit, w.ownsMap Try.prog K.t M.R b n D ∧ ReadsK M D f
section
variable {κ α : Type} {K : KTy κ} {M : MTyK K α} {w w' : World} {b n m : Nat} {f : κ → Option α}
theorem MapK.lt (h : MapK M w b n f) : b < w.heap.size := by
  obtain ⟨D, ho, _⟩ := h
  exact ho.lt
theorem MapK.same (h : MapK M w b n f) (hb : w'.heap[b]? = w.heap[b]?) : MapK M w' b n f := by
  obtain ⟨D, ⟨es, clock, hm, F, hs, hD⟩, r⟩ := h
  exact ⟨D, ⟨es, clock, hb.trans hm, F, hs, hD⟩, r⟩
theorem MapK.mono (h : MapK M w b n f) (hm : n ≤ m) : MapK M w b m f := by
  obtain ⟨D, ho, r⟩ := h
  exact ⟨D, ho.mono hm, r⟩
theorem MapK.keep {G : Nat → Prop} (h : MapK M w b n f) (hk : Keep G w w') (hg : ¬ G b) : MapK M w' b n f := h.same (hk.block b h.lt hg)
theorem MapK.below (h : MapK M w b n f) (hb : Below w.heap.size w w') : MapK M w' b n f := h.same (hb.block b h.lt)
theorem MapK.grown {row : Option Nat} (h : MapK M w b n f) (hg : w.grownBy w' row) (hne : row ≠ some b) : MapK M w' b n f := h.same (hg.block b h.lt (fun e => hne e.symm))
theorem MapK.far (h : MapK M w b n f) {p : Addr} (hp : b ≠ p.block) (u : Value) : MapK M (w.setCell p u) b n f := h.same (Below.heap_setCell w p u b hp)
theorem MapK.ne_row (h : MapK M w b n f) {g : Nat} {t : TypeId} {cs : Array Value} (hr : Row w g t cs) : b ≠ g := by
  obtain ⟨D, ⟨es, clock, hm, _⟩, _⟩ := h
  intro e
  subst e
  unfold Row at hr
  rw [hm] at hr
  cases hr
theorem MapK.ne_own (h : MapK M w b n f) {base sz len : Nat} {t : TypeId} {v : Value} {xs : List Value} (hr : w.ownsRow base t sz v len xs) : v.ownBlock ≠ some b := by
  obtain ⟨D, ⟨es, clock, hm, _⟩, _⟩ := h
  obtain ⟨_, ⟨rfl, _⟩ | ⟨k, cap, cur, rfl, _, hk, _⟩⟩ := hr
  · simp [Value.ownBlock]
  · intro he
    have : k = b := by simpa [Value.ownBlock] using he
    subst this
    rw [hm] at hk
    cases hk
theorem MapK.new (M : MTyK K α) (w : World) : MapK M (w.alloc (.map #[] 0)) w.heap.size 0 (fun _ => none) :=
  ⟨_, World.ownsMap_made w _ _ _, fun _ => ⟨rfl, fun a h => by cases h⟩⟩
/-- 'm[k]'. -/
theorem MapK.look (h : MapK M w b n f) {s : κ} (hs : K.ok s) : (Instr.lookup M.T (.map (some b)) (K.kv s) false).run Try.prog w = .ok (M.mv ((f s).getD M.z0)) w := by
  obtain ⟨D, ho, r⟩ := h
  obtain ⟨v, ps, hrun, hv⟩ := ho.lookup K.keyed M.hT (M.hz w) (M.hR M.z0) (K.key s hs)
  rw [hrun]
  obtain ⟨a, rfl, hz⟩ := M.inv _ _ hv
  simp only [Prod.mk.injEq] at hz
  obtain ⟨r1, r2⟩ := r s
  cases hf : f s with
  | none =>
    rw [hf] at r1
    rw [atKey_of_not_has r1] at hz
    rw [M.inj _ _ hz.1]; rfl
  | some c =>
    rw [r2 c hf] at hz
    rw [M.inj _ _ hz.1]; rfl
/-- 'v, ok := m[k]'. -/
theorem MapK.look_ok (h : MapK M w b n f) {s : κ} (hs : K.ok s) : (Instr.lookup M.T (.map (some b)) (K.kv s) true).run Try.prog w = .ok (.tuple #[M.mv ((f s).getD M.z0), .bool (f s).isSome]) w := by
  obtain ⟨D, ho, r⟩ := h
  obtain ⟨v, ps, hrun, hv⟩ := ho.look_ok K.keyed M.hT (M.hz w) (M.hR M.z0) (K.key s hs)
  rw [hrun]
  obtain ⟨a, rfl, hz⟩ := M.inv _ _ hv
  simp only [Prod.mk.injEq] at hz
  obtain ⟨r1, r2⟩ := r s
  cases hf : f s with
  | none =>
    rw [hf] at r1
    rw [atKey_of_not_has r1] at hz
    rw [M.inj _ _ hz.1, r1]; rfl
  | some c =>
    rw [hf] at r1
    rw [r2 c hf] at hz
    rw [M.inj _ _ hz.1, r1]; rfl
theorem look_nilK (M : MTyK K α) (w : World) {s : κ} (hs : K.ok s) : (Instr.lookup M.T (.map none) (K.kv s) false).run Try.prog w = .ok (M.mv M.z0) w :=
  Maps.look_nil false K.keyed M.hT (M.hz w) (K.key s hs)
theorem look_ok_nilK (M : MTyK K α) (w : World) {s : κ} (hs : K.ok s) : (Instr.lookup M.T (.map none) (K.kv s) true).run Try.prog w = .ok (.tuple #[M.mv M.z0, .bool false]) w :=
  Maps.look_nil true K.keyed M.hT (M.hz w) (K.key s hs)
theorem MapK.store (h : MapK M w b n f) (hn : n < maxLen) {s : κ} (hs : K.ok s) (c : α) :
    ∃ w', (Instr.mapUpdate M.T (.map (some b)) (K.kv s) (M.mv c)).run Try.prog w = .ok () w' ∧ MapK M w' b (n + 1) (updK f s (some c)) ∧ w.mapTurned w' b := by
  obtain ⟨D, ho, r⟩ := h
  obtain ⟨w', hrun, ho', ht⟩ := ho.store K.keyed M.hT hn (K.key s hs) (M.hR c)
  refine ⟨w', hrun, ⟨_, ho', fun x => ?_⟩, ht⟩
  by_cases hx : x = s
  · subst hx
    rw [updK_same]
    refine ⟨has_put_same ho.isMap (K.lit _) _, fun a ha zd => ?_⟩
    cases ha
    exact atKey_put_same ho.isMap (K.lit _) _ _
  · rw [updK_other f _ hx, has_put_other (fun e => hx (K.inj _ _ e))]
    exact ⟨(r x).1, fun a ha zd => by rw [atKey_put_other (fun e => hx (K.inj _ _ e))]; exact (r x).2 a ha zd⟩
theorem MapK.drop (h : MapK M w b n f) {s : κ} (hs : K.ok s) (ty : TypeId) :
    ∃ w', (Builtin.delete_ #[M.T, K.t] ty #[.map (some b), K.kv s]).run Try.prog w = .ok (.tuple #[]) w' ∧ MapK M w' b n (updK f s none) ∧ w.mapTurned w' b := by
  obtain ⟨D, ho, r⟩ := h
  obtain ⟨w', hrun, ho', ht⟩ := ho.drop K.keyed M.hT (K.key s hs) ty
  refine ⟨w', hrun, ⟨_, ho', fun x => ?_⟩, ht⟩
  by_cases hx : x = s
  · subst hx
    rw [updK_same]
    exact ⟨has_del_same, fun a ha => by cases ha⟩
  · rw [updK_other f _ hx, has_del_other (fun e => hx (K.inj _ _ e))]
    exact ⟨(r x).1, fun a ha zd => by rw [atKey_del_other (fun e => hx (K.inj _ _ e))]; exact (r x).2 a ha zd⟩
end
section
variable {κ α : Type} {K : KTy κ} (M : MTyK K α) (w : World) {ops : Array Oper} {rest : List Oper} {o : Oper} {a : Act} {Q : Exit → Act → World → Prop}
/-- 'm[k] = c' at the operation. -/
theorem wpl_storeK (hg : o.guard = none) (m x v : Operand) (hop : o.op = Op.mapUpdate M.T m x v) (b n : Nat) (f : κ → Option α)
    (hm : a.eval m = .map (some b)) (hown : MapK M w b n f) (hn : n < maxLen) (s : κ) (c : α) (hx : a.eval x = K.kv s) (hv : a.eval v = M.mv c) (hs : K.ok s)
    (hK : ∀ w', MapK M w' b (n + 1) (updK f s (some c)) → w.mapTurned w' b → wpList Try.prog ops Q rest (a.put o.dst undef) w') :
    wpList Try.prog ops Q (o :: rest) a w := by
  refine wpList_plain hg fun K' hK' => ?_
  obtain ⟨w', hrun, r1, r2⟩ := hown.store hn hs c
  unfold Oper.wp
  simp [execOp, hop, hm, hx, hv, hrun, Result.andThen]
  exact hK' _ _ (hK w' r1 r2)
/-- 'delete(m, k)' at the operation. -/
theorem wpl_dropK (hg : o.guard = none) (m x : Operand) (hop : o.op = Op.call { callee := Callee.builtin Builtin.delete, args := #[m, x], argTypes := #[M.T, K.t] }) (b n : Nat) (f : κ → Option α)
    (hm : a.eval m = .map (some b)) (hown : MapK M w b n f) (s : κ) (hx : a.eval x = K.kv s) (hs : K.ok s)
    (hK : ∀ w', MapK M w' b n (updK f s none) → w.mapTurned w' b → wpList Try.prog ops Q rest (a.put o.dst (.tuple #[])) w') :
    wpList Try.prog ops Q (o :: rest) a w := by
  refine wpList_plain hg fun K' hK' => ?_
  obtain ⟨w', hrun, r1, r2⟩ := hown.drop hs o.type
  unfold Oper.wp
  simp [execOp, hop, resolve, invoke, builtin, hm, hx, hrun, Result.andThen]
  exact hK' _ _ (hK w' r1 r2)
/-- 'delete(nil, k)' at the operation. -/
theorem wpl_drop_nilK (hg : o.guard = none) (m x : Operand) (hop : o.op = Op.call { callee := Callee.builtin Builtin.delete, args := #[m, x], argTypes := #[M.T, K.t] })
    (hm : a.eval m = .map none) (s : κ) (hx : a.eval x = K.kv s) (hs : K.ok s)
    (hK : wpList Try.prog ops Q rest (a.put o.dst (.tuple #[])) w) :
    wpList Try.prog ops Q (o :: rest) a w := by
  refine wpList_plain hg fun K' hK' => ?_
  have hrun := Maps.drop_nil (w := w) K.keyed M.hT (K.key s hs) o.type
  unfold Oper.wp
  simp [execOp, hop, resolve, invoke, builtin, hm, hx, hrun, Result.andThen]
  exact hK' _ _ hK
end
theorem Keep.turnedK {w w' : World} {G : Nat → Prop} {b : Nat} (h : w.mapTurned w' b) (hg : G b) : Keep G w w' := Keep.grown h.grown (fun k hk => by injection hk with hk; rw [← hk]; exact hg)
theorem turned_sizeK {w w' : World} {b : Nat} (h : w.mapTurned w' b) : w'.heap.size = w.heap.size := by
  obtain ⟨es, cl, es', cl', _, rfl⟩ := h
  simp [ChangeMaps.setBlock]
end Go.Proofs.Ytcdgmhglpcokdaa
