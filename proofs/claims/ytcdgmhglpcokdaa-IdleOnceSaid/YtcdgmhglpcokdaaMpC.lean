/- Maps as partial functions, with their lengths (MpK with a count). -/
import Derived.Test.YtcdgmhglpcokdaaMpK
namespace Go.Proofs.Ytcdgmhglpcokdaa
open Go.RowKit Go.Maps

/-- A map in memory: it holds f, in m entries. -/
def MapC {κ α : Type} {K : KTy κ} (M : MTyK K α) (w : World) (b n m : Nat) (f : κ → Option α) : Prop :=
  ∃ D : DataW Unit, w.ownsMap Try.prog K.t M.R b n D ∧ ReadsK M D f ∧ Maps.size D = m
section
variable {κ α : Type} {K : KTy κ} {M : MTyK K α} {w w' : World} {b n m : Nat} {f : κ → Option α}
theorem MapC.k (h : MapC M w b n m f) : MapK M w b n f := by
  obtain ⟨D, h1, h2, _⟩ := h
  exact ⟨D, h1, h2⟩
theorem MapC.lt (h : MapC M w b n m f) : b < w.heap.size := h.k.lt
theorem MapC.same (h : MapC M w b n m f) (hb : w'.heap[b]? = w.heap[b]?) : MapC M w' b n m f := by
  obtain ⟨D, ⟨es, clock, hm, F, hs, hD⟩, r⟩ := h
  exact ⟨D, ⟨es, clock, hb.trans hm, F, hs, hD⟩, r⟩
theorem MapC.keep {G : Nat → Prop} (h : MapC M w b n m f) (hk : Keep G w w') (hg : ¬ G b) : MapC M w' b n m f := h.same (hk.block b h.lt hg)
theorem MapC.below (h : MapC M w b n m f) (hb : Below w.heap.size w w') : MapC M w' b n m f := h.same (hb.block b h.lt)
theorem MapC.mono {n' : Nat} (h : MapC M w b n m f) (hm : n ≤ n') : MapC M w b n' m f := by
  obtain ⟨D, ho, r⟩ := h
  exact ⟨D, ho.mono hm, r⟩
theorem MapC.new (M : MTyK K α) (w : World) : MapC M (w.alloc (.map #[] 0)) w.heap.size 0 0 (fun _ => none) :=
  ⟨_, World.ownsMap_made w _ _ _, (fun _ => ⟨rfl, fun a h => by cases h⟩), rfl⟩
theorem MapC.len (h : MapC M w b n m f) (ty : TypeId) : (Builtin.len_ #[M.T] ty #[.map (some b)]).run Try.prog w = .ok (.int .i64 (m : Int)) w := by
  obtain ⟨D, h1, _, h3⟩ := h
  rw [← h3]
  exact h1.len M.hT ty
theorem MapC.store (h : MapC M w b n m f) (hn : n < maxLen) {s : κ} (hs : K.ok s) (c : α) :
    ∃ w', (Instr.mapUpdate M.T (.map (some b)) (K.kv s) (M.mv c)).run Try.prog w = .ok () w' ∧ MapC M w' b (n + 1) (if (f s).isSome then m else m + 1) (updK f s (some c)) ∧ w.mapTurned w' b := by
  obtain ⟨D, ho, r, hm⟩ := h
  have htd := ho.tidy K.keyed
  obtain ⟨w', hrun, ho', ht⟩ := ho.store K.keyed M.hT hn (K.key s hs) (M.hR c)
  refine ⟨w', hrun, ⟨_, ho', fun x => ?_, ?_⟩, ht⟩
  · by_cases hx : x = s
    · subst hx
      rw [updK_same]
      refine ⟨has_put_same ho.isMap (K.lit _) _, fun a ha zd => ?_⟩
      cases ha
      exact atKey_put_same ho.isMap (K.lit _) _ _
    · rw [updK_other f _ hx, has_put_other (fun e => hx (K.inj _ _ e))]
      exact ⟨(r x).1, fun a ha zd => by rw [atKey_put_other (fun e => hx (K.inj _ _ e))]; exact (r x).2 a ha zd⟩
  · rw [Maps.size_put htd, (r s).1, hm]
theorem MapC.drop (h : MapC M w b n m f) {s : κ} (hs : K.ok s) (ty : TypeId) :
    ∃ w', (Builtin.delete_ #[M.T, K.t] ty #[.map (some b), K.kv s]).run Try.prog w = .ok (.tuple #[]) w' ∧ MapC M w' b n (if (f s).isSome then m - 1 else m) (updK f s none) ∧ w.mapTurned w' b := by
  obtain ⟨D, ho, r, hm⟩ := h
  have htd := ho.tidy K.keyed
  obtain ⟨w', hrun, ho', ht⟩ := ho.drop K.keyed M.hT (K.key s hs) ty
  refine ⟨w', hrun, ⟨_, ho', fun x => ?_, ?_⟩, ht⟩
  · by_cases hx : x = s
    · subst hx
      rw [updK_same]
      exact ⟨has_del_same, fun a ha => by cases ha⟩
    · rw [updK_other f _ hx, has_del_other (fun e => hx (K.inj _ _ e))]
      exact ⟨(r x).1, fun a ha zd => by rw [atKey_del_other (fun e => hx (K.inj _ _ e))]; exact (r x).2 a ha zd⟩
  · have h9 := Maps.size_del (D := D) (k := K.kl s) htd
    rw [(r s).1, hm] at h9
    split at h9
    · rename_i h8; rw [if_pos h8]; omega
    · rename_i h8; rw [if_neg h8]; omega
end
section
variable {κ α : Type} {K : KTy κ} (M : MTyK K α) (w : World) {ops : Array Oper} {rest : List Oper} {o : Oper} {a : Act} {Q : Exit → Act → World → Prop}
/-- 'm[k] = c' at the operation. -/
theorem wpl_storeC (hg : o.guard = none) (m x v : Operand) (hop : o.op = Op.mapUpdate M.T m x v) (b n c0 : Nat) (f : κ → Option α)
    (hm : a.eval m = .map (some b)) (hown : MapC M w b n c0 f) (hn : n < maxLen) (s : κ) (c : α) (hx : a.eval x = K.kv s) (hv : a.eval v = M.mv c) (hs : K.ok s)
    (hK : ∀ w', MapC M w' b (n + 1) (if (f s).isSome then c0 else c0 + 1) (updK f s (some c)) → w.mapTurned w' b → wpList Try.prog ops Q rest (a.put o.dst undef) w') :
    wpList Try.prog ops Q (o :: rest) a w := by
  refine wpList_plain hg fun K' hK' => ?_
  obtain ⟨w', hrun, r1, r2⟩ := hown.store hn hs c
  unfold Oper.wp
  simp [execOp, hop, hm, hx, hv, hrun, Result.andThen]
  exact hK' _ _ (hK w' r1 r2)
/-- 'delete(m, k)' at the operation. -/
theorem wpl_dropC (hg : o.guard = none) (m x : Operand) (hop : o.op = Op.call { callee := Callee.builtin Builtin.delete, args := #[m, x], argTypes := #[M.T, K.t] }) (b n c0 : Nat) (f : κ → Option α)
    (hm : a.eval m = .map (some b)) (hown : MapC M w b n c0 f) (s : κ) (hx : a.eval x = K.kv s) (hs : K.ok s)
    (hK : ∀ w', MapC M w' b n (if (f s).isSome then c0 - 1 else c0) (updK f s none) → w.mapTurned w' b → wpList Try.prog ops Q rest (a.put o.dst (.tuple #[])) w') :
    wpList Try.prog ops Q (o :: rest) a w := by
  refine wpList_plain hg fun K' hK' => ?_
  obtain ⟨w', hrun, r1, r2⟩ := hown.drop hs o.type
  unfold Oper.wp
  simp [execOp, hop, resolve, invoke, builtin, hm, hx, hrun, Result.andThen]
  exact hK' _ _ (hK w' r1 r2)
end
end Go.Proofs.Ytcdgmhglpcokdaa
