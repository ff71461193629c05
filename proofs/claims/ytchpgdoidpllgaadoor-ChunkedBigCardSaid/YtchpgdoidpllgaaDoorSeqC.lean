/- octet's List. -/
import Derived.Test.YtchpgdoidpllgaaDoorSeqB
import Derived.Test.YtchpgdoidpllgaaDoorIsS
namespace Go.Proofs.YtchpgdoidpllgaaDoor
open Go.RowKit

attribute [local go_sem] Oper.semAt_some

theorem infoStr : (Tryd.prog.info? 9).map (fun i => (i.zero, i.size, i.bytes)) = some (some (.string ⟨#[]⟩), 1, 16) := by kernel_rfl
/-- append of one value, in a fence; where the new row lies. -/
theorem in_append {F : Fence} {n : Nat} {P : Program} (w : World) {ops : Array Oper} {rest : List Oper} {o : Oper} {a : Act} {Q : Exit → Act → World → Prop}
    (hg : o.guard = none) (s x : Operand) (t : TypeId) (hop : o.op = Op.call { callee := Callee.builtin Builtin.append, args := #[s, x], argTypes := #[t, t] })
    (base : Nat) (e : TypeId) (i : TypeInfo) (z : Value) (bytes : Nat) (h1 : P.underlying t = some (.slice e)) (h2 : P.info? e = some i) (h3 : i.zero = some z) (h4 : i.size = 1) (h5 : i.bytes = bytes) (h6 : z.cells.size = 1)
    (v : Value) (k : Nat) (xs : List Value) (hs : a.eval s = v) (hown : w.ownsRow base e 1 v k xs) (ad : Addr) (u : Value) (hx : a.eval x = .slice (some ad) 1 1)
    (hc : ∀ j y, [u][j]? = some y → w.cell? (ad.add j) = some y) (h1c : u.oneCell' = true) (b1 : k + 1 ≤ maxLen) (b2 : (k + 1) * bytes ≤ 140737488355328) (b3 : base ≤ w.heap.size)
    (hK : ∀ v' w', w'.ownsRow base e 1 v' (k + 1) (xs ++ [u]) → w.grownBy w' v.ownBlock → (v'.ownBlock = v.ownBlock ∨ v'.ownBlock = some w.heap.size) → wpListIn F n P ops Q rest (a.put o.dst v') w') :
    wpListIn F n P ops Q (o :: rest) a w := by
  refine wpListIn_plain hg fun K hK' => ?_
  obtain ⟨v', w', hrun, r1, r2, _, r4⟩ := run_append_own_at (P := P) w base t o.type e i z 1 bytes h1 h2 h3 h4 h5 h6 (by decide) v k xs hown ad 1 1 [u] rfl hc (by intro y hy; simp at hy; subst hy; exact h1c) b1 b2 b3
  unfold Oper.wpIn
  refine ⟨?_, ?_⟩
  · simp [Oper.about, hop, resolve, Target.leads, Sem.run_pure]
  · rw [Oper.semAt_plain F _ _ (by rw [hop]; intro c hc'; cases hc')]
    simp [execOp, hop, resolve, invoke, builtin, hs, hx, hrun, Result.andThen]
    exact hK' _ _ (hK v' w' r1 r2 r4)

/-- What is kept of parts. -/
def keepP (ps : List (List UInt8)) : List (List UInt8) := (ps.map trimB).filter fun l => !l.isEmpty
def valsOf (ys : List (List UInt8)) : List Value := ys.map fun l => Value.string ⟨l.toArray⟩
/-- The parts of the first values. -/
def accL (xs : List ByteArray) (j : Nat) : List (List UInt8) := ((xs.take j).map fun x => keepP (parts 44 x.data.toList)).flatten
def listP (xs : List ByteArray) : List (List UInt8) := accL xs xs.length
theorem keepP_length (ps : List (List UInt8)) : (keepP ps).length ≤ ps.length := by
  unfold keepP
  exact Nat.le_trans (List.length_filter_le _ _) (by rw [List.length_map]; exact Nat.le_refl _)
theorem keepP_snoc (ps : List (List UInt8)) (x : List UInt8) : keepP (ps ++ [x]) = keepP ps ++ if (trimB x).isEmpty then [] else [trimB x] := by
  unfold keepP
  rw [List.map_append, List.filter_append]
  congr 1
  by_cases h : (trimB x).isEmpty = true
  · simp [h]
  · simp [h]
theorem accL_succ (xs : List ByteArray) (j : Nat) (h : j < xs.length) : accL xs (j + 1) = accL xs j ++ keepP (parts 44 xs[j].data.toList) := by
  unfold accL
  rw [List.take_add_one, List.getElem?_eq_getElem h, Option.toList_some, List.map_append, List.flatten_append]
  simp
def sumS (xs : List ByteArray) : Nat := (xs.map fun x => x.size + 1).sum
theorem accL_bound (xs : List ByteArray) : ∀ j, (accL xs j).length ≤ sumS (xs.take j)
  | 0 => by simp [accL, sumS]
  | j + 1 => by
    have ih := accL_bound xs j
    by_cases h : j < xs.length
    · rw [accL_succ xs j h, List.length_append]
      have h1 := keepP_length (parts 44 xs[j].data.toList)
      have h2 := parts_length 44 xs[j].data.toList
      rw [← Lib.size_eq] at h2
      have h3 : sumS (xs.take (j + 1)) = sumS (xs.take j) + (xs[j].size + 1) := by
        unfold sumS
        rw [List.take_add_one, List.getElem?_eq_getElem h, Option.toList_some, List.map_append, List.sum_append]
        simp
      omega
    · unfold accL sumS at *
      rw [List.take_of_length_le (by omega)] at ih ⊢
      exact ih
theorem sumS_part (xs : List ByteArray) (j : Nat) (h : j < xs.length) : sumS (xs.take j) + (xs[j].size + 1) ≤ sumS xs := by
  have e : xs = xs.take j ++ (xs[j] :: xs.drop (j + 1)) := by rw [← List.drop_eq_getElem_cons h, List.take_append_drop]
  have h2 : sumS xs = sumS (xs.take j) + ((xs[j].size + 1) + sumS (xs.drop (j + 1))) := by
    have := congrArg sumS e
    rw [this]
    unfold sumS
    rw [List.map_append, List.sum_append, List.map_cons, List.sum_cons]
  omega
theorem sum_len (xs : List ByteArray) : xs.length ≤ sumS xs := by
  unfold sumS
  induction xs with
  | nil => simp
  | cons a r ih => simp only [List.length_cons, List.map_cons, List.sum_cons]; omega
/-- The blocks for deferred calls that loops have laid. -/
def markD (D : Nat) : Deferred := { target := .collected D, args := #[] }
theorem grown_of_below {W W1 : World} (hb : Below W.heap.size W W1) : W.grownBy W1 none := ⟨hb.os, hb.tape, hb.output, hb.size, fun k hk _ => hb.block k hk⟩
/-- What List has collected. -/
structure Acc (w W : World) (Ds : List Nat) (ys : List (List UInt8)) (v : Value) : Prop where
  box : Boxed W w.heap.size 27 v
  row : W.ownsRow w.heap.size 9 1 v ys.length (valsOf ys)
  ds : ∀ D ∈ Ds, W.heap[D]? = some (.deferred (some []))
  bel : Below w.heap.size w W
  dlo : ∀ D ∈ Ds, w.heap.size < D
/-- A row that a slice owns is cells. -/
theorem own_cells {W : World} {base k : Nat} {e : TypeId} {v : Value} {xs : List Value} (h : W.ownsRow base e 1 v k xs) (g : Nat) (hg : v.ownBlock = some g) : ∃ o, W.heap[g]? = some o ∧ o.isCells = true := by
  obtain ⟨_, ⟨rfl, _⟩ | ⟨g', cap, cur, rfl, _, hh, _⟩⟩ := h
  · simp [Value.ownBlock] at hg
  · obtain rfl : g' = g := by simpa [Value.ownBlock] using hg
    exact ⟨_, hh, rfl⟩
theorem Acc.grown {w W W' : World} {Ds : List Nat} {ys : List (List UInt8)} {v : Value} (h : Acc w W Ds ys v) {row : Option Nat} (hg : W.grownBy W' row)
    (hr : ∀ r, row = some r → w.heap.size < r ∧ v.ownBlock ≠ some r ∧ r ∉ Ds) : Acc w W' Ds ys v := by
  refine ⟨h.box.kept hg (fun e => ?_), h.row.kept hg ?_, fun D hD => ?_, h.bel.grown hg h.bel.size (fun k e => Nat.le_of_lt (hr k e).1), h.dlo⟩
  · have := (hr _ e.symm).1; omega
  · cases hv : v.ownBlock with
    | none => exact .inl rfl
    | some g => exact .inr (fun e => (hr g e.symm).2.1 hv)
  · have hd := h.ds D hD
    exact (hg.block D (Array.getElem?_eq_some_iff.1 hd).1 (fun e => (hr D e.symm).2.2 hD)).trans hd

theorem leaves_marks {fn : Func} {n : Nat} {tmps : Array Value} {R : Ending → World → Prop} {v : Value} {P : Program} (hres : ∀ W, (results fn tmps).run P W = .ok v W) {B k : Nat} {e : TypeId} {u : Value} {ys : List Value} {w : World} :
    ∀ (Ds : List Nat) (W : World), Ds.Nodup → (∀ D ∈ Ds, W.heap[D]? = some (.deferred (some []))) → (∀ D ∈ Ds, B ≤ D) → W.ownsRow B e 1 u k ys → Below B w W →
      (∀ W', W'.ownsRow B e 1 u k ys → Below B w W' → R (.returned v) W') → LeavesInM Fence.wide n P fn tmps R (Ds.map markD) .returning W
  | [], W, _, _, _, hr, hb, hR => ⟨v, hres W, hR W hr hb⟩
  | D :: r, W, hnd, hd, hB, hr, hb, hR => by
    have hD := hd D (List.mem_cons_self)
    have hlt := (Array.getElem?_eq_some_iff.1 hD).1
    have hn := List.nodup_cons.1 hnd
    refine ⟨by simp, .inl ⟨D, _, rfl, run_takeDeferred hD, ?_⟩⟩
    refine leaves_marks hres r _ hn.2 (fun E hE => ?_) (fun E hE => hB E (List.mem_cons_of_mem _ hE)) (ownsRow_putObj hr _ hD rfl)
      (hb.grown (grownBy_putObj' W D (.deferred none)) (by have := hB D List.mem_cons_self; omega) (fun q eq => by injection eq with eq; subst eq; exact hB _ List.mem_cons_self)) hR
    rw [World.putObj_heap_other (fun e => hn.1 (by rw [← e]; exact hE))]
    exact hd E (List.mem_cons_of_mem _ hE)
end Go.Proofs.YtchpgdoidpllgaaDoor
