/- strconv: bytes appended to a row of one's own, beside a row that is read. -/
import Derived.Test.YtbgppkjcmgljnaaDoorFmE
import Derived.Test.YtbgppkjcmgljnaaDoorFmZ
import Derived.Maps.AppendAt
namespace Go.Proofs.YtbgppkjcmgljnaaDoor
open Go.RowKit

def byV (l : List UInt8) : List Value := l.map fun c => Value.int .u8 (c.toNat : Int)
theorem byV_one (l : List UInt8) : ∀ u ∈ byV l, u.oneCell' = true := by
  intro u hu
  unfold byV at hu
  rw [List.mem_map] at hu
  obtain ⟨x, _, rfl⟩ := hu
  rfl
/-- The row that is written, and the one that is read. -/
structure OwnB (B b nz : Nat) (g : Nat → UInt8) (w0 : World) (v : Value) (l : List UInt8) (w : World) : Prop where
  own : w.ownsRow B 5 1 v l.length (byV l)
  bel : Below B w0 w
  ne : v.ownBlock ≠ some b
  row : BytesR w b nz g
  lt : b < w.heap.size
  base : B ≤ w.heap.size
theorem OwnB.grown {B b nz : Nat} {g : Nat → UInt8} {w0 w w' : World} {v v' : Value} {l l' : List UInt8} (h : OwnB B b nz g w0 v l w) (ho : w'.ownsRow B 5 1 v' l'.length (byV l')) (hg : w.grownBy w' v.ownBlock) (hat : v'.ownBlock = v.ownBlock ∨ v'.ownBlock = some w.heap.size) : OwnB B b nz g w0 v' l' w' := by
  have hb : w'.heap[b]? = w.heap[b]? := hg.block b h.lt (fun e => h.ne e.symm)
  have hs : w.heap.size ≤ w'.heap.size := hg.size
  refine ⟨ho, h.bel.grown hg h.base (fun k hk => (h.own.lt k hk).1), ?_, fun j hj => ?_, Nat.lt_of_lt_of_le h.lt hs, Nat.le_trans h.base hs⟩
  · rcases hat with e | e
    · rw [e]; exact h.ne
    · rw [e]; intro e2; have := h.lt; simp at e2; omega
  · obtain ⟨h1, h2⟩ := h.row j hj
    exact ⟨by rw [← h1]; simp only [World.cell?, hb], by rw [← h2]; simp only [World.frozen?, hb]⟩
theorem OwnB.alloc {B b nz : Nat} {g : Nat → UInt8} {w0 w : World} {v : Value} {l : List UInt8} (h : OwnB B b nz g w0 v l w) (o : Obj) : OwnB B b nz g w0 v l (w.alloc o) := by
  have hb : (w.alloc o).heap[b]? = w.heap[b]? := by
    show (w.heap.push o)[b]? = _
    rw [Array.getElem?_push_lt h.lt, Array.getElem?_eq_getElem h.lt]
  refine ⟨h.own.alloc _, h.bel.alloc h.base _, h.ne, fun j hj => ?_, by have := h.lt; simp; omega, by have := h.base; simp; omega⟩
  obtain ⟨h1, h2⟩ := h.row j hj
  exact ⟨by rw [← h1]; simp only [World.cell?, hb], by rw [← h2]; simp only [World.frozen?, hb]⟩
theorem byV_append (l m : List UInt8) : byV (l ++ m) = byV l ++ byV m := by simp [byV]
/-- One byte more. -/
theorem wpList_app1 {W : World} {z : Int} {T0 : TypeId} {ops : Array Oper} {rest : List Oper} {o : Oper} {a : Act} {Q : Exit → Act → World → Prop} (hgd : o.guard = none) (s x : Operand)
    (ho : o.op = .call { callee := .builtin .append, args := #[s, x], argTypes := #[46, 46] })
    {B b nz : Nat} {g : Nat → UInt8} {w0 : World} {v : Value} {l : List UInt8} (hs : a.eval s = v) (hx : a.eval x = .slice (some ⟨W.heap.size, 0, none⟩) 1 1)
    (hO : OwnB B b nz g w0 v l W) (hz : 0 ≤ z ∧ z < 256) (hl : l.length ≤ 100000)
    (h : ∀ v' w', OwnB B b nz g w0 v' (l ++ [UInt8.ofNat z.toNat]) w' → wpList Tryd.prog ops Q rest (a.put o.dst v') w') :
    wpList Tryd.prog ops Q (o :: rest) a (W.alloc (.cells #[.int .u8 z] T0)) := by
  obtain ⟨i0, hi, hz0, hz1, hz2⟩ := info_parts infoU8
  have e : (byV [UInt8.ofNat z.toNat]) = [.int .u8 z] := by
    obtain ⟨n, rfl⟩ := Int.eq_ofNat_of_zero_le hz.1
    have hn : n < 256 := by omega
    simp [byV, UInt8.toNat_ofNat', Nat.mod_eq_of_lt hn]
  refine wpList_append_own_at _ hgd s x 46 ho B 5 i0 (.int .u8 0) 1 1 Tryd.underlying46 hi hz0 hz1 hz2 rfl (by decide) v l.length (byV l) hs (hO.alloc _).own ⟨W.heap.size, 0, none⟩ 1 1 [.int .u8 z] hx rfl (cell_one _ _ _) (one_cell _ _) (by unfold maxLen; omega) (by omega) (by have := hO.base; simp; omega) ?_
  intro v' w' h2 h3 _ h5
  refine h v' w' ((hO.alloc _).grown ?_ h3 h5)
  rw [byV_append, e, List.length_append]
  exact h2
/-- Some bytes of the row that is read more. -/
theorem wpList_appS {w : World} {ops : Array Oper} {rest : List Oper} {o : Oper} {a : Act} {Q : Exit → Act → World → Prop} (hgd : o.guard = none) (s x : Operand)
    (ho : o.op = .call { callee := .builtin .append, args := #[s, x], argTypes := #[46, 46] })
    {B b nz : Nat} {g : Nat → UInt8} {w0 : World} {v : Value} {l : List UInt8} (i m c : Nat) (hs : a.eval s = v) (hx : a.eval x = .slice (some ⟨b, i, none⟩) m c)
    (hO : OwnB B b nz g w0 v l w) (him : i + m ≤ nz) (hm : m ≤ 100) (hl : l.length ≤ 100000)
    (h : ∀ v' w', OwnB B b nz g w0 v' (l ++ (List.range m).map fun t => g (i + t)) w' → wpList Tryd.prog ops Q rest (a.put o.dst v') w') :
    wpList Tryd.prog ops Q (o :: rest) a w := by
  obtain ⟨i0, hi, hz0, hz1, hz2⟩ := info_parts infoU8
  have hlen : (byV ((List.range m).map fun t => g (i + t))).length = m := by simp [byV]
  refine wpList_append_own_at _ hgd s x 46 ho B 5 i0 (.int .u8 0) 1 1 Tryd.underlying46 hi hz0 hz1 hz2 rfl (by decide) v l.length (byV l) hs hO.own ⟨b, i, none⟩ m c (byV ((List.range m).map fun t => g (i + t))) hx (by rw [hlen]; omega) (fun j u hu => ?_) (byV_one _) (by unfold maxLen; omega) (by omega) hO.base ?_
  · unfold byV at hu
    rw [List.getElem?_map, List.getElem?_map, Option.map_eq_some_iff] at hu
    obtain ⟨y, hy, rfl⟩ := hu
    rw [Option.map_eq_some_iff] at hy
    obtain ⟨t, ht, rfl⟩ := hy
    obtain ⟨h1, h2⟩ := List.getElem?_eq_some_iff.1 ht
    rw [List.length_range] at h1
    rw [List.getElem_range] at h2
    subst h2
    rw [Addr.add_mid]
    exact (hO.row (i + j) (by omega)).1
  intro v' w' h2 h3 _ h5
  refine h v' w' (hO.grown ?_ h3 h5)
  rw [byV_append, List.length_append, List.length_map, List.length_range]
  exact h2
end Go.Proofs.YtbgppkjcmgljnaaDoor
