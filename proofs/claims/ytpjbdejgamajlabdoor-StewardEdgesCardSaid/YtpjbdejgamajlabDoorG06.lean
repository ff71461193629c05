/- Packed: FmF, FmG, FmI. -/
import Derived.Maps.AppendAt
import Derived.Deep.CutBlock
import Derived.Deep.DeepCutAuto
import Derived.Deep.LoopGhost
import Derived.Test.YtpjbdejgamajlabDoorG04
import Derived.Test.YtpjbdejgamajlabDoorG05
/- strconv: bytes appended to a row of one's own, beside a row that is read. -/
namespace Go.Proofs.YtpjbdejgamajlabDoor
open Go.RowKit

def byV (l : List UInt8) : List Value := l.map fun c => Value.int .u8 (c.toNat : Int)
theorem byV_one (l : List UInt8) : ∀ u ∈ byV l, u.oneCell' = true := by
  intro u hu
  unfold byV at hu
  rw [List.mem_map] at hu
  obtain ⟨x, _, rfl⟩ := hu
  rfl
/-- The row that is written, and the one that is read. -/
structure OwnB (B b nz : Nat) (g : Nat → UInt8) (w0 : World) (v : Value) (l : List UInt8) (w : World) : Prop where
  own : w.ownsRow B 5 1 v l.length (byV l)
  bel : Below B w0 w
  ne : v.ownBlock ≠ some b
  row : BytesR w b nz g
  lt : b < w.heap.size
  base : B ≤ w.heap.size
theorem OwnB.grown {B b nz : Nat} {g : Nat → UInt8} {w0 w w' : World} {v v' : Value} {l l' : List UInt8} (h : OwnB B b nz g w0 v l w) (ho : w'.ownsRow B 5 1 v' l'.length (byV l')) (hg : w.grownBy w' v.ownBlock) (hat : v'.ownBlock = v.ownBlock ∨ v'.ownBlock = some w.heap.size) : OwnB B b nz g w0 v' l' w' := by
  have hb : w'.heap[b]? = w.heap[b]? := hg.block b h.lt (fun e => h.ne e.symm)
  have hs : w.heap.size ≤ w'.heap.size := hg.size
  refine ⟨ho, h.bel.grown hg h.base (fun k hk => (h.own.lt k hk).1), ?_, fun j hj => ?_, Nat.lt_of_lt_of_le h.lt hs, Nat.le_trans h.base hs⟩
  · rcases hat with e | e
    · rw [e]; exact h.ne
    · rw [e]; intro e2; have := h.lt; simp at e2; omega
  · obtain ⟨h1, h2⟩ := h.row j hj
    exact ⟨by rw [← h1]; simp only [World.cell?, hb], by rw [← h2]; simp only [World.frozen?, hb]⟩
theorem OwnB.alloc {B b nz : Nat} {g : Nat → UInt8} {w0 w : World} {v : Value} {l : List UInt8} (h : OwnB B b nz g w0 v l w) (o : Obj) : OwnB B b nz g w0 v l (w.alloc o) := by
  have hb : (w.alloc o).heap[b]? = w.heap[b]? := by
    show (w.heap.push o)[b]? = _
    rw [Array.getElem?_push_lt h.lt, Array.getElem?_eq_getElem h.lt]
  refine ⟨h.own.alloc _, h.bel.alloc h.base _, h.ne, fun j hj => ?_, by have := h.lt; simp; omega, by have := h.base; simp; omega⟩
  obtain ⟨h1, h2⟩ := h.row j hj
  exact ⟨by rw [← h1]; simp only [World.cell?, hb], by rw [← h2]; simp only [World.frozen?, hb]⟩
theorem byV_append (l m : List UInt8) : byV (l ++ m) = byV l ++ byV m := by simp [byV]
/-- One byte more. -/
theorem wpList_app1 {W : World} {z : Int} {T0 : TypeId} {ops : Array Oper} {rest : List Oper} {o : Oper} {a : Act} {Q : Exit → Act → World → Prop} (hgd : o.guard = none) (s x : Operand)
    (ho : o.op = .call { callee := .builtin .append, args := #[s, x], argTypes := #[62, 62] })
    {B b nz : Nat} {g : Nat → UInt8} {w0 : World} {v : Value} {l : List UInt8} (hs : a.eval s = v) (hx : a.eval x = .slice (some ⟨W.heap.size, 0, none⟩) 1 1)
    (hO : OwnB B b nz g w0 v l W) (hz : 0 ≤ z ∧ z < 256) (hl : l.length ≤ 100000)
    (h : ∀ v' w', OwnB B b nz g w0 v' (l ++ [UInt8.ofNat z.toNat]) w' → wpList Tryd.prog ops Q rest (a.put o.dst v') w') :
    wpList Tryd.prog ops Q (o :: rest) a (W.alloc (.cells #[.int .u8 z] T0)) := by
  obtain ⟨i0, hi, hz0, hz1, hz2⟩ := info_parts infoU8
  have e : (byV [UInt8.ofNat z.toNat]) = [.int .u8 z] := by
    obtain ⟨n, rfl⟩ := Int.eq_ofNat_of_zero_le hz.1
    have hn : n < 256 := by omega
    simp [byV, UInt8.toNat_ofNat', Nat.mod_eq_of_lt hn]
  refine wpList_append_own_at _ hgd s x 62 ho B 5 i0 (.int .u8 0) 1 1 Tryd.underlying62 hi hz0 hz1 hz2 rfl (by decide) v l.length (byV l) hs (hO.alloc _).own ⟨W.heap.size, 0, none⟩ 1 1 [.int .u8 z] hx rfl (cell_one _ _ _) (one_cell _ _) (by unfold maxLen; omega) (by omega) (by have := hO.base; simp; omega) ?_
  intro v' w' h2 h3 _ h5
  refine h v' w' ((hO.alloc _).grown ?_ h3 h5)
  rw [byV_append, e, List.length_append]
  exact h2
/-- Some bytes of the row that is read more. -/
theorem wpList_appS {w : World} {ops : Array Oper} {rest : List Oper} {o : Oper} {a : Act} {Q : Exit → Act → World → Prop} (hgd : o.guard = none) (s x : Operand)
    (ho : o.op = .call { callee := .builtin .append, args := #[s, x], argTypes := #[62, 62] })
    {B b nz : Nat} {g : Nat → UInt8} {w0 : World} {v : Value} {l : List UInt8} (i m c : Nat) (hs : a.eval s = v) (hx : a.eval x = .slice (some ⟨b, i, none⟩) m c)
    (hO : OwnB B b nz g w0 v l w) (him : i + m ≤ nz) (hm : m ≤ 100) (hl : l.length ≤ 100000)
    (h : ∀ v' w', OwnB B b nz g w0 v' (l ++ (List.range m).map fun t => g (i + t)) w' → wpList Tryd.prog ops Q rest (a.put o.dst v') w') :
    wpList Tryd.prog ops Q (o :: rest) a w := by
  obtain ⟨i0, hi, hz0, hz1, hz2⟩ := info_parts infoU8
  have hlen : (byV ((List.range m).map fun t => g (i + t))).length = m := by simp [byV]
  refine wpList_append_own_at _ hgd s x 62 ho B 5 i0 (.int .u8 0) 1 1 Tryd.underlying62 hi hz0 hz1 hz2 rfl (by decide) v l.length (byV l) hs hO.own ⟨b, i, none⟩ m c (byV ((List.range m).map fun t => g (i + t))) hx (by rw [hlen]; omega) (fun j u hu => ?_) (byV_one _) (by unfold maxLen; omega) (by omega) hO.base ?_
  · unfold byV at hu
    rw [List.getElem?_map, List.getElem?_map, Option.map_eq_some_iff] at hu
    obtain ⟨y, hy, rfl⟩ := hu
    rw [Option.map_eq_some_iff] at hy
    obtain ⟨t, ht, rfl⟩ := hy
    obtain ⟨h1, h2⟩ := List.getElem?_eq_some_iff.1 ht
    rw [List.length_range] at h1
    rw [List.getElem_range] at h2
    subst h2
    rw [Addr.add_mid]
    exact (hO.row (i + j) (by omega)).1
  intro v' w' h2 h3 _ h5
  refine h v' w' (hO.grown ?_ h3 h5)
  rw [byV_append, List.length_append, List.length_map, List.length_range]
  exact h2
end Go.Proofs.YtpjbdejgamajlabDoor

/- strconv.fmtEFG: lists. -/
namespace Go.Proofs.YtpjbdejgamajlabDoor
open Go.RowKit

def sgnL (neg : Bool) : List UInt8 := if neg then [45] else []
def fstD (nz : Nat) (g : Nat → UInt8) : UInt8 := if nz = 0 then 48 else g 0
def midL (nz : Nat) (g : Nat → UInt8) : List UInt8 := if nz ≤ 1 then [] else [46] ++ (List.range (nz - 1)).map fun t => g (1 + t)
def expI (nz : Nat) (dp : Int) : Int := if nz = 0 then 0 else dp - 1
def expS (nz : Nat) (dp : Int) : Int := if expI nz dp < 0 then 45 else 43
def expA (nz : Nat) (dp : Int) : Int := if expI nz dp < 0 then - expI nz dp else expI nz dp
theorem sgnL_len (neg : Bool) : (sgnL neg).length ≤ 1 := by unfold sgnL; split <;> simp
theorem midL_len (nz : Nat) (g : Nat → UInt8) : (midL nz g).length ≤ nz + 1 := by unfold midL; split <;> simp <;> omega
theorem expA_in (nz : Nat) (dp : Int) (h0 : -450 ≤ dp) (h1 : dp ≤ 450) : 0 ≤ expA nz dp ∧ expA nz dp ≤ 451 := by
  unfold expA expI
  split <;> split <;> omega
theorem expS_in (nz : Nat) (dp : Int) : 0 ≤ expS nz dp ∧ expS nz dp < 256 := by
  unfold expS
  split <;> omega
/-- The digits of an exponent. -/
def expD (n : Nat) : List UInt8 :=
  if n < 10 then [48, UInt8.ofNat ((n : Int) + 48).toNat]
  else if n < 100 then [UInt8.ofNat ((n : Int) / 10 + 48).toNat, UInt8.ofNat ((n : Int) % 10 + 48).toNat]
  else [UInt8.ofNat ((n : Int) / 100 + 48).toNat, UInt8.ofNat ((n : Int) / 10 % 10 + 48).toNat, UInt8.ofNat ((n : Int) % 10 + 48).toNat]
theorem expD_1 {n : Nat} (h : n < 10) : expD n = [48, UInt8.ofNat ((n : Int) + 48).toNat] := if_pos h
theorem expD_2 {n : Nat} (h : ¬ n < 10) (h2 : n < 100) : expD n = [UInt8.ofNat ((n : Int) / 10 + 48).toNat, UInt8.ofNat ((n : Int) % 10 + 48).toNat] := by
  unfold expD; rw [if_neg h, if_pos h2]
theorem expD_3 {n : Nat} (h : ¬ n < 10) (h2 : ¬ n < 100) : expD n = [UInt8.ofNat ((n : Int) / 100 + 48).toNat, UInt8.ofNat ((n : Int) / 10 % 10 + 48).toNat, UInt8.ofNat ((n : Int) % 10 + 48).toNat] := by
  unfold expD; rw [if_neg h, if_neg h2]
/-- Two bytes more. -/
theorem wpList_app2 {W : World} {y z : Int} {T0 : TypeId} {ops : Array Oper} {rest : List Oper} {o : Oper} {a : Act} {Q : Exit → Act → World → Prop} (hgd : o.guard = none) (s x : Operand)
    (ho : o.op = .call { callee := .builtin .append, args := #[s, x], argTypes := #[62, 62] })
    {B b nz : Nat} {g : Nat → UInt8} {w0 : World} {v : Value} {l : List UInt8} (hs : a.eval s = v) (hx : a.eval x = .slice (some ⟨W.heap.size, 0, none⟩) 2 2)
    (hO : OwnB B b nz g w0 v l W) (hy : 0 ≤ y ∧ y < 256) (hz : 0 ≤ z ∧ z < 256) (hl : l.length ≤ 100000)
    (h : ∀ v' w', OwnB B b nz g w0 v' (l ++ [UInt8.ofNat y.toNat, UInt8.ofNat z.toNat]) w' → wpList Tryd.prog ops Q rest (a.put o.dst v') w') :
    wpList Tryd.prog ops Q (o :: rest) a (W.alloc (.cells #[.int .u8 y, .int .u8 z] T0)) := by
  obtain ⟨i0, hi, hz0, hz1, hz2⟩ := info_parts infoU8
  have e : (byV [UInt8.ofNat y.toNat, UInt8.ofNat z.toNat]) = [.int .u8 y, .int .u8 z] := by
    obtain ⟨n, rfl⟩ := Int.eq_ofNat_of_zero_le hz.1
    obtain ⟨m, rfl⟩ := Int.eq_ofNat_of_zero_le hy.1
    have hn : n < 256 := by omega
    have hm : m < 256 := by omega
    simp [byV, UInt8.toNat_ofNat', Nat.mod_eq_of_lt hn, Nat.mod_eq_of_lt hm]
  refine wpList_append_own_at _ hgd s x 62 ho B 5 i0 (.int .u8 0) 1 1 Tryd.underlying62 hi hz0 hz1 hz2 rfl (by decide) v l.length (byV l) hs (hO.alloc _).own ⟨W.heap.size, 0, none⟩ 2 2 [.int .u8 y, .int .u8 z] hx rfl (fun i u hu => ?_) (by intro u hu; simp at hu; rcases hu with rfl | rfl <;> rfl) (by unfold maxLen; omega) (by omega) (by have := hO.base; simp; omega) ?_
  · match i, hu with
    | 0, hu => obtain rfl : Value.int .u8 y = u := Option.some.inj hu; rw [Addr.add_mid]; simp
    | 1, hu => obtain rfl : Value.int .u8 z = u := Option.some.inj hu; rw [Addr.add_mid]; simp
    | i + 2, hu => simp at hu
  intro v' w' h2 h3 _ h5
  refine h v' w' ((hO.alloc _).grown ?_ h3 h5)
  rw [byV_append, e, List.length_append]
  exact h2
/-- Three bytes more. -/
theorem wpList_app3 {W : World} {q y z : Int} {T0 : TypeId} {ops : Array Oper} {rest : List Oper} {o : Oper} {a : Act} {Q : Exit → Act → World → Prop} (hgd : o.guard = none) (s x : Operand)
    (ho : o.op = .call { callee := .builtin .append, args := #[s, x], argTypes := #[62, 62] })
    {B b nz : Nat} {g : Nat → UInt8} {w0 : World} {v : Value} {l : List UInt8} (hs : a.eval s = v) (hx : a.eval x = .slice (some ⟨W.heap.size, 0, none⟩) 3 3)
    (hO : OwnB B b nz g w0 v l W) (hq : 0 ≤ q ∧ q < 256) (hy : 0 ≤ y ∧ y < 256) (hz : 0 ≤ z ∧ z < 256) (hl : l.length ≤ 100000)
    (h : ∀ v' w', OwnB B b nz g w0 v' (l ++ [UInt8.ofNat q.toNat, UInt8.ofNat y.toNat, UInt8.ofNat z.toNat]) w' → wpList Tryd.prog ops Q rest (a.put o.dst v') w') :
    wpList Tryd.prog ops Q (o :: rest) a (W.alloc (.cells #[.int .u8 q, .int .u8 y, .int .u8 z] T0)) := by
  obtain ⟨i0, hi, hz0, hz1, hz2⟩ := info_parts infoU8
  have e : (byV [UInt8.ofNat q.toNat, UInt8.ofNat y.toNat, UInt8.ofNat z.toNat]) = [.int .u8 q, .int .u8 y, .int .u8 z] := by
    obtain ⟨n, rfl⟩ := Int.eq_ofNat_of_zero_le hz.1
    obtain ⟨m, rfl⟩ := Int.eq_ofNat_of_zero_le hy.1
    obtain ⟨k, rfl⟩ := Int.eq_ofNat_of_zero_le hq.1
    have hn : n < 256 := by omega
    have hm : m < 256 := by omega
    have hk : k < 256 := by omega
    simp [byV, UInt8.toNat_ofNat', Nat.mod_eq_of_lt hn, Nat.mod_eq_of_lt hm, Nat.mod_eq_of_lt hk]
  refine wpList_append_own_at _ hgd s x 62 ho B 5 i0 (.int .u8 0) 1 1 Tryd.underlying62 hi hz0 hz1 hz2 rfl (by decide) v l.length (byV l) hs (hO.alloc _).own ⟨W.heap.size, 0, none⟩ 3 3 [.int .u8 q, .int .u8 y, .int .u8 z] hx rfl (fun i u hu => ?_) (by intro u hu; simp at hu; rcases hu with rfl | rfl | rfl <;> rfl) (by unfold maxLen; omega) (by omega) (by have := hO.base; simp; omega) ?_
  · match i, hu with
    | 0, hu => obtain rfl : Value.int .u8 q = u := Option.some.inj hu; rw [Addr.add_mid]; simp
    | 1, hu => obtain rfl : Value.int .u8 y = u := Option.some.inj hu; rw [Addr.add_mid]; simp
    | 2, hu => obtain rfl : Value.int .u8 z = u := Option.some.inj hu; rw [Addr.add_mid]; simp
    | i + 3, hu => simp at hu
  intro v' w' h2 h3 _ h5
  refine h v' w' ((hO.alloc _).grown ?_ h3 h5)
  rw [byV_append, e, List.length_append]
  exact h2
end Go.Proofs.YtpjbdejgamajlabDoor

/- strconv.fmtEFG: the text without an exponent: lists. -/
namespace Go.Proofs.YtpjbdejgamajlabDoor
open Go.RowKit

def rowL (g : Nat → UInt8) (o n : Nat) : List UInt8 := (List.range n).map fun t => g (o + t)
def zerL (n : Nat) : List UInt8 := List.replicate n 48
theorem rowL_succ (g : Nat → UInt8) (o n : Nat) : rowL g o (n + 1) = rowL g o n ++ [g (o + n)] := by
  unfold rowL; rw [List.range_succ, List.map_append]; rfl
theorem rowL_zero (g : Nat → UInt8) (o : Nat) : rowL g o 0 = [] := rfl
theorem rowL_len (g : Nat → UInt8) (o n : Nat) : (rowL g o n).length = n := by unfold rowL; simp
theorem zerL_succ (n : Nat) : zerL (n + 1) = zerL n ++ [48] := List.replicate_succ'
theorem zerL_zero : zerL 0 = [] := rfl
theorem zerL_len (n : Nat) : (zerL n).length = n := by unfold zerL; simp
/-- The digits ahead of the point. -/
def intP (nz p : Nat) (g : Nat → UInt8) : List UInt8 := if nz ≤ p then rowL g 0 nz ++ zerL (p - nz) else rowL g 0 p
/-- The point and the digits behind it. -/
def fracP (nz p : Nat) (g : Nat → UInt8) : List UInt8 := if nz ≤ p then [] else [46] ++ rowL g p (nz - p)
/-- The point, the zeros and the digits behind it. -/
def fracN (nz q : Nat) (g : Nat → UInt8) : List UInt8 := if nz + q = 0 then [] else [46] ++ zerL q ++ rowL g 0 nz
theorem intP_len (nz p : Nat) (g : Nat → UInt8) (_ : nz ≤ 20) (_ : p ≤ 20) : (intP nz p g).length ≤ 40 := by
  unfold intP; split <;> simp [rowL_len, zerL_len] <;> omega
/-- One byte more at the end of a row or of zeros. -/
theorem OwnB.rowS {B b nz : Nat} {g : Nat → UInt8} {w0 w : World} {v : Value} {X l : List UInt8} {o j : Nat} (h : OwnB B b nz g w0 v l w) (e : l = (X ++ rowL g o j) ++ [g (o + j)]) : OwnB B b nz g w0 v (X ++ rowL g o (j + 1)) w := by
  rw [rowL_succ, ← List.append_assoc, ← e]; exact h
theorem OwnB.zerS {B b nz : Nat} {g : Nat → UInt8} {w0 w : World} {v : Value} {X l : List UInt8} {j : Nat} (h : OwnB B b nz g w0 v l w) (e : l = (X ++ zerL j) ++ [48]) : OwnB B b nz g w0 v (X ++ zerL (j + 1)) w := by
  rw [zerL_succ, ← List.append_assoc, ← e]; exact h
end Go.Proofs.YtpjbdejgamajlabDoor

