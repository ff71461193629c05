/- strconv.fmtEFG: lists. -/
import Derived.Test.YtbgppkjcmgljnaaDoorFmF
import Derived.Deep.CutBlock
import Derived.Deep.DeepCutAuto
import Derived.Deep.LoopGhost
namespace Go.Proofs.YtbgppkjcmgljnaaDoor
open Go.RowKit

def sgnL (neg : Bool) : List UInt8 := if neg then [45] else []
def fstD (nz : Nat) (g : Nat → UInt8) : UInt8 := if nz = 0 then 48 else g 0
def midL (nz : Nat) (g : Nat → UInt8) : List UInt8 := if nz ≤ 1 then [] else [46] ++ (List.range (nz - 1)).map fun t => g (1 + t)
def expI (nz : Nat) (dp : Int) : Int := if nz = 0 then 0 else dp - 1
def expS (nz : Nat) (dp : Int) : Int := if expI nz dp < 0 then 45 else 43
def expA (nz : Nat) (dp : Int) : Int := if expI nz dp < 0 then - expI nz dp else expI nz dp
theorem sgnL_len (neg : Bool) : (sgnL neg).length ≤ 1 := by unfold sgnL; split <;> simp
theorem midL_len (nz : Nat) (g : Nat → UInt8) : (midL nz g).length ≤ nz + 1 := by unfold midL; split <;> simp <;> omega
theorem expA_in (nz : Nat) (dp : Int) (h0 : -450 ≤ dp) (h1 : dp ≤ 450) : 0 ≤ expA nz dp ∧ expA nz dp ≤ 451 := by
  unfold expA expI
  split <;> split <;> omega
theorem expS_in (nz : Nat) (dp : Int) : 0 ≤ expS nz dp ∧ expS nz dp < 256 := by
  unfold expS
  split <;> omega
/-- The digits of an exponent. -/
def expD (n : Nat) : List UInt8 :=
  if n < 10 then [48, UInt8.ofNat ((n : Int) + 48).toNat]
  else if n < 100 then [UInt8.ofNat ((n : Int) / 10 + 48).toNat, UInt8.ofNat ((n : Int) % 10 + 48).toNat]
  else [UInt8.ofNat ((n : Int) / 100 + 48).toNat, UInt8.ofNat ((n : Int) / 10 % 10 + 48).toNat, UInt8.ofNat ((n : Int) % 10 + 48).toNat]
theorem expD_1 {n : Nat} (h : n < 10) : expD n = [48, UInt8.ofNat ((n : Int) + 48).toNat] := if_pos h
theorem expD_2 {n : Nat} (h : ¬ n < 10) (h2 : n < 100) : expD n = [UInt8.ofNat ((n : Int) / 10 + 48).toNat, UInt8.ofNat ((n : Int) % 10 + 48).toNat] := by
  unfold expD; rw [if_neg h, if_pos h2]
theorem expD_3 {n : Nat} (h : ¬ n < 10) (h2 : ¬ n < 100) : expD n = [UInt8.ofNat ((n : Int) / 100 + 48).toNat, UInt8.ofNat ((n : Int) / 10 % 10 + 48).toNat, UInt8.ofNat ((n : Int) % 10 + 48).toNat] := by
  unfold expD; rw [if_neg h, if_neg h2]
/-- Two bytes more. -/
theorem wpList_app2 {W : World} {y z : Int} {T0 : TypeId} {ops : Array Oper} {rest : List Oper} {o : Oper} {a : Act} {Q : Exit → Act → World → Prop} (hgd : o.guard = none) (s x : Operand)
    (ho : o.op = .call { callee := .builtin .append, args := #[s, x], argTypes := #[46, 46] })
    {B b nz : Nat} {g : Nat → UInt8} {w0 : World} {v : Value} {l : List UInt8} (hs : a.eval s = v) (hx : a.eval x = .slice (some ⟨W.heap.size, 0, none⟩) 2 2)
    (hO : OwnB B b nz g w0 v l W) (hy : 0 ≤ y ∧ y < 256) (hz : 0 ≤ z ∧ z < 256) (hl : l.length ≤ 100000)
    (h : ∀ v' w', OwnB B b nz g w0 v' (l ++ [UInt8.ofNat y.toNat, UInt8.ofNat z.toNat]) w' → wpList Tryd.prog ops Q rest (a.put o.dst v') w') :
    wpList Tryd.prog ops Q (o :: rest) a (W.alloc (.cells #[.int .u8 y, .int .u8 z] T0)) := by
  obtain ⟨i0, hi, hz0, hz1, hz2⟩ := info_parts infoU8
  have e : (byV [UInt8.ofNat y.toNat, UInt8.ofNat z.toNat]) = [.int .u8 y, .int .u8 z] := by
    obtain ⟨n, rfl⟩ := Int.eq_ofNat_of_zero_le hz.1
    obtain ⟨m, rfl⟩ := Int.eq_ofNat_of_zero_le hy.1
    have hn : n < 256 := by omega
    have hm : m < 256 := by omega
    simp [byV, UInt8.toNat_ofNat', Nat.mod_eq_of_lt hn, Nat.mod_eq_of_lt hm]
  refine wpList_append_own_at _ hgd s x 46 ho B 5 i0 (.int .u8 0) 1 1 Tryd.underlying46 hi hz0 hz1 hz2 rfl (by decide) v l.length (byV l) hs (hO.alloc _).own ⟨W.heap.size, 0, none⟩ 2 2 [.int .u8 y, .int .u8 z] hx rfl (fun i u hu => ?_) (by intro u hu; simp at hu; rcases hu with rfl | rfl <;> rfl) (by unfold maxLen; omega) (by omega) (by have := hO.base; simp; omega) ?_
  · match i, hu with
    | 0, hu => obtain rfl : Value.int .u8 y = u := Option.some.inj hu; rw [Addr.add_mid]; simp
    | 1, hu => obtain rfl : Value.int .u8 z = u := Option.some.inj hu; rw [Addr.add_mid]; simp
    | i + 2, hu => simp at hu
  intro v' w' h2 h3 _ h5
  refine h v' w' ((hO.alloc _).grown ?_ h3 h5)
  rw [byV_append, e, List.length_append]
  exact h2
/-- Three bytes more. -/
theorem wpList_app3 {W : World} {q y z : Int} {T0 : TypeId} {ops : Array Oper} {rest : List Oper} {o : Oper} {a : Act} {Q : Exit → Act → World → Prop} (hgd : o.guard = none) (s x : Operand)
    (ho : o.op = .call { callee := .builtin .append, args := #[s, x], argTypes := #[46, 46] })
    {B b nz : Nat} {g : Nat → UInt8} {w0 : World} {v : Value} {l : List UInt8} (hs : a.eval s = v) (hx : a.eval x = .slice (some ⟨W.heap.size, 0, none⟩) 3 3)
    (hO : OwnB B b nz g w0 v l W) (hq : 0 ≤ q ∧ q < 256) (hy : 0 ≤ y ∧ y < 256) (hz : 0 ≤ z ∧ z < 256) (hl : l.length ≤ 100000)
    (h : ∀ v' w', OwnB B b nz g w0 v' (l ++ [UInt8.ofNat q.toNat, UInt8.ofNat y.toNat, UInt8.ofNat z.toNat]) w' → wpList Tryd.prog ops Q rest (a.put o.dst v') w') :
    wpList Tryd.prog ops Q (o :: rest) a (W.alloc (.cells #[.int .u8 q, .int .u8 y, .int .u8 z] T0)) := by
  obtain ⟨i0, hi, hz0, hz1, hz2⟩ := info_parts infoU8
  have e : (byV [UInt8.ofNat q.toNat, UInt8.ofNat y.toNat, UInt8.ofNat z.toNat]) = [.int .u8 q, .int .u8 y, .int .u8 z] := by
    obtain ⟨n, rfl⟩ := Int.eq_ofNat_of_zero_le hz.1
    obtain ⟨m, rfl⟩ := Int.eq_ofNat_of_zero_le hy.1
    obtain ⟨k, rfl⟩ := Int.eq_ofNat_of_zero_le hq.1
    have hn : n < 256 := by omega
    have hm : m < 256 := by omega
    have hk : k < 256 := by omega
    simp [byV, UInt8.toNat_ofNat', Nat.mod_eq_of_lt hn, Nat.mod_eq_of_lt hm, Nat.mod_eq_of_lt hk]
  refine wpList_append_own_at _ hgd s x 46 ho B 5 i0 (.int .u8 0) 1 1 Tryd.underlying46 hi hz0 hz1 hz2 rfl (by decide) v l.length (byV l) hs (hO.alloc _).own ⟨W.heap.size, 0, none⟩ 3 3 [.int .u8 q, .int .u8 y, .int .u8 z] hx rfl (fun i u hu => ?_) (by intro u hu; simp at hu; rcases hu with rfl | rfl | rfl <;> rfl) (by unfold maxLen; omega) (by omega) (by have := hO.base; simp; omega) ?_
  · match i, hu with
    | 0, hu => obtain rfl : Value.int .u8 q = u := Option.some.inj hu; rw [Addr.add_mid]; simp
    | 1, hu => obtain rfl : Value.int .u8 y = u := Option.some.inj hu; rw [Addr.add_mid]; simp
    | 2, hu => obtain rfl : Value.int .u8 z = u := Option.some.inj hu; rw [Addr.add_mid]; simp
    | i + 3, hu => simp at hu
  intro v' w' h2 h3 _ h5
  refine h v' w' ((hO.alloc _).grown ?_ h3 h5)
  rw [byV_append, e, List.length_append]
  exact h2
end Go.Proofs.YtbgppkjcmgljnaaDoor
