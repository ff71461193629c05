/- Acts on a pool in memory; maps of names to numbers and to truth values. -/
import Derived.Test.YtoikgphbicnhaabPlJ
import Derived.Test.YtoikgphbicnhaabCut
namespace Go.Proofs.Ytoikgphbicnhaab
open Go.RowKit Go.Maps

/-- An act that is handed in. -/
structure PAct where
  k : Int
  wt : Int
  cp : Int
  nm : ByteArray
/-- A slice of acts. -/
def IsPacts (w : World) (a : Option Addr) (c : Nat) (l : List PAct) : Prop :=
  l = [] ∨ ∃ bk o, a = some ⟨bk, o, none⟩ ∧ bk < w.heap.size ∧ l.length ≤ c ∧ ∀ (j : Nat) e, l[j]? = some e → w.cell? ⟨bk, o + j * 4, none⟩ = some (.int .i64 e.k) ∧ w.cell? ⟨bk, o + j * 4 + 1, none⟩ = some (.int .i64 e.wt) ∧ w.cell? ⟨bk, o + j * 4 + 2, none⟩ = some (.int .i64 e.cp) ∧ w.cell? ⟨bk, o + j * 4 + 3, none⟩ = some (.string e.nm)
theorem IsPacts.below {w w' : World} {a : Option Addr} {c : Nat} {l : List PAct} (h : IsPacts w a c l) (hb : Below w.heap.size w w') : IsPacts w' a c l := by
  obtain h | ⟨bk, o, ha, hlt, hc, hcell⟩ := h
  · exact .inl h
  · refine .inr ⟨bk, o, ha, Nat.lt_of_lt_of_le hlt hb.size, hc, fun j e he => ?_⟩
    rw [(bcell hb).1 _ _ hlt, (bcell hb).1 _ _ hlt, (bcell hb).1 _ _ hlt, (bcell hb).1 _ _ hlt]
    exact hcell j e he
def intR : Value → Option (DataW Unit × List MemPlace)
  | .int .i64 a => some (.lit (.int .i64 a), [])
  | _ => none
def boolR : Value → Option (DataW Unit × List MemPlace)
  | .bool a => some (.lit (.bool a), [])
  | _ => none
/-- Maps of numbers. -/
def MI : MTy Int where
  R := intR
  mv := fun a => .int .i64 a
  md := fun a => .lit (.int .i64 a)
  z0 := 0
  T := 37
  e := 3
  hR := fun _ => rfl
  inv := fun v z h => by
    unfold intR at h
    split at h
    · injection h with h; exact ⟨_, rfl, h.symm⟩
    · cases h
  inj := fun a b h => by
    injection h with h
    injection h
  hT := Try.underlying37
  hz := fun w => by kernel_rfl
/-- Maps of truth values. -/
def MO : MTy Bool where
  R := boolR
  mv := fun a => .bool a
  md := fun a => .lit (.bool a)
  z0 := false
  T := 46
  e := 4
  hR := fun _ => rfl
  inv := fun v z h => by
    unfold boolR at h
    split at h
    · injection h with h; exact ⟨_, rfl, h.symm⟩
    · cases h
  inj := fun a b h => by
    injection h with h
    injection h
  hT := Try.underlying46
  hz := fun w => by kernel_rfl
/-- Between two rounds of PoolDrains. -/
structure DrS (W : World) (pb mb t : Nat) (l : List Bk) (f : ByteArray → Option Bool) (w : World) : Prop where
  pool : PoolB W W.heap.size pb t l (fun k => k = mb) w
  mp : MapO MO w mb t f
  mbl : W.heap.size ≤ mb
  rel : ShutR l f
theorem DrS.below {W w w' : World} {pb mb t : Nat} {l : List Bk} {f : ByteArray → Option Bool} (h : DrS W pb mb t l f w) (hb : Below w.heap.size w w') : DrS W pb mb t l f w' :=
  ⟨h.pool.below hb, h.mp.below hb, h.mbl, h.rel⟩
/-- A call on the pool, with the names that are shut as they were. -/
theorem DrS.call {W w w' : World} {pb mb t : Nat} {l l' : List Bk} {f : ByteArray → Option Bool} (h : DrS W pb mb t l f w) (hp : PoolB W W.heap.size pb (t + 1) l' (fun k => k = mb) w') (hk : Keep (fun k => ¬ k = mb) w w') (hr : ShutR l' f) : DrS W pb mb (t + 1) l' f w' :=
  ⟨hp, (h.mp.keep hk (fun e => e rfl)).mono (Nat.le_succ t), h.mbl, hr⟩
/-- A call on the pool, one name shut or not. -/
theorem DrS.put {W w w' w2 : World} {pb mb t : Nat} {l l' : List Bk} {f f' : ByteArray → Option Bool} (h : DrS W pb mb t l f w) (hp : PoolB W W.heap.size pb (t + 1) l' (fun k => k = mb) w') (hm : MapO MO w2 mb (t + 1) f') (ht : w'.mapTurned w2 mb) (hr : ShutR l' f') : DrS W pb mb (t + 1) l' f' w2 :=
  ⟨hp.keep (G := fun k => k = mb) (Keep.turned ht rfl) (fun _ e => e) (fun k hk e => by subst e; have := h.mbl; omega), hm, h.mbl, hr⟩
theorem DrS.map {W w w' : World} {pb mb t : Nat} {l : List Bk} {f : ByteArray → Option Bool} (h : DrS W pb mb t l f w) (hk : Keep (fun k => ¬ k = mb) w w') : MapO MO w' mb t f := h.mp.keep hk (fun e => e rfl)
end Go.Proofs.Ytoikgphbicnhaab
