/- Rows of integers of the call's own; stewardlaw14.Numbers. -/
import Derived.Test.YtlcpkplipfcdaaaDoorBase
import Derived.OwnWalk
import Derived.Deep.MidRow
import Derived.Laws.AppendOwn
import Derived.Laws.MakeOwn
namespace Go.Proofs.YtlcpkplipfcdaaaDoor
open Go.RowKit

theorem infoInt : (Tryd.prog.info? 3).map (fun i => (i.zero, i.size, i.bytes)) = some (some (.int .i64 0), 1, 8) := by kernel_rfl
def cellsN (xs : List Nat) : List Value := xs.map fun (x : Nat) => Value.int .i64 (x : Int)
theorem cellsN_len (xs : List Nat) : (cellsN xs).length = xs.length := by simp [cellsN]
theorem cellsN_at (xs : List Nat) (i : Nat) (h : i < xs.length) : (cellsN xs)[i]? = some (.int .i64 ((xs[i] : Nat) : Int)) := by
  unfold cellsN; rw [List.getElem?_map, List.getElem?_eq_getElem h]; rfl
theorem cellsN_snoc (xs : List Nat) (x : Nat) : cellsN xs ++ [.int .i64 (x : Int)] = cellsN (xs ++ [x]) := by simp [cellsN]
theorem cellsN_set (xs : List Nat) (i x : Nat) : (cellsN xs).set i (.int .i64 (x : Int)) = cellsN (xs.set i x) := by simp [cellsN, List.map_set]
theorem own_sliceI {w : World} {base : Nat} {e : TypeId} {v : Value} {n : Nat} {xs : List Value} {k : Nat} (h : w.ownsRow base e k v n xs) : ∃ a c, v = .slice a n c ∧ (a = none → c = 0) := by
  obtain ⟨_, ⟨h1, h2⟩ | ⟨g, cap, cur, h1, _⟩⟩ := h
  · exact ⟨none, 0, by rw [h1, h2], fun _ => rfl⟩
  · exact ⟨_, _, h1, fun h => by cases h⟩
theorem own_someI {w : World} {base : Nat} {e : TypeId} {a : Option Addr} {k m c : Nat} {xs : List Value} (h : w.ownsRow base e k (.slice a m c) m xs) (hm : 0 < m) : ∃ g, a = some ⟨g, 0, none⟩ := by
  rcases h.2 with ⟨h1, h2⟩ | ⟨g, cap, cur, h1, _⟩
  · omega
  · injection h1 with h1; exact ⟨g, h1⟩
theorem one_int (z : Int) : ∀ u ∈ [Value.int .i64 z], u.oneCell' = true := by intro u hu; simp at hu; subst hu; rfl
theorem src_one (w : World) (v : Value) (T : TypeId) : ∀ (j : Nat) u, [v][j]? = some u → (w.alloc (.cells #[v] T)).cell? ((⟨w.heap.size, 0, none⟩ : Addr).add j) = some u := by
  intro j u hu
  match j, hu with
  | 0, hu => obtain rfl : v = u := Option.some.inj hu; rw [Addr.add_mid]; simp
  | j + 1, hu => simp at hu
theorem below_drewNI {B : Nat} {a w : World} (h : Below B a w) (n : Nat) : Below B a (w.drewN n) := ⟨h.os, h.tape, h.output, h.size, h.block⟩
/-- A slice of numbers that can be read. -/
def IsNums (w : World) (a : Option Addr) (xs : List Nat) : Prop :=
  xs = [] ∨ ∃ bk, a = some ⟨bk, 0, none⟩ ∧ bk < w.heap.size ∧ ∀ (j : Nat) x, xs[j]? = some x → w.cell? ⟨bk, j, none⟩ = some (.int .i64 ((x : Nat) : Int))
theorem IsNums.below {w w' : World} {a : Option Addr} {xs : List Nat} (h : IsNums w a xs) (hb : Below w.heap.size w w') : IsNums w' a xs := by
  rcases h with h | ⟨bk, ha, hbk, hc⟩
  · exact .inl h
  · exact .inr ⟨bk, ha, Nat.lt_of_lt_of_le hbk hb.size, fun j x hx => by rw [(bcell hb).1 _ _ hbk]; exact hc j x hx⟩
theorem nums_own {w : World} {B : Nat} {T : TypeId} {a : Option Addr} {k c : Nat} {ys : List Nat} (h : w.ownsRow B T 1 (.slice a k c) k (cellsN ys)) : IsNums w a ys := by
  obtain ⟨hl, h | ⟨g, cap, cur, he, hB, hg, hn, _, hs, ht⟩⟩ := h
  · left
    rw [cellsN_len] at hl
    exact List.eq_nil_of_length_eq_zero (by omega)
  · right
    obtain ⟨rfl, _, rfl⟩ : a = some ⟨g, 0, none⟩ ∧ k = k ∧ c = cap := by simpa using he
    have hlt : g < w.heap.size := by
      rcases Nat.lt_or_ge g w.heap.size with h | h
      · exact h
      · rw [Array.getElem?_eq_none h] at hg; cases hg
    refine ⟨g, rfl, hlt, fun j x hx => ?_⟩
    have h1 : (cellsN ys)[j]? = some (.int .i64 ((x : Nat) : Int)) := by unfold cellsN; rw [List.getElem?_map, hx]; rfl
    have h2 := World.ownsRow.cells (w := w) (base := B) (e := T) (size := 1) (v := .slice (some ⟨g, 0, none⟩) k c) (n := k) (xs := cellsN ys) ⟨hl, .inr ⟨g, c, cur, rfl, hB, hg, hn, by assumption, hs, ht⟩⟩ rfl j _ h1
    rw [Addr.add_mid, Nat.zero_add] at h2
    exact h2
end Go.Proofs.YtlcpkplipfcdaaaDoor
