/- The reference of octet: Value, Lower. -/
import Derived.Test.YtchpgdoidpllgaaDoorOctF
import Derived.Test.YtchpgdoidpllgaaDoorOctD
import Derived.Laws.AppendOwn
import Derived.Laws.BytesArg
import Derived.Deep.MidRow
namespace Go.Proofs.YtchpgdoidpllgaaDoor
open Go.RowKit

theorem val_cases (c : UInt8) (q : Bool) (hq : isVal c = q) : (((c.toNat : Int) != 9) = false ∧ q = true) ∨ (((c.toNat : Int) != 9) = true ∧ (c.toNat : Int) < 32 ∧ q = false) ∨ (((c.toNat : Int) != 9) = true ∧ ¬ (c.toNat : Int) < 32 ∧ (c.toNat : Int) > 126 ∧ q = false) ∨ (((c.toNat : Int) != 9) = true ∧ ¬ (c.toNat : Int) < 32 ∧ ¬ (c.toNat : Int) > 126 ∧ q = true) := by
  subst hq; revert c; apply all256; decide +kernel
theorem infoU8 : (Tryd.prog.info? 5).map (fun i => (i.zero, i.size, i.bytes)) = some (some (.int .u8 0), 1, 1) := by kernel_rfl
def byteVals (l : List UInt8) : List Value := l.map fun c => Value.int .u8 (c.toNat : Int)
theorem byteVals_length (l : List UInt8) : (byteVals l).length = l.length := by simp [byteVals]
/-- A slice that owns these bytes reads back as the string. -/
theorem own_string (w : World) (base : Nat) (v : Value) (l : List UInt8) (h : w.ownsRow base 5 1 v l.length (byteVals l)) :
    (convert 43 9 v).run Tryd.prog w = .ok (.string ⟨l.toArray⟩) w := by
  obtain ⟨_, ⟨rfl, h0⟩ | ⟨g, cap, cur, rfl, _, hg, hcap, _, hcs, htk⟩⟩ := h
  · obtain rfl : l = [] := List.eq_nil_of_length_eq_zero h0
    exact run_convert_bytes_back w 43 9 5 ⟨0, 0, none⟩ 0 [] Tryd.underlying43 Tryd.underlying5 Tryd.underlying9 (fun j hj => by simp at hj) |> fun _ => by
      rw [run_convert_bytes_string w _ _ 5 none 0 0 Tryd.underlying43 Tryd.underlying5 Tryd.underlying9]
      rfl
  · refine run_convert_bytes_back w 43 9 5 ⟨g, 0, none⟩ cap l Tryd.underlying43 Tryd.underlying5 Tryd.underlying9 fun j hj => ?_
    have hx : cur[j]? = some (.int .u8 (l[j].toNat : Int)) := by
      have h1 : (byteVals l)[j]? = some (.int .u8 (l[j].toNat : Int)) := by simp [byteVals, hj]
      rw [← htk, List.getElem?_take, if_pos (by omega)] at h1
      simpa using h1
    unfold Addr.add
    by_cases e0 : j = 0
    · subst e0; simp [World.cell?, hg, hx]
    · simp [e0, World.cell?, hg, hx]
theorem below_alloc (w : World) (o : Obj) : Below w.heap.size w (w.alloc o) := (Below.refl _ _).alloc (Nat.le_refl _) _
/-- The small letters made so far. -/
def rowLow (s : ByteArray) (j : Nat) : List Value := byteVals ((s.data.toList.take j).map lowC)
theorem one_cell (k : IntKind) (x : Int) : ∀ u ∈ [Value.int k x], u.oneCell' = true := by intro u hu; simp at hu; subst hu; rfl
theorem byteVals_snoc (l : List UInt8) (c : UInt8) : byteVals l ++ [Value.int .u8 (c.toNat : Int)] = byteVals (l ++ [c]) := by simp [byteVals]
theorem cell_one (w : World) (v : Value) (t : TypeId) : ∀ (j : Nat) u, [v][j]? = some u → (w.alloc (.cells #[v] t)).cell? ((⟨w.heap.size, 0, none⟩ : Addr).add j) = some u := by
  intro i u hu
  match i, hu with
  | 0, hu => obtain rfl : v = u := Option.some.inj hu; rw [Addr.add_mid]; simp
  | i + 1, hu => simp at hu

end Go.Proofs.YtchpgdoidpllgaaDoor
