/- octet: Lower, Fold; the reference's Lower. -/
import Derived.Test.YtchpgdoidpllgaaDoorOctC
import Derived.Lib.ConvBytes
import Derived.Laws.IdiomStrings
import Derived.Laws.OwnMore
namespace Go.Proofs.YtchpgdoidpllgaaDoor
open Go.RowKit

/-- A block's cells, from its first on, are these bytes, and may be written. -/
def BytesAre (w : World) (b : Nat) (l : List UInt8) : Prop := ∀ (i : Nat) (c : UInt8), l[i]? = some c → w.cell? ⟨b, i, none⟩ = some (.int .u8 (c.toNat : Int)) ∧ w.frozen? ⟨b, i, none⟩ = false
theorem BytesAre.put {w : World} {b : Nat} {l : List UInt8} (h : BytesAre w b l) (j : Nat) (x : UInt8) : BytesAre (w.setCell ⟨b, j, none⟩ (.int .u8 (x.toNat : Int))) b (l.set j x) := by
  intro i c hi
  rw [List.getElem?_set] at hi
  by_cases e : j = i
  · subst e
    rw [if_pos rfl] at hi
    split at hi
    · rename_i hlt
      injection hi with hi
      subst hi
      obtain ⟨h1, h2⟩ := h j l[j] (List.getElem?_eq_getElem hlt)
      exact ⟨World.cell?_setCell_same _ _ _ h1, by rw [World.frozen?_setCell]; exact h2⟩
    · cases hi
  · rw [if_neg e] at hi
    obtain ⟨h1, h2⟩ := h i c hi
    exact ⟨by rw [World.cell?_setCell_other _ _ _ _ (by simp <;> omega), h1], by rw [World.frozen?_setCell]; exact h2⟩
theorem BytesAre.below {w w' : World} {b : Nat} {l : List UInt8} (h : BytesAre w b l) (hb : Below w.heap.size w w') (hlt : b < w.heap.size) : BytesAre w' b l := fun i c hi => by
  obtain ⟨hc, hf⟩ := bcell hb
  exact ⟨(hc _ _ hlt).trans (h i c hi).1, (hf _ _ hlt).trans (h i c hi).2⟩
theorem below_bytesWorld (w : World) (e : TypeId) (s : ByteArray) : Below w.heap.size w (Lib.bytesWorld w e s) :=
  ⟨rfl, rfl, rfl, by rw [Lib.bytesWorld_size]; omega, fun j hj => Lib.bytesWorld_at_old w e s j hj⟩
theorem bytesAre_bytesWorld (w : World) (e : TypeId) (s : ByteArray) : BytesAre (Lib.bytesWorld w e s) w.heap.size s.data.toList := by
  intro i c hi
  have hlt : i < s.size := by
    have := (List.getElem?_eq_some_iff.1 hi).1
    rw [Lib.size_eq]; exact this
  refine ⟨?_, ?_⟩
  · rw [Lib.bytesWorld_cell w e s i hlt, List.getD_eq_getElem?_getD, hi]; rfl
  · have hz : s.size ≤ (Lib.bytesCells w e s).size := by
      simp only [Lib.bytesCells, Array.size_append, Array.size_map]
      show s.size ≤ s.size + _
      omega
    simp only [World.frozen?, Lib.bytesWorld_at_new]
    simp
    omega
/-- The bytes as they stand when j of them are small. -/
def lowTo (l : List UInt8) (j : Nat) : List UInt8 := (l.take j).map lowC ++ l.drop j
theorem lowTo_zero (l : List UInt8) : lowTo l 0 = l := by simp [lowTo]
theorem lowTo_at (l : List UInt8) (j : Nat) (c : UInt8) (h : l[j]? = some c) : (lowTo l j)[j]? = some c := by
  have hlt := (List.getElem?_eq_some_iff.1 h).1
  unfold lowTo
  rw [List.getElem?_append_right (by simp; omega)]
  simp
  rw [show j - min j l.length = 0 by omega, Nat.add_zero, h]
theorem lowTo_step (l : List UInt8) (j : Nat) (c : UInt8) (h : l[j]? = some c) : (lowTo l j).set j (lowC c) = lowTo l (j + 1) := by
  obtain ⟨hlt, rfl⟩ := List.getElem?_eq_some_iff.1 h
  unfold lowTo
  have hm : ((l.take j).map lowC).length = j := by rw [List.length_map, List.length_take]; omega
  rw [List.set_append_right _ _ (by omega), hm, Nat.sub_self, List.drop_eq_getElem_cons hlt, List.set_cons_zero, List.take_add_one, List.getElem?_eq_getElem hlt, Option.toList_some, List.map_append, List.append_assoc]
  rfl
theorem lowTo_full (l : List UInt8) (j : Nat) (h : l.length ≤ j) : lowTo l j = l.map lowC := by
  unfold lowTo
  rw [List.take_of_length_le h, List.drop_of_length_le h, List.append_nil]
theorem back_string (w : World) (src dst e : TypeId) (b : Nat) (cap n : Nat) (l : List UInt8) (hs : Tryd.prog.underlying src = some (.slice e)) (he : Tryd.prog.underlying e = some (.int .u8)) (hd : Tryd.prog.underlying dst = some .string)
    (hn : n = l.length) (h : BytesAre w b l) : (convert src dst (.slice (some ⟨b, 0, none⟩) n cap)).run Tryd.prog w = .ok (.string ⟨l.toArray⟩) w := by
  subst hn
  refine run_convert_bytes_back w src dst e ⟨b, 0, none⟩ cap l hs he hd fun j hj => ?_
  have := (h j l[j] (List.getElem?_eq_getElem hj)).1
  unfold Addr.add
  by_cases e0 : j = 0
  · subst e0; simpa using this
  · simp [e0]; exact this

theorem fold_step (a b : ByteArray) (j : Nat) (ha : j < a.size) (hb : j < b.size) (h : (a.data.toList.take j).map lowC = (b.data.toList.take j).map lowC) (he : lowC a[j] = lowC b[j]) :
    (a.data.toList.take (j + 1)).map lowC = (b.data.toList.take (j + 1)).map lowC := by
  rw [take_snoc a j ha, take_snoc b j hb, List.map_append, List.map_append, h]; simp [he]
theorem fold_no (a b : ByteArray) (j : Nat) (ha : j < a.size) (hb : j < b.size) (he : lowC a[j] ≠ lowC b[j]) : a.data.toList.map lowC ≠ b.data.toList.map lowC := by
  intro h
  have h1 : (a.data.toList.map lowC)[j]? = (b.data.toList.map lowC)[j]? := by rw [h]
  rw [List.getElem?_map, List.getElem?_map, toList_get a j ha, toList_get b j hb] at h1
  simp at h1
  exact he h1
theorem byte_ne {c d : UInt8} (h : c ≠ d) : (((c.toNat : Int) != (d.toNat : Int))) = true := by
  simp only [bne_iff_ne, ne_eq]
  intro e
  exact h (UInt8.toNat_inj.1 (by omega))
end Go.Proofs.YtchpgdoidpllgaaDoor
