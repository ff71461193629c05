/- octet: Lower, Fold; the reference's Lower. -/
import Derived.Test.YtneagccakoakpaaDoorOctC
import Derived.Lib.ConvBytes
import Derived.Laws.IdiomStrings
import Derived.Laws.OwnMore
namespace Go.Proofs.YtneagccakoakpaaDoor
open Go.RowKit

/-- A block's cells, from its first on, are these bytes, and may be written. -/
def BytesAre (w : World) (b : Nat) (l : List UInt8) : Prop := ∀ (i : Nat) (c : UInt8), l[i]? = some c → w.cell? ⟨b, i, none⟩ = some (.int .u8 (c.toNat : Int)) ∧ w.frozen? ⟨b, i, none⟩ = false
theorem BytesAre.put {w : World} {b : Nat} {l : List UInt8} (h : BytesAre w b l) (j : Nat) (x : UInt8) : BytesAre (w.setCell ⟨b, j, none⟩ (.int .u8 (x.toNat : Int))) b (l.set j x) := by
  intro i c hi
  rw [List.getElem?_set] at hi
  by_cases e : j = i
  · subst e
    rw [if_pos rfl] at hi
    split at hi
    · rename_i hlt
      injection hi with hi
      subst hi
      obtain ⟨h1, h2⟩ := h j l[j] (List.getElem?_eq_getElem hlt)
      exact ⟨World.cell?_setCell_same _ _ _ h1, by rw [World.frozen?_setCell]; exact h2⟩
    · cases hi
  · rw [if_neg e] at hi
    obtain ⟨h1, h2⟩ := h i c hi
    exact ⟨by rw [World.cell?_setCell_other _ _ _ _ (by simp <;> omega), h1], by rw [World.frozen?_setCell]; exact h2⟩
theorem BytesAre.below {w w' : World} {b : Nat} {l : List UInt8} (h : BytesAre w b l) (hb : Below w.heap.size w w') (hlt : b < w.heap.size) : BytesAre w' b l := fun i c hi => by
  obtain ⟨hc, hf⟩ := bcell hb
  exact ⟨(hc _ _ hlt).trans (h i c hi).1, (hf _ _ hlt).trans (h i c hi).2⟩
theorem below_bytesWorld (w : World) (e : TypeId) (s : ByteArray) : Below w.heap.size w (Lib.bytesWorld w e s) :=
  ⟨rfl, rfl, rfl, by rw [Lib.bytesWorld_size]; omega, fun j hj => Lib.bytesWorld_at_old w e s j hj⟩
theorem bytesAre_bytesWorld (w : World) (e : TypeId) (s : ByteArray) : BytesAre (Lib.bytesWorld w e s) w.heap.size s.data.toList := by
  intro i c hi
  have hlt : i < s.size := by
    have := (List.getElem?_eq_some_iff.1 hi).1
    rw [Lib.size_eq]; exact this
  refine ⟨?_, ?_⟩
  · rw [Lib.bytesWorld_cell w e s i hlt, List.getD_eq_getElem?_getD, hi]; rfl
  · have hz : s.size ≤ (Lib.bytesCells w e s).size := by
      simp only [Lib.bytesCells, Array.size_append, Array.size_map]
      show s.size ≤ s.size + _
      omega
    simp only [World.frozen?, Lib.bytesWorld_at_new]
    simp
    omega
/-- The bytes as they stand when j of them are small. -/
def lowTo (l : List UInt8) (j : Nat) : List UInt8 := (l.take j).map lowC ++ l.drop j
theorem lowTo_zero (l : List UInt8) : lowTo l 0 = l := by simp [lowTo]
theorem lowTo_at (l : List UInt8) (j : Nat) (c : UInt8) (h : l[j]? = some c) : (lowTo l j)[j]? = some c := by
  have hlt := (List.getElem?_eq_some_iff.1 h).1
  unfold lowTo
  rw [List.getElem?_append_right (by simp; omega)]
  simp
  rw [show j - min j l.length = 0 by omega, Nat.add_zero, h]
theorem lowTo_step (l : List UInt8) (j : Nat) (c : UInt8) (h : l[j]? = some c) : (lowTo l j).set j (lowC c) = lowTo l (j + 1) := by
  obtain ⟨hlt, rfl⟩ := List.getElem?_eq_some_iff.1 h
  unfold lowTo
  have hm : ((l.take j).map lowC).length = j := by rw [List.length_map, List.length_take]; omega
  rw [List.set_append_right _ _ (by omega), hm, Nat.sub_self, List.drop_eq_getElem_cons hlt, List.set_cons_zero, List.take_add_one, List.getElem?_eq_getElem hlt, Option.toList_some, List.map_append, List.append_assoc]
  rfl
theorem lowTo_full (l : List UInt8) (j : Nat) (h : l.length ≤ j) : lowTo l j = l.map lowC := by
  unfold lowTo
  rw [List.take_of_length_le h, List.drop_of_length_le h, List.append_nil]
theorem back_string (w : World) (src dst e : TypeId) (b : Nat) (cap n : Nat) (l : List UInt8) (hs : Tryd.prog.underlying src = some (.slice e)) (he : Tryd.prog.underlying e = some (.int .u8)) (hd : Tryd.prog.underlying dst = some .string)
    (hn : n = l.length) (h : BytesAre w b l) : (convert src dst (.slice (some ⟨b, 0, none⟩) n cap)).run Tryd.prog w = .ok (.string ⟨l.toArray⟩) w := by
  subst hn
  refine run_convert_bytes_back w src dst e ⟨b, 0, none⟩ cap l hs he hd fun j hj => ?_
  have := (h j l[j] (List.getElem?_eq_getElem hj)).1
  unfold Addr.add
  by_cases e0 : j = 0
  · subst e0; simpa using this
  · simp [e0]; exact this

set_option maxRecDepth 100000 in
set_option maxHeartbeats 1000000 in
theorem lower20 (s : ByteArray) (hs : s.size ≤ 4611686018427387904) (w : World) :
    Calls Tryd.prog 20 #[.string s] w fun e w' => e = .returned (.string ⟨(s.data.toList.map lowC).toArray⟩) ∧ Below w.heap.size w w' := by
  have hcv := Lib.run_convert_string_bytes (P := Tryd.prog) w 9 73 5 s Tryd.underlying9 Tryd.underlying73 Tryd.underlying5
  have B0 := bytesAre_bytesWorld w 5 s
  have L0 := below_bytesWorld w 5 s
  have Z0 : w.heap.size < (Lib.bytesWorld w 5 s).heap.size := by rw [Lib.bytesWorld_size]; omega
  generalize Lib.bytesWorld w 5 s = w0 at *
  generalize grownCap w s.size 0 5 = cap at *
  have hl := Lib.size_eq s
  have HB := Lib.hid B0
  have HZ := Lib.hid Z0
  have HL := Lib.hid hl
  clear B0 Z0 hl
  go_enter Tryd.func20, Tryd.ntmps20
  go_wp2_with fail
  clear hcv
  go_loopw [10] (fun i wr => ∃ j : Nat, j ≤ s.size ∧ i = .int .i64 (j : Int) ∧ Hid (BytesAre wr w.heap.size (lowTo s.data.toList j)) ∧ Below w.heap.size w wr) (fun i _ => s.size - (intOf i).toNat)
  case atStart => exact ⟨0, Nat.zero_le _, rfl, by rw [lowTo_zero]; exact HB, L0⟩
  case round =>
    clear HB HZ L0
    obtain ⟨j, hj, rfl, O, hb⟩ := hrel
    by_cases hlt : j < s.size
    · have hg := toList_get s j hlt
      have hput := O.out.put j (lowC s[j])
      rw [lowTo_step _ j _ hg] at hput
      have HPut := Lib.hid hput
      obtain ⟨oj, zj⟩ := O.out j s[j] (lowTo_at _ j _ hg)
      have hbn := hb.setCell (p := ⟨w.heap.size, j, none⟩) (Nat.le_refl _) (.int .u8 ((lowC s[j]).toNat : Int))
      clear hput hg
      go_wp2_with (go_at_call 63; refine (lower63 _ _).mono ?_; rintro e w' ⟨rfl, rfl⟩)
      go_roundw
      case rel => exact ⟨j + 1, hlt, by go_num, HPut, hbn⟩
      case measure => simp [intOf]; omega
    · obtain rfl : j = s.size := by omega
      have hO := O.out
      have hll := HL.out
      rw [lowTo_full _ _ (by omega)] at hO
      have hbk := fun cap => back_string wr 73 9 5 w.heap.size cap s.size (s.data.toList.map lowC) Tryd.underlying73 Tryd.underlying5 Tryd.underlying9 (by rw [List.length_map]; exact hll) hO
      clear hO hll O
      go_wp2_with fail
      go_ret
      exact ⟨rfl, hb⟩

theorem fold_step (a b : ByteArray) (j : Nat) (ha : j < a.size) (hb : j < b.size) (h : (a.data.toList.take j).map lowC = (b.data.toList.take j).map lowC) (he : lowC a[j] = lowC b[j]) :
    (a.data.toList.take (j + 1)).map lowC = (b.data.toList.take (j + 1)).map lowC := by
  rw [take_snoc a j ha, take_snoc b j hb, List.map_append, List.map_append, h]; simp [he]
theorem fold_no (a b : ByteArray) (j : Nat) (ha : j < a.size) (hb : j < b.size) (he : lowC a[j] ≠ lowC b[j]) : a.data.toList.map lowC ≠ b.data.toList.map lowC := by
  intro h
  have h1 : (a.data.toList.map lowC)[j]? = (b.data.toList.map lowC)[j]? := by rw [h]
  rw [List.getElem?_map, List.getElem?_map, toList_get a j ha, toList_get b j hb] at h1
  simp at h1
  exact he h1
theorem byte_ne {c d : UInt8} (h : c ≠ d) : (((c.toNat : Int) != (d.toNat : Int))) = true := by
  simp only [bne_iff_ne, ne_eq]
  intro e
  exact h (UInt8.toNat_inj.1 (by omega))
set_option maxRecDepth 100000 in
set_option maxHeartbeats 1000000 in
theorem fold22 (a b : ByteArray) (hsb : b.size ≤ 4611686018427387904) (R : Bool) (hR : R = decide (a.data.toList.map lowC = b.data.toList.map lowC)) (w : World) :
    Calls Tryd.prog 22 #[.string a, .string b] w fun e w' => e = .returned (.bool R) ∧ Below w.heap.size w w' := by
  have hla := Lib.size_eq a
  have hlb := Lib.size_eq b
  by_cases hsz : a.size = b.size
  · have HR := Lib.hid hR
    clear hR
    have hne : ((a.size : Int) != (b.size : Int)) = false := by simp [hsz]
    have HS := Lib.hid hsz
    have hle : a.size ≤ b.size := by omega
    have HLA := Lib.hid hla
    have HLB := Lib.hid hlb
    clear hsz hla hlb
    go_enter Tryd.func22, Tryd.ntmps22
    go_wp2_with fail
    clear hne
    go_loopw [13] (fun i wr => ∃ j : Nat, j ≤ a.size ∧ i = .int .i64 (j : Int) ∧ Hid ((a.data.toList.take j).map lowC = (b.data.toList.take j).map lowC) ∧ Below w.heap.size w wr) (fun i _ => a.size - (intOf i).toNat)
    case atStart => exact ⟨0, Nat.zero_le _, rfl, rfl, Below.refl _ _⟩
    case round =>
      obtain ⟨j, hj, rfl, hr, hbl⟩ := hrel
      by_cases hlt : j < a.size
      · have hlb : j < b.size := by omega
        have j1 : (j : Int) < a.size := by omega
        have j2 : (j : Int) < b.size := by omega
        by_cases he : lowC a[j] = lowC b[j]
        · have hst := Lib.hid (fold_step a b j hlt hlb hr.out he)
          have hq : (((lowC a[j]).toNat : Int) != ((lowC b[j]).toNat : Int)) = false := by rw [he]; simp
          clear he
          go_wp2_with fail
          go_quiet ((go_at_call 63; exact Calls.quiet_of_same (calls_flip (lower63 _ _))))
          have hbn : ∀ n, Below w.heap.size w (wr.drewN n) := fun n => hbl.trans ⟨rfl, rfl, rfl, Nat.le_refl _, fun _ _ => rfl⟩
          go_wp2_with fail
          go_roundw
          case rel => exact ⟨j + 1, hlt, by go_num, hst, hbn _⟩
          case measure => simp [intOf]; omega
        · have hno := Lib.hid (fold_no a b j hlt hlb he)
          have hq := byte_ne he
          clear he
          go_wp2_with fail
          go_quiet ((go_at_call 63; exact Calls.quiet_of_same (calls_flip (lower63 _ _))))
          have hbn : ∀ n, Below w.heap.size w (wr.drewN n) := fun n => hbl.trans ⟨rfl, rfl, rfl, Nat.le_refl _, fun _ _ => rfl⟩
          go_wp2_with fail
          go_ret
          exact ⟨by rw [HR.out, decide_eq_false hno.out]; rfl, hbn _⟩
      · obtain rfl : j = a.size := by omega
        have h1 := hr.out
        have hs2 := HS.out
        have h2 := HLA.out
        have h3 := HLB.out
        rw [List.take_of_length_le (by omega), List.take_of_length_le (by omega)] at h1
        have H1 := Lib.hid h1
        clear h1 hs2 h2 h3
        go_wp2_with fail
        go_ret
        exact ⟨by rw [HR.out, decide_eq_true H1.out]; rfl, hbl⟩
  · have hno : R = false := by
      rw [hR]
      apply decide_eq_false
      intro e
      have := congrArg List.length e
      simp only [List.length_map] at this
      omega
    subst hno
    have hne : ((a.size : Int) != (b.size : Int)) = true := by simp; omega
    clear hR hla hlb hsz
    go_enter Tryd.func22, Tryd.ntmps22
    go_wp2_with fail
    go_ret
    exact ⟨rfl, Below.refl _ _⟩
end Go.Proofs.YtneagccakoakpaaDoor
