/- Packed: OctB, OctC, OctD, NumA, NumB, OctE, OctF, OctG, NumC. -/
import Derived.Shelf.Strings.SlTrimAscii
import Derived.Lib.ConvBytes
import Derived.Laws.IdiomStrings
import Derived.Laws.OwnMore
import Derived.IntWalk
import Derived.Laws.AppendOwn
import Derived.Laws.BytesArg
import Derived.Deep.MidRow
import Derived.Laws.BitsAllLaws
import Derived.Test.YtbbphklhnngjmaaDoorG00
import Derived.Test.YtbbphklhnngjmaaDoorShelf
/- octet: lower, classesOf, all. -/
namespace Go.Proofs.YtbbphklhnngjmaaDoor
open Go.RowKit

set_option maxHeartbeats 400000 in
theorem lower63 (c : UInt8) (w : World) :
    Calls Tryd.prog 32 #[.int .u8 (c.toNat : Int)] w fun e w' => e = .returned (.int .u8 ((lowC c).toNat : Int)) ∧ w = w' := by
  have hc := byte_lt c
  by_cases h1 : 65 ≤ c.toNat
  · by_cases h2 : c.toNat ≤ 90
    · have hl := Lib.hid (lowC_up c h1 h2)
      have j1 : (65 : Int) ≤ c.toNat := by omega
      have j2 : (c.toNat : Int) ≤ 90 := by omega
      go_enter Tryd.func32, Tryd.ntmps32
      go_wp2_with fail
      go_ret
      exact ⟨by rw [hl.out]; simp; omega, rfl⟩
    · have hl := Lib.hid (lowC_no c (by omega))
      have j1 : (65 : Int) ≤ c.toNat := by omega
      have j2 : ¬ (c.toNat : Int) ≤ 90 := by omega
      go_enter Tryd.func32, Tryd.ntmps32
      go_wp2_with fail
      go_ret
      exact ⟨by rw [hl.out]; rfl, rfl⟩
  · have hl := Lib.hid (lowC_no c (by omega))
    have j1 : ¬ (65 : Int) ≤ c.toNat := by omega
    go_enter Tryd.func32, Tryd.ntmps32
    go_wp2_with fail
    go_ret
    exact ⟨by rw [hl.out]; rfl, rfl⟩

theorem mark_ix (c : UInt8) (i : Int) (hi : Lib.indexByte marksL c = i) (w : World) : Calls Tryd.prog 83 #[.string ⟨#[33, 35, 36, 37, 38, 39, 42, 43, 45, 46, 94, 95, 96, 124, 126]⟩, .int .u8 (c.toNat : Int)] w fun e w' => e = .returned (.int .i64 i) ∧ w = w' := by
  have h := Tryd.strings_IndexByte ⟨#[33, 35, 36, 37, 38, 39, 42, 43, 45, 46, 94, 95, 96, 124, 126]⟩ (c.toNat : Int) w
  have e : ((c.toNat : Int)).toNat.toUInt8 = c := by simp
  rw [e] at h
  exact h.mono fun _ _ ⟨x, y⟩ => ⟨x.trans (by rw [← hi]; rfl), y.symm⟩
theorem blank_ix (c : UInt8) (i : Int) (hi : Lib.indexByte [32, 9] c = i) (w : World) : Calls Tryd.prog 83 #[.string ⟨#[32, 9]⟩, .int .u8 (c.toNat : Int)] w fun e w' => e = .returned (.int .i64 i) ∧ w = w' := by
  have h := Tryd.strings_IndexByte ⟨#[32, 9]⟩ (c.toNat : Int) w
  have e : ((c.toNat : Int)).toNat.toUInt8 = c := by simp
  rw [e] at h
  exact h.mono fun _ _ ⟨x, y⟩ => ⟨x.trans (by rw [← hi]), y.symm⟩

end Go.Proofs.YtbbphklhnngjmaaDoor

/- octet: all, Token, Target, Trim, Value. -/
namespace Go.Proofs.YtbbphklhnngjmaaDoor
open Go.RowKit

theorem prefix_slash (l : List UInt8) : Lib.hasPrefix l [47] = decide (l.head? = some 47) := by
  cases l with
  | nil => rfl
  | cons a r =>
    have : Lib.hasPrefix (a :: r) [47] = true ↔ a = 47 := by
      unfold Lib.hasPrefix
      rw [List.isPrefixOf_iff_prefix, List.cons_prefix_cons]
      exact ⟨fun h => h.1.symm, fun h => ⟨h.symm, List.nil_prefix⟩⟩
    by_cases h : a = 47
    · rw [this.2 h]; simp [h]
    · have h2 : ¬ Lib.hasPrefix (a :: r) [47] = true := fun e => h (this.1 e)
      simp only [Bool.not_eq_true] at h2
      rw [h2]; simp [h]
set_option maxHeartbeats 400000 in
theorem trim23 (s : ByteArray) (hs : s.size ≤ 4611686018427387904) (w : World) :
    Calls Tryd.prog 42 #[.string s] w fun e w' => e = .returned (.string ⟨(trimB s.data.toList).toArray⟩) ∧ Below w.heap.size w w' := by
  have hcon := Any.strings_Trim_laid Tryd.lays160 (by kernel_rfl) s ⟨#[32, 9]⟩ w (by omega) (by decide) (ascii_of_all (by decide))
  have HC := Lib.hid hcon
  clear hcon
  go_enter Tryd.func42, Tryd.ntmps42
  go_wp2_with fail
  refine HC.out.mono ?_
  rintro e w1 ⟨rfl, hb⟩
  go_wp2_with fail
  go_ret
  exact ⟨rfl, hb⟩
theorem bytes_beq (a b : ByteArray) : (a.toList == b.toList) = decide (a.data.toList = b.data.toList) := by
  rw [ByteArray.toList_eq, ByteArray.toList_eq]
  by_cases h : a.data.toList = b.data.toList
  · rw [decide_eq_true h, h]; simp
  · rw [decide_eq_false h]; simp only [beq_eq_false_iff_ne, ne_eq]; exact h

end Go.Proofs.YtbbphklhnngjmaaDoor

/- octet: Lower, Fold; the reference's Lower. -/
namespace Go.Proofs.YtbbphklhnngjmaaDoor
open Go.RowKit

/-- A block's cells, from its first on, are these bytes, and may be written. -/
def BytesAre (w : World) (b : Nat) (l : List UInt8) : Prop := ∀ (i : Nat) (c : UInt8), l[i]? = some c → w.cell? ⟨b, i, none⟩ = some (.int .u8 (c.toNat : Int)) ∧ w.frozen? ⟨b, i, none⟩ = false
theorem BytesAre.put {w : World} {b : Nat} {l : List UInt8} (h : BytesAre w b l) (j : Nat) (x : UInt8) : BytesAre (w.setCell ⟨b, j, none⟩ (.int .u8 (x.toNat : Int))) b (l.set j x) := by
  intro i c hi
  rw [List.getElem?_set] at hi
  by_cases e : j = i
  · subst e
    rw [if_pos rfl] at hi
    split at hi
    · rename_i hlt
      injection hi with hi
      subst hi
      obtain ⟨h1, h2⟩ := h j l[j] (List.getElem?_eq_getElem hlt)
      exact ⟨World.cell?_setCell_same _ _ _ h1, by rw [World.frozen?_setCell]; exact h2⟩
    · cases hi
  · rw [if_neg e] at hi
    obtain ⟨h1, h2⟩ := h i c hi
    exact ⟨by rw [World.cell?_setCell_other _ _ _ _ (by simp <;> omega), h1], by rw [World.frozen?_setCell]; exact h2⟩
theorem BytesAre.below {w w' : World} {b : Nat} {l : List UInt8} (h : BytesAre w b l) (hb : Below w.heap.size w w') (hlt : b < w.heap.size) : BytesAre w' b l := fun i c hi => by
  obtain ⟨hc, hf⟩ := bcell hb
  exact ⟨(hc _ _ hlt).trans (h i c hi).1, (hf _ _ hlt).trans (h i c hi).2⟩
theorem below_bytesWorld (w : World) (e : TypeId) (s : ByteArray) : Below w.heap.size w (Lib.bytesWorld w e s) :=
  ⟨rfl, rfl, rfl, by rw [Lib.bytesWorld_size]; omega, fun j hj => Lib.bytesWorld_at_old w e s j hj⟩
theorem bytesAre_bytesWorld (w : World) (e : TypeId) (s : ByteArray) : BytesAre (Lib.bytesWorld w e s) w.heap.size s.data.toList := by
  intro i c hi
  have hlt : i < s.size := by
    have := (List.getElem?_eq_some_iff.1 hi).1
    rw [Lib.size_eq]; exact this
  refine ⟨?_, ?_⟩
  · rw [Lib.bytesWorld_cell w e s i hlt, List.getD_eq_getElem?_getD, hi]; rfl
  · have hz : s.size ≤ (Lib.bytesCells w e s).size := by
      simp only [Lib.bytesCells, Array.size_append, Array.size_map]
      show s.size ≤ s.size + _
      omega
    simp only [World.frozen?, Lib.bytesWorld_at_new]
    simp
    omega
/-- The bytes as they stand when j of them are small. -/
def lowTo (l : List UInt8) (j : Nat) : List UInt8 := (l.take j).map lowC ++ l.drop j
theorem lowTo_zero (l : List UInt8) : lowTo l 0 = l := by simp [lowTo]
theorem lowTo_at (l : List UInt8) (j : Nat) (c : UInt8) (h : l[j]? = some c) : (lowTo l j)[j]? = some c := by
  have hlt := (List.getElem?_eq_some_iff.1 h).1
  unfold lowTo
  rw [List.getElem?_append_right (by simp; omega)]
  simp
  rw [show j - min j l.length = 0 by omega, Nat.add_zero, h]
theorem lowTo_step (l : List UInt8) (j : Nat) (c : UInt8) (h : l[j]? = some c) : (lowTo l j).set j (lowC c) = lowTo l (j + 1) := by
  obtain ⟨hlt, rfl⟩ := List.getElem?_eq_some_iff.1 h
  unfold lowTo
  have hm : ((l.take j).map lowC).length = j := by rw [List.length_map, List.length_take]; omega
  rw [List.set_append_right _ _ (by omega), hm, Nat.sub_self, List.drop_eq_getElem_cons hlt, List.set_cons_zero, List.take_add_one, List.getElem?_eq_getElem hlt, Option.toList_some, List.map_append, List.append_assoc]
  rfl
theorem lowTo_full (l : List UInt8) (j : Nat) (h : l.length ≤ j) : lowTo l j = l.map lowC := by
  unfold lowTo
  rw [List.take_of_length_le h, List.drop_of_length_le h, List.append_nil]
theorem back_string (w : World) (src dst e : TypeId) (b : Nat) (cap n : Nat) (l : List UInt8) (hs : Tryd.prog.underlying src = some (.slice e)) (he : Tryd.prog.underlying e = some (.int .u8)) (hd : Tryd.prog.underlying dst = some .string)
    (hn : n = l.length) (h : BytesAre w b l) : (convert src dst (.slice (some ⟨b, 0, none⟩) n cap)).run Tryd.prog w = .ok (.string ⟨l.toArray⟩) w := by
  subst hn
  refine run_convert_bytes_back w src dst e ⟨b, 0, none⟩ cap l hs he hd fun j hj => ?_
  have := (h j l[j] (List.getElem?_eq_getElem hj)).1
  unfold Addr.add
  by_cases e0 : j = 0
  · subst e0; simpa using this
  · simp [e0]; exact this

set_option maxRecDepth 100000 in
set_option maxHeartbeats 1000000 in
theorem lower20 (s : ByteArray) (hs : s.size ≤ 4611686018427387904) (w : World) :
    Calls Tryd.prog 36 #[.string s] w fun e w' => e = .returned (.string ⟨(s.data.toList.map lowC).toArray⟩) ∧ Below w.heap.size w w' := by
  have hcv := Lib.run_convert_string_bytes (P := Tryd.prog) w 9 63 5 s Tryd.underlying9 Tryd.underlying63 Tryd.underlying5
  have B0 := bytesAre_bytesWorld w 5 s
  have L0 := below_bytesWorld w 5 s
  have Z0 : w.heap.size < (Lib.bytesWorld w 5 s).heap.size := by rw [Lib.bytesWorld_size]; omega
  generalize Lib.bytesWorld w 5 s = w0 at *
  generalize grownCap w s.size 0 5 = cap at *
  have hl := Lib.size_eq s
  have HB := Lib.hid B0
  have HZ := Lib.hid Z0
  have HL := Lib.hid hl
  clear B0 Z0 hl
  go_enter Tryd.func36, Tryd.ntmps36
  go_wp2_with fail
  clear hcv
  go_loopw [10] (fun i wr => ∃ j : Nat, j ≤ s.size ∧ i = .int .i64 (j : Int) ∧ Hid (BytesAre wr w.heap.size (lowTo s.data.toList j)) ∧ Below w.heap.size w wr) (fun i _ => s.size - (intOf i).toNat)
  case atStart => exact ⟨0, Nat.zero_le _, rfl, by rw [lowTo_zero]; exact HB, L0⟩
  case round =>
    clear HB HZ L0
    obtain ⟨j, hj, rfl, O, hb⟩ := hrel
    by_cases hlt : j < s.size
    · have hg := toList_get s j hlt
      have hput := O.out.put j (lowC s[j])
      rw [lowTo_step _ j _ hg] at hput
      have HPut := Lib.hid hput
      obtain ⟨oj, zj⟩ := O.out j s[j] (lowTo_at _ j _ hg)
      have hbn := hb.setCell (p := ⟨w.heap.size, j, none⟩) (Nat.le_refl _) (.int .u8 ((lowC s[j]).toNat : Int))
      clear hput hg
      go_wp2_with (go_at_call 32; refine (lower63 _ _).mono ?_; rintro e w' ⟨rfl, rfl⟩)
      go_roundw
      case rel => exact ⟨j + 1, hlt, by go_num, HPut, hbn⟩
      case measure => simp [intOf]; omega
    · obtain rfl : j = s.size := by omega
      have hO := O.out
      have hll := HL.out
      rw [lowTo_full _ _ (by omega)] at hO
      have hbk := fun cap => back_string wr 63 9 5 w.heap.size cap s.size (s.data.toList.map lowC) Tryd.underlying63 Tryd.underlying5 Tryd.underlying9 (by rw [List.length_map]; exact hll) hO
      clear hO hll O
      go_wp2_with fail
      go_ret
      exact ⟨rfl, hb⟩

theorem fold_step (a b : ByteArray) (j : Nat) (ha : j < a.size) (hb : j < b.size) (h : (a.data.toList.take j).map lowC = (b.data.toList.take j).map lowC) (he : lowC a[j] = lowC b[j]) :
    (a.data.toList.take (j + 1)).map lowC = (b.data.toList.take (j + 1)).map lowC := by
  rw [take_snoc a j ha, take_snoc b j hb, List.map_append, List.map_append, h]; simp [he]
theorem fold_no (a b : ByteArray) (j : Nat) (ha : j < a.size) (hb : j < b.size) (he : lowC a[j] ≠ lowC b[j]) : a.data.toList.map lowC ≠ b.data.toList.map lowC := by
  intro h
  have h1 : (a.data.toList.map lowC)[j]? = (b.data.toList.map lowC)[j]? := by rw [h]
  rw [List.getElem?_map, List.getElem?_map, toList_get a j ha, toList_get b j hb] at h1
  simp at h1
  exact he h1
theorem byte_ne {c d : UInt8} (h : c ≠ d) : (((c.toNat : Int) != (d.toNat : Int))) = true := by
  simp only [bne_iff_ne, ne_eq]
  intro e
  exact h (UInt8.toNat_inj.1 (by omega))
set_option maxRecDepth 100000 in
set_option maxHeartbeats 1000000 in
theorem fold22 (a b : ByteArray) (hsb : b.size ≤ 4611686018427387904) (R : Bool) (hR : R = decide (a.data.toList.map lowC = b.data.toList.map lowC)) (w : World) :
    Calls Tryd.prog 22 #[.string a, .string b] w fun e w' => e = .returned (.bool R) ∧ Below w.heap.size w w' := by
  have hla := Lib.size_eq a
  have hlb := Lib.size_eq b
  by_cases hsz : a.size = b.size
  · have HR := Lib.hid hR
    clear hR
    have hne : ((a.size : Int) != (b.size : Int)) = false := by simp [hsz]
    have HS := Lib.hid hsz
    have hle : a.size ≤ b.size := by omega
    have HLA := Lib.hid hla
    have HLB := Lib.hid hlb
    clear hsz hla hlb
    go_enter Tryd.func22, Tryd.ntmps22
    go_wp2_with fail
    clear hne
    go_loopw [13] (fun i wr => ∃ j : Nat, j ≤ a.size ∧ i = .int .i64 (j : Int) ∧ Hid ((a.data.toList.take j).map lowC = (b.data.toList.take j).map lowC) ∧ Below w.heap.size w wr) (fun i _ => a.size - (intOf i).toNat)
    case atStart => exact ⟨0, Nat.zero_le _, rfl, rfl, Below.refl _ _⟩
    case round =>
      obtain ⟨j, hj, rfl, hr, hbl⟩ := hrel
      by_cases hlt : j < a.size
      · have hlb : j < b.size := by omega
        have j1 : (j : Int) < a.size := by omega
        have j2 : (j : Int) < b.size := by omega
        by_cases he : lowC a[j] = lowC b[j]
        · have hst := Lib.hid (fold_step a b j hlt hlb hr.out he)
          have hq : (((lowC a[j]).toNat : Int) != ((lowC b[j]).toNat : Int)) = false := by rw [he]; simp
          clear he
          go_wp2_with fail
          go_quiet ((go_at_call 32; exact Calls.quiet_of_same (calls_flip (lower63 _ _))))
          have hbn : ∀ n, Below w.heap.size w (wr.drewN n) := fun n => hbl.trans ⟨rfl, rfl, rfl, Nat.le_refl _, fun _ _ => rfl⟩
          go_wp2_with fail
          go_roundw
          case rel => exact ⟨j + 1, hlt, by go_num, hst, hbn _⟩
          case measure => simp [intOf]; omega
        · have hno := Lib.hid (fold_no a b j hlt hlb he)
          have hq := byte_ne he
          clear he
          go_wp2_with fail
          go_quiet ((go_at_call 32; exact Calls.quiet_of_same (calls_flip (lower63 _ _))))
          have hbn : ∀ n, Below w.heap.size w (wr.drewN n) := fun n => hbl.trans ⟨rfl, rfl, rfl, Nat.le_refl _, fun _ _ => rfl⟩
          go_wp2_with fail
          go_ret
          exact ⟨by rw [HR.out, decide_eq_false hno.out]; rfl, hbn _⟩
      · obtain rfl : j = a.size := by omega
        have h1 := hr.out
        have hs2 := HS.out
        have h2 := HLA.out
        have h3 := HLB.out
        rw [List.take_of_length_le (by omega), List.take_of_length_le (by omega)] at h1
        have H1 := Lib.hid h1
        clear h1 hs2 h2 h3
        go_wp2_with fail
        go_ret
        exact ⟨by rw [HR.out, decide_eq_true H1.out]; rfl, hbl⟩
  · have hno : R = false := by
      rw [hR]
      apply decide_eq_false
      intro e
      have := congrArg List.length e
      simp only [List.length_map] at this
      omega
    subst hno
    have hne : ((a.size : Int) != (b.size : Int)) = true := by simp; omega
    clear hR hla hlb hsz
    go_enter Tryd.func22, Tryd.ntmps22
    go_wp2_with fail
    go_ret
    exact ⟨rfl, Below.refl _ _⟩
end Go.Proofs.YtbbphklhnngjmaaDoor

/- Reading digits with strconv: ParseUint, ParseInt at the bases 10 and 16. -/
namespace Go.Proofs.YtbbphklhnngjmaaDoor
open Go.RowKit

/-- A digit's number; -1: it is none. -/
def dgt (c : UInt8) : Int := if 48 ≤ c.toNat ∧ c.toNat ≤ 57 then (c.toNat : Int) - 48 else if 97 ≤ c.toNat ∧ c.toNat ≤ 102 then (c.toNat : Int) - 87 else if 65 ≤ c.toNat ∧ c.toNat ≤ 70 then (c.toNat : Int) - 55 else -1
theorem dgt_dec (c : UInt8) (h : isDec c = true) : 0 ≤ dgt c ∧ dgt c < 10 ∧ (c.toNat : Int) = dgt c + 48 := by
  have : ∀ c : UInt8, isDec c = true → 0 ≤ dgt c ∧ dgt c < 10 ∧ (c.toNat : Int) = dgt c + 48 := by apply all256; decide +kernel
  exact this c h
theorem dgt_af (c : UInt8) (h : isAF c = true) : 10 ≤ dgt c ∧ dgt c < 16 ∧ bits .or .u8 (c.toNat : Int) 32 = dgt c + 87 ∧ ¬ (48 ≤ c.toNat ∧ c.toNat ≤ 57) ∧ c.toNat ≠ 95 := by
  have : ∀ c : UInt8, isAF c = true → 10 ≤ dgt c ∧ dgt c < 16 ∧ bits .or .u8 (c.toNat : Int) 32 = dgt c + 87 ∧ ¬ (48 ≤ c.toNat ∧ c.toNat ≤ 57) ∧ c.toNat ≠ 95 := by apply all256; decide +kernel
  exact this c h
/-- The digits' number to a base. -/
def numD (b : Int) (l : List UInt8) : Int := l.foldl (fun n c => b * n + dgt c) 0
theorem numD_snoc (b : Int) (l : List UInt8) (c : UInt8) : numD b (l ++ [c]) = b * numD b l + dgt c := by simp [numD]
theorem snoc_ind {P : List UInt8 → Prop} (h0 : P []) (h1 : ∀ l c, P l → P (l ++ [c])) (l : List UInt8) : P l := by
  rw [← List.reverse_reverse l]
  induction l.reverse with
  | nil => exact h0
  | cons a r ih => rw [List.reverse_cons]; exact h1 _ _ ih
theorem numD_lt (b : Nat) (p : UInt8 → Bool) (hp : ∀ c, p c = true → 0 ≤ dgt c ∧ dgt c < b) : ∀ l : List UInt8, l.all p = true → 0 ≤ numD b l ∧ numD b l < ((b ^ l.length : Nat) : Int) := by
  intro l
  refine snoc_ind (P := fun l => l.all p = true → 0 ≤ numD b l ∧ numD b l < ((b ^ l.length : Nat) : Int)) ?_ ?_ l
  · intro _; simp [numD]
  · intro l c ih h
    rw [List.all_append] at h
    simp only [List.all_cons, List.all_nil, Bool.and_true, Bool.and_eq_true] at h
    obtain ⟨h1, h2⟩ := ih h.1
    obtain ⟨h3, h4⟩ := hp c h.2
    rw [numD_snoc, List.length_append, List.length_singleton, Nat.pow_succ]
    have h5 : 0 ≤ (b : Int) * numD b l := Int.mul_nonneg (by omega) h1
    have h6 : (b : Int) * numD b l ≤ (b : Int) * (((b ^ l.length : Nat) : Int) - 1) := Int.mul_le_mul_of_nonneg_left (by omega) (by omega)
    rw [Int.mul_sub, Int.mul_one] at h6
    have h7 : ((b ^ l.length * b : Nat) : Int) = (b : Int) * ((b ^ l.length : Nat) : Int) := by rw [Int.natCast_mul, Int.mul_comm]
    rw [h7]
    omega
theorem pow10_le (n : Nat) (h : n ≤ 10) : 10 ^ n ≤ 10000000000 := Nat.pow_le_pow_right (by decide) h
theorem pow16_le (n : Nat) (h : n ≤ 8) : 16 ^ n ≤ 4294967296 := Nat.pow_le_pow_right (by decide) h
theorem hex_dgt (c : UInt8) (h : isHex c = true) : 0 ≤ dgt c ∧ dgt c < 16 := by
  unfold isHex at h
  rw [Bool.or_eq_true] at h
  rcases h with h | h
  · have := dgt_dec c h; omega
  · have := dgt_af c h; omega
theorem dec_dgt (c : UInt8) (h : isDec c = true) : 0 ≤ dgt c ∧ dgt c < 10 := by have := dgt_dec c h; omega
theorem all_take (s : ByteArray) (p : UInt8 → Bool) (h : s.data.toList.all p = true) (j : Nat) : (s.data.toList.take j).all p = true := by
  rw [List.all_eq_true] at h ⊢
  exact fun x hx => h x (List.mem_of_mem_take hx)
theorem all_at (s : ByteArray) (p : UInt8 → Bool) (h : s.data.toList.all p = true) (j : Nat) (hj : j < s.size) : p s[j] = true := by
  rw [List.all_eq_true] at h
  exact h _ (List.mem_of_getElem? (toList_get s j hj))

theorem emp_false' (t : ByteArray) (h : 0 < t.size) : t.toList.isEmpty = false := by
  rw [ByteArray.toList_eq]
  cases hl : t.data.toList with
  | nil => have := Lib.size_eq t; rw [hl, List.length_nil] at this; omega
  | cons a r => rfl

end Go.Proofs.YtbbphklhnngjmaaDoor

/- Reading digits: ParseInt, octet's number, Dec, Hex. -/
namespace Go.Proofs.YtbbphklhnngjmaaDoor
open Go.RowKit

/-- What Dec and Hex return: the number, the error's number. -/
def numR (b : Int) (m : Nat) (p : UInt8 → Bool) (l : List UInt8) (most : Int) : Int × Int :=
  if l.length < 1 ∨ m < l.length ∨ l.all p = false then (0, 2) else if most < numD b l then (0, 3) else (numD b l, 0)
def numV (r : Int × Int) : Value := .tuple #[.int .i64 r.1, .int .i64 r.2]
theorem empty_of (s : ByteArray) (h : ¬ 0 < s.size) : s = ⟨#[]⟩ := by
  cases s with
  | mk d =>
    have : d.size = 0 := by have : d.size = (ByteArray.mk d).size := rfl; omega
    have h2 : d = #[] := Array.eq_empty_of_size_eq_zero this
    rw [h2]

theorem bound10 (s : ByteArray) (hs : s.size ≤ 10) (hd : s.data.toList.all isDec = true) : 0 ≤ numD 10 s.data.toList ∧ numD 10 s.data.toList < 10000000000 := by
  have h := numD_lt 10 isDec (fun c h => dec_dgt c h) s.data.toList hd
  have hpw : 10 ^ s.data.toList.length ≤ 10 ^ 10 := Nat.pow_le_pow_right (by decide) (by rw [← Lib.size_eq]; omega)
  have h2 : ((10 ^ s.data.toList.length : Nat) : Int) ≤ ((10 ^ 10 : Nat) : Int) := by exact_mod_cast hpw
  have h3 : ((10 ^ 10 : Nat) : Int) = 10000000000 := by decide
  have h4 : (((10 : Nat) : Int)) = 10 := rfl
  rw [h4] at h
  omega
theorem bound16 (s : ByteArray) (hs : s.size ≤ 8) (hd : s.data.toList.all isHex = true) : 0 ≤ numD 16 s.data.toList ∧ numD 16 s.data.toList < 4294967296 := by
  have h := numD_lt 16 isHex (fun c h => hex_dgt c h) s.data.toList hd
  have hpw : 16 ^ s.data.toList.length ≤ 16 ^ 8 := Nat.pow_le_pow_right (by decide) (by rw [← Lib.size_eq]; omega)
  have h2 : ((16 ^ s.data.toList.length : Nat) : Int) ≤ ((16 ^ 8 : Nat) : Int) := by exact_mod_cast hpw
  have h3 : ((16 ^ 8 : Nat) : Int) = 4294967296 := by decide
  have h4 : (((16 : Nat) : Int)) = 16 := rfl
  rw [h4] at h
  omega
end Go.Proofs.YtbbphklhnngjmaaDoor

/- The reference of octet: letter, digit, blank, In, Token, Target. -/
namespace Go.Proofs.YtbbphklhnngjmaaDoor
open Go.RowKit

set_option maxHeartbeats 400000 in
theorem blank62 (c : UInt8) (r : Bool) (hr : isBlk c = r) (w : World) :
    Calls Tryd.prog 43 #[.int .u8 (c.toNat : Int)] w fun e w' => e = .returned (.bool r) ∧ w = w' := by
  have hc := byte_lt c
  have H : (((c.toNat : Int) == 32) = true ∧ r = true) ∨ (((c.toNat : Int) == 32) = false ∧ ((c.toNat : Int) == 9) = true ∧ r = true) ∨ (((c.toNat : Int) == 32) = false ∧ ((c.toNat : Int) == 9) = false ∧ r = false) := by
    rw [← hr]; clear hc hr r w; revert c; apply all256; decide +kernel
  clear hr
  rcases H with ⟨h1, rfl⟩ | ⟨h1, h2, rfl⟩ | ⟨h1, h2, rfl⟩
  all_goals
    go_enter Tryd.func43, Tryd.ntmps43
    go_wp2_with fail
    go_ret
    exact ⟨rfl, rfl⟩
theorem byte_eq (c d : UInt8) : ((c.toNat : Int) == (d.toNat : Int)) = (c == d) := by
  by_cases h : c = d
  · subst h; simp
  · have : ¬ (c.toNat : Int) = (d.toNat : Int) := fun e => h (UInt8.toNat_inj.1 (by omega))
    rw [beq_eq_false_iff_ne.2 this, beq_eq_false_iff_ne.2 h]
theorem contains_take_no {s : ByteArray} {b : UInt8} {j : Nat} (hj : j < s.size) (h : (s.data.toList.take j).contains b = false) (hb : (s[j] == b) = false) : (s.data.toList.take (j + 1)).contains b = false := by
  rw [take_snoc s j hj]
  have h' : ¬ b ∈ s.data.toList.take j := fun hm => by rw [List.contains_iff_mem.2 hm] at h; cases h
  rw [Bool.eq_false_iff]
  intro hc
  have hc' := List.contains_iff_mem.1 hc
  rw [List.mem_append] at hc'
  rcases hc' with hc' | hc'
  · exact h' hc'
  · rw [List.mem_singleton] at hc'
    exact (beq_eq_false_iff_ne.1 hb) hc'.symm
theorem contains_yes {s : ByteArray} {b : UInt8} {j : Nat} (hj : j < s.size) (hb : (s[j] == b) = true) : s.data.toList.contains b = true := by
  have : s[j] = b := by simpa using hb
  rw [List.contains_iff_mem, ← this]
  exact List.mem_of_getElem? (toList_get s j hj)
end Go.Proofs.YtbbphklhnngjmaaDoor

/- The reference of octet: Trim, Value. -/
namespace Go.Proofs.YtbbphklhnngjmaaDoor
open Go.RowKit

def blk2 (c : UInt8) : Bool := List.contains [32, 9] c
theorem blk2_is (c : UInt8) : blk2 c = isBlk c := by revert c; apply all256; decide +kernel
def rdrop (l : List UInt8) : List UInt8 := (l.reverse.dropWhile blk2).reverse
theorem trimB_eq (l : List UInt8) : trimB l = (rdrop l).dropWhile blk2 := rfl
theorem rdrop_cons (c : UInt8) (r : List UInt8) (hc : blk2 c = true) : rdrop (c :: r) = [] ∧ rdrop r = [] ∨ rdrop (c :: r) = c :: rdrop r := by
  unfold rdrop
  rw [List.reverse_cons, List.dropWhile_append]
  by_cases h : (r.reverse.dropWhile blk2).isEmpty = true
  · left
    rw [if_pos h]
    have h2 : r.reverse.dropWhile blk2 = [] := by simpa using h
    rw [h2]
    simp [hc]
  · right
    rw [if_neg h]
    simp
theorem trimB_left (c : UInt8) (r : List UInt8) (hc : isBlk c = true) : trimB (c :: r) = trimB r := by
  have hb : blk2 c = true := by rw [blk2_is]; exact hc
  rw [trimB_eq, trimB_eq]
  rcases rdrop_cons c r hb with ⟨h1, h2⟩ | h
  · rw [h1, h2]
  · rw [h, List.dropWhile_cons_of_pos hb]
theorem trimB_right (c : UInt8) (r : List UInt8) (hc : isBlk c = true) : trimB (r ++ [c]) = trimB r := by
  have hb : blk2 c = true := by rw [blk2_is]; exact hc
  rw [trimB_eq, trimB_eq]
  congr 1
  unfold rdrop
  rw [List.reverse_append, List.reverse_singleton, List.singleton_append, List.dropWhile_cons_of_pos hb]
theorem trimB_nil : trimB [] = [] := rfl
theorem trimB_stay (l : List UInt8) (c d : UInt8) (hc : l.head? = some c) (hd : l.getLast? = some d) (h1 : isBlk c = false) (h2 : isBlk d = false) : trimB l = l := by
  have b1 : ¬ blk2 c = true := by rw [blk2_is, h1]; simp
  have b2 : ¬ blk2 d = true := by rw [blk2_is, h2]; simp
  have hr : rdrop l = l := by
    unfold rdrop
    obtain ⟨t, rfl⟩ := List.getLast?_eq_some_iff.1 hd
    rw [List.reverse_append, List.reverse_singleton, List.singleton_append, List.dropWhile_cons_of_neg b2, List.reverse_cons, List.reverse_reverse]
  rw [trimB_eq, hr]
  cases l with
  | nil => rfl
  | cons a r =>
    obtain rfl : a = c := Option.some.inj hc
    exact List.dropWhile_cons_of_neg b1
theorem dropWhile_length (p : UInt8 → Bool) : ∀ l : List UInt8, (l.dropWhile p).length ≤ l.length
  | [] => Nat.le_refl _
  | c :: r => by
    rw [List.dropWhile_cons]
    split
    · have := dropWhile_length p r; simp; omega
    · exact Nat.le_refl _
theorem trimB_length (l : List UInt8) : (trimB l).length ≤ l.length := by
  rw [trimB_eq]
  have h1 := dropWhile_length blk2 (rdrop l)
  have h2 := dropWhile_length blk2 l.reverse
  unfold rdrop at *
  rw [List.length_reverse] at h1 h2
  omega
/-- The two ends of a text that trimming leaves alone. -/
theorem trimB_fix_head (l : List UInt8) (c : UInt8) (hc : l.head? = some c) (h : trimB l = l) : isBlk c = false := by
  cases l with
  | nil => cases hc
  | cons a r =>
    obtain rfl : a = c := Option.some.inj hc
    cases hb : isBlk a with
    | false => rfl
    | true =>
      have h2 := trimB_left a r hb
      have h3 := trimB_length r
      rw [h] at h2
      have := congrArg List.length h2
      simp at this
      omega
theorem trimB_fix_last (l : List UInt8) (d : UInt8) (hd : l.getLast? = some d) (h : trimB l = l) : isBlk d = false := by
  obtain ⟨t, rfl⟩ := List.getLast?_eq_some_iff.1 hd
  cases hb : isBlk d with
  | false => rfl
  | true =>
    have h2 := trimB_right d t hb
    have h3 := trimB_length t
    rw [h] at h2
    have := congrArg List.length h2
    simp at this
    omega
theorem valB_eq (l : List UInt8) : valB l = (l.all isVal && (decide (l = []) || (decide (l.head?.any (fun c => !isBlk c)) && decide (l.getLast?.any (fun c => !isBlk c))))) := by
  unfold valB
  rw [Bool.and_comm]
  congr 1
  rcases List.eq_nil_or_concat l with h | ⟨t, d, h⟩
  · subst h; rfl
  · rw [List.concat_eq_append] at h
    have hne : l ≠ [] := by rw [h]; simp
    have hd : l.getLast? = some d := by rw [h]; simp
    obtain ⟨c, hc⟩ : ∃ c, l.head? = some c := by
      cases l with
      | nil => exact absurd rfl hne
      | cons a r => exact ⟨a, rfl⟩
    rw [hc, hd, decide_eq_false hne, Bool.false_or]
    by_cases ht : trimB l = l
    · rw [decide_eq_true ht]
      have h1 := trimB_fix_head l c hc ht
      have h2 := trimB_fix_last l d hd ht
      simp [h1, h2]
    · rw [decide_eq_false ht]
      cases h1 : isBlk c with
      | true => simp [h1]
      | false =>
        cases h2 : isBlk d with
        | true => simp [h2]
        | false => exact absurd (trimB_stay l c d hc hd h1 h2) ht
theorem extractL (t : ByteArray) (a b : Nat) : (t.extract a b).data.toList = (t.data.toList.drop a).take (b - a) := by
  have h : (t.extract a b).data = t.data.extract a b := ByteArray.data_extract
  rw [h]; simp [Array.toList_extract]

theorem size_extract (t : ByteArray) (a b : Nat) (h : b ≤ t.size) : (t.extract a b).size = b - a := by
  rw [Lib.size_eq, extractL, List.length_take, List.length_drop, ← Lib.size_eq]; omega
theorem list_cons (t : ByteArray) (h : 0 < t.size) : t.data.toList = t[0] :: (t.extract 1 t.size).data.toList := by
  rw [extractL]
  have := toList_get t 0 h
  cases hl : t.data.toList with
  | nil => rw [hl] at this; cases this
  | cons a r =>
    rw [hl] at this
    obtain rfl : a = t[0] := Option.some.inj this
    have hz := Lib.size_eq t
    rw [hl] at hz
    simp only [List.length_cons] at hz
    rw [List.drop_succ_cons, List.drop_zero, List.take_of_length_le (by omega)]
theorem list_snoc (t : ByteArray) (h : t.size - 1 < t.size) : t.data.toList = (t.extract 0 (t.size - 1)).data.toList ++ [t[t.size - 1]] := by
  rw [extractL, List.drop_zero, Nat.sub_zero, ← take_snoc t (t.size - 1) h, List.take_of_length_le (by rw [← Lib.size_eq]; omega)]
theorem list_head (t : ByteArray) (h : 0 < t.size) : t.data.toList.head? = some t[0] := by rw [List.head?_eq_getElem?]; exact toList_get t 0 h
theorem list_last (t : ByteArray) (h : t.size - 1 < t.size) : t.data.toList.getLast? = some t[t.size - 1] := by rw [list_snoc t h]; simp
theorem emp_false (t : ByteArray) (h : 0 < t.size) : t.toList.isEmpty = false := by
  rw [ByteArray.toList_eq]
  cases hl : t.data.toList with
  | nil => have := Lib.size_eq t; rw [hl, List.length_nil] at this; omega
  | cons a r => rfl
theorem emp_true (t : ByteArray) (h : ¬ 0 < t.size) : t.toList = [] := by
  rw [ByteArray.toList_eq]
  exact List.eq_nil_of_length_eq_zero (by rw [← Lib.size_eq]; omega)
theorem str_eq (t : ByteArray) (l : List UInt8) (h : t.data.toList = l) : t = ⟨l.toArray⟩ := by
  cases t; simp at h; subst h; simp

set_option maxRecDepth 100000 in
set_option maxHeartbeats 1000000 in
theorem trim24 (s : ByteArray) (hs : s.size ≤ 4611686018427387904) (w : World) :
    Calls Tryd.prog 37 #[.string s] w fun e w' => e = .returned (.string ⟨(trimB s.data.toList).toArray⟩) ∧ w = w' := by
  obtain ⟨R, hR⟩ : ∃ R : ByteArray, R = ⟨(trimB s.data.toList).toArray⟩ := ⟨_, rfl⟩
  rw [← hR]
  have HR := Lib.hid hR
  clear hR
  go_enter Tryd.func37, Tryd.ntmps37
  go_wp2_with fail
  go_loop [0] (fun v => ∃ t : ByteArray, v = .string t ∧ t.size ≤ 4611686018427387904 ∧ Hid (trimB t.data.toList = trimB s.data.toList)) (fun v => match v with | .string t => t.size | _ => 0)
  case atStart => exact ⟨s, rfl, hs, rfl⟩
  case round =>
    obtain ⟨t, rfl, ht, hr⟩ := hrel
    by_cases h0 : 0 < t.size
    · have he1 := emp_false t h0
      obtain ⟨q, hq⟩ : ∃ q, isBlk t[0] = q := ⟨_, rfl⟩
      have HB := Lib.hid (blank62 t[0] q hq)
      have HQ := Lib.hid hq
      clear hq
      cases q
      · go_wp2_with (go_at_call 43; refine (HB.out _).mono ?_; rintro e w' ⟨rfl, rfl⟩)
        clear he1 HB
        go_loop [0] (fun v => ∃ u : ByteArray, v = .string u ∧ u.size ≤ 4611686018427387904 ∧ Hid (trimB u.data.toList = trimB s.data.toList) ∧ Hid (u.size = 0 ∨ ∃ c, u.data.toList.head? = some c ∧ isBlk c = false)) (fun v => match v with | .string t => t.size | _ => 0)
        case atStart => exact ⟨t, rfl, ht, hr, .inr ⟨t[0], list_head t h0, HQ.out⟩⟩
        case round =>
          clear HQ hr
          obtain ⟨u, rfl, hu, hr, hh⟩ := hrel
          by_cases h0 : 0 < u.size
          · have he1 := emp_false u h0
            have hlt : u.size - 1 < u.size := by omega
            obtain ⟨q, hq⟩ : ∃ q, isBlk u[u.size - 1] = q := ⟨_, rfl⟩
            have HB := Lib.hid (blank62 u[u.size - 1] q hq)
            have HQ := Lib.hid hq
            have k1 : (0 : Int) ≤ (u.size : Int) - 1 := by omega
            have k2 : ((u.size : Int) - 1).toNat = u.size - 1 := by omega
            have k3 : (1 : Int) ≤ u.size := by omega
            clear hq
            cases q
            · have hst : Hid (R = u) := by
                obtain ⟨c, hc, hcb⟩ : ∃ c, u.data.toList.head? = some c ∧ isBlk c = false := by
                  rcases hh.out with h | h
                  · omega
                  · exact h
                have h1 := trimB_stay _ c _ hc (list_last u hlt) hcb HQ.out
                have h2 := HR.out
                rw [← hr.out, h1] at h2
                exact h2.trans (str_eq u _ rfl).symm
              clear k1
              go_wp2_with (go_at_call 43; refine (HB.out _).mono ?_; rintro e w' ⟨rfl, rfl⟩)
              go_ret
              exact ⟨by rw [hst.out]; rfl, rfl⟩
            · have hrl : Hid (trimB (u.extract 0 (u.size - 1)).data.toList = trimB s.data.toList) := by
                have h1 := hr.out
                rw [list_snoc u hlt, trimB_right _ _ HQ.out] at h1
                exact h1
              have hhl : Hid ((u.extract 0 (u.size - 1)).size = 0 ∨ ∃ c, (u.extract 0 (u.size - 1)).data.toList.head? = some c ∧ isBlk c = false) := by
                rcases hh.out with h | ⟨c, hc, hcb⟩
                · omega
                · have h1 := list_snoc u hlt
                  rw [h1] at hc
                  cases hz : (u.extract 0 (u.size - 1)).data.toList with
                  | nil => left; rw [Lib.size_eq, hz]; rfl
                  | cons a r =>
                    rw [hz] at hc
                    exact .inr ⟨c, hc, hcb⟩
              have hsz := size_extract u 0 (u.size - 1) (by omega)
              have HSZ := Lib.hid hsz
              clear hsz
              go_wp2_with (go_at_call 43; refine (HB.out _).mono ?_; rintro e w' ⟨rfl, rfl⟩)
              go_round
              case rel => exact ⟨_, rfl, by have := HSZ.out; omega, hrl, hhl⟩
              case measure => have := HSZ.out; simp; omega
          · have he1 := emp_true u h0
            have hst : Hid (R = u) := by
              have h1 : u.data.toList = [] := List.eq_nil_of_length_eq_zero (by rw [← Lib.size_eq]; omega)
              have h2 := HR.out
              rw [← hr.out, h1, trimB_nil] at h2
              exact h2.trans (str_eq u _ h1).symm
            go_wp2_with fail
            go_ret
            exact ⟨by rw [hst.out]; rfl, rfl⟩
      · have hrl : Hid (trimB (t.extract 1 t.size).data.toList = trimB s.data.toList) := by
          have h1 := hr.out
          rw [list_cons t h0, trimB_left _ _ HQ.out] at h1
          exact h1
        have hsz := size_extract t 1 t.size (by omega)
        have HSZ := Lib.hid hsz
        have k3 : (1 : Int) ≤ t.size := by omega
        clear hsz
        go_wp2_with (go_at_call 43; refine (HB.out _).mono ?_; rintro e w' ⟨rfl, rfl⟩)
        go_round
        case rel => exact ⟨_, rfl, by have := HSZ.out; omega, hrl⟩
        case measure => have := HSZ.out; simp; omega
    · have he1 := emp_true t h0
      go_wp2_with fail
      go_loop [0] (fun v => v = .string t) (fun _ => 0)
      case atStart => rfl
      case round =>
        subst hrel
        have hst : Hid (R = t) := by
          have h1 : t.data.toList = [] := List.eq_nil_of_length_eq_zero (by rw [← Lib.size_eq]; omega)
          have h2 := HR.out
          rw [← hr.out, h1, trimB_nil] at h2
          exact h2.trans (str_eq t _ h1).symm
        go_wp2_with fail
        go_ret
        exact ⟨by rw [hst.out]; rfl, rfl⟩
end Go.Proofs.YtbbphklhnngjmaaDoor

/- The reference of octet: Value, Lower. -/
namespace Go.Proofs.YtbbphklhnngjmaaDoor
open Go.RowKit

theorem val_cases (c : UInt8) (q : Bool) (hq : isVal c = q) : (((c.toNat : Int) != 9) = false ∧ q = true) ∨ (((c.toNat : Int) != 9) = true ∧ (c.toNat : Int) < 32 ∧ q = false) ∨ (((c.toNat : Int) != 9) = true ∧ ¬ (c.toNat : Int) < 32 ∧ (c.toNat : Int) > 126 ∧ q = false) ∨ (((c.toNat : Int) != 9) = true ∧ ¬ (c.toNat : Int) < 32 ∧ ¬ (c.toNat : Int) > 126 ∧ q = true) := by
  subst hq; revert c; apply all256; decide +kernel
theorem infoU8 : (Tryd.prog.info? 5).map (fun i => (i.zero, i.size, i.bytes)) = some (some (.int .u8 0), 1, 1) := by kernel_rfl
def byteVals (l : List UInt8) : List Value := l.map fun c => Value.int .u8 (c.toNat : Int)
theorem byteVals_length (l : List UInt8) : (byteVals l).length = l.length := by simp [byteVals]
/-- A slice that owns these bytes reads back as the string. -/
theorem own_string (w : World) (base : Nat) (v : Value) (l : List UInt8) (h : w.ownsRow base 5 1 v l.length (byteVals l)) :
    (convert 63 9 v).run Tryd.prog w = .ok (.string ⟨l.toArray⟩) w := by
  obtain ⟨_, ⟨rfl, h0⟩ | ⟨g, cap, cur, rfl, _, hg, hcap, _, hcs, htk⟩⟩ := h
  · obtain rfl : l = [] := List.eq_nil_of_length_eq_zero h0
    exact run_convert_bytes_back w 63 9 5 ⟨0, 0, none⟩ 0 [] Tryd.underlying63 Tryd.underlying5 Tryd.underlying9 (fun j hj => by simp at hj) |> fun _ => by
      rw [run_convert_bytes_string w _ _ 5 none 0 0 Tryd.underlying63 Tryd.underlying5 Tryd.underlying9]
      rfl
  · refine run_convert_bytes_back w 63 9 5 ⟨g, 0, none⟩ cap l Tryd.underlying63 Tryd.underlying5 Tryd.underlying9 fun j hj => ?_
    have hx : cur[j]? = some (.int .u8 (l[j].toNat : Int)) := by
      have h1 : (byteVals l)[j]? = some (.int .u8 (l[j].toNat : Int)) := by simp [byteVals, hj]
      rw [← htk, List.getElem?_take, if_pos (by omega)] at h1
      simpa using h1
    unfold Addr.add
    by_cases e0 : j = 0
    · subst e0; simp [World.cell?, hg, hx]
    · simp [e0, World.cell?, hg, hx]
theorem below_alloc (w : World) (o : Obj) : Below w.heap.size w (w.alloc o) := (Below.refl _ _).alloc (Nat.le_refl _) _
/-- The small letters made so far. -/
def rowLow (s : ByteArray) (j : Nat) : List Value := byteVals ((s.data.toList.take j).map lowC)
theorem one_cell (k : IntKind) (x : Int) : ∀ u ∈ [Value.int k x], u.oneCell' = true := by intro u hu; simp at hu; subst hu; rfl
theorem byteVals_snoc (l : List UInt8) (c : UInt8) : byteVals l ++ [Value.int .u8 (c.toNat : Int)] = byteVals (l ++ [c]) := by simp [byteVals]
theorem cell_one (w : World) (v : Value) (t : TypeId) : ∀ (j : Nat) u, [v][j]? = some u → (w.alloc (.cells #[v] t)).cell? ((⟨w.heap.size, 0, none⟩ : Addr).add j) = some u := by
  intro i u hu
  match i, hu with
  | 0, hu => obtain rfl : v = u := Option.some.inj hu; rw [Addr.add_mid]; simp
  | i + 1, hu => simp at hu

set_option maxRecDepth 100000 in
set_option maxHeartbeats 1000000 in
theorem lower21 (s : ByteArray) (hs : s.size ≤ 140737488355328) (w : World) :
    Calls Tryd.prog 27 #[.string s] w fun e w' => e = .returned (.string ⟨(s.data.toList.map lowC).toArray⟩) ∧ Below w.heap.size w w' := by
  obtain ⟨i0, hi, hz0, hz1, hz2⟩ := info_parts infoU8
  obtain ⟨R, hR⟩ : ∃ R : ByteArray, R = ⟨(s.data.toList.map lowC).toArray⟩ := ⟨_, rfl⟩
  rw [← hR]
  have HR := Lib.hid hR
  clear hR
  go_enter Tryd.func27, Tryd.ntmps27
  go_wp2_with fail
  have L0 := below_alloc w (.cells #[] 5)
  have O0 : (w.alloc (.cells #[] 5)).ownsRow w.heap.size 5 1 (.slice (some ⟨w.heap.size, 0, none⟩) 0 0) 0 [] := World.ownsRow_lit w #[] 0 (Nat.le_refl _) (by decide) (by simp)
  go_loopw [3, 4] (fun v i wr => ∃ j : Nat, j ≤ s.size ∧ i = .int .i64 (j : Int) ∧ wr.ownsRow w.heap.size 5 1 v j (rowLow s j) ∧ Below w.heap.size w wr) (fun _ i _ => s.size - (intOf i).toNat)
  case atStart => exact ⟨0, Nat.zero_le _, rfl, O0, L0⟩
  case round =>
    clear O0 L0
    obtain ⟨j, hj, rfl, hown, hb⟩ := hrel
    by_cases hlt : j < s.size
    · have hts : rowLow s j ++ [Value.int .u8 ((lowC s[j]).toNat : Int)] = rowLow s (j + 1) := by
        unfold rowLow
        rw [byteVals_snoc, take_snoc s j hlt, List.map_append]; rfl
      have HT := Lib.hid hts
      clear hts
      have hsz := hb.size
      by_cases hup : 65 ≤ s[j].toNat ∧ s[j].toNat ≤ 90
      · have hl := lowC_up s[j] hup.1 hup.2
        have g1 : (s[j].toNat : Int) ≥ 65 := by omega
        have g2 : (s[j].toNat : Int) ≤ 90 := by omega
        have HLW := Lib.hid hl
        clear hl hup
        go_wp2_with (at_builtin; refine wpList_append_own _ rfl _ _ 63 rfl w.heap.size 5 i0 (.int .u8 0) 1 1 Tryd.underlying63 hi hz0 hz1 hz2 rfl (by decide) _ _ _ rfl (hown.alloc _) ⟨wr.heap.size, 0, none⟩ 1 1 [.int .u8 ((s[j].toNat : Int) + 32)] rfl rfl (cell_one _ _ _) (one_cell _ _) (by unfold maxLen; omega) (by omega) (by simp; omega) ?_)
        intro v' w1 hown' hgrow _
        rw [← HLW.out, HT.out] at hown'
        have hb1 : Below w.heap.size w w1 := (hb.alloc hsz _).grown hgrow (by simp; omega) (fun k hk => (hown.lt k hk).1)
        clear hown hgrow
        go_wp2_with fail
        go_roundw
        case rel => exact ⟨j + 1, by omega, by go_num, hown', hb1⟩
        case measure => simp [intOf]; omega
      · have hl := lowC_no s[j] hup
        have HLW := Lib.hid hl
        clear hl
        by_cases h1 : 65 ≤ s[j].toNat
        · have g1 : (s[j].toNat : Int) ≥ 65 := by omega
          have g2 : ¬ (s[j].toNat : Int) ≤ 90 := by omega
          clear hup
          go_wp2_with (at_builtin; refine wpList_append_own _ rfl _ _ 63 rfl w.heap.size 5 i0 (.int .u8 0) 1 1 Tryd.underlying63 hi hz0 hz1 hz2 rfl (by decide) _ _ _ rfl (hown.alloc _) ⟨wr.heap.size, 0, none⟩ 1 1 [.int .u8 (s[j].toNat : Int)] rfl rfl (cell_one _ _ _) (one_cell _ _) (by unfold maxLen; omega) (by omega) (by simp; omega) ?_)
          intro v' w1 hown' hgrow _
          rw [HLW.out] at HT
          rw [HT.out] at hown'
          have hb1 : Below w.heap.size w w1 := (hb.alloc hsz _).grown hgrow (by simp; omega) (fun k hk => (hown.lt k hk).1)
          clear hown hgrow
          go_wp2_with fail
          go_roundw
          case rel => exact ⟨j + 1, by omega, by go_num, hown', hb1⟩
          case measure => simp [intOf]; omega
        · have g1 : ¬ (s[j].toNat : Int) ≥ 65 := by omega
          clear hup
          go_wp2_with (at_builtin; refine wpList_append_own _ rfl _ _ 63 rfl w.heap.size 5 i0 (.int .u8 0) 1 1 Tryd.underlying63 hi hz0 hz1 hz2 rfl (by decide) _ _ _ rfl (hown.alloc _) ⟨wr.heap.size, 0, none⟩ 1 1 [.int .u8 (s[j].toNat : Int)] rfl rfl (cell_one _ _ _) (one_cell _ _) (by unfold maxLen; omega) (by omega) (by simp; omega) ?_)
          intro v' w1 hown' hgrow _
          rw [HLW.out] at HT
          rw [HT.out] at hown'
          have hb1 : Below w.heap.size w w1 := (hb.alloc hsz _).grown hgrow (by simp; omega) (fun k hk => (hown.lt k hk).1)
          clear hown hgrow
          go_wp2_with fail
          go_roundw
          case rel => exact ⟨j + 1, by omega, by go_num, hown', hb1⟩
          case measure => simp [intOf]; omega
    · obtain rfl : j = s.size := by omega
      have hz := Lib.size_eq s
      unfold rowLow at hown
      rw [List.take_of_length_le (by omega), show s.size = (s.data.toList.map lowC).length by rw [List.length_map]; exact hz] at hown
      have hcv := own_string wr w.heap.size _ _ hown
      rw [← HR.out] at hcv
      clear hown hz
      go_wp2_with fail
      go_ret
      exact ⟨rfl, hb⟩
end Go.Proofs.YtbbphklhnngjmaaDoor

/- Writing digits with strconv.FormatInt at the base 16; octet's HexDigits. -/
namespace Go.Proofs.YtbbphklhnngjmaaDoor
open Go.RowKit

/-- A digit. -/
def dch (n : Nat) : UInt8 := if n < 10 then UInt8.ofNat (48 + n) else UInt8.ofNat (87 + n)
/-- A number's digits to a base, with some fuel. -/
def prtF (b : Nat) : Nat → Nat → List UInt8
  | 0, n => [dch n]
  | k + 1, n => if n < b then [dch n] else prtF b k (n / b) ++ [dch (n % b)]
/-- A number's digits. -/
def prt (b n : Nat) : List UInt8 := prtF b 64 n
theorem prtF_small (b k n : Nat) (h : n < b) : prtF b k n = [dch n] := by
  cases k with
  | zero => rfl
  | succ k => simp [prtF, h]
theorem prtF_step (b k n : Nat) (h : b ≤ n) : prtF b (k + 1) n = prtF b k (n / b) ++ [dch (n % b)] := by
  rw [prtF, if_neg (by omega)]
/-- The cells of an array of 65 bytes. -/
def Arr65 (w : World) (b : Nat) (f : Nat → Int) : Prop := ∀ i, i < 65 → w.cell? ⟨b, i, none⟩ = some (.int .u8 (f i)) ∧ w.frozen? ⟨b, i, none⟩ = false
def updI (f : Nat → Int) (i : Nat) (x : Int) : Nat → Int := fun j => if j = i then x else f j
theorem Arr65.put {w : World} {b : Nat} {f : Nat → Int} (h : Arr65 w b f) (i : Nat) (x : Int) : Arr65 (w.setCell ⟨b, i, none⟩ (.int .u8 x)) b (updI f i x) := by
  intro j hj
  obtain ⟨hc, hf⟩ := h j hj
  refine ⟨?_, by rw [World.frozen?_setCell]; exact hf⟩
  unfold updI
  by_cases e : j = i
  · subst e
    rw [World.cell?_setCell_same _ _ _ hc, if_pos rfl]
  · rw [World.cell?_setCell_other _ _ _ _ (by simp <;> omega), hc, if_neg e]
theorem arr65_zero (w : World) (T : TypeId) : Arr65 (w.alloc (.cells (Array.replicate 65 (Value.int .u8 0)) T)) w.heap.size (fun _ => 0) := by
  intro i hi
  simp [hi, go_sem]
/-- What stands at the array's end. -/
def TailIs (f : Nat → Int) (i : Nat) (T : List UInt8) : Prop := i + T.length = 65 ∧ ∀ (j : Nat) c, T[j]? = some c → f (i + j) = (c.toNat : Int)
theorem TailIs.cons {f : Nat → Int} {i : Nat} {T : List UInt8} (h : TailIs f (i + 1) T) (c : UInt8) : TailIs (updI f i (c.toNat : Int)) i (c :: T) := by
  obtain ⟨h1, h2⟩ := h
  refine ⟨by simp; omega, fun j d hj => ?_⟩
  unfold updI
  cases j with
  | zero =>
    obtain rfl : c = d := by simpa using hj
    simp
  | succ j =>
    rw [if_neg (by omega)]
    have := h2 j d (by simpa using hj)
    rw [← this]
    congr 1
    omega
theorem tail_string (w : World) (b i n cap : Nat) (f : Nat → Int) (T : List UInt8) (h : Arr65 w b f) (ht : TailIs f i T) (hn : n = T.length) :
    (convert 63 9 (.slice (some ⟨b, i, none⟩) n cap)).run Tryd.prog w = .ok (.string ⟨T.toArray⟩) w := by
  subst hn
  refine run_convert_bytes_back w 63 9 5 ⟨b, i, none⟩ cap T Tryd.underlying63 Tryd.underlying5 Tryd.underlying9 fun j hj => ?_
  rw [Addr.add_mid]
  have h1 := ht.1
  rw [(h (i + j) (by omega)).1, ht.2 j T[j] (List.getElem?_eq_getElem hj)]
theorem dch_at (k : Nat) (h : k < 36) : ((⟨#[48, 49, 50, 51, 52, 53, 54, 55, 56, 57, 97, 98, 99, 100, 101, 102, 103, 104, 105, 106, 107, 108, 109, 110, 111, 112, 113, 114, 115, 116, 117, 118, 119, 120, 121, 122]⟩ : ByteArray)[k]'h).toNat = (dch k).toNat := by
  have : ∀ k : Fin 36, ((⟨#[48, 49, 50, 51, 52, 53, 54, 55, 56, 57, 97, 98, 99, 100, 101, 102, 103, 104, 105, 106, 107, 108, 109, 110, 111, 112, 113, 114, 115, 116, 117, 118, 119, 120, 121, 122]⟩ : ByteArray)[k.val]'k.isLt).toNat = (dch k.val).toNat := by decide +kernel
  exact this ⟨k, h⟩
theorem mask15 (u : Nat) (h : u < 18446744073709551616) : bits .and .u64 (u : Int) 15 = ((u % 16 : Nat) : Int) := by
  have := u64_and_nat u 15 h (by decide)
  rw [show ((15 : Nat) : Int) = 15 from rfl] at this
  rw [this]
  congr 1
  exact Nat.and_two_pow_sub_one_eq_mod u 4
theorem few_digits (u U t : Nat) (h1 : 1 ≤ u) (h : u * 16 ^ t ≤ U) (hU : U < 9223372036854775808) : t ≤ 15 := by
  rcases Nat.lt_or_ge t 16 with h2 | h2
  · omega
  · have h3 : 16 ^ 16 ≤ 16 ^ t := Nat.pow_le_pow_right (by decide) h2
    have h4 : 16 ^ t ≤ u * 16 ^ t := Nat.le_mul_of_pos_left _ h1
    have h5 : (16 : Nat) ^ 16 = 18446744073709551616 := by decide
    omega

set_option maxHeartbeats 1000000 in
theorem pow2_16 (w : World) : Calls Tryd.prog 71 #[.int .i64 16] w fun e w' => e = .returned (.bool true) ∧ w = w' := by
  go_enter Tryd.func71, Tryd.ntmps71
  go_wp2_with fail
  go_ret
  exact ⟨rfl, rfl⟩
/-- The table of trailing zeros says 4 of 16. -/
def Deb (w : World) : Prop := 6 < w.heap.size ∧ w.cell? ⟨6, 15, none⟩ = some (.int .u8 4)
theorem Deb.below {w w' : World} (h : Deb w) (hb : Below w.heap.size w w') : Deb w' := ⟨Nat.lt_of_lt_of_le h.1 hb.size, by rw [(bcell hb).1 _ _ h.1]; exact h.2⟩
set_option maxHeartbeats 1000000 in
theorem tz64 (w : World) (hw : Deb w) : Calls Tryd.prog 80 #[.int .u64 16] w fun e w' => e = .returned (.int .i64 4) ∧ w = w' := by
  have h2 := hw.2
  have e15 : (IntKind.u64.wrap (bits BinOp.and IntKind.u64 16 (IntKind.u64.wrap (-16)) * 285870213051353865) / 288230376151711744).toNat = 15 := by decide +kernel
  go_enter Tryd.func80, Tryd.ntmps80
  go_wp2_with fail
  go_ret
  exact ⟨rfl, rfl⟩
set_option maxHeartbeats 1000000 in
theorem tz16 (w : World) (hw : Deb w) : Calls Tryd.prog 72 #[.int .u64 16] w fun e w' => e = .returned (.int .i64 4) ∧ w = w' := by
  have HT := Lib.hid (tz64 w hw)
  go_enter Tryd.func72, Tryd.ntmps72
  go_wp2_with (go_at_call 80; refine HT.out.mono ?_; rintro e w' ⟨rfl, rfl⟩)
  go_ret
  exact ⟨rfl, rfl⟩

set_option maxRecDepth 1000000 in
set_option maxHeartbeats 4000000 in
theorem fbits (U : Nat) (hU : U < 9223372036854775808) (w : World) (hw : Deb w) :
    Calls Tryd.prog 62 #[.slice none 0 0, .int .u64 (U : Int), .int .i64 16, .bool false, .bool false] w fun e w' => e = .returned (.tuple #[.slice none 0 0, .string ⟨(prt 16 U).toArray⟩]) ∧ Below w.heap.size w w' := by
  have HD := Lib.hid hw
  obtain ⟨R, hR⟩ : ∃ R : ByteArray, R = ⟨(prt 16 U).toArray⟩ := ⟨_, rfl⟩
  rw [← hR]
  have HR := Lib.hid hR
  clear hR hw
  have hd1 := HD.out.below (below_alloc w (.cells (Array.replicate 65 (Value.int .u8 0)) 96))
  have HT := Lib.hid (tz16 _ hd1)
  clear hd1
  go_enter Tryd.func62, Tryd.ntmps62
  go_wp2_with (first | (go_at_call 71; refine (pow2_16 _).mono ?_; rintro e w' ⟨rfl, rfl⟩) | (go_at_call 72; refine HT.out.mono ?_; rintro e w' ⟨rfl, rfl⟩))
  have B0 := Lib.hid (arr65_zero w 96)
  have L0 := below_alloc w (.cells (Array.replicate 65 (Value.int .u8 0)) 96)
  clear HT HD
  generalize World.alloc w _ = w0 at *
  go_loopw [1, 13] (fun x i wr => ∃ (u k j : Nat) (T : List UInt8) (f : Nat → Int), x = .int .u64 (u : Int) ∧ i = .int .i64 (j : Int) ∧ u < 9223372036854775808 ∧ j + T.length = 65 ∧ k + T.length = 64 ∧ T.length ≤ 15 ∧ u * 16 ^ T.length ≤ U ∧ Hid (prt 16 U = prtF 16 k u ++ T) ∧ Hid (Arr65 wr w.heap.size f) ∧ Hid (TailIs f j T) ∧ Below w.heap.size w wr)
    (fun x _ _ => (intOf x).toNat)
  case atStart => exact ⟨U, 64, 65, [], fun _ => 0, rfl, rfl, hU, rfl, rfl, by simp, by simp, by simp [Hid, prt], B0, ⟨rfl, fun j c h => by simp at h⟩, L0⟩
  case round =>
    clear B0 L0
    obtain ⟨u, k, j, T, f, rfl, rfl, hu, hj, hk, ht, hpw, hp, hA, hT, hb⟩ := hrel
    have j1 : (1 : Int) ≤ j := by omega
    have j2 : (j : Int) ≤ 65 := by omega
    obtain ⟨i, rfl⟩ : ∃ i, j = i + 1 := ⟨j - 1, by omega⟩
    have e1 : ((i + 1 : Nat) : Int) - 1 = (i : Int) := by omega
    have i1 : (i : Int) < 65 := by omega
    by_cases hge : 16 ≤ u
    · have g1 : (u : Int) ≥ 16 := by omega
      have hu1 : 1 ≤ u / 16 := by omega
      have hpw2 : u / 16 * 16 ^ (T.length + 1) ≤ U := by
        have : u / 16 * 16 ≤ u := Nat.div_mul_le_self u 16
        have h3 := Nat.mul_le_mul_right (16 ^ T.length) this
        rw [Nat.pow_succ, Nat.mul_comm (16 ^ T.length) 16, ← Nat.mul_assoc]
        omega
      have ht2 := few_digits (u / 16) U (T.length + 1) hu1 hpw2 hU
      obtain ⟨k', rfl⟩ : ∃ k', k = k' + 1 := ⟨k - 1, by omega⟩
      have hp2 : Hid (prt 16 U = prtF 16 k' (u / 16) ++ (dch (u % 16) :: T)) := by
        have h := hp.out
        rw [prtF_step 16 k' u hge, List.append_assoc] at h
        exact h
      obtain ⟨ci, zi⟩ := hA.out i (by omega)
      have hA2 := Lib.hid (hA.out.put i ((dch (u % 16)).toNat : Int))
      have hT2 := Lib.hid (hT.out.cons (dch (u % 16)))
      have hb2 := hb.setCell (p := ⟨w.heap.size, i, none⟩) (Nat.le_refl _) (.int .u8 ((dch (u % 16)).toNat : Int))
      have hm := mask15 u (by omega)
      have hd := dch_at (u % 16) (by omega)
      have hm0 : (0 : Int) ≤ ((u % 16 : Nat) : Int) := by omega
      have hm1 : ((u % 16 : Nat) : Int) < 36 := by omega
      clear hp hA hT hb hpw
      go_wp2_with fail
      go_roundw
      case rel => exact ⟨u / 16, k', i, dch (u % 16) :: T, updI f i ((dch (u % 16)).toNat : Int), by simp, by first | rfl | go_num, by omega, by simp; omega, by simp; omega, by simpa using ht2, hpw2, hp2, hA2, hT2, hb2⟩
      case measure => simp [intOf]; omega
    · have g1 : ¬ (u : Int) ≥ 16 := by omega
      have hp2 : Hid (R = ⟨(dch u :: T).toArray⟩) := by
        have h := hp.out
        rw [prtF_small 16 k u (by omega)] at h
        have h2 := HR.out
        rw [h] at h2
        exact h2
      obtain ⟨ci, zi⟩ := hA.out i (by omega)
      have hA2 := hA.out.put i ((dch u).toNat : Int)
      have hT2 := hT.out.cons (dch u)
      have hb2 := hb.setCell (p := ⟨w.heap.size, i, none⟩) (Nat.le_refl _) (.int .u8 ((dch u).toNat : Int))
      have hd := dch_at u (by omega)
      have hcv := fun cap => tail_string _ w.heap.size i (65 - i) cap _ (dch u :: T) hA2 hT2 (by simp; omega)
      rw [← hp2.out] at hcv
      have hm0 : (0 : Int) ≤ (u : Int) := by omega
      have hm1 : (u : Int) < 36 := by omega
      have i0 : (0 : Int) ≤ i := by omega
      have i2 : (i : Int) ≤ 65 := by omega
      clear hp hA hT hb hpw hA2 hT2
      go_wp2_with fail
      go_ret2
      exact ⟨rfl, hb2⟩

set_option maxRecDepth 100000 in
set_option maxHeartbeats 1000000 in
theorem fint16 (U : Nat) (hU : U < 9223372036854775808) (w : World) (hw : Deb w) :
    Calls Tryd.prog 48 #[.int .i64 (U : Int), .int .i64 16] w fun e w' => e = .returned (.string ⟨(prt 16 U).toArray⟩) ∧ Below w.heap.size w w' := by
  have HF := Lib.hid (fbits U hU w hw)
  have u0 : (0 : Int) ≤ U := by omega
  have u1 : (U : Int) < 9223372036854775808 := by omega
  go_enter Tryd.func48, Tryd.ntmps48
  go_wp2_with fail
  refine HF.out.mono ?_
  rintro e w1 ⟨rfl, hb⟩
  go_wp2_with fail
  go_ret
  exact ⟨rfl, hb⟩
/-- A number's digits, 0 where it is negative. -/
def prtI (b : Nat) (n : Int) : List UInt8 := prt b n.toNat
end Go.Proofs.YtbbphklhnngjmaaDoor

