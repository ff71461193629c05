/- Merged: ChC, ChD, ChE, ChF. -/
import Derived.Test.YtchpgdoidpllgaaDoorChB
import Derived.Test.YtchpgdoidpllgaaDoorBld
import Derived.Test.YtchpgdoidpllgaaDoorShelfD
import Derived.Test.YtchpgdoidpllgaaDoorNumP
import Derived.Test.YtchpgdoidpllgaaDoorNumC
import Derived.Test.YtchpgdoidpllgaaDoorIsS
import Derived.Test.YtchpgdoidpllgaaDoorFewO
import Derived.Test.YtchpgdoidpllgaaDoorIntsO
import Derived.Test.YtchpgdoidpllgaaDoorDecH
import Derived.Test.YtchpgdoidpllgaaDoorAwakeO
import Derived.Test.YtchpgdoidpllgaaDoorCut
import Derived.Test.YtchpgdoidpllgaaDoorRegT
import Derived.Deep.Cut
namespace Go.Proofs.YtchpgdoidpllgaaDoor
/- chunked: Encode, the program's and the reference's. -/
section
open Go.RowKit

def bytesOf (xs : List ByteArray) : List (List UInt8) := xs.map fun x => x.data.toList
/-- Parts as chunks, without the last one. -/
def encA (ps : List (List UInt8)) : List UInt8 := (ps.map fun p => if p = [] then [] else chunkL p).flatten
theorem encA_step {xs : List ByteArray} {j : Nat} (hj : j < xs.length) : encA (bytesOf (xs.take (j + 1))) = encA (bytesOf (xs.take j)) ++ if xs[j].data.toList = [] then [] else chunkL xs[j].data.toList := by
  unfold encA bytesOf
  rw [List.take_succ_eq_append_getElem hj, List.map_append, List.map_append, List.flatten_append]
  simp only [List.map_cons, List.map_nil, List.flatten_cons, List.flatten_nil, List.append_nil]
theorem encA_le {xs : List ByteArray} {j : Nat} : (encA (bytesOf (xs.take j))).length ≤ (encA (bytesOf xs)).length := by
  conv => rhs; rw [← List.take_append_drop j xs]
  unfold encA bytesOf
  rw [List.map_append, List.map_append, List.flatten_append, List.length_append]
  omega
theorem encL_of (ps : List (List UInt8)) : encA ps ++ lastL = encL ps := rfl
theorem bs_crlf : (⟨#[13, 10]⟩ : ByteArray) = bs [13, 10] := rfl
theorem prtI_nat (n : Nat) : (⟨(prtI 16 (n : Int)).toArray⟩ : ByteArray) = bs (prt 16 n) := rfl
theorem chunk_str (x : ByteArray) (hx : x.data.toList ≠ []) : bs (prt 16 x.size) ++ ⟨#[13, 10]⟩ ++ x ++ ⟨#[13, 10]⟩ = bs (if x.data.toList = [] then [] else chunkL x.data.toList) := by
  rw [if_neg hx, bs_crlf, Lib.size_eq]
  conv => lhs; rw [← bs_of x]
  rw [bs_appD, bs_appD, bs_appD]
  unfold chunkL
  rw [bs_list]
theorem nil_of_empty {x : ByteArray} (h : x = ⟨#[]⟩) : x.data.toList = [] := by rw [h]
theorem ne_of_pos {x : ByteArray} (h : 0 < x.size) : x.data.toList ≠ [] := fun e => by have := Lib.size_eq x; rw [e, List.length_nil] at this; omega
set_option maxRecDepth 100000 in
set_option maxHeartbeats 2000000 in
/-- The reference's. -/
theorem renc16 (a : Option Addr) (c : Nat) (xs : List ByteArray) (hn : xs.length ≤ 1000000) (hsum : (encA (bytesOf xs)).length ≤ 1000000000) (w : World) (hx : IsStrs w a c xs) :
    Calls Tryd.prog 16 #[.slice a xs.length c] w fun e w' => e = .returned (.string (bs (encL (bytesOf xs)))) ∧ Below w.heap.size w w' := by
  have HX := Lib.hid hx
  have HS := Lib.hid hsum
  obtain ⟨E, hE⟩ : ∃ E, E = bs (encL (bytesOf xs)) := ⟨_, rfl⟩
  have HE := Lib.hid hE
  rw [← hE]
  clear hx hsum hE
  go_enter Tryd.func16, Tryd.ntmps16
  go_wp2_with fail
  go_loopw [3, 8] (fun sv iv wr => ∃ (j : Nat) (t : ByteArray), j ≤ xs.length ∧ sv = .string t ∧ iv = .int .i64 (j : Int) ∧ Hid (t = bs (encA (bytesOf (xs.take j)))) ∧ Below w.heap.size w wr) (fun _ i _ => xs.length - (intOf i).toNat)
  case atStart => exact ⟨0, ⟨#[]⟩, by omega, rfl, rfl, rfl, Below.refl _ _⟩
  case round =>
    obtain ⟨j, t, hj, rfl, rfl, ht, hb⟩ := hrel
    have hx' := HX.out.below hb
    by_cases hlt : j < xs.length
    · obtain h0 | ⟨bk, o, rfl, hbk, hc, hcell⟩ := hx'
      · subst h0; simp at hlt
      have cj := hcell j xs[j] (by simp [hlt])
      have hst := encA_step hlt
      have hle := encA_le (xs := xs) (j := j + 1)
      rw [hst, List.length_append] at hle
      have htz : t.size = (encA (bytesOf (xs.take j))).length := by rw [ht.out, bs_size]
      have j1 : (j : Int) < xs.length := by omega
      obtain ⟨p, hp⟩ : ∃ p, p = xs[j] := ⟨_, rfl⟩
      rw [← hp] at cj hst hle
      have HST := Lib.hid hst
      clear hcell hst hp
      by_cases hne : 0 < p.size
      · have e1 := emp_false p hne
        have hch := chunk_str p (ne_of_pos hne)
        have hpz : p.size ≤ 1000000000 ∧ (bs (prt 16 p.size)).size ≤ 1000000000 ∧ t.size ≤ 1000000000 := by
          have := HS.out
          rw [if_neg (ne_of_pos hne)] at hle
          unfold chunkL at hle
          simp only [List.length_append, List.length_cons, List.length_nil, ← Lib.size_eq] at hle
          rw [bs_size]
          omega
        have HP : Hid (∀ W, Calls Tryd.prog 23 #[.int .i64 (p.size : Int), .int .i64 16] W fun e w' => e = .returned (.string (bs (prt 16 p.size))) ∧ Below W.heap.size W w') := fun W => print16 (p.size : Int) (by omega) W
        have HCH := Lib.hid hch
        obtain ⟨z1, z2, z3⟩ := hpz
        clear hch hle htz
        generalize bs (prt 16 p.size) = D at *
        go_wp2_with fail
        with_reducible refine (HP.out _).mono ?_
        rintro e w2 ⟨rfl, hb2⟩
        have hb22 := hb.trans (hb2.mono hb.size)
        clear hb2 hb cj hc HP
        go_wp2_with fail
        go_roundw
        case rel => exact ⟨j + 1, _, by omega, rfl, by go_num, by show _ = _; rw [HCH.out, ht.out, bs_appD, ← HST.out], hb22⟩
        case measure => simp [intOf]; omega
      · obtain rfl := empty_of p hne
        clear hle htz hne
        go_wp2_with fail
        go_roundw
        case rel => exact ⟨j + 1, t, by omega, rfl, by go_num, by show _ = _; rw [HST.out, ht.out, if_pos rfl, List.append_nil], hb⟩
        case measure => simp [intOf]; omega
    · have hjl : j = xs.length := by omega
      have hE2 : t ++ ⟨#[48, 13, 10, 13, 10]⟩ = E := by
        rw [HE.out, ht.out, hjl, List.take_length]
        exact bs_appD _ _
      have HE2 := Lib.hid hE2
      have htz : t.size ≤ 1000000000 := by
        rw [ht.out, bs_size]
        exact Nat.le_trans encA_le HS.out
      have j1 : ¬ (j : Int) < xs.length := by omega
      clear hE2 hx' hjl
      go_wp2_with fail
      go_ret
      exact ⟨congrArg (fun x => Ending.returned (.string x)) HE2.out, hb⟩
set_option maxRecDepth 100000 in
set_option maxHeartbeats 2000000 in
/-- The program's. -/
theorem enc15 (a : Option Addr) (c : Nat) (xs : List ByteArray) (hn : xs.length ≤ 1000000) (hsum : (encA (bytesOf xs)).length ≤ 1000000000) (w : World) (hx : IsStrs w a c xs) (hw : Deb w) :
    Calls Tryd.prog 15 #[.slice a xs.length c] w fun e w' => e = .returned (.string (bs (encL (bytesOf xs)))) ∧ Below w.heap.size w w' := by
  have HX := Lib.hid hx
  have HS := Lib.hid hsum
  have HW := Lib.hid hw
  obtain ⟨E, hE⟩ : ∃ E, E = bs (encL (bytesOf xs)) := ⟨_, rfl⟩
  have HE : Hid ((⟨(encL (bytesOf xs)).toArray⟩ : ByteArray) = E) := hE.symm
  rw [← hE]
  have B0 : Hid (Bld w.heap.size w.heap.size [] (w.alloc (.cells #[.pointer none, .slice none 0 0] 52))) := Lib.fresh_isBuilder _ _ w
  have L0 := below_alloc w (.cells #[.pointer none, .slice none 0 0] 52)
  clear hx hsum hE hw
  go_enter Tryd.func15, Tryd.ntmps15
  go_wp2_with fail
  go_loopw [8] (fun iv wr => ∃ j : Nat, j ≤ xs.length ∧ iv = .int .i64 (j : Int) ∧ Hid (Bld w.heap.size w.heap.size (encA (bytesOf (xs.take j))) wr) ∧ Below w.heap.size w wr) (fun i _ => xs.length - (intOf i).toNat)
  case atStart => exact ⟨0, by omega, rfl, B0, L0⟩
  case round =>
    clear B0 L0
    obtain ⟨j, hj, rfl, hB, hb⟩ := hrel
    have hx' := HX.out.below hb
    by_cases hlt : j < xs.length
    · obtain h0 | ⟨bk, o, rfl, hbk, hc, hcell⟩ := hx'
      · subst h0; simp at hlt
      have cj := hcell j xs[j] (by simp [hlt])
      have hst := encA_step hlt
      have hle := encA_le (xs := xs) (j := j + 1)
      rw [hst, List.length_append] at hle
      have j1 : (j : Int) < xs.length := by omega
      obtain ⟨p, hp⟩ : ∃ p, p = xs[j] := ⟨_, rfl⟩
      rw [← hp] at cj hst hle
      have HST := Lib.hid hst
      clear hcell hst hp
      by_cases hne : 0 < p.size
      · have e1 := emp_false p hne
        have hch := chunk_str p (ne_of_pos hne)
        have HW2 := Lib.hid (fun W h hw => writeB w.heap.size w.heap.size (encA (bytesOf (xs.take j))) (if p.data.toList = [] then [] else chunkL p.data.toList) W h (by have := HS.out; omega) hw)
        rw [← hch] at HW2
        have hpz : p.size ≤ 1000000000 ∧ (bs (prt 16 p.size)).size ≤ 1000000000 := by
          have := HS.out
          rw [if_neg (ne_of_pos hne)] at hle
          unfold chunkL at hle
          simp only [List.length_append, List.length_cons, List.length_nil, ← Lib.size_eq] at hle
          rw [bs_size]
          omega
        have HP : Hid (∀ W, Deb W → Calls Tryd.prog 21 #[.int .i64 (p.size : Int)] W fun e w' => e = .returned (.string (bs (prt 16 p.size))) ∧ Below W.heap.size W w') := fun W h => hexdigits29 (p.size : Int) (by omega) W h
        obtain ⟨z1, z2⟩ := hpz
        clear hch hle
        generalize bs (prt 16 p.size) = D at *
        go_wp2_with fail
        with_reducible refine (HP.out wr (HW.out.below hb)).mono ?_
        rintro e w2 ⟨rfl, hb2⟩
        have hB2 := Lib.hid (hB.out.below hb2)
        have hb22 := hb.trans (hb2.mono hb.size)
        clear hb2 hb cj hc HP hB
        go_wp2_with fail
        with_reducible refine (HW2.out w2 hB2.out hb22.size).mono ?_
        rintro e w3 ⟨rfl, hB3, hb3⟩
        rw [← HST.out] at hB3
        have HB3 := Lib.hid hB3
        have hb33 := hb22.trans hb3
        clear hB3 hb3 hb22 hB2 HW2
        go_wp2_with fail
        go_roundw
        case rel => exact ⟨j + 1, by omega, by go_num, HB3, hb33⟩
        case measure => simp [intOf]; omega
      · obtain rfl := empty_of p hne
        have hB2 : Hid (Bld w.heap.size w.heap.size (encA (bytesOf (xs.take (j + 1)))) wr) := by
          show Bld _ _ _ _
          rw [HST.out, if_pos rfl, List.append_nil]; exact hB.out
        clear hle hne hB
        go_wp2_with fail
        go_roundw
        case rel => exact ⟨j + 1, by omega, by go_num, hB2, hb⟩
        case measure => simp [intOf]; omega
    · have hjl : j = xs.length := by omega
      have j1 : ¬ (j : Int) < xs.length := by omega
      have hB2 := hB.out
      rw [hjl, List.take_length] at hB2
      have HW2 := Lib.hid (writeB w.heap.size w.heap.size (encA (bytesOf xs)) lastL wr hB2 (by have := HS.out; have : lastL.length = 5 := rfl; omega) hb.size)
      rw [show bs lastL = ⟨#[48, 13, 10, 13, 10]⟩ from rfl] at HW2
      clear hB hB2 hx' hjl
      go_wp2_with fail
      with_reducible refine HW2.out.mono ?_
      rintro e w2 ⟨rfl, hB3, hb3⟩
      rw [encL_of] at hB3
      have HEB := Lib.hid (Tryd.Builder_String_any w.heap.size w.heap.size (encL (bytesOf xs)) w2 hB3 (Nat.le_trans hb.size hb3.size))
      rw [HE.out] at HEB
      clear hB3 HW2
      go_wp2_with fail
      with_reducible refine HEB.out.mono ?_
      rintro e w3 ⟨rfl, hb4⟩
      go_wp2_with fail
      go_ret
      exact ⟨rfl, (hb.trans hb3).trans hb4⟩
end
/- stewardlaw09.Parts. -/
section
open Go.RowKit

theorem and31 (x : Int) : ∃ k : Nat, k ≤ 31 ∧ bits .and .i64 x 31 = (k : Int) := by
  have h : (BitVec.ofInt 64 x &&& BitVec.ofInt 64 31).toNat ≤ 31 := by
    rw [BitVec.toNat_and]
    exact Nat.le_trans Nat.and_le_right (by decide)
  refine ⟨(BitVec.ofInt 64 x &&& BitVec.ofInt 64 31).toNat, h, ?_⟩
  show IntKind.i64.wrap (((BitVec.ofInt 64 x &&& BitVec.ofInt 64 31).toNat : Nat) : Int) = _
  exact IntWalk.i64_in _ (by omega)
theorem min31 (x : Int) (m : Nat) : ∃ n : Nat, n ≤ m ∧ min (m : Int) (bits .and .i64 x 31) = (n : Int) := by
  obtain ⟨k, _, hk⟩ := and31 x
  rw [hk]
  exact ⟨min m k, Nat.min_le_left _ _, by omega⟩
theorem parts_step {S : List UInt8} {ps : List ByteArray} {s : ByteArray} {n : Nat} (h : (bytesOf ps).flatten ++ s.data.toList = S) : (bytesOf (ps ++ [s.extract 0 n])).flatten ++ (s.extract n s.size).data.toList = S := by
  rw [← h]
  unfold bytesOf
  rw [List.map_append, List.flatten_append, List.append_assoc]
  congr 1
  simp only [List.map_cons, List.map_nil, List.flatten_cons, List.flatten_nil, List.append_nil]
  rw [extractL, extractL, List.drop_zero, Nat.sub_zero, List.take_of_length_le (l := s.data.toList.drop n) (by rw [List.length_drop, ← Lib.size_eq]; exact Nat.le_refl _), List.take_append_drop]
theorem strs_snoc (ps : List ByteArray) (y : ByteArray) : ps.map Value.string ++ [.string y] = (ps ++ [y]).map Value.string := by simp
def PartsPost (w : World) (s : ByteArray) (e : Ending) (w' : World) : Prop :=
  ∃ a c ps, e = .returned (.slice a ps.length c) ∧ IsStrs w' a c ps ∧ (bytesOf ps).flatten = s.data.toList ∧ ps.length ≤ 13 ∧ (∀ ad, a = some ad → w.heap.size ≤ ad.block ∧ ad.block < w'.heap.size) ∧ Below w.heap.size w w'
set_option maxRecDepth 100000 in
set_option maxHeartbeats 2000000 in
theorem parts9 (S : ByteArray) (hS : S.size ≤ 1000000000) (a : Option Addr) (c : Nat) (xs : List Int) (hlen : xs.length ≤ 9223372036854775807) (w : World) (h : IsInts w a c xs) :
    Calls Tryd.prog 9 #[.string S, .slice a xs.length c] w (PartsPost w S) := by
  obtain ⟨i0, hi, hz0, hz1, hz2⟩ := info_parts info9
  have HX := Lib.hid h
  clear h
  go_enter Tryd.func9, Tryd.ntmps9
  go_wp2_with fail
  go_loopw [0, 5, 6] (fun sv v i wr => ∃ (j : Nat) (s : ByteArray) (ps : List ByteArray), j ≤ xs.length ∧ j ≤ 12 ∧ sv = .string s ∧ i = .int .i64 (j : Int) ∧ Hid (ps.length = j) ∧ Hid ((bytesOf ps).flatten ++ s.data.toList = S.data.toList) ∧ wr.ownsRow w.heap.size 9 1 v j (ps.map Value.string) ∧ Below w.heap.size w wr)
    (fun _ _ i _ => 12 - (intOf i).toNat)
  case atStart => exact ⟨0, S, [], by omega, by omega, rfl, rfl, rfl, rfl, World.ownsRow_nil _ _ _ _, Below.refl _ _⟩
  case round =>
    obtain ⟨j, s, ps, hj1, hj2, rfl, rfl, hpl, hfl, hown, hb⟩ := hrel
    have hx' := HX.out.below hb
    have hsz : s.size ≤ 1000000000 := by
      have := congrArg List.length hfl.out
      rw [List.length_append, ← Lib.size_eq, ← Lib.size_eq] at this
      omega
    by_cases hlt : j < xs.length ∧ j < 12
    · obtain ⟨hlt, hlt2⟩ := hlt
      obtain h0 | ⟨bk, o, rfl, hbk, hc, hcell⟩ := hx'
      · subst h0; simp at hlt
      have cj := hcell j xs[j] (by simp [hlt])
      obtain ⟨n, hn, hmin⟩ := min31 xs[j] s.size
      have HFL := Lib.hid (parts_step (n := n) hfl.out)
      clear hcell
      generalize xs[j] = x at *
      have j1 : (j : Int) < xs.length := by omega
      have j2 : (j : Int) < 12 := by omega
      have hsz := hb.size
      obtain ⟨y, hy⟩ : ∃ y, y = s.extract 0 n := ⟨_, rfl⟩
      have HY := Lib.hid hy
      have hyz : s.extract 0 n = y := hy.symm
      rw [hyz] at HFL
      obtain ⟨z, hz⟩ : ∃ z, z = s.extract n s.size := ⟨_, rfl⟩
      have hzz : s.extract n s.size = z := hz.symm
      rw [hzz] at HFL
      have hpl1 : Hid ((ps ++ [y]).length = j + 1) := by show _ = _; rw [List.length_append, hpl.out]; rfl
      clear hy hz
      go_wp2_with (at_builtin; refine wpList_append_own _ rfl _ _ 27 rfl w.heap.size 9 i0 (.string ⟨#[]⟩) 1 16 Tryd.underlying27 hi hz0 hz1 hz2 rfl (by decide) _ _ _ rfl (hown.alloc _) ⟨wr.heap.size, 0, none⟩ 1 1 [.string y] rfl rfl ?c1 ?c2 ?c3 ?c4 ?c5 ?_)
      case c1 => intro i u hu; match i, hu with
        | 0, hu => obtain rfl : Value.string y = u := Option.some.inj hu; rw [Addr.add_mid]; simp
        | i + 1, hu => simp at hu
      case c2 => intro u hu; simp at hu; subst hu; rfl
      case c3 => unfold maxLen; omega
      case c4 => omega
      case c5 => simp; omega
      intro v' w1 hown' hgrow _
      rw [strs_snoc] at hown'
      have hb1 : Below w.heap.size w w1 := by
        refine (hb.alloc hsz (.cells #[.string y] 9)).grown hgrow (by simp; omega) (fun k hk => (hown.lt k hk).1)
      clear hown hgrow
      go_wp2_with fail
      go_roundw
      case rel => exact ⟨j + 1, z, ps ++ [y], by omega, by omega, rfl, by go_num, hpl1, HFL, hown', hb1⟩
      case measure => simp [intOf]; omega
    · obtain ⟨y, hy⟩ : ∃ y, y = s := ⟨_, rfl⟩
      have hsz := hb.size
      have hpl1 : Hid ((ps ++ [s]).length = j + 1) := by show _ = _; rw [List.length_append, hpl.out]; rfl
      have HFL : Hid ((bytesOf (ps ++ [s])).flatten = S.data.toList) := by
        show _ = _
        rw [← hfl.out]
        unfold bytesOf
        simp
      have END : ∀ v' w1, w1.ownsRow w.heap.size 9 1 v' (j + 1) (ps.map Value.string ++ [.string s]) → Below w.heap.size w w1 → PartsPost w S (.returned v') w1 := by
        intro v' w1 ho hb1
        rw [strs_snoc] at ho
        obtain ⟨va, vc, rfl⟩ := own_slice ho
        have hi := isStrs_of_row ho hpl1.out
        refine ⟨va, vc, ps ++ [s], by rw [hpl1.out], hi, HFL.out, by rw [hpl1.out]; omega, ?_, hb1⟩
        intro ad had
        obtain ⟨_, ⟨h1, _⟩ | ⟨gg, cap, cur, h1, hB, hh, _⟩⟩ := ho
        · rw [had] at h1; cases h1
        · rw [had] at h1
          injection h1 with h2
          injection h2 with h2
          subst h2
          exact ⟨hB, (Array.getElem?_eq_some_iff.1 hh).1⟩
      have HEND := Lib.hid END
      clear END hx' hy hpl1
      by_cases h1 : j < xs.length
      · have j1 : (j : Int) < xs.length := by omega
        have j2 : ¬ (j : Int) < 12 := by omega
        go_wp2_with (at_builtin; refine wpList_append_own _ rfl _ _ 27 rfl w.heap.size 9 i0 (.string ⟨#[]⟩) 1 16 Tryd.underlying27 hi hz0 hz1 hz2 rfl (by decide) _ _ _ rfl (hown.alloc _) ⟨wr.heap.size, 0, none⟩ 1 1 [.string s] rfl rfl ?d1 ?d2 ?d3 ?d4 ?d5 ?_)
        case d2 => rfl
        case d3 => unfold maxLen; omega
        case d4 => omega
        case d5 => first | omega | (simp; omega)
        intro v' w1 hown' hgrow _
        have hb1 : Below w.heap.size w w1 := by
          refine (hb.alloc hsz (.cells #[.string s] 9)).grown hgrow (by simp; omega) (fun k hk => (hown.lt k hk).1)
        have FIN := Lib.hid (HEND.out v' w1 hown' hb1)
        clear hown hgrow hown' HEND
        go_wp2_with fail
        go_ret
        exact FIN.out
      · have j1 : ¬ (j : Int) < xs.length := by omega
        go_wp2_with (at_builtin; refine wpList_append_own _ rfl _ _ 27 rfl w.heap.size 9 i0 (.string ⟨#[]⟩) 1 16 Tryd.underlying27 hi hz0 hz1 hz2 rfl (by decide) _ _ _ rfl (hown.alloc _) ⟨wr.heap.size, 0, none⟩ 1 1 [.string s] rfl rfl ?e1 ?e2 ?e3 ?e4 ?e5 ?_)
        case e2 => rfl
        case e3 => unfold maxLen; omega
        case e4 => omega
        case e5 => first | omega | (simp; omega)
        intro v' w1 hown' hgrow _
        have hb1 : Below w.heap.size w w1 := by
          refine (hb.alloc hsz (.cells #[.string s] 9)).grown hgrow (by simp; omega) (fun k hk => (hown.lt k hk).1)
        have FIN := Lib.hid (HEND.out v' w1 hown' hb1)
        clear hown hgrow hown' HEND
        go_wp2_with fail
        go_ret
        exact FIN.out
end
/- chunked: contracts at a machine's place; stewardlaw09.awake. -/
section
open Go.RowKit

theorem doneS (G : Nat → Prop) (g : Nat) (m : Int) (σ : ChS) (w : World) (h : DecS G w g m σ) :
    Calls Tryd.prog 10 #[.pointer (some ⟨g, 0, none⟩)] w fun x w' => x = .returned (.bool σ.isDone) ∧ w = w' := by
  obtain ⟨m', st, ds, k, z, b, e, hr, hd⟩ := h
  exact done10 G g m' st ds k z b e _ (rep_isDone hr) w hd
theorem bodyS (G : Nat → Prop) (g : Nat) (m : Int) (σ : ChS) (w : World) (h : DecS G w g m σ) :
    Calls Tryd.prog 13 #[.pointer (some ⟨g, 0, none⟩)] w fun x w' => x = .returned (.string (bs σ.body)) ∧ w = w' := by
  obtain ⟨m', st, ds, k, z, b, e, hr, hd⟩ := h
  rw [rep_body hr]
  exact body13 G g m' st ds k z b e w hd
theorem newS (m : Int) (w : World) :
    Calls Tryd.prog 8 #[.int .i64 m] w fun x w' => x = .returned (.pointer (some ⟨w.heap.size, 0, none⟩)) ∧ DecS (fun j => j = w.heap.size) w' w.heap.size m (.size [] []) ∧ Below w.heap.size w w' ∧ w'.heap.size = w.heap.size + 1 := by
  refine (new8 m w).mono ?_
  rintro e w' ⟨rfl, hd, hb, hs⟩
  exact ⟨rfl, ⟨_, _, _, _, _, _, _, .size [] [] false rfl (Nat.zero_le _) (.inl rfl), hd⟩, hb, hs⟩
/-- What the library's variables hold, as far as these calls ask. -/
def LaidC (w : World) : Prop := Syn w ∧ Deb w
theorem LaidC.below {w w' : World} (h : LaidC w) (hb : Below w.heap.size w w') : LaidC w' := ⟨h.1.below hb, h.2.below hb⟩
set_option maxRecDepth 100000 in
set_option maxHeartbeats 2000000 in
theorem chawake6 (w : World) (hw : LaidC w) : Calls Tryd.prog 6 #[] w fun e w' => e = .returned (.bool true) ∧ Below w.heap.size w w' := by
  have HW := Lib.hid hw
  have HN := Lib.hid (newS 9 w)
  clear hw
  go_enter Tryd.func6, Tryd.ntmps6
  go_wp2_with fail
  with_reducible refine HN.out.mono ?_
  rintro e w1 ⟨rfl, hd1, hb1, hs1⟩
  have D1 : DecS (fun j => w.heap.size ≤ j) w1 w.heap.size 9 (.size [] []) := hd1.more (fun j _ h => Nat.le_of_eq h.symm)
  have hfl : Floor (fun j => w.heap.size ≤ j) w.heap.size := fun _ h => h
  have HF := Lib.hid (feed12 (fun j => w.heap.size ≤ j) w.heap.size 9 (by decide) (by decide) (.size [] []) [50, 13, 10, 97, 98, 13, 10, 48, 13, 10, 13, 10, 71, 69, 84] (by decide) w1 D1 (fun k hk => Nat.le_trans hb1.size hk) (fun w' hk => HW.out.1.below (hb1.trans (hk.bel hfl hb1.size))))
  rw [show bs [50, 13, 10, 97, 98, 13, 10, 48, 13, 10, 13, 10, 71, 69, 84] = ⟨#[50, 13, 10, 97, 98, 13, 10, 48, 13, 10, 13, 10, 71, 69, 84]⟩ from rfl] at HF
  have hl : chLeft 9 (.size [] []) [50, 13, 10, 97, 98, 13, 10, 48, 13, 10, 13, 10, 71, 69, 84] = [71, 69, 84] := by kernel_rfl
  have hr : chRun 9 (.size [] []) [50, 13, 10, 97, 98, 13, 10, 48, 13, 10, 13, 10, 71, 69, 84] = .done [97, 98] := by kernel_rfl
  unfold FeedTo at HF
  rw [hl, hr] at HF
  have HFL := Lib.hid hfl
  have HB1 := Lib.hid hb1
  clear hd1 D1 hl hr hfl hb1 HN hs1
  go_wp2_with fail
  with_reducible refine HF.out.mono ?_
  rintro e w2 ⟨rfl, hd2, hk2⟩
  have hb2 := HB1.out.trans (hk2.bel HFL.out HB1.out.size)
  have HD := Lib.hid (doneS _ _ _ _ w2 hd2)
  have HBO := Lib.hid (bodyS _ _ _ _ w2 hd2)
  have HE := Lib.hid (enc15 (some ⟨w2.heap.size, 0, none⟩) 2 [⟨#[97, 98]⟩, ⟨#[]⟩] (by decide) (by decide +kernel) _ (isStrs_new2 w2 ⟨#[97, 98]⟩ ⟨#[]⟩ 9) ((HW.out.2.below hb2).below (below_alloc w2 _)))
  have he : bs (encL (bytesOf [⟨#[97, 98]⟩, ⟨#[]⟩])) = ⟨#[50, 13, 10, 97, 98, 13, 10, 48, 13, 10, 13, 10]⟩ := by kernel_rfl
  rw [he] at HE
  have h1 : ChS.isDone (.done [97, 98]) = true := rfl
  have h2 : bs (ChS.body (.done [97, 98])) = ⟨#[97, 98]⟩ := rfl
  rw [h1] at HD
  rw [h2] at HBO
  have h3 : bs [71, 69, 84] = ⟨#[71, 69, 84]⟩ := rfl
  have h4 : (ChS.done [97, 98]).errOf = 0 := rfl
  rw [h3, h4]
  clear he h1 h2 h3 h4 hd2 hk2 HF HB1 HFL HW
  go_wp2_with fail
  with_reducible refine HD.out.mono ?_
  rintro e w' ⟨rfl, rfl⟩
  go_wp2_with fail
  with_reducible refine HBO.out.mono ?_
  rintro e w' ⟨rfl, rfl⟩
  go_wp2_with fail
  refine HE.out.mono ?_
  rintro e w3 ⟨rfl, hb3⟩
  have hb33 := (hb2.alloc hb2.size _).trans (hb3.mono (Nat.le_trans hb2.size (by simp)))
  go_wp2_with fail
  go_ret
  exact ⟨rfl, hb33⟩
end
/- chunked: what the laws read (lists). -/
section
open Go.RowKit

theorem isStrs_keep {G : Nat → Prop} {w w' : World} {a : Option Addr} {c : Nat} {xs : List ByteArray} (h : IsStrs w a c xs) (hk : Keep G w w') (hg : ∀ ad, a = some ad → ¬ G ad.block) : IsStrs w' a c xs := by
  rcases h with h | ⟨bk, o, rfl, hbk, hc, hcell⟩
  · exact .inl h
  · have hn : ¬ G bk := hg ⟨bk, o, none⟩ rfl
    refine .inr ⟨bk, o, rfl, Nat.lt_of_lt_of_le hbk hk.size, hc, fun j x hx => ?_⟩
    have := hcell j x hx
    unfold World.cell? at this ⊢
    rw [hk.block bk hbk hn]
    exact this
theorem keep_cell {G : Nat → Prop} {w w' : World} {bk i : Nat} {v : Value} (hk : Keep G w w') (h : w.cell? ⟨bk, i, none⟩ = some v) (hb : bk < w.heap.size) (hn : ¬ G bk) : w'.cell? ⟨bk, i, none⟩ = some v := by
  unfold World.cell? at h ⊢
  rw [hk.block bk hb hn]
  exact h
theorem bytesOf_take {xs : List ByteArray} {j : Nat} (hj : j < xs.length) : (bytesOf (xs.take (j + 1))).flatten = (bytesOf (xs.take j)).flatten ++ xs[j].data.toList := by
  unfold bytesOf
  rw [List.take_succ_eq_append_getElem hj, List.map_append, List.flatten_append]
  simp
theorem bytesOf_take_le (xs : List ByteArray) (j : Nat) : (bytesOf (xs.take j)).flatten.length ≤ (bytesOf xs).flatten.length := by
  conv => rhs; rw [← List.take_append_drop j xs]
  unfold bytesOf
  rw [List.map_append, List.flatten_append, List.length_append]
  omega
/-- What the law reads of the reference's answer: of all bytes so far, and what is left of the last ones. -/
theorem took_read (m : Int) (t p : List UInt8) : ∃ n : Nat, tookL m (t ++ p) = ((chRun m (chRun m (.size [] []) t) p).body, n, (chRun m (chRun m (.size [] []) t) p).isDone, (chRun m (chRun m (.size [] []) t) p).errOf) ∧ n ≤ (t ++ p).length ∧
    ((chRun m (.size [] []) t).isDone = true → chLeft m (chRun m (.size [] []) t) p = p) ∧
    ((chRun m (.size [] []) t).isDone = false → (chRun m (chRun m (.size [] []) t) p).isDone = true → (t ++ p).drop n = chLeft m (chRun m (.size [] []) t) p) ∧
    ((chRun m (chRun m (.size [] []) t) p).isDone = false → chLeft m (chRun m (.size [] []) t) p = []) := by
  have e0 : chRun m (.size [] []) (t ++ p) = chRun m (chRun m (.size [] []) t) p := chRun_app ..
  refine ⟨(tookL m (t ++ p)).2.1, ?_, ?_, ?_, ?_, ?_⟩
  · rw [← e0, ← took_isDone, ← took_errOf, ← took_body]
  · unfold tookL tookS
    split
    · exact Nat.zero_le _
    · exact Nat.sub_le _ _
    · exact Nat.le_refl _
  · intro h
    cases hs : chRun m (.size [] []) t with
    | done b => exact chLeft_done m b p
    | _ => rw [hs] at h; cases h
  · intro h1 h2
    rw [took_left m (t ++ p) (by rw [took_isDone, e0]; exact h2), chLeft_app m t _ p h1]
  · intro h
    exact chLeft_undone m p _ h
theorem run_body_le (m : Int) : ∀ (l : List UInt8) (σ : ChS), (chRun m σ l).body.length ≤ σ.body.length + l.length
  | [], σ => by rw [chRun_nil]; exact Nat.le_add_right _ _
  | c :: l, σ => by
    rw [chRun_cons]
    have h1 := run_body_le m l (σ.step m c)
    have h2 := step_body m σ c
    rw [List.length_cons]
    omega
theorem left_cases (m : Int) (t p : List UInt8) (q0 q1 : Bool) (h0 : (chRun m (.size [] []) t).isDone = q0) (h1 : (chRun m (chRun m (.size [] []) t) p).isDone = q1) : q0 = true → q1 = true := by
  subst h0 h1
  intro h
  cases hs : chRun m (.size [] []) t with
  | done b => rw [chRun_done]; rfl
  | _ => rw [hs] at h; cases h
end
end Go.Proofs.YtchpgdoidpllgaaDoor
