/- chunked: Encode, the program's and the reference's. -/
import Derived.Test.YtchpgdoidpllgaaDoorChB
import Derived.Test.YtchpgdoidpllgaaDoorBld
import Derived.Test.YtchpgdoidpllgaaDoorShelfD
import Derived.Test.YtchpgdoidpllgaaDoorNumP
import Derived.Test.YtchpgdoidpllgaaDoorNumC
import Derived.Test.YtchpgdoidpllgaaDoorIsS
namespace Go.Proofs.YtchpgdoidpllgaaDoor
open Go.RowKit

def bytesOf (xs : List ByteArray) : List (List UInt8) := xs.map fun x => x.data.toList
/-- Parts as chunks, without the last one. -/
def encA (ps : List (List UInt8)) : List UInt8 := (ps.map fun p => if p = [] then [] else chunkL p).flatten
theorem encA_step {xs : List ByteArray} {j : Nat} (hj : j < xs.length) : encA (bytesOf (xs.take (j + 1))) = encA (bytesOf (xs.take j)) ++ if xs[j].data.toList = [] then [] else chunkL xs[j].data.toList := by
  unfold encA bytesOf
  rw [List.take_succ_eq_append_getElem hj, List.map_append, List.map_append, List.flatten_append]
  simp only [List.map_cons, List.map_nil, List.flatten_cons, List.flatten_nil, List.append_nil]
theorem encA_le {xs : List ByteArray} {j : Nat} : (encA (bytesOf (xs.take j))).length ≤ (encA (bytesOf xs)).length := by
  conv => rhs; rw [← List.take_append_drop j xs]
  unfold encA bytesOf
  rw [List.map_append, List.map_append, List.flatten_append, List.length_append]
  omega
theorem encL_of (ps : List (List UInt8)) : encA ps ++ lastL = encL ps := rfl
theorem bs_crlf : (⟨#[13, 10]⟩ : ByteArray) = bs [13, 10] := rfl
theorem prtI_nat (n : Nat) : (⟨(prtI 16 (n : Int)).toArray⟩ : ByteArray) = bs (prt 16 n) := rfl
theorem chunk_str (x : ByteArray) (hx : x.data.toList ≠ []) : bs (prt 16 x.size) ++ ⟨#[13, 10]⟩ ++ x ++ ⟨#[13, 10]⟩ = bs (if x.data.toList = [] then [] else chunkL x.data.toList) := by
  rw [if_neg hx, bs_crlf, Lib.size_eq]
  conv => lhs; rw [← bs_of x]
  rw [bs_appD, bs_appD, bs_appD]
  unfold chunkL
  rw [bs_list]
theorem nil_of_empty {x : ByteArray} (h : x = ⟨#[]⟩) : x.data.toList = [] := by rw [h]
theorem ne_of_pos {x : ByteArray} (h : 0 < x.size) : x.data.toList ≠ [] := fun e => by have := Lib.size_eq x; rw [e, List.length_nil] at this; omega
set_option maxRecDepth 100000 in
set_option maxHeartbeats 2000000 in
/-- The reference's. -/
theorem renc16 (a : Option Addr) (c : Nat) (xs : List ByteArray) (hn : xs.length ≤ 1000000) (hsum : (encA (bytesOf xs)).length ≤ 1000000000) (w : World) (hx : IsStrs w a c xs) :
    Calls Tryd.prog 16 #[.slice a xs.length c] w fun e w' => e = .returned (.string (bs (encL (bytesOf xs)))) ∧ Below w.heap.size w w' := by
  have HX := Lib.hid hx
  have HS := Lib.hid hsum
  obtain ⟨E, hE⟩ : ∃ E, E = bs (encL (bytesOf xs)) := ⟨_, rfl⟩
  have HE := Lib.hid hE
  rw [← hE]
  clear hx hsum hE
  go_enter Tryd.func16, Tryd.ntmps16
  go_wp2_with fail
  go_loopw [3, 8] (fun sv iv wr => ∃ (j : Nat) (t : ByteArray), j ≤ xs.length ∧ sv = .string t ∧ iv = .int .i64 (j : Int) ∧ Hid (t = bs (encA (bytesOf (xs.take j)))) ∧ Below w.heap.size w wr) (fun _ i _ => xs.length - (intOf i).toNat)
  case atStart => exact ⟨0, ⟨#[]⟩, by omega, rfl, rfl, rfl, Below.refl _ _⟩
  case round =>
    obtain ⟨j, t, hj, rfl, rfl, ht, hb⟩ := hrel
    have hx' := HX.out.below hb
    by_cases hlt : j < xs.length
    · obtain h0 | ⟨bk, o, rfl, hbk, hc, hcell⟩ := hx'
      · subst h0; simp at hlt
      have cj := hcell j xs[j] (by simp [hlt])
      have hst := encA_step hlt
      have hle := encA_le (xs := xs) (j := j + 1)
      rw [hst, List.length_append] at hle
      have htz : t.size = (encA (bytesOf (xs.take j))).length := by rw [ht.out, bs_size]
      have j1 : (j : Int) < xs.length := by omega
      obtain ⟨p, hp⟩ : ∃ p, p = xs[j] := ⟨_, rfl⟩
      rw [← hp] at cj hst hle
      have HST := Lib.hid hst
      clear hcell hst hp
      by_cases hne : 0 < p.size
      · have e1 := emp_false p hne
        have hch := chunk_str p (ne_of_pos hne)
        have hpz : p.size ≤ 1000000000 ∧ (bs (prt 16 p.size)).size ≤ 1000000000 ∧ t.size ≤ 1000000000 := by
          have := HS.out
          rw [if_neg (ne_of_pos hne)] at hle
          unfold chunkL at hle
          simp only [List.length_append, List.length_cons, List.length_nil, ← Lib.size_eq] at hle
          rw [bs_size]
          omega
        have HP : Hid (∀ W, Calls Tryd.prog 23 #[.int .i64 (p.size : Int), .int .i64 16] W fun e w' => e = .returned (.string (bs (prt 16 p.size))) ∧ Below W.heap.size W w') := fun W => print16 (p.size : Int) (by omega) W
        have HCH := Lib.hid hch
        obtain ⟨z1, z2, z3⟩ := hpz
        clear hch hle htz
        generalize bs (prt 16 p.size) = D at *
        go_wp2_with fail
        with_reducible refine (HP.out _).mono ?_
        rintro e w2 ⟨rfl, hb2⟩
        have hb22 := hb.trans (hb2.mono hb.size)
        clear hb2 hb cj hc HP
        go_wp2_with fail
        go_roundw
        case rel => exact ⟨j + 1, _, by omega, rfl, by go_num, by show _ = _; rw [HCH.out, ht.out, bs_appD, ← HST.out], hb22⟩
        case measure => simp [intOf]; omega
      · obtain rfl := empty_of p hne
        clear hle htz hne
        go_wp2_with fail
        go_roundw
        case rel => exact ⟨j + 1, t, by omega, rfl, by go_num, by show _ = _; rw [HST.out, ht.out, if_pos rfl, List.append_nil], hb⟩
        case measure => simp [intOf]; omega
    · have hjl : j = xs.length := by omega
      have hE2 : t ++ ⟨#[48, 13, 10, 13, 10]⟩ = E := by
        rw [HE.out, ht.out, hjl, List.take_length]
        exact bs_appD _ _
      have HE2 := Lib.hid hE2
      have htz : t.size ≤ 1000000000 := by
        rw [ht.out, bs_size]
        exact Nat.le_trans encA_le HS.out
      have j1 : ¬ (j : Int) < xs.length := by omega
      clear hE2 hx' hjl
      go_wp2_with fail
      go_ret
      exact ⟨congrArg (fun x => Ending.returned (.string x)) HE2.out, hb⟩
set_option maxRecDepth 100000 in
set_option maxHeartbeats 2000000 in
/-- The program's. -/
theorem enc15 (a : Option Addr) (c : Nat) (xs : List ByteArray) (hn : xs.length ≤ 1000000) (hsum : (encA (bytesOf xs)).length ≤ 1000000000) (w : World) (hx : IsStrs w a c xs) (hw : Deb w) :
    Calls Tryd.prog 15 #[.slice a xs.length c] w fun e w' => e = .returned (.string (bs (encL (bytesOf xs)))) ∧ Below w.heap.size w w' := by
  have HX := Lib.hid hx
  have HS := Lib.hid hsum
  have HW := Lib.hid hw
  obtain ⟨E, hE⟩ : ∃ E, E = bs (encL (bytesOf xs)) := ⟨_, rfl⟩
  have HE : Hid ((⟨(encL (bytesOf xs)).toArray⟩ : ByteArray) = E) := hE.symm
  rw [← hE]
  have B0 : Hid (Bld w.heap.size w.heap.size [] (w.alloc (.cells #[.pointer none, .slice none 0 0] 52))) := Lib.fresh_isBuilder _ _ w
  have L0 := below_alloc w (.cells #[.pointer none, .slice none 0 0] 52)
  clear hx hsum hE hw
  go_enter Tryd.func15, Tryd.ntmps15
  go_wp2_with fail
  go_loopw [8] (fun iv wr => ∃ j : Nat, j ≤ xs.length ∧ iv = .int .i64 (j : Int) ∧ Hid (Bld w.heap.size w.heap.size (encA (bytesOf (xs.take j))) wr) ∧ Below w.heap.size w wr) (fun i _ => xs.length - (intOf i).toNat)
  case atStart => exact ⟨0, by omega, rfl, B0, L0⟩
  case round =>
    clear B0 L0
    obtain ⟨j, hj, rfl, hB, hb⟩ := hrel
    have hx' := HX.out.below hb
    by_cases hlt : j < xs.length
    · obtain h0 | ⟨bk, o, rfl, hbk, hc, hcell⟩ := hx'
      · subst h0; simp at hlt
      have cj := hcell j xs[j] (by simp [hlt])
      have hst := encA_step hlt
      have hle := encA_le (xs := xs) (j := j + 1)
      rw [hst, List.length_append] at hle
      have j1 : (j : Int) < xs.length := by omega
      obtain ⟨p, hp⟩ : ∃ p, p = xs[j] := ⟨_, rfl⟩
      rw [← hp] at cj hst hle
      have HST := Lib.hid hst
      clear hcell hst hp
      by_cases hne : 0 < p.size
      · have e1 := emp_false p hne
        have hch := chunk_str p (ne_of_pos hne)
        have HW2 := Lib.hid (fun W h hw => writeB w.heap.size w.heap.size (encA (bytesOf (xs.take j))) (if p.data.toList = [] then [] else chunkL p.data.toList) W h (by have := HS.out; omega) hw)
        rw [← hch] at HW2
        have hpz : p.size ≤ 1000000000 ∧ (bs (prt 16 p.size)).size ≤ 1000000000 := by
          have := HS.out
          rw [if_neg (ne_of_pos hne)] at hle
          unfold chunkL at hle
          simp only [List.length_append, List.length_cons, List.length_nil, ← Lib.size_eq] at hle
          rw [bs_size]
          omega
        have HP : Hid (∀ W, Deb W → Calls Tryd.prog 21 #[.int .i64 (p.size : Int)] W fun e w' => e = .returned (.string (bs (prt 16 p.size))) ∧ Below W.heap.size W w') := fun W h => hexdigits29 (p.size : Int) (by omega) W h
        obtain ⟨z1, z2⟩ := hpz
        clear hch hle
        generalize bs (prt 16 p.size) = D at *
        go_wp2_with fail
        with_reducible refine (HP.out wr (HW.out.below hb)).mono ?_
        rintro e w2 ⟨rfl, hb2⟩
        have hB2 := Lib.hid (hB.out.below hb2)
        have hb22 := hb.trans (hb2.mono hb.size)
        clear hb2 hb cj hc HP hB
        go_wp2_with fail
        with_reducible refine (HW2.out w2 hB2.out hb22.size).mono ?_
        rintro e w3 ⟨rfl, hB3, hb3⟩
        rw [← HST.out] at hB3
        have HB3 := Lib.hid hB3
        have hb33 := hb22.trans hb3
        clear hB3 hb3 hb22 hB2 HW2
        go_wp2_with fail
        go_roundw
        case rel => exact ⟨j + 1, by omega, by go_num, HB3, hb33⟩
        case measure => simp [intOf]; omega
      · obtain rfl := empty_of p hne
        have hB2 : Hid (Bld w.heap.size w.heap.size (encA (bytesOf (xs.take (j + 1)))) wr) := by
          show Bld _ _ _ _
          rw [HST.out, if_pos rfl, List.append_nil]; exact hB.out
        clear hle hne hB
        go_wp2_with fail
        go_roundw
        case rel => exact ⟨j + 1, by omega, by go_num, hB2, hb⟩
        case measure => simp [intOf]; omega
    · have hjl : j = xs.length := by omega
      have j1 : ¬ (j : Int) < xs.length := by omega
      have hB2 := hB.out
      rw [hjl, List.take_length] at hB2
      have HW2 := Lib.hid (writeB w.heap.size w.heap.size (encA (bytesOf xs)) lastL wr hB2 (by have := HS.out; have : lastL.length = 5 := rfl; omega) hb.size)
      rw [show bs lastL = ⟨#[48, 13, 10, 13, 10]⟩ from rfl] at HW2
      clear hB hB2 hx' hjl
      go_wp2_with fail
      with_reducible refine HW2.out.mono ?_
      rintro e w2 ⟨rfl, hB3, hb3⟩
      rw [encL_of] at hB3
      have HEB := Lib.hid (Tryd.Builder_String_any w.heap.size w.heap.size (encL (bytesOf xs)) w2 hB3 (Nat.le_trans hb.size hb3.size))
      rw [HE.out] at HEB
      clear hB3 HW2
      go_wp2_with fail
      with_reducible refine HEB.out.mono ?_
      rintro e w3 ⟨rfl, hb4⟩
      go_wp2_with fail
      go_ret
      exact ⟨rfl, (hb.trans hb3).trans hb4⟩
end Go.Proofs.YtchpgdoidpllgaaDoor
