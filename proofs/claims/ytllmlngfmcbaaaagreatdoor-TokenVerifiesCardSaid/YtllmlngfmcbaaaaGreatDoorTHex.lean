/- Unhex. -/
import Derived.Test.YtllmlngfmcbaaaaGreatDoorMacF
import Derived.Laws.OwnMore
namespace Go.Proofs.YtllmlngfmcbaaaaGreatDoor
open Go.RowKit

/-- A digit's number; -1: it is none. -/
def digI (c : UInt8) : Int := if 48 ≤ c.toNat ∧ c.toNat ≤ 57 then (c.toNat : Int) - 48 else if 97 ≤ c.toNat ∧ c.toNat ≤ 102 then (c.toNat : Int) - 87 else -1
theorem digI_bd (c : UInt8) : -1 ≤ digI c ∧ digI c < 16 := by unfold digI; split <;> (try split) <;> omega
theorem all256 {P : UInt8 → Prop} (h : ∀ n : Fin 256, P (UInt8.ofNat n)) (c : UInt8) : P c := by
  have := h ⟨c.toNat, c.toNat_lt⟩
  simpa using this
theorem index_dig (c : UInt8) : Lib.indexByte [48, 49, 50, 51, 52, 53, 54, 55, 56, 57, 97, 98, 99, 100, 101, 102] c = digI c := by
  revert c
  apply all256
  decide +kernel
theorem dig_hd (n : Nat) (h : n < 16) : digI (hd n) = n := by
  have : ∀ n : Fin 16, digI (hd n) = (n : Nat) := by decide +kernel
  exact this ⟨n, h⟩
theorem hd_dig (c : UInt8) (h : 0 ≤ digI c) : hd (digI c).toNat = c := by
  revert h
  revert c
  apply all256
  decide +kernel
/-- Bytes of which these are the digits. -/
def unhexP : List UInt8 → Option (List UInt8)
  | [] => some []
  | [_] => none
  | a :: b :: r => if 0 ≤ digI a ∧ 0 ≤ digI b then (unhexP r).map (UInt8.ofNat (16 * digI a + digI b).toNat :: ·) else none
theorem unhex_hex : ∀ l : List UInt8, unhexP (hexL l) = some l
  | [] => rfl
  | c :: r => by
    have hc := c.toNat_lt
    have h1 := dig_hd (c.toNat / 16) (by omega)
    have h2 := dig_hd (c.toNat % 16) (by omega)
    simp only [hexL, unhexP, h1, h2, unhex_hex r]
    rw [if_pos ⟨by omega, by omega⟩]
    have : UInt8.ofNat (16 * ((c.toNat / 16 : Nat) : Int) + ((c.toNat % 16 : Nat) : Int)).toNat = c := by
      rw [show (16 * ((c.toNat / 16 : Nat) : Int) + ((c.toNat % 16 : Nat) : Int)).toNat = c.toNat by omega]
      simp
    rw [this]; rfl
theorem hex_unhex : ∀ (l y : List UInt8), unhexP l = some y → hexL y = l
  | [], y, h => by simp [unhexP] at h; subst h; rfl
  | [_], _, h => by simp [unhexP] at h
  | a :: b :: r, y, h => by
    simp only [unhexP] at h
    split at h
    · rename_i hab
      obtain ⟨z, hz, rfl⟩ := Option.map_eq_some_iff.1 h
      have ha := digI_bd a
      have hb := digI_bd b
      have h1 : (UInt8.ofNat (16 * digI a + digI b).toNat).toNat = (16 * digI a + digI b).toNat := by
        rw [UInt8.toNat_ofNat']; omega
      simp only [hexL, h1, hex_unhex r z hz]
      rw [show (16 * digI a + digI b).toNat / 16 = (digI a).toNat by omega, show (16 * digI a + digI b).toNat % 16 = (digI b).toNat by omega, hd_dig a hab.1, hd_dig b hab.2]
    · cases h
end Go.Proofs.YtllmlngfmcbaaaaGreatDoor

namespace Go.Proofs.YtllmlngfmcbaaaaGreatDoor
open Go.RowKit

theorem bytes_make (w : World) (n : Nat) (T : TypeId) : Bytes n (w.alloc (.cells (madeCells #[Value.int .u8 0] n) T)) w.heap.size (fun _ => 0) := by
  have h : madeCells #[Value.int .u8 0] n = Array.replicate n (Value.int .u8 0) := by
    apply Array.toList_inj.1
    rw [toList_madeCells_one]
    simp
  rw [h]
  exact bytes_zero w n T
/-- The digits read so far. -/
structure ReadTo (l : List UInt8) (j : Nat) (f : Nat → Int) : Prop where
  eq : unhexP l = (unhexP (l.drop (2 * j))).map (((List.range j).map fun i => UInt8.ofNat (f i).toNat) ++ ·)
theorem readTo_zero (l : List UInt8) (f : Nat → Int) : ReadTo l 0 f := ⟨by simp⟩
theorem drop_two (l : List UInt8) (j : Nat) (h : 2 * j + 1 < l.length) : l.drop (2 * j) = l.getD (2 * j) 0 :: l.getD (2 * j + 1) 0 :: l.drop (2 * (j + 1)) := by
  rw [List.drop_eq_getElem_cons (by omega), List.drop_eq_getElem_cons (by omega)]
  simp [List.getD, show 2 * j < l.length by omega, h, show 2 * (j + 1) = 2 * j + 1 + 1 by omega]
theorem readTo_no (l : List UInt8) (j : Nat) (f : Nat → Int) (h : ReadTo l j f) (hl : 2 * j + 1 < l.length) (hd : ¬ (0 ≤ digI (l.getD (2 * j) 0) ∧ 0 ≤ digI (l.getD (2 * j + 1) 0))) : unhexP l = none := by
  rw [h.eq, drop_two l j hl, unhexP, if_neg hd]; rfl
theorem readTo_step (l : List UInt8) (j : Nat) (f : Nat → Int) (h : ReadTo l j f) (hl : 2 * j + 1 < l.length) (h1 : 0 ≤ digI (l.getD (2 * j) 0)) (h2 : 0 ≤ digI (l.getD (2 * j + 1) 0)) :
    ReadTo l (j + 1) (upd f j (16 * digI (l.getD (2 * j) 0) + digI (l.getD (2 * j + 1) 0))) := ⟨by
  rw [h.eq, drop_two l j hl, unhexP, if_pos ⟨h1, h2⟩, Option.map_map]
  congr 1
  funext z
  simp only [Function.comp]
  rw [List.range_succ, List.map_append, List.append_assoc]
  congr 1
  · apply List.map_congr_left
    intro i hi
    rw [List.mem_range] at hi
    unfold upd
    rw [if_neg (by omega)]
  · simp [upd]⟩
theorem unhexP_odd : ∀ l : List UInt8, l.length % 2 = 1 → unhexP l = none
  | [], h => by simp at h
  | [_], _ => rfl
  | a :: b :: r, h => by
    have := unhexP_odd r (by simp at h; omega)
    simp [unhexP, this]
theorem getD_byte (s : ByteArray) (i : Nat) (h : i < s.size) : s.data.toList.getD i 0 = s[i] := by
  have : s.data.toList[i]? = some s[i] := by
    rw [List.getElem?_eq_getElem (by rw [← Lib.size_eq]; exact h)]
    rfl
  rw [List.getD_eq_getElem?_getD, this]
  rfl
theorem idx32 (a : UInt8) (w : World) : Calls Tryz.prog 79 #[.string ⟨#[48, 49, 50, 51, 52, 53, 54, 55, 56, 57, 97, 98, 99, 100, 101, 102]⟩, .int .u8 (a.toNat : Int)] w fun e w' => e = .returned (.int .i64 (digI a)) ∧ w = w' := by
  have h := Tryz.strings_IndexByte ⟨#[48, 49, 50, 51, 52, 53, 54, 55, 56, 57, 97, 98, 99, 100, 101, 102]⟩ (a.toNat : Int) w
  have e : ((a.toNat : Int)).toNat.toUInt8 = a := by simp
  rw [e, index_dig] at h
  exact h.mono fun _ _ ⟨x, y⟩ => ⟨x, y.symm⟩
theorem join_digits (x y : Int) (hx0 : 0 ≤ x) (hx1 : x < 16) (hy0 : 0 ≤ y) (hy1 : y < 16) : bits .or .i64 (x * 16) y = 16 * x + y := by
  have h : ∀ a b : Fin 16, bits .or .i64 ((a.val : Int) * 16) (b.val : Int) = 16 * (a.val : Int) + (b.val : Int) := by decide +kernel
  obtain ⟨a, rfl⟩ := Int.eq_ofNat_of_zero_le hx0
  obtain ⟨b, rfl⟩ := Int.eq_ofNat_of_zero_le hy0
  exact h ⟨a, by omega⟩ ⟨b, by omega⟩
/-- What Unhex returns. -/
def unhexV (l : List UInt8) : Value := match unhexP l with
  | some y => .tuple #[.string ⟨y.toArray⟩, .bool true]
  | none => .tuple #[.string ⟨#[]⟩, .bool false]

set_option maxRecDepth 100000 in
set_option maxHeartbeats 1000000 in
theorem unhex16 (s : ByteArray) (hs : s.size ≤ 1048576) (w : World) :
    Calls Tryz.prog 56 #[.string s] w fun e w' => e = .returned (unhexV s.data.toList) ∧ Below w.heap.size w w' := by
  by_cases hodd : s.size % 2 = 1
  · have hv : unhexV s.data.toList = .tuple #[.string ⟨#[]⟩, .bool false] := by unfold unhexV; rw [unhexP_odd _ (by rw [← Lib.size_eq]; exact hodd)]
    have HV := Lib.hid hv
    have j1 : (s.size : Int) % 2 = 1 := by omega
    clear hv hodd
    go_enter Tryz.func56, Tryz.ntmps56
    go_wp2_with fail
    go_ret2
    exact ⟨by rw [HV.out]; rfl, Below.refl _ _⟩
  · obtain ⟨n, hn⟩ : ∃ n, s.size = 2 * n := ⟨s.size / 2, by omega⟩
    obtain ⟨i0, hi, hz0, hz1, hz2⟩ := info_parts info5
    have j1 : (s.size : Int) % 2 = 0 := by omega
    have j2 : (s.size : Int) / 2 = (n : Int) := by omega
    have hmk : (Instr.makeSlice 62 (.int .i64 (n : Int)) (.int .i64 (n : Int))).run Tryz.prog w = .ok (.slice (some ⟨w.heap.size, 0, none⟩) n n) (w.alloc (.cells (madeCells #[Value.int .u8 0] n) 5)) := by
      have := run_make (P := Tryz.prog) w 62 5 i0 (.int .u8 0) Tryz.underlying62 hi hz0 .i64 .i64 (n : Int) (n : Int) (by omega) (by omega) (by rw [hz2]; omega) (by omega)
      rw [hz1, Nat.mul_one, Int.toNat_natCast] at this
      exact this
    have hB0 := bytes_make w n 5
    have L0 := below_alloc w (.cells (madeCells #[Value.int .u8 0] n) 5)
    have HB0 := Lib.hid hB0
    have HN := Lib.hid hn
    have hn19 : n ≤ 524288 := by omega
    have hn2 : 2 * n ≤ s.size := by omega
    clear hodd hi hz0 hz1 hz2 hB0 hn
    go_enter Tryz.func56, Tryz.ntmps56
    go_wp2_with fail
    clear hmk j1 j2
    generalize World.alloc w _ = w0 at *
    go_loopw [5, 6, 7, 18] (fun _ _ _ i wr => ∃ (j : Nat) (f : Nat → Int), j ≤ n ∧ i = .int .i64 (j : Int) ∧ Hid (ReadTo s.data.toList j f) ∧ Hid (Bytes n wr w.heap.size f) ∧ Below w.heap.size w wr)
      (fun _ _ _ i _ => n - (intOf i).toNat)
    case atStart => exact ⟨0, fun _ => 0, by omega, rfl, readTo_zero _ _, HB0, L0⟩
    case round =>
      clear HB0 L0
      obtain ⟨j, f, hj, rfl, hr, O, hb⟩ := hrel
      by_cases hlt : j < n
      · have hll : 2 * j + 1 < s.data.toList.length := by rw [← Lib.size_eq]; omega
        obtain ⟨a, ha⟩ : ∃ a, a = s.data.toList.getD (2 * j) 0 := ⟨_, rfl⟩
        obtain ⟨b, hbb⟩ : ∃ b, b = s.data.toList.getD (2 * j + 1) 0 := ⟨_, rfl⟩
        have ha2 : ((s[2 * j]'(by omega)).toNat : Int) = (a.toNat : Int) := by rw [ha, getD_byte s _ (by omega)]
        have hb2 : ((s[2 * j + 1]'(by omega)).toNat : Int) = (b.toNat : Int) := by rw [hbb, getD_byte s _ (by omega)]
        have hda := digI_bd a
        have hdb := digI_bd b
        have k1 : (2 * (j : Int)) < s.size := by omega
        have k2 : (2 * (j : Int) + 1) < s.size := by omega
        have k3 : (0 : Int) ≤ 2 * (j : Int) := by omega
        have k4 : (2 * (j : Int)).toNat = 2 * j := by omega
        have k5 : (2 * (j : Int) + 1).toNat = 2 * j + 1 := by omega
        have HA := Lib.hid ha
        have HB := Lib.hid hbb
        clear ha hbb
        by_cases hok : 0 ≤ digI a ∧ 0 ≤ digI b
        · have hst := readTo_step s.data.toList j f hr.out hll (by rw [← HA.out]; exact hok.1) (by rw [← HB.out]; exact hok.2)
          rw [← HA.out, ← HB.out] at hst
          have HST := Lib.hid hst
          have hj2 := join_digits (digI a) (digI b) hok.1 hda.2 hok.2 hdb.2
          have hw16 : IntKind.i64.wrap (digI a * 16) = digI a * 16 := IntWalk.i64_in _ (by omega)
          have hw8 : IntKind.u8.wrap (16 * digI a + digI b) = 16 * digI a + digI b := by rw [IntKind.wrap_u8']; omega
          have hw8' : (16 * digI a + digI b) % 256 = 16 * digI a + digI b := by omega
          have h1 : 0 ≤ digI a := hok.1
          have h2 : 0 ≤ digI b := hok.2
          have oj := (O.out j hlt).1
          have zj := (O.out j hlt).2
          have j3 : (j : Int) < n := by omega
          clear hst hok
          go_wp2_with (go_at_call 79; refine (idx32 _ _).mono ?_; rintro e w' ⟨rfl, rfl⟩)
          go_roundw
          case rel => refine ⟨j + 1, upd f j (16 * digI a + digI b), by omega, by go_num, HST.out, O.out.put j _, ((Only.refl _ _).put j _).below hb (Nat.le_refl _)⟩
          case measure => simp [intOf]; omega
        · have hno := readTo_no s.data.toList j f hr.out hll (by rw [← HA.out, ← HB.out]; exact hok)
          have hv : unhexV s.data.toList = .tuple #[.string ⟨#[]⟩, .bool false] := by unfold unhexV; rw [hno]
          have HV := Lib.hid hv
          clear hno hv
          by_cases h1 : digI a < 0
          · go_wp2_with (go_at_call 79; refine (idx32 _ _).mono ?_; rintro e w' ⟨rfl, rfl⟩)
            go_ret2
            exact ⟨by rw [HV.out]; rfl, hb⟩
          · have h2 : digI b < 0 := by omega
            have h1' : ¬ digI a < 0 := h1
            clear hok
            go_wp2_with (go_at_call 79; refine (idx32 _ _).mono ?_; rintro e w' ⟨rfl, rfl⟩)
            go_ret2
            exact ⟨by rw [HV.out]; rfl, hb⟩
      · obtain rfl : j = n := by omega
        have hfin : unhexV s.data.toList = .tuple #[.string (strOfNums ((List.range j).map f)), .bool true] := by
          unfold unhexV
          rw [hr.out.eq, List.drop_eq_nil_of_le (by rw [← Lib.size_eq, HN.out]; exact Nat.le_refl _)]
          simp only [unhexP, Option.map_some, List.append_nil]
          congr 2
          unfold strOfNums
          rw [List.map_map]
          rfl
        have HFIN := Lib.hid hfin
        have hcv := bytes_string O.out j
        clear hfin hr O
        go_wp2_with fail
        go_ret2
        exact ⟨by rw [HFIN.out]; rfl, hb⟩
end Go.Proofs.YtllmlngfmcbaaaaGreatDoor
