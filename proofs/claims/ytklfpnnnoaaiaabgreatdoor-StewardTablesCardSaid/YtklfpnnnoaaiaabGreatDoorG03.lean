/- Packed: Join, Sum, Below, MgC. -/
import Derived.IntWalk
import Derived.Deep.RegionHeld3
import Derived.Deep.Cut
import Derived.Test.YtklfpnnnoaaiaabGreatDoorG00
import Derived.Test.YtklfpnnnoaaiaabGreatDoorG01
import Derived.Test.YtklfpnnnoaaiaabGreatDoorShelf
/- Slices of strings, and strings.Join of them with nothing between. -/
namespace Go.Proofs.YtklfpnnnoaaiaabGreatDoor
open Go.RowKit

/-- A slice that reads as these strings. -/
def IsStrs (w : World) (a : Option Addr) (c : Nat) (xs : List ByteArray) : Prop :=
  xs = [] ∨ ∃ bk o, a = some ⟨bk, o, none⟩ ∧ bk < w.heap.size ∧ xs.length ≤ c ∧ ∀ (j : Nat) x, xs[j]? = some x → w.cell? ⟨bk, o + j, none⟩ = some (.string x)
set_option maxRecDepth 100000 in
theorem IsStrs.below {w w' : World} {a : Option Addr} {c : Nat} {xs : List ByteArray} (h : IsStrs w a c xs) (hb : Below w.heap.size w w') : IsStrs w' a c xs := by
  obtain h | ⟨bk, o, ha, hlt, hc, hcell⟩ := h
  · exact .inl h
  · obtain ⟨hc', _⟩ := bcell hb
    exact .inr ⟨bk, o, ha, Nat.lt_of_lt_of_le hlt hb.size, hc, fun j x hx => by rw [hc' _ _ hlt]; exact hcell j x hx⟩
/-- All the bytes. -/
def flat (xs : List ByteArray) : List UInt8 := (xs.map (·.data.toList)).flatten

set_option maxRecDepth 100000 in
theorem intercalate_nil : ∀ xs : List (List UInt8), ([] : List UInt8).intercalate xs = xs.flatten
  | [] => rfl
  | [x] => by simp [List.intercalate]
  | x :: y :: r => by
    have := intercalate_nil (y :: r)
    simp [List.intercalate] at this ⊢
    exact this

set_option maxRecDepth 100000 in
theorem join25 (w : World) (a : Option Addr) (c : Nat) (xs : List ByteArray) (h : IsStrs w a c xs) (hn : xs.length ≤ 140737488355328) (hl : (flat xs).length ≤ 140737488355328) :
    Calls Tryz.prog 59 #[.slice a xs.length c, .string ⟨#[]⟩] w fun e w' => e = .returned (.string ⟨(flat xs).toArray⟩) ∧ Below w.heap.size w w' := by
  have hj : Lib.join (xs.map (·.data.toList)) (ByteArray.data ⟨#[]⟩).toList = flat xs := by
    show ([] : List UInt8).intercalate _ = _
    rw [intercalate_nil]; rfl
  obtain h | ⟨bk, o, ha, hlt, hc, hcell⟩ := h
  · subst h
    refine (Tryz.strings_Join_none a c ⟨#[]⟩ w).mono fun e w' ⟨he, hw⟩ => ⟨?_, hw ▸ Below.refl _ _⟩
    rw [he]; rfl
  · subst ha
    have := Tryz.strings_Join bk o c xs ⟨#[]⟩ w hcell hlt hn hc (by rw [hj]; exact hl)
    rwa [hj] at this
end Go.Proofs.YtklfpnnnoaaiaabGreatDoor

/- SipHash, the program's own: Sum. -/
namespace Go.Proofs.YtklfpnnnoaaiaabGreatDoor
open Go.RowKit

set_option maxHeartbeats 400000 in
set_option maxRecDepth 100000 in
theorem sum12 (k : Nat → UInt8) (a : Option Addr) (c : Nat) (xs : List ByteArray) (w : World) (hi : Ini w) (h : IsStrs w a c xs) (hn : xs.length ≤ 140737488355328) (hl : (flat xs).length ≤ 140737488355328) :
    Calls Tryz.prog 43 #[keyVal k, .slice a xs.length c] w fun e w' => e = .returned (.int .u64 (sip k (flat xs))) ∧ Below w.heap.size w w' := by
  unfold keyVal
  have HI := Lib.hid hi
  have HX := Lib.hid h
  clear hi h
  go_enter Tryz.func43, Tryz.ntmps43
  go_wp2_with fail
  generalize hW : World.alloc w _ = W
  have hk : IsKey W w.heap.size k := by
    subst hW
    intro i hi
    have h16 : i = 0 ∨ i = 1 ∨ i = 2 ∨ i = 3 ∨ i = 4 ∨ i = 5 ∨ i = 6 ∨ i = 7 ∨ i = 8 ∨ i = 9 ∨ i = 10 ∨ i = 11 ∨ i = 12 ∨ i = 13 ∨ i = 14 ∨ i = 15 := by omega
    rcases h16 with rfl | rfl | rfl | rfl | rfl | rfl | rfl | rfl | rfl | rfl | rfl | rfl | rfl | rfl | rfl | rfl <;> simp
  have hb : Below w.heap.size w W := by subst hW; exact ((Below.refl _ _).alloc (Nat.le_refl _) _)
  have hz : w.heap.size < W.heap.size := by subst hW; simp
  clear hW
  refine (join25 W a c xs (HX.out.below hb) hn hl).mono ?_
  rintro e w1 ⟨rfl, hb1⟩
  obtain ⟨hc1, _⟩ := bcell hb1
  have hk1 : IsKey w1 w.heap.size k := fun i hi => by rw [hc1 _ _ hz]; exact hk i hi
  have hi1 : Ini w1 := (HI.out.below hb).below hb1
  have hbel : Below w.heap.size w w1 := hb.trans (hb1.mono (Nat.le_of_lt hz))
  have hz1 := Nat.lt_of_lt_of_le hz hb1.size
  clear hc1 hk hb hz hb1
  obtain ⟨s, hs⟩ : ∃ s : ByteArray, s = ⟨(flat xs).toArray⟩ := ⟨_, rfl⟩
  have hsl : s.data.toList = flat xs := by rw [hs]
  rw [← hs]
  have hsz : s.size ≤ 140737488355328 := by rw [Lib.size_eq, hsl]; exact hl
  have HSL := Lib.hid hsl
  clear hs hl hn hsl HX
  have k0 := hk1 0 (by decide)
  have k1 := hk1 1 (by decide)
  have k2 := hk1 2 (by decide)
  have k3 := hk1 3 (by decide)
  have k4 := hk1 4 (by decide)
  have k5 := hk1 5 (by decide)
  have k6 := hk1 6 (by decide)
  have k7 := hk1 7 (by decide)
  have k8 := hk1 8 (by decide)
  have k9 := hk1 9 (by decide)
  have k10 := hk1 10 (by decide)
  have k11 := hk1 11 (by decide)
  have k12 := hk1 12 (by decide)
  have k13 := hk1 13 (by decide)
  have k14 := hk1 14 (by decide)
  have k15 := hk1 15 (by decide)
  clear hk1
  go_wp2_with fail
  refine (begin26 k w1 hi1).mono ?_
  rintro e w2 ⟨rfl, hb2⟩
  clear k0 k1 k2 k3 k4 k5 k6 k7 k8 k9 k10 k11 k12 k13 k14 k15
  have hbel2 : Below w.heap.size w w2 := hbel.trans (hb2.mono (Nat.le_of_lt hz1))
  have hz2 := Nat.lt_of_lt_of_le hz1 hb2.size
  clear hb2 hbel hz1 hi1 HI
  go_wp2_with fail
  generalize (Value.agg #[.int .u8 ((k 0).toNat : Int), .int .u8 ((k 1).toNat : Int), .int .u8 ((k 2).toNat : Int), .int .u8 ((k 3).toNat : Int), .int .u8 ((k 4).toNat : Int), .int .u8 ((k 5).toNat : Int), .int .u8 ((k 6).toNat : Int), .int .u8 ((k 7).toNat : Int), .int .u8 ((k 8).toNat : Int), .int .u8 ((k 9).toNat : Int), .int .u8 ((k 10).toNat : Int), .int .u8 ((k 11).toNat : Int), .int .u8 ((k 12).toNat : Int), .int .u8 ((k 13).toNat : Int), .int .u8 ((k 14).toNat : Int), .int .u8 ((k 15).toNat : Int)]) = kv
  have e8 : (s.size : Int) - s.size % 8 = ((s.size - s.size % 8 : Nat) : Int) := by omega
  simp only [e8]
  clear e8
  obtain ⟨q, hq⟩ : ∃ q, q = s.size - s.size % 8 := ⟨_, rfl⟩
  rw [← hq]
  obtain ⟨K, hK⟩ : ∃ K, K = s.size / 8 := ⟨_, rfl⟩
  have hqK : q = 8 * K := by omega
  have hK1 : q ≤ s.size := by omega
  have HQ := Lib.hid hqK
  clear hq
  have hfin : sip k s.data.toList = finish (absorb (abs s.data.toList (start k) K) (leW (lastBytes (s.data.toList.drop q) s.size))) := by
    unfold sip
    rw [← Lib.size_eq, ← hK, hqK]
  clear hK hqK
  generalize start k = v0 at *
  have HFIN := Lib.hid hfin
  clear hfin
  generalize hW : World.alloc w2 _ = W
  have hb : Below w.heap.size w W := by subst hW; exact hbel2.alloc (Nat.le_of_lt hz2) _
  have hz : w2.heap.size < W.heap.size := by subst hW; simp
  have hF : Four W w2.heap.size v0 := by subst hW; simp [Four]
  clear hW hbel2
  have hB : w.heap.size ≤ w2.heap.size := Nat.le_of_lt hz2
  generalize w2.heap.size = B at *
  clear hz2
  generalize v0.a = y0
  generalize v0.b = y1
  generalize v0.c = y2
  generalize v0.d = y3
  go_loopw [8] (fun i wr => ∃ m p : Nat, p ≤ q ∧ Hid (p = 8 * m) ∧ i = .int .i64 (p : Int) ∧ B < wr.heap.size ∧ Four wr B (abs s.data.toList v0 m) ∧ Below w.heap.size w wr)
    (fun i _ => s.size - (intOf i).toNat)
  case atStart => exact ⟨0, 0, by omega, rfl, rfl, hz, hF, hb⟩
  case round =>
    clear hF hb hz
    obtain ⟨m, p, hm, hp, rfl, hz, hF, hb⟩ := hrel
    by_cases hlt : p < q
    · have hp8 : p + 8 ≤ q := by have h1 := hp.out; have h2 := HQ.out; omega
      have he : s.extract p (p + 8) = ⟨((s.data.toList.drop p).take 8).toArray⟩ := by
        rw [extract_list, show p + 8 - p = 8 by omega]
      have hl8 : ((s.data.toList.drop p).take 8).length = 8 := by
        rw [List.length_take, List.length_drop, ← Lib.size_eq]; omega
      have hw := word_list _ hl8
      have HW := Lib.hid hw
      clear hw hl8
      have hs' : abs s.data.toList v0 (m + 1) = absorb (abs s.data.toList v0 m) (leW ((s.data.toList.drop p).take 8)) := by rw [hp.out]; rfl
      generalize hv : abs s.data.toList v0 m = v at *
      obtain ⟨va, vb, vc, vd⟩ := v
      clear hv
      have HF := Lib.hid hF
      obtain ⟨⟨c0, c1, c2, c3⟩, f0, f1, f2, f3⟩ := hF
      have j1 : ((p : Int) + 8) ≤ s.size := by omega
      have j2 : (0 : Int) ≤ (p : Int) + 8 := by omega
      have j3 : ((p : Int) + 8).toNat = p + 8 := by omega
      have j4 : IntKind.i64.wrap ((p : Int) + 8) = (p : Int) + 8 := IntWalk.i64_in _ (by omega)
      have j5 : (p : Int) ≤ (p : Int) + 8 := by omega
      go_wp2_with fail
      refine region_tail 7 (by kernel_rfl) (by kernel_rfl) ?_
      simp only [List.take_succ_cons, List.take_zero, List.drop_succ_cons, List.drop_zero]
      still_step
      still_step
      still_step
      still_step
      still_step
      still_step
      still_call (HW.out _)
      refine still_tail_nil ?_
      clear j1 j2 j3 j4 j5
      go_wp2_with fail
      refine (absorb27 _ _ _ _ _ _).mono ?_
      rintro e w3 ⟨rfl, hb1⟩
      generalize absorb ⟨va, vb, vc, vd⟩ (leW ((s.data.toList.drop p).take 8)) = u at *
      obtain ⟨ua, ub, uc, ud⟩ := u
      have HS := Lib.hid hs'
      clear hs'
      have HF1 := Four.below (w := wr.drew) HF.out hb1 hz
      have hz1 := Nat.lt_of_lt_of_le hz hb1.size
      have hbel : Below w.heap.size w w3 := hb.drew.trans (hb1.mono (Nat.le_trans hB (Nat.le_of_lt hz)))
      have HF2 := Lib.hid HF1
      obtain ⟨⟨d0, d1, d2, d3⟩, g0, g1, g2, g3⟩ := HF1
      clear c0 c1 c2 c3 f0 f1 f2 f3 hb1 he
      go_wp2_with fail
      go_roundw
      case rel =>
        refine ⟨m + 1, p + 8, hp8, ?_, by go_num, ?_, ?_, ?_⟩
        · show p + 8 = 8 * (m + 1)
          have := hp.out
          omega
        · exact Nat.lt_of_lt_of_eq hz1 (put4_size w3 _ _ _ _ _).symm
        · rw [HS.out]; exact HF2.out.put _ _ _ _
        · exact below_put4 hbel hB _ _ _ _
      case measure => simp [intOf]; omega
    · have hpq : p = q := by omega
      have hmK : m = K := by have h1 := hp.out; have h2 := HQ.out; omega
      subst hpq hmK
      have he : s.extract p s.size = ⟨(s.data.toList.drop p).toArray⟩ := by
        rw [extract_list, List.take_of_length_le (by rw [List.length_drop, ← Lib.size_eq]; omega)]
      generalize hv : abs s.data.toList v0 m = v at *
      obtain ⟨va, vb, vc, vd⟩ := v
      clear hv
      obtain ⟨⟨c0, c1, c2, c3⟩, _⟩ := hF
      have j1 : (p : Int) ≤ s.size := by omega
      go_wp2_with fail
      go_region_held3 (fun w' => w'.cell? ⟨B, 0, none⟩ = some (.int .u64 va) ∧ w'.cell? ⟨B, 1, none⟩ = some (.int .u64 vb) ∧ w'.cell? ⟨B, 2, none⟩ = some (.int .u64 vc) ∧ w'.cell? ⟨B, 3, none⟩ = some (.int .u64 vd))
        (first | exact ⟨c0, c1, c2, c3⟩ | exact ⟨d0, d1, d2, d3⟩ | exact ⟨e0, e1, e2, e3⟩ | exact ⟨f0, f1, f2, f3⟩ | go_keep)
        (first
          | (go_at_call 63; refine (last29 _ _ _).mono ?_; rintro e w3 ⟨rfl, hb1⟩; obtain ⟨hcc, _⟩ := bcell hb1; have d0 := (hcc B 0 hz).trans c0; have d1 := (hcc B 1 hz).trans c1; have d2 := (hcc B 2 hz).trans c2; have d3 := (hcc B 3 hz).trans c3; have hz3 : B < w3.heap.size := Nat.lt_of_lt_of_le hz hb1.size; clear hcc)
          | (go_at_call 61; refine (absorb27 _ _ _ _ _ _).mono ?_; rintro e w4 ⟨rfl, hb4⟩; obtain ⟨hcc, _⟩ := bcell hb4; have e0 := (hcc B 0 hz3).trans d0; have e1 := (hcc B 1 hz3).trans d1; have e2 := (hcc B 2 hz3).trans d2; have e3 := (hcc B 3 hz3).trans d3; have hz4 : B < w4.heap.size := Nat.lt_of_lt_of_le hz3 hb4.size; clear hcc)
          | (go_at_call 64; refine (finish30 _ _ _ _ _).mono ?_; rintro e w5 ⟨rfl, hb5⟩; obtain ⟨hcc, _⟩ := bcell hb5; have f0 := (hcc B 0 hz4).trans e0; have f1 := (hcc B 1 hz4).trans e1; have f2 := (hcc B 2 hz4).trans e2; have f3 := (hcc B 3 hz4).trans e3; clear hcc))
      have hbel : Below w.heap.size w w5 := ((hb.drew.trans (hb1.mono (Nat.le_trans hB (Nat.le_of_lt hz)))).trans (hb4.mono (Nat.le_trans hB (Nat.le_of_lt hz3)))).trans (hb5.mono (Nat.le_trans hB (Nat.le_of_lt hz4)))
      clear c0 c1 c2 c3 d0 d1 d2 d3 e0 e1 e2 e3 f0 f1 f2 f3 hb hb1 hb4 hb5 he j1
      generalize absorb ⟨va, vb, vc, vd⟩ (leW (lastBytes (s.data.toList.drop p) s.size)) = u at *
      obtain ⟨ua, ub, uc, ud⟩ := u
      generalize finish ⟨ua, ub, uc, ud⟩ = fu at *
      go_wp2_with fail
      go_ret
      exact ⟨by rw [← HSL.out, HFIN.out]; rfl, hbel⟩
end Go.Proofs.YtklfpnnnoaaiaabGreatDoor

/- Below, the program's and the reference's. -/
namespace Go.Proofs.YtklfpnnnoaaiaabGreatDoor
open Go.RowKit

/-- The number below another one. -/
def belowN (x n : Nat) : Int := ((x * n / 18446744073709551616 : Nat) : Int)
set_option maxRecDepth 100000 in
theorem belowN_lt (x n : Nat) (hx : x < 18446744073709551616) (hn : 0 < n) : x * n / 18446744073709551616 < n := by
  rw [Nat.div_lt_iff_lt_mul (by decide), Nat.mul_comm]
  exact Nat.mul_lt_mul_of_pos_left hx hn
set_option maxRecDepth 100000 in
theorem belowN_mono (x y n : Nat) (h : x ≤ y) : belowN x n ≤ belowN y n := by
  unfold belowN
  have : x * n / 18446744073709551616 ≤ y * n / 18446744073709551616 := Nat.div_le_div_right (Nat.mul_le_mul_right _ h)
  omega

set_option maxRecDepth 100000 in
theorem halves (x n : Nat) (hx : x < 18446744073709551616) (hm : n ≤ 9223372036854775807) :
    wrap64 (IntKind.u64.wrap (IntKind.u64.wrap (IntKind.u64.wrap ((x : Int) / 4294967296 * ((n : Int) / 4294967296)) +
      IntKind.u64.wrap ((IntKind.u64.wrap (IntKind.u64.wrap ((x : Int) / 4294967296 * ((n : Int) % 4294967296)) +
        IntKind.u64.wrap ((IntKind.u64.wrap ((x : Int) % 4294967296 * ((n : Int) % 4294967296))).tdiv 4294967296))).tdiv 4294967296)) +
      IntKind.u64.wrap ((IntKind.u64.wrap (IntKind.u64.wrap ((x : Int) % 4294967296 * ((n : Int) / 4294967296)) +
        (IntKind.u64.wrap (IntKind.u64.wrap ((x : Int) / 4294967296 * ((n : Int) % 4294967296)) +
          IntKind.u64.wrap ((IntKind.u64.wrap ((x : Int) % 4294967296 * ((n : Int) % 4294967296))).tdiv 4294967296))).tmod 4294967296)).tdiv 4294967296))) = belowN x n := by
  have hv : x * n = 18446744073709551616 * (x / 4294967296 * (n / 4294967296)) + 4294967296 * (x / 4294967296 * (n % 4294967296)) + 4294967296 * (x % 4294967296 * (n / 4294967296)) + x % 4294967296 * (n % 4294967296) := by
    obtain ⟨a, ha⟩ : ∃ a, a = x / 4294967296 := ⟨_, rfl⟩
    obtain ⟨b, hb⟩ : ∃ b, b = x % 4294967296 := ⟨_, rfl⟩
    obtain ⟨c, hc⟩ : ∃ c, c = n / 4294967296 := ⟨_, rfl⟩
    obtain ⟨d, hd⟩ : ∃ d, d = n % 4294967296 := ⟨_, rfl⟩
    rw [← ha, ← hb, ← hc, ← hd, show x = 4294967296 * a + b by omega, show n = 4294967296 * c + d by omega]
    rw [Nat.add_mul, Nat.mul_add, Nat.mul_add, Nat.mul_mul_mul_comm, Nat.mul_assoc 4294967296 a d, Nat.mul_left_comm b 4294967296 c]
    omega
  have ha : x / 4294967296 ≤ 4294967295 := by omega
  have hb : x % 4294967296 ≤ 4294967295 := by omega
  have hc : n / 4294967296 ≤ 2147483647 := by omega
  have hd : n % 4294967296 ≤ 4294967295 := by omega
  have hT := Nat.mul_le_mul ha hc
  have hQ := Nat.mul_le_mul ha hd
  have hR := Nat.mul_le_mul hb hc
  have hP := Nat.mul_le_mul hb hd
  rw [show (x : Int) / 4294967296 * ((n : Int) / 4294967296) = ((x / 4294967296 * (n / 4294967296) : Nat) : Int) by rw [Int.natCast_mul]; rfl,
    show (x : Int) / 4294967296 * ((n : Int) % 4294967296) = ((x / 4294967296 * (n % 4294967296) : Nat) : Int) by rw [Int.natCast_mul]; rfl,
    show (x : Int) % 4294967296 * ((n : Int) / 4294967296) = ((x % 4294967296 * (n / 4294967296) : Nat) : Int) by rw [Int.natCast_mul]; rfl,
    show (x : Int) % 4294967296 * ((n : Int) % 4294967296) = ((x % 4294967296 * (n % 4294967296) : Nat) : Int) by rw [Int.natCast_mul]; rfl]
  unfold belowN
  rw [hv]
  generalize x / 4294967296 * (n / 4294967296) = T at *
  generalize x / 4294967296 * (n % 4294967296) = Q at *
  generalize x % 4294967296 * (n / 4294967296) = R at *
  generalize x % 4294967296 * (n % 4294967296) = P at *
  clear hv
  have w0 : ∀ z : Nat, z < 18446744073709551616 → IntKind.u64.wrap (z : Int) = z := fun z hz => by rw [IntKind.wrap_u64]; omega
  have td : ∀ z : Nat, (z : Int).tdiv 4294967296 = ((z / 4294967296 : Nat) : Int) := fun z => by rw [Int.tdiv_eq_ediv_of_nonneg (by omega)]; omega
  have tm : ∀ z : Nat, (z : Int).tmod 4294967296 = ((z % 4294967296 : Nat) : Int) := fun z => by rw [Int.tmod_eq_emod_of_nonneg (by omega)]; omega
  have ad : ∀ y z : Nat, (y : Int) + (z : Int) = ((y + z : Nat) : Int) := fun y z => by omega
  rw [w0 P (by omega), td P, w0 (P / 4294967296) (by omega), w0 Q (by omega), ad Q (P / 4294967296), w0 (Q + P / 4294967296) (by omega)]
  generalize hU : Q + P / 4294967296 = U
  rw [td U, tm U, w0 (U / 4294967296) (by omega), w0 T (by omega), w0 R (by omega), ad R (U % 4294967296), w0 (R + U % 4294967296) (by omega), td (R + U % 4294967296)]
  generalize hV : (R + U % 4294967296) / 4294967296 = V
  rw [w0 V (by omega), ad T (U / 4294967296), w0 (T + U / 4294967296) (by omega), ad (T + U / 4294967296) V, w0 (T + U / 4294967296 + V) (by omega), IntWalk.wrap64_in _ ⟨by omega, by omega⟩]
  omega

set_option maxHeartbeats 400000 in
set_option maxRecDepth 100000 in
theorem below15_no (x n : Int) (hn : n < 1) (w : World) :
    Calls Tryz.prog 7 #[.int .u64 x, .int .i64 n] w fun e w' => e = .returned (.int .i64 0) ∧ w = w' := by
  go_enter Tryz.func7, Tryz.ntmps7
  go_wp2_with fail
  go_ret
  exact ⟨rfl, rfl⟩
set_option maxHeartbeats 400000 in
set_option maxRecDepth 100000 in
theorem below15 (x n : Nat) (hx : x < 18446744073709551616) (hn : 0 < n) (hm : n ≤ 9223372036854775807) (w : World) :
    Calls Tryz.prog 7 #[.int .u64 x, .int .i64 n] w fun e w' => e = .returned (.int .i64 (belowN x n)) ∧ w = w' := by
  have hlt := belowN_lt x n hx hn
  have h0 : 0 ≤ belowN x n := by unfold belowN; omega
  have h1 : belowN x n ≤ 9223372036854775807 := by unfold belowN; omega
  have hw : IntKind.u64.wrap (n : Int) = n := by rw [IntKind.wrap_u64]; omega
  have hmul := Tryz.bits_Mul64 x n hx (by omega)
  have HM := Lib.hid hmul
  clear hmul hlt
  go_enter Tryz.func7, Tryz.ntmps7
  go_wp2_with fail
  refine (calls_flop (HM.out _)).mono ?_
  rintro e w' ⟨rfl, rfl⟩
  go_wp2_with fail
  go_ret
  refine ⟨congrArg (fun z => Ending.returned (.int .i64 z)) (?_ : wrap64 _ = belowN x n), rfl⟩
  have e : (x : Int) * (n : Int) / 18446744073709551616 = belowN x n := by
    unfold belowN
    rw [← Int.natCast_mul]; omega
  rw [e]
  exact IntWalk.wrap64_in _ ⟨by omega, by omega⟩
end Go.Proofs.YtklfpnnnoaaiaabGreatDoor

/- maglev.claimOf (written by genmgc.py). -/
namespace Go.Proofs.YtklfpnnnoaaiaabGreatDoor
open Go.RowKit

theorem xor_nat (x y : Int) : ∃ n : Nat, bits .xor .u64 x y = (n : Int) ∧ n < 18446744073709551616 :=
  by
  have h2 : bits .xor .u64 x y = IntKind.u64.wrap ((BitVec.ofInt 64 x ^^^ BitVec.ofInt 64 y).toNat : Int) := rfl
  rw [h2, IntKind.wrap_u64]
  generalize (BitVec.ofInt 64 x ^^^ BitVec.ofInt 64 y).toNat = r
  exact ⟨r % 18446744073709551616, by omega, by omega⟩
theorem sip_nat (k : Nat → UInt8) (l : List UInt8) : ∃ n : Nat, sip k l = (n : Int) ∧ n < 18446744073709551616 := by
  unfold sip finish xo
  exact xor_nat _ _
/-- A hash as a natural number. -/
def hashN (k : Nat → UInt8) (l : List UInt8) : Nat := (sip k l).toNat
theorem hashN_is (k : Nat → UInt8) (l : List UInt8) : sip k l = (hashN k l : Int) ∧ hashN k l < 18446744073709551616 := by
  obtain ⟨n, h1, h2⟩ := sip_nat k l
  unfold hashN
  rw [h1]
  exact ⟨rfl, by simpa using h2⟩
def offB : ByteArray := ⟨#[111, 102, 102, 115, 101, 116]⟩
def stepB : ByteArray := ⟨#[115, 116, 101, 112]⟩
/-- The first place of an entry's row, and its step. -/
def firstN (k : Nat → UInt8) (N : ByteArray) (m : Nat) : Nat := hashN k (offB.data.toList ++ N.data.toList) * m / 18446744073709551616
def stepN (k : Nat → UInt8) (N : ByteArray) (m : Nat) : Nat := 1 + hashN k (stepB.data.toList ++ N.data.toList) * (m - 1) / 18446744073709551616
theorem firstN_lt (k : Nat → UInt8) (N : ByteArray) {m : Nat} (hm : 0 < m) : firstN k N m < m := belowN_lt _ _ (hashN_is _ _).2 hm
theorem stepN_lt (k : Nat → UInt8) (N : ByteArray) {m : Nat} (hm : 2 ≤ m) : 1 ≤ stepN k N m ∧ stepN k N m < m := by
  have := belowN_lt (hashN k (stepB.data.toList ++ N.data.toList)) (m - 1) (hashN_is _ _).2 (by omega)
  unfold stepN
  omega
theorem flat_two (a b : ByteArray) : flat [a, b] = a.data.toList ++ b.data.toList := by simp [flat]
theorem key_range {w : World} {b : Nat} {k : Nat → UInt8} (h : IsKey w b k) : w.rangeAt b 0 [.int .u8 (k 0).toNat, .int .u8 (k 1).toNat, .int .u8 (k 2).toNat, .int .u8 (k 3).toNat, .int .u8 (k 4).toNat, .int .u8 (k 5).toNat, .int .u8 (k 6).toNat, .int .u8 (k 7).toNat, .int .u8 (k 8).toNat, .int .u8 (k 9).toNat, .int .u8 (k 10).toNat, .int .u8 (k 11).toNat, .int .u8 (k 12).toNat, .int .u8 (k 13).toNat, .int .u8 (k 14).toNat, .int .u8 (k 15).toNat] := by
  intro j v hj
  rw [Nat.zero_add]
  have hlt : j < 16 := by
    rcases Nat.lt_or_ge j 16 with h | h
    · exact h
    · rw [List.getElem?_eq_none (by simpa using h)] at hj; cases hj
  rw [h j hlt]
  match j, hlt, hj with
  | 0, _, hj | 1, _, hj | 2, _, hj | 3, _, hj | 4, _, hj | 5, _, hj | 6, _, hj | 7, _, hj | 8, _, hj | 9, _, hj | 10, _, hj | 11, _, hj | 12, _, hj | 13, _, hj | 14, _, hj | 15, _, hj => exact hj
theorem IsKey.below {w w' : World} {b : Nat} {k : Nat → UInt8} (h : IsKey w b k) (hb : Below w.heap.size w w') (hlt : b < w.heap.size) : IsKey w' b k := fun i hi => by rw [(bcell hb).1 _ _ hlt]; exact h i hi
theorem wrap_i64_small (n : Nat) (h : n < 9223372036854775808) : IntKind.i64.wrap (n : Int) = (n : Int) := by
  simp [IntKind.wrap, IntKind.signed, IntKind.bits]; omega
theorem wrapM (m : Nat) (h1 : 1 ≤ m) (h2 : m ≤ 1048576) : IntKind.i64.wrap ((m : Int) - 1) = ((m - 1 : Nat) : Int) := by
  rw [show (m : Int) - 1 = ((m - 1 : Nat) : Int) by omega]
  exact wrap_i64_small _ (by omega)
/-- What holds while an entry's row is reckoned. -/
structure ClS (W : World) (N : ByteArray) (L : Nat → Bool) (x : Nat → Value) (w : World) : Prop where
  bel : Below W.heap.size W w
  s1 : L 5 = true → ∃ g, x 5 = .slice (some ⟨g, 0, none⟩) 2 2 ∧ IsStrs w (some ⟨g, 0, none⟩) 2 [offB, N]
  s2 : L 12 = true → ∃ g, x 12 = .slice (some ⟨g, 0, none⟩) 2 2 ∧ IsStrs w (some ⟨g, 0, none⟩) 2 [stepB, N]
theorem ClS.keep {W : World} {N : ByteArray} {L : Nat → Bool} {x : Nat → Value} {w : World} (h : ClS W N L x w) (i : Nat) (h1 : i ≠ 5) (h2 : i ≠ 12) (v : Value) {w' : World} (hb : Below w.heap.size w w') : ClS W N (setL L i) (updV x i v) w' :=
  ⟨h.bel.trans (hb.mono h.bel.size), fun e => by
    obtain ⟨g, hx, hs⟩ := h.s1 (by simpa [setL, Ne.symm h1] using e)
    exact ⟨g, by simp [updV, Ne.symm h1, hx], hs.below hb⟩, fun e => by
    obtain ⟨g, hx, hs⟩ := h.s2 (by simpa [setL, Ne.symm h2] using e)
    exact ⟨g, by simp [updV, Ne.symm h2, hx], hs.below hb⟩⟩
theorem two_strs (w : World) (a b : ByteArray) (T : TypeId) : IsStrs (w.alloc (.cells #[.string a, .string b] T)) (some ⟨w.heap.size, 0, none⟩) 2 [a, b] := by
  refine .inr ⟨w.heap.size, 0, rfl, by simp, by simp, fun j x hx => ?_⟩
  rw [Nat.zero_add]
  match j, hx with
  | 0, hx => obtain rfl : a = x := by simpa using hx
             simp
  | 1, hx => obtain rfl : b = x := by simpa using hx
             simp
  | j + 2, hx => simp at hx
theorem ClS.new1 {W : World} {N : ByteArray} {L : Nat → Bool} {x : Nat → Value} {w : World} (h : ClS W N L x w) (T : TypeId) : ClS W N (setL L 5) (updV x 5 (.slice (some ⟨w.heap.size, 0, none⟩) 2 2)) (w.alloc (.cells #[.string offB, .string N] T)) := by
  have hb := below_alloc w (.cells #[.string offB, .string N] T)
  refine ⟨h.bel.trans (hb.mono h.bel.size), fun _ => ⟨w.heap.size, by simp [updV], two_strs w _ _ T⟩, fun e => ?_⟩
  obtain ⟨g, hx, hs⟩ := h.s2 (by simpa [setL] using e)
  exact ⟨g, by simp [updV, hx], hs.below hb⟩
theorem ClS.new2 {W : World} {N : ByteArray} {L : Nat → Bool} {x : Nat → Value} {w : World} (h : ClS W N L x w) (T : TypeId) : ClS W N (setL L 12) (updV x 12 (.slice (some ⟨w.heap.size, 0, none⟩) 2 2)) (w.alloc (.cells #[.string stepB, .string N] T)) := by
  have hb := below_alloc w (.cells #[.string stepB, .string N] T)
  refine ⟨h.bel.trans (hb.mono h.bel.size), fun e => ?_, fun _ => ⟨w.heap.size, by simp [updV], two_strs w _ _ T⟩⟩
  obtain ⟨g, hx, hs⟩ := h.s1 (by simpa [setL] using e)
  exact ⟨g, by simp [updV, hx], hs.below hb⟩
set_option maxRecDepth 100000 in
set_option maxHeartbeats 4000000 in
theorem claim26 (k : Nat → UInt8) (N : ByteArray) (V : Int) (hN : N.size ≤ 1000000) (m : Nat) (hm2 : 2 ≤ m) (hm : m ≤ 1048576) (w : World) (hi : Ini w) :
    Calls Tryz.prog 27 #[keyVal k, .agg #[.string N, .int .i64 V], .int .i64 (m : Int)] w fun e w' => e = .returned (.agg #[.int .i64 V, .int .i64 0, .int .i64 (firstN k N m : Nat), .int .i64 (stepN k N m : Nat)]) ∧ Below w.heap.size w w' := by
  have HI := Lib.hid hi
  have hs1 := hashN_is k (offB.data.toList ++ N.data.toList)
  have hs2 := hashN_is k (stepB.data.toList ++ N.data.toList)
  have hb1 := fun W => below15 (hashN k (offB.data.toList ++ N.data.toList)) m hs1.2 (by omega) (by omega) W
  have hb2 := fun W => below15 (hashN k (stepB.data.toList ++ N.data.toList)) (m - 1) hs2.2 (by omega) (by omega) W
  have hf : belowN (hashN k (offB.data.toList ++ N.data.toList)) m = ((firstN k N m : Nat) : Int) := rfl
  have hst : 1 + belowN (hashN k (stepB.data.toList ++ N.data.toList)) (m - 1) = ((stepN k N m : Nat) : Int) := by unfold stepN belowN; omega
  have hflt := firstN_lt k N (m := m) (by omega)
  have hslt := stepN_lt k N hm2
  rw [hf] at hb1
  obtain ⟨b2, hb2e⟩ : ∃ b2, belowN (hashN k (stepB.data.toList ++ N.data.toList)) (m - 1) = b2 := ⟨_, rfl⟩
  rw [hb2e] at hb2 hst
  have hS1 : ∀ (g : Nat) (W : World), Ini W → IsStrs W (some ⟨g, 0, none⟩) 2 [offB, N] → Calls Tryz.prog 43 #[keyVal k, .slice (some ⟨g, 0, none⟩) 2 2] W fun e w' => e = .returned (.int .u64 ((hashN k (offB.data.toList ++ N.data.toList) : Nat) : Int)) ∧ Below W.heap.size W w' := fun g W hI hx => by
    have := sum12 k _ 2 [offB, N] W hI hx (by simp) (by rw [flat_two]; have := Lib.size_eq N; simp [offB]; omega)
    rw [flat_two, hs1.1] at this
    exact this
  have hS2 : ∀ (g : Nat) (W : World), Ini W → IsStrs W (some ⟨g, 0, none⟩) 2 [stepB, N] → Calls Tryz.prog 43 #[keyVal k, .slice (some ⟨g, 0, none⟩) 2 2] W fun e w' => e = .returned (.int .u64 ((hashN k (stepB.data.toList ++ N.data.toList) : Nat) : Int)) ∧ Below W.heap.size W w' := fun g W hI hx => by
    have := sum12 k _ 2 [stepB, N] W hI hx (by simp) (by rw [flat_two]; have := Lib.size_eq N; simp [stepB]; omega)
    rw [flat_two, hs2.1] at this
    exact this
  have HS1 := Lib.hid hS1
  have HS2 := Lib.hid hS2
  have HB1 := Lib.hid hb1
  have HB2 := Lib.hid hb2
  have HFL := Lib.hid hflt
  have HST := Lib.hid hst
  generalize hashN k (offB.data.toList ++ N.data.toList) = h1 at *
  generalize hashN k (stepB.data.toList ++ N.data.toList) = h2 at *
  generalize firstN k N m = f1 at *
  generalize stepN k N m = s1 at *
  clear hS1 hS2 hb1 hb2 hf hs1 hs2 hb2e hi
  have hob : (⟨#[111, 102, 102, 115, 101, 116]⟩ : ByteArray) = offB := rfl
  have hsb : (⟨#[115, 116, 101, 112]⟩ : ByteArray) = stepB := rfl
  unfold keyVal at HS1 HS2 ⊢
  go_enter Tryz.func27, Tryz.ntmps27
  go_upto_region 1 with fail
  have r1 := ((Row.new w 25 #[.int .u8 (k 0).toNat, .int .u8 (k 1).toNat, .int .u8 (k 2).toNat, .int .u8 (k 3).toNat, .int .u8 (k 4).toNat, .int .u8 (k 5).toNat, .int .u8 (k 6).toNat, .int .u8 (k 7).toNat, .int .u8 (k 8).toNat, .int .u8 (k 9).toNat, .int .u8 (k 10).toNat, .int .u8 (k 11).toNat, .int .u8 (k 12).toNat, .int .u8 (k 13).toNat, .int .u8 (k 14).toNat, .int .u8 (k 15).toNat]).alloc (.cells #[.string N, .int .i64 V] 63)).alloc (.cells #[.int .i64 0, .int .i64 0, .int .i64 0, .int .i64 0] 65)
  have r2 := (Row.new (w.alloc (.cells #[.int .u8 (k 0).toNat, .int .u8 (k 1).toNat, .int .u8 (k 2).toNat, .int .u8 (k 3).toNat, .int .u8 (k 4).toNat, .int .u8 (k 5).toNat, .int .u8 (k 6).toNat, .int .u8 (k 7).toNat, .int .u8 (k 8).toNat, .int .u8 (k 9).toNat, .int .u8 (k 10).toNat, .int .u8 (k 11).toNat, .int .u8 (k 12).toNat, .int .u8 (k 13).toNat, .int .u8 (k 14).toNat, .int .u8 (k 15).toNat] 25)) 63 #[.string N, .int .i64 V]).alloc (.cells #[.int .i64 0, .int .i64 0, .int .i64 0, .int .i64 0] 65)
  have r3 := Row.new ((w.alloc (.cells #[.int .u8 (k 0).toNat, .int .u8 (k 1).toNat, .int .u8 (k 2).toNat, .int .u8 (k 3).toNat, .int .u8 (k 4).toNat, .int .u8 (k 5).toNat, .int .u8 (k 6).toNat, .int .u8 (k 7).toNat, .int .u8 (k 8).toNat, .int .u8 (k 9).toNat, .int .u8 (k 10).toNat, .int .u8 (k 11).toNat, .int .u8 (k 12).toNat, .int .u8 (k 13).toNat, .int .u8 (k 14).toNat, .int .u8 (k 15).toNat] 25)).alloc (.cells #[.string N, .int .i64 V] 63)) 65 #[.int .i64 0, .int .i64 0, .int .i64 0, .int .i64 0]
  have hb0 : Below w.heap.size w (((w.alloc (.cells #[.int .u8 (k 0).toNat, .int .u8 (k 1).toNat, .int .u8 (k 2).toNat, .int .u8 (k 3).toNat, .int .u8 (k 4).toNat, .int .u8 (k 5).toNat, .int .u8 (k 6).toNat, .int .u8 (k 7).toNat, .int .u8 (k 8).toNat, .int .u8 (k 9).toNat, .int .u8 (k 10).toNat, .int .u8 (k 11).toNat, .int .u8 (k 12).toNat, .int .u8 (k 13).toNat, .int .u8 (k 14).toNat, .int .u8 (k 15).toNat] 25)).alloc (.cells #[.string N, .int .i64 V] 63)).alloc (.cells #[.int .i64 0, .int .i64 0, .int .i64 0, .int .i64 0] 65)) := (((Below.refl _ _).alloc (Nat.le_refl _) _).alloc (by simp) _).alloc (by simp; omega) _
  rw [World.size_alloc] at r2
  rw [World.size_alloc, World.size_alloc] at r3
  have HI3 := Lib.hid (HI.out.below hb0)
  have HB0 := Lib.hid hb0
  generalize ((w.alloc (.cells #[.int .u8 (k 0).toNat, .int .u8 (k 1).toNat, .int .u8 (k 2).toNat, .int .u8 (k 3).toNat, .int .u8 (k 4).toNat, .int .u8 (k 5).toNat, .int .u8 (k 6).toNat, .int .u8 (k 7).toNat, .int .u8 (k 8).toNat, .int .u8 (k 9).toNat, .int .u8 (k 10).toNat, .int .u8 (k 11).toNat, .int .u8 (k 12).toNat, .int .u8 (k 13).toNat, .int .u8 (k 14).toNat, .int .u8 (k 15).toNat] 25)).alloc (.cells #[.string N, .int .i64 V] 63)).alloc (.cells #[.int .i64 0, .int .i64 0, .int .i64 0, .int .i64 0] 65) = W3 at *
  obtain ⟨B, hB⟩ : ∃ B, B = w.heap.size := ⟨_, rfl⟩
  have HBE := Lib.hid hB
  rw [← hB] at r1 r2 r3 ⊢
  clear hB hb0 HI
  have hk1 : IsKey W3 B k := by
    intro i hi
    rw [r1.cell i]
    match i, hi with
    | 0, _ | 1, _ | 2, _ | 3, _ | 4, _ | 5, _ | 6, _ | 7, _ | 8, _ | 9, _ | 10, _ | 11, _ | 12, _ | 13, _ | 14, _ | 15, _ => rfl
    | j + 16, hi => exact absurd hi (by omega)
  have hlt1 := r1.lt
  have hlt2 := r2.lt
  have hlt3 := r3.lt
  have e0 := r2.cell 0
  have e1 := r2.cell 1
  simp only [List.getElem?_toArray, List.getElem?_cons_zero, List.getElem?_cons_succ] at e0 e1
  have R3 := Lib.hid r3
  have HK1 := Lib.hid hk1
  clear r1 r2 r3 hk1
  refine region_mixt 19 [some (.pointer (some ⟨B + 1, 1, none⟩)), some (.int .i64 V), some (.agg #[.int .u8 (k 0).toNat, .int .u8 (k 1).toNat, .int .u8 (k 2).toNat, .int .u8 (k 3).toNat, .int .u8 (k 4).toNat, .int .u8 (k 5).toNat, .int .u8 (k 6).toNat, .int .u8 (k 7).toNat, .int .u8 (k 8).toNat, .int .u8 (k 9).toNat, .int .u8 (k 10).toNat, .int .u8 (k 11).toNat, .int .u8 (k 12).toNat, .int .u8 (k 13).toNat, .int .u8 (k 14).toNat, .int .u8 (k 15).toNat]), some (.pointer (some ⟨B + 1, 0, none⟩)), some (.string N), none, some (.int .u64 (h1 : Int)), some (.int .i64 (m : Int)), some (.int .i64 (f1 : Int)), some (.agg #[.int .u8 (k 0).toNat, .int .u8 (k 1).toNat, .int .u8 (k 2).toNat, .int .u8 (k 3).toNat, .int .u8 (k 4).toNat, .int .u8 (k 5).toNat, .int .u8 (k 6).toNat, .int .u8 (k 7).toNat, .int .u8 (k 8).toNat, .int .u8 (k 9).toNat, .int .u8 (k 10).toNat, .int .u8 (k 11).toNat, .int .u8 (k 12).toNat, .int .u8 (k 13).toNat, .int .u8 (k 14).toNat, .int .u8 (k 15).toNat]), some (.pointer (some ⟨B + 1, 0, none⟩)), some (.string N), none, some (.int .u64 (h2 : Int)), some (.int .i64 (m : Int)), some (.int .i64 ((m - 1 : Nat) : Int)), some (.int .i64 b2), some (.int .i64 (s1 : Int)), some (.agg #[.int .i64 V, .int .i64 0, .int .i64 (f1 : Int), .int .i64 (s1 : Int)])]
    [[false, false, false, false, false, false, false, false, false, false, false, false, false, false, false, false, false, false, false], [true, false, false, false, false, false, false, false, false, false, false, false, false, false, false, false, false, false, false], [false, false, false, false, false, false, false, false, false, false, false, false, false, false, false, false, false, false, false], [false, false, false, false, false, false, false, false, false, false, false, false, false, false, false, false, false, false, false], [false, false, false, true, false, false, false, false, false, false, false, false, false, false, false, false, false, false, false], [false, false, false, false, true, false, false, false, false, false, false, false, false, false, false, false, false, false, false], [false, false, true, false, false, true, false, false, false, false, false, false, false, false, false, false, false, false, false], [false, false, false, false, false, false, false, false, false, false, false, false, false, false, false, false, false, false, false], [false, false, false, false, false, false, true, true, false, false, false, false, false, false, false, false, false, false, false], [false, false, false, false, false, false, false, false, false, false, false, false, false, false, false, false, false, false, false], [false, false, false, false, false, false, false, false, false, false, false, false, false, false, false, false, false, false, false], [false, false, false, false, false, false, false, false, false, false, true, false, false, false, false, false, false, false, false], [false, false, false, false, false, false, false, false, false, false, false, true, false, false, false, false, false, false, false], [false, false, false, false, false, false, false, false, true, true, false, false, true, false, false, false, false, false, false], [false, false, false, false, false, false, false, false, false, false, false, false, false, false, false, false, false, false, false], [false, false, false, false, false, false, false, false, false, false, false, false, false, false, true, false, false, false, false], [false, false, false, false, false, false, false, false, false, false, false, false, false, true, false, true, false, false, false], [false, false, false, false, false, false, false, false, false, false, false, false, false, false, false, false, true, false, false], [false, true, false, false, false, false, false, false, true, false, false, false, false, false, false, false, false, true, false]]
    (fun LL xx w9 => ClS W3 N LL xx w9)
    (by kernel_rfl) (by kernel_rfl) (by kernel_rfl) (by kernel_rfl) (by kernel_rfl) (by decide) ?_ ?_ ?_
  · intro x
    exact ⟨⟨rfl, rfl, rfl, Nat.le_refl _, fun _ _ => rfl⟩, (fun h => by cases h), (fun h => by cases h)⟩
  · simp only [List.take_succ_cons, List.take_zero]
    refine ⟨?_, ?_, ?_, ?_, ?_, ?_, ?_, ?_, ?_, ?_, ?_, ?_, ?_, ?_, ?_, ?_, ?_, ?_, ?_, trivial⟩
    all_goals
      intro L x w9 hS hl hp K9 hK9
      have hs : ClS W3 N L x w9 := hS
      clear hS
      replace hK9 := hK9.out
      simp only [actMix, pickV, List.tail_cons, List.headD_cons, Act.put, List.setIfInBounds_toArray, List.set_cons_zero, List.set_cons_succ] at hK9 ⊢
    · clear hp
      go_simp
      with_reducible refine hK9 _ ?_
      exact hs.keep 0 (by decide) (by decide) _ (Below.refl _ _)
    · have q1 : w9.cell? ⟨B + 1, 1, none⟩ = some (.int .i64 V) := by rw [(bcell hs.bel).1 _ _ hlt2]; exact e1
      clear hp
      go_simp
      with_reducible refine hK9 _ ?_
      exact hs.keep 1 (by decide) (by decide) _ (Below.refl _ _)
    · have hkk := HK1.out.below hs.bel hlt1
      clear hp
      rw [if_pos (by rfl)]
      refine wp_load_mid 25 _ rfl B 0 rfl [.int .u8 (k 0).toNat, .int .u8 (k 1).toNat, .int .u8 (k 2).toNat, .int .u8 (k 3).toNat, .int .u8 (k 4).toNat, .int .u8 (k 5).toNat, .int .u8 (k 6).toNat, .int .u8 (k 7).toNat, .int .u8 (k 8).toNat, .int .u8 (k 9).toNat, .int .u8 (k 10).toNat, .int .u8 (k 11).toNat, .int .u8 (k 12).toNat, .int .u8 (k 13).toNat, .int .u8 (k 14).toNat, .int .u8 (k 15).toNat] _ (key_range hkk) Tryz.underlying25 rfl (by kernel_rfl) ?_
      simp only [Act.put, List.setIfInBounds_toArray, List.set_cons_zero, List.set_cons_succ]
      with_reducible refine hK9 _ ?_
      exact hs.keep 2 (by decide) (by decide) _ (Below.refl _ _)
    · clear hp
      go_simp
      with_reducible refine hK9 _ ?_
      exact hs.keep 3 (by decide) (by decide) _ (Below.refl _ _)
    · have q1 : w9.cell? ⟨B + 1, 0, none⟩ = some (.string N) := by rw [(bcell hs.bel).1 _ _ hlt2]; exact e0
      clear hp
      go_simp
      with_reducible refine hK9 _ ?_
      exact hs.keep 4 (by decide) (by decide) _ (Below.refl _ _)
    · clear hp
      go_simp
      with_reducible refine hK9 _ _ ?_
      exact hs.new1 _
    · have hL : L 5 = true := allL_mem hp 5 (by decide +kernel)
      obtain ⟨g, hx, hst⟩ := hs.s1 hL
      clear hp
      rw [hx] at hK9 ⊢
      go_simp
      refine (HS1.out g w9 (HI3.out.below hs.bel) hst).mono ?_
      rintro e9 w8 ⟨rfl, hb8⟩
      with_reducible refine hK9 _ ?_
      exact hs.keep 6 (by decide) (by decide) _ hb8
    · clear hp
      go_simp
      with_reducible refine hK9 _ ?_
      exact hs.keep 7 (by decide) (by decide) _ (Below.refl _ _)
    · clear hp
      go_simp
      refine (HB1.out w9).mono ?_
      rintro e9 w8 ⟨rfl, hw8⟩
      subst hw8
      with_reducible refine hK9 _ ?_
      exact hs.keep 8 (by decide) (by decide) _ (Below.refl _ _)
    · have hkk := HK1.out.below hs.bel hlt1
      clear hp
      rw [if_pos (by rfl)]
      refine wp_load_mid 25 _ rfl B 0 rfl [.int .u8 (k 0).toNat, .int .u8 (k 1).toNat, .int .u8 (k 2).toNat, .int .u8 (k 3).toNat, .int .u8 (k 4).toNat, .int .u8 (k 5).toNat, .int .u8 (k 6).toNat, .int .u8 (k 7).toNat, .int .u8 (k 8).toNat, .int .u8 (k 9).toNat, .int .u8 (k 10).toNat, .int .u8 (k 11).toNat, .int .u8 (k 12).toNat, .int .u8 (k 13).toNat, .int .u8 (k 14).toNat, .int .u8 (k 15).toNat] _ (key_range hkk) Tryz.underlying25 rfl (by kernel_rfl) ?_
      simp only [Act.put, List.setIfInBounds_toArray, List.set_cons_zero, List.set_cons_succ]
      with_reducible refine hK9 _ ?_
      exact hs.keep 9 (by decide) (by decide) _ (Below.refl _ _)
    · clear hp
      go_simp
      with_reducible refine hK9 _ ?_
      exact hs.keep 10 (by decide) (by decide) _ (Below.refl _ _)
    · have q1 : w9.cell? ⟨B + 1, 0, none⟩ = some (.string N) := by rw [(bcell hs.bel).1 _ _ hlt2]; exact e0
      clear hp
      go_simp
      with_reducible refine hK9 _ ?_
      exact hs.keep 11 (by decide) (by decide) _ (Below.refl _ _)
    · clear hp
      go_simp
      with_reducible refine hK9 _ _ ?_
      exact hs.new2 _
    · have hL : L 12 = true := allL_mem hp 12 (by decide +kernel)
      obtain ⟨g, hx, hst⟩ := hs.s2 hL
      clear hp
      rw [hx] at hK9 ⊢
      go_simp
      refine (HS2.out g w9 (HI3.out.below hs.bel) hst).mono ?_
      rintro e9 w8 ⟨rfl, hb8⟩
      with_reducible refine hK9 _ ?_
      exact hs.keep 13 (by decide) (by decide) _ hb8
    · clear hp
      go_simp
      with_reducible refine hK9 _ ?_
      exact hs.keep 14 (by decide) (by decide) _ (Below.refl _ _)
    · have hm1 : IntKind.i64.wrap ((m : Int) - 1) = ((m - 1 : Nat) : Int) := wrapM m (by omega) (by omega)
      clear hp
      go_simp
      with_reducible refine hK9 _ ?_
      exact hs.keep 15 (by decide) (by decide) _ (Below.refl _ _)
    · clear hp
      go_simp
      refine (HB2.out w9).mono ?_
      rintro e9 w8 ⟨rfl, hw8⟩
      subst hw8
      with_reducible refine hK9 _ ?_
      exact hs.keep 16 (by decide) (by decide) _ (Below.refl _ _)
    · have hm1 : IntKind.i64.wrap (s1 : Int) = (s1 : Int) := wrap_i64_small s1 (by omega)
      clear hp
      go_simp
      with_reducible refine hK9 _ ?_
      exact hs.keep 17 (by decide) (by decide) _ (Below.refl _ _)
    · clear hp
      go_simp
      with_reducible refine hK9 _ ?_
      exact hs.keep 18 (by decide) (by decide) _ (Below.refl _ _)
  intro L x w9 hS hL
  have hs : ClS W3 N L x w9 := hS
  obtain ⟨g5, hx5, _⟩ := hs.s1 (hL 5 (by decide))
  obtain ⟨g12, hx12, _⟩ := hs.s2 (hL 12 (by decide))
  have R9 := R3.out.below hs.bel
  have HB9 := Lib.hid (HB0.out.trans (hs.bel.mono HB0.out.size))
  clear hS hs hL
  simp only [actMix, pickV, List.tail_cons, List.headD_cons, Act.put, List.setIfInBounds_toArray, List.set_cons_zero, List.set_cons_succ, List.replicate_succ, List.replicate_zero, List.drop_succ_cons, List.drop_zero, List.take_succ_cons, List.take_zero]
  rw [hx5, hx12]
  clear hx5 hx12
  have c0 := R9.cell 0
  have c1 := R9.cell 1
  have c2 := R9.cell 2
  have c3 := R9.cell 3
  simp only [List.getElem?_toArray, List.getElem?_cons_zero, List.getElem?_cons_succ] at c0 c1 c2 c3
  have f0 := R9.free 0
  have f1' := R9.free 1
  have f2 := R9.free 2
  have f3 := R9.free 3
  have RF := (((R9.put 0 (.int .i64 V)).put 1 (.int .i64 0)).put 2 (.int .i64 (f1 : Int))).put 3 (.int .i64 (s1 : Int))
  have d0 := RF.cell 0
  have d1 := RF.cell 1
  have d2 := RF.cell 2
  have d3 := RF.cell 3
  simp at d0 d1 d2 d3
  have D0 := Lib.hid d0
  have D1 := Lib.hid d1
  have D2 := Lib.hid d2
  have D3 := Lib.hid d3
  have HBF : Hid (Below w.heap.size w ((((w9.setCell ⟨B + 1 + 1, 0, none⟩ (.int .i64 V)).setCell ⟨B + 1 + 1, 1, none⟩ (.int .i64 0)).setCell ⟨B + 1 + 1, 2, none⟩ (.int .i64 (f1 : Int))).setCell ⟨B + 1 + 1, 3, none⟩ (.int .i64 (s1 : Int)))) := by
    have hle : w.heap.size ≤ B + 1 + 1 := by rw [HBE.out]; omega
    exact (((HB9.out.setCell (p := ⟨B + 1 + 1, 0, none⟩) hle _).setCell (p := ⟨B + 1 + 1, 1, none⟩) hle _).setCell (p := ⟨B + 1 + 1, 2, none⟩) hle _).setCell (p := ⟨B + 1 + 1, 3, none⟩) hle _
  clear R9 RF d0 d1 d2 d3
  go_wp2_with fail
  refine bodyPost_ret (v := .agg #[.int .i64 V, .int .i64 0, .int .i64 (f1 : Int), .int .i64 (s1 : Int)]) ?_ rfl ⟨rfl, HBF.out⟩
  simp [results, Tryz.results27, go_sem, D0.out, D1.out, D2.out, D3.out]
end Go.Proofs.YtklfpnnnoaaiaabGreatDoor

