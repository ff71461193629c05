/- maglev.claimOf (written by genmgc.py). -/
import Derived.Test.YtlcpkplipfcdaaaDoorMgL
import Derived.Test.YtlcpkplipfcdaaaDoorSum
import Derived.Test.YtlcpkplipfcdaaaDoorBelow
import Derived.Test.YtlcpkplipfcdaaaDoorRegT
import Derived.Deep.Cut
namespace Go.Proofs.YtlcpkplipfcdaaaDoor
open Go.RowKit

theorem xor_nat (x y : Int) : ∃ n : Nat, bits .xor .u64 x y = (n : Int) ∧ n < 18446744073709551616 :=
  by
  have h2 : bits .xor .u64 x y = IntKind.u64.wrap ((BitVec.ofInt 64 x ^^^ BitVec.ofInt 64 y).toNat : Int) := rfl
  rw [h2, IntKind.wrap_u64]
  generalize (BitVec.ofInt 64 x ^^^ BitVec.ofInt 64 y).toNat = r
  exact ⟨r % 18446744073709551616, by omega, by omega⟩
theorem sip_nat (k : Nat → UInt8) (l : List UInt8) : ∃ n : Nat, sip k l = (n : Int) ∧ n < 18446744073709551616 := by
  unfold sip finish xo
  exact xor_nat _ _
/-- A hash as a natural number. -/
def hashN (k : Nat → UInt8) (l : List UInt8) : Nat := (sip k l).toNat
theorem hashN_is (k : Nat → UInt8) (l : List UInt8) : sip k l = (hashN k l : Int) ∧ hashN k l < 18446744073709551616 := by
  obtain ⟨n, h1, h2⟩ := sip_nat k l
  unfold hashN
  rw [h1]
  exact ⟨rfl, by simpa using h2⟩
def offB : ByteArray := ⟨#[111, 102, 102, 115, 101, 116]⟩
def stepB : ByteArray := ⟨#[115, 116, 101, 112]⟩
/-- The first place of an entry's row, and its step. -/
def firstN (k : Nat → UInt8) (N : ByteArray) (m : Nat) : Nat := hashN k (offB.data.toList ++ N.data.toList) * m / 18446744073709551616
def stepN (k : Nat → UInt8) (N : ByteArray) (m : Nat) : Nat := 1 + hashN k (stepB.data.toList ++ N.data.toList) * (m - 1) / 18446744073709551616
theorem firstN_lt (k : Nat → UInt8) (N : ByteArray) {m : Nat} (hm : 0 < m) : firstN k N m < m := belowN_lt _ _ (hashN_is _ _).2 hm
theorem stepN_lt (k : Nat → UInt8) (N : ByteArray) {m : Nat} (hm : 2 ≤ m) : 1 ≤ stepN k N m ∧ stepN k N m < m := by
  have := belowN_lt (hashN k (stepB.data.toList ++ N.data.toList)) (m - 1) (hashN_is _ _).2 (by omega)
  unfold stepN
  omega
theorem flat_two (a b : ByteArray) : flat [a, b] = a.data.toList ++ b.data.toList := by simp [flat]
theorem key_range {w : World} {b : Nat} {k : Nat → UInt8} (h : IsKey w b k) : w.rangeAt b 0 [.int .u8 (k 0).toNat, .int .u8 (k 1).toNat, .int .u8 (k 2).toNat, .int .u8 (k 3).toNat, .int .u8 (k 4).toNat, .int .u8 (k 5).toNat, .int .u8 (k 6).toNat, .int .u8 (k 7).toNat, .int .u8 (k 8).toNat, .int .u8 (k 9).toNat, .int .u8 (k 10).toNat, .int .u8 (k 11).toNat, .int .u8 (k 12).toNat, .int .u8 (k 13).toNat, .int .u8 (k 14).toNat, .int .u8 (k 15).toNat] := by
  intro j v hj
  rw [Nat.zero_add]
  have hlt : j < 16 := by
    rcases Nat.lt_or_ge j 16 with h | h
    · exact h
    · rw [List.getElem?_eq_none (by simpa using h)] at hj; cases hj
  rw [h j hlt]
  match j, hlt, hj with
  | 0, _, hj | 1, _, hj | 2, _, hj | 3, _, hj | 4, _, hj | 5, _, hj | 6, _, hj | 7, _, hj | 8, _, hj | 9, _, hj | 10, _, hj | 11, _, hj | 12, _, hj | 13, _, hj | 14, _, hj | 15, _, hj => exact hj
theorem IsKey.below {w w' : World} {b : Nat} {k : Nat → UInt8} (h : IsKey w b k) (hb : Below w.heap.size w w') (hlt : b < w.heap.size) : IsKey w' b k := fun i hi => by rw [(bcell hb).1 _ _ hlt]; exact h i hi
theorem wrap_i64_small (n : Nat) (h : n < 9223372036854775808) : IntKind.i64.wrap (n : Int) = (n : Int) := by
  simp [IntKind.wrap, IntKind.signed, IntKind.bits]; omega
theorem wrapM (m : Nat) (h1 : 1 ≤ m) (h2 : m ≤ 1048576) : IntKind.i64.wrap ((m : Int) - 1) = ((m - 1 : Nat) : Int) := by
  rw [show (m : Int) - 1 = ((m - 1 : Nat) : Int) by omega]
  exact wrap_i64_small _ (by omega)
/-- What holds while an entry's row is reckoned. -/
structure ClS (W : World) (N : ByteArray) (L : Nat → Bool) (x : Nat → Value) (w : World) : Prop where
  bel : Below W.heap.size W w
  s1 : L 5 = true → ∃ g, x 5 = .slice (some ⟨g, 0, none⟩) 2 2 ∧ IsStrs w (some ⟨g, 0, none⟩) 2 [offB, N]
  s2 : L 12 = true → ∃ g, x 12 = .slice (some ⟨g, 0, none⟩) 2 2 ∧ IsStrs w (some ⟨g, 0, none⟩) 2 [stepB, N]
theorem ClS.keep {W : World} {N : ByteArray} {L : Nat → Bool} {x : Nat → Value} {w : World} (h : ClS W N L x w) (i : Nat) (h1 : i ≠ 5) (h2 : i ≠ 12) (v : Value) {w' : World} (hb : Below w.heap.size w w') : ClS W N (setL L i) (updV x i v) w' :=
  ⟨h.bel.trans (hb.mono h.bel.size), fun e => by
    obtain ⟨g, hx, hs⟩ := h.s1 (by simpa [setL, Ne.symm h1] using e)
    exact ⟨g, by simp [updV, Ne.symm h1, hx], hs.below hb⟩, fun e => by
    obtain ⟨g, hx, hs⟩ := h.s2 (by simpa [setL, Ne.symm h2] using e)
    exact ⟨g, by simp [updV, Ne.symm h2, hx], hs.below hb⟩⟩
theorem two_strs (w : World) (a b : ByteArray) (T : TypeId) : IsStrs (w.alloc (.cells #[.string a, .string b] T)) (some ⟨w.heap.size, 0, none⟩) 2 [a, b] := by
  refine .inr ⟨w.heap.size, 0, rfl, by simp, by simp, fun j x hx => ?_⟩
  rw [Nat.zero_add]
  match j, hx with
  | 0, hx => obtain rfl : a = x := by simpa using hx
             simp
  | 1, hx => obtain rfl : b = x := by simpa using hx
             simp
  | j + 2, hx => simp at hx
theorem ClS.new1 {W : World} {N : ByteArray} {L : Nat → Bool} {x : Nat → Value} {w : World} (h : ClS W N L x w) (T : TypeId) : ClS W N (setL L 5) (updV x 5 (.slice (some ⟨w.heap.size, 0, none⟩) 2 2)) (w.alloc (.cells #[.string offB, .string N] T)) := by
  have hb := below_alloc w (.cells #[.string offB, .string N] T)
  refine ⟨h.bel.trans (hb.mono h.bel.size), fun _ => ⟨w.heap.size, by simp [updV], two_strs w _ _ T⟩, fun e => ?_⟩
  obtain ⟨g, hx, hs⟩ := h.s2 (by simpa [setL] using e)
  exact ⟨g, by simp [updV, hx], hs.below hb⟩
theorem ClS.new2 {W : World} {N : ByteArray} {L : Nat → Bool} {x : Nat → Value} {w : World} (h : ClS W N L x w) (T : TypeId) : ClS W N (setL L 12) (updV x 12 (.slice (some ⟨w.heap.size, 0, none⟩) 2 2)) (w.alloc (.cells #[.string stepB, .string N] T)) := by
  have hb := below_alloc w (.cells #[.string stepB, .string N] T)
  refine ⟨h.bel.trans (hb.mono h.bel.size), fun e => ?_, fun _ => ⟨w.heap.size, by simp [updV], two_strs w _ _ T⟩⟩
  obtain ⟨g, hx, hs⟩ := h.s1 (by simpa [setL] using e)
  exact ⟨g, by simp [updV, hx], hs.below hb⟩
set_option maxRecDepth 100000 in
set_option maxHeartbeats 4000000 in
theorem claim26 (k : Nat → UInt8) (N : ByteArray) (V : Int) (hN : N.size ≤ 1000000) (m : Nat) (hm2 : 2 ≤ m) (hm : m ≤ 1048576) (w : World) (hi : Ini w) :
    Calls Tryd.prog 41 #[keyVal k, .agg #[.string N, .int .i64 V], .int .i64 (m : Int)] w fun e w' => e = .returned (.agg #[.int .i64 V, .int .i64 0, .int .i64 (firstN k N m : Nat), .int .i64 (stepN k N m : Nat)]) ∧ Below w.heap.size w w' := by
  have HI := Lib.hid hi
  have hs1 := hashN_is k (offB.data.toList ++ N.data.toList)
  have hs2 := hashN_is k (stepB.data.toList ++ N.data.toList)
  have hb1 := fun W => below15 (hashN k (offB.data.toList ++ N.data.toList)) m hs1.2 (by omega) (by omega) W
  have hb2 := fun W => below15 (hashN k (stepB.data.toList ++ N.data.toList)) (m - 1) hs2.2 (by omega) (by omega) W
  have hf : belowN (hashN k (offB.data.toList ++ N.data.toList)) m = ((firstN k N m : Nat) : Int) := rfl
  have hst : 1 + belowN (hashN k (stepB.data.toList ++ N.data.toList)) (m - 1) = ((stepN k N m : Nat) : Int) := by unfold stepN belowN; omega
  have hflt := firstN_lt k N (m := m) (by omega)
  have hslt := stepN_lt k N hm2
  rw [hf] at hb1
  obtain ⟨b2, hb2e⟩ : ∃ b2, belowN (hashN k (stepB.data.toList ++ N.data.toList)) (m - 1) = b2 := ⟨_, rfl⟩
  rw [hb2e] at hb2 hst
  have hS1 : ∀ (g : Nat) (W : World), Ini W → IsStrs W (some ⟨g, 0, none⟩) 2 [offB, N] → Calls Tryd.prog 61 #[keyVal k, .slice (some ⟨g, 0, none⟩) 2 2] W fun e w' => e = .returned (.int .u64 ((hashN k (offB.data.toList ++ N.data.toList) : Nat) : Int)) ∧ Below W.heap.size W w' := fun g W hI hx => by
    have := sum12 k _ 2 [offB, N] W hI hx (by simp) (by rw [flat_two]; have := Lib.size_eq N; simp [offB]; omega)
    rw [flat_two, hs1.1] at this
    exact this
  have hS2 : ∀ (g : Nat) (W : World), Ini W → IsStrs W (some ⟨g, 0, none⟩) 2 [stepB, N] → Calls Tryd.prog 61 #[keyVal k, .slice (some ⟨g, 0, none⟩) 2 2] W fun e w' => e = .returned (.int .u64 ((hashN k (stepB.data.toList ++ N.data.toList) : Nat) : Int)) ∧ Below W.heap.size W w' := fun g W hI hx => by
    have := sum12 k _ 2 [stepB, N] W hI hx (by simp) (by rw [flat_two]; have := Lib.size_eq N; simp [stepB]; omega)
    rw [flat_two, hs2.1] at this
    exact this
  have HS1 := Lib.hid hS1
  have HS2 := Lib.hid hS2
  have HB1 := Lib.hid hb1
  have HB2 := Lib.hid hb2
  have HFL := Lib.hid hflt
  have HST := Lib.hid hst
  generalize hashN k (offB.data.toList ++ N.data.toList) = h1 at *
  generalize hashN k (stepB.data.toList ++ N.data.toList) = h2 at *
  generalize firstN k N m = f1 at *
  generalize stepN k N m = s1 at *
  clear hS1 hS2 hb1 hb2 hf hs1 hs2 hb2e hi
  have hob : (⟨#[111, 102, 102, 115, 101, 116]⟩ : ByteArray) = offB := rfl
  have hsb : (⟨#[115, 116, 101, 112]⟩ : ByteArray) = stepB := rfl
  unfold keyVal at HS1 HS2 ⊢
  go_enter Tryd.func41, Tryd.ntmps41
  go_upto_region 1 with fail
  have r1 := ((Row.new w 26 #[.int .u8 (k 0).toNat, .int .u8 (k 1).toNat, .int .u8 (k 2).toNat, .int .u8 (k 3).toNat, .int .u8 (k 4).toNat, .int .u8 (k 5).toNat, .int .u8 (k 6).toNat, .int .u8 (k 7).toNat, .int .u8 (k 8).toNat, .int .u8 (k 9).toNat, .int .u8 (k 10).toNat, .int .u8 (k 11).toNat, .int .u8 (k 12).toNat, .int .u8 (k 13).toNat, .int .u8 (k 14).toNat, .int .u8 (k 15).toNat]).alloc (.cells #[.string N, .int .i64 V] 72)).alloc (.cells #[.int .i64 0, .int .i64 0, .int .i64 0, .int .i64 0] 81)
  have r2 := (Row.new (w.alloc (.cells #[.int .u8 (k 0).toNat, .int .u8 (k 1).toNat, .int .u8 (k 2).toNat, .int .u8 (k 3).toNat, .int .u8 (k 4).toNat, .int .u8 (k 5).toNat, .int .u8 (k 6).toNat, .int .u8 (k 7).toNat, .int .u8 (k 8).toNat, .int .u8 (k 9).toNat, .int .u8 (k 10).toNat, .int .u8 (k 11).toNat, .int .u8 (k 12).toNat, .int .u8 (k 13).toNat, .int .u8 (k 14).toNat, .int .u8 (k 15).toNat] 26)) 72 #[.string N, .int .i64 V]).alloc (.cells #[.int .i64 0, .int .i64 0, .int .i64 0, .int .i64 0] 81)
  have r3 := Row.new ((w.alloc (.cells #[.int .u8 (k 0).toNat, .int .u8 (k 1).toNat, .int .u8 (k 2).toNat, .int .u8 (k 3).toNat, .int .u8 (k 4).toNat, .int .u8 (k 5).toNat, .int .u8 (k 6).toNat, .int .u8 (k 7).toNat, .int .u8 (k 8).toNat, .int .u8 (k 9).toNat, .int .u8 (k 10).toNat, .int .u8 (k 11).toNat, .int .u8 (k 12).toNat, .int .u8 (k 13).toNat, .int .u8 (k 14).toNat, .int .u8 (k 15).toNat] 26)).alloc (.cells #[.string N, .int .i64 V] 72)) 81 #[.int .i64 0, .int .i64 0, .int .i64 0, .int .i64 0]
  have hb0 : Below w.heap.size w (((w.alloc (.cells #[.int .u8 (k 0).toNat, .int .u8 (k 1).toNat, .int .u8 (k 2).toNat, .int .u8 (k 3).toNat, .int .u8 (k 4).toNat, .int .u8 (k 5).toNat, .int .u8 (k 6).toNat, .int .u8 (k 7).toNat, .int .u8 (k 8).toNat, .int .u8 (k 9).toNat, .int .u8 (k 10).toNat, .int .u8 (k 11).toNat, .int .u8 (k 12).toNat, .int .u8 (k 13).toNat, .int .u8 (k 14).toNat, .int .u8 (k 15).toNat] 26)).alloc (.cells #[.string N, .int .i64 V] 72)).alloc (.cells #[.int .i64 0, .int .i64 0, .int .i64 0, .int .i64 0] 81)) := (((Below.refl _ _).alloc (Nat.le_refl _) _).alloc (by simp) _).alloc (by simp; omega) _
  rw [World.size_alloc] at r2
  rw [World.size_alloc, World.size_alloc] at r3
  have HI3 := Lib.hid (HI.out.below hb0)
  have HB0 := Lib.hid hb0
  generalize ((w.alloc (.cells #[.int .u8 (k 0).toNat, .int .u8 (k 1).toNat, .int .u8 (k 2).toNat, .int .u8 (k 3).toNat, .int .u8 (k 4).toNat, .int .u8 (k 5).toNat, .int .u8 (k 6).toNat, .int .u8 (k 7).toNat, .int .u8 (k 8).toNat, .int .u8 (k 9).toNat, .int .u8 (k 10).toNat, .int .u8 (k 11).toNat, .int .u8 (k 12).toNat, .int .u8 (k 13).toNat, .int .u8 (k 14).toNat, .int .u8 (k 15).toNat] 26)).alloc (.cells #[.string N, .int .i64 V] 72)).alloc (.cells #[.int .i64 0, .int .i64 0, .int .i64 0, .int .i64 0] 81) = W3 at *
  obtain ⟨B, hB⟩ : ∃ B, B = w.heap.size := ⟨_, rfl⟩
  have HBE := Lib.hid hB
  rw [← hB] at r1 r2 r3 ⊢
  clear hB hb0 HI
  have hk1 : IsKey W3 B k := by
    intro i hi
    rw [r1.cell i]
    match i, hi with
    | 0, _ | 1, _ | 2, _ | 3, _ | 4, _ | 5, _ | 6, _ | 7, _ | 8, _ | 9, _ | 10, _ | 11, _ | 12, _ | 13, _ | 14, _ | 15, _ => rfl
    | j + 16, hi => exact absurd hi (by omega)
  have hlt1 := r1.lt
  have hlt2 := r2.lt
  have hlt3 := r3.lt
  have e0 := r2.cell 0
  have e1 := r2.cell 1
  simp only [List.getElem?_toArray, List.getElem?_cons_zero, List.getElem?_cons_succ] at e0 e1
  have R3 := Lib.hid r3
  have HK1 := Lib.hid hk1
  clear r1 r2 r3 hk1
  refine region_mixt 19 [some (.pointer (some ⟨B + 1, 1, none⟩)), some (.int .i64 V), some (.agg #[.int .u8 (k 0).toNat, .int .u8 (k 1).toNat, .int .u8 (k 2).toNat, .int .u8 (k 3).toNat, .int .u8 (k 4).toNat, .int .u8 (k 5).toNat, .int .u8 (k 6).toNat, .int .u8 (k 7).toNat, .int .u8 (k 8).toNat, .int .u8 (k 9).toNat, .int .u8 (k 10).toNat, .int .u8 (k 11).toNat, .int .u8 (k 12).toNat, .int .u8 (k 13).toNat, .int .u8 (k 14).toNat, .int .u8 (k 15).toNat]), some (.pointer (some ⟨B + 1, 0, none⟩)), some (.string N), none, some (.int .u64 (h1 : Int)), some (.int .i64 (m : Int)), some (.int .i64 (f1 : Int)), some (.agg #[.int .u8 (k 0).toNat, .int .u8 (k 1).toNat, .int .u8 (k 2).toNat, .int .u8 (k 3).toNat, .int .u8 (k 4).toNat, .int .u8 (k 5).toNat, .int .u8 (k 6).toNat, .int .u8 (k 7).toNat, .int .u8 (k 8).toNat, .int .u8 (k 9).toNat, .int .u8 (k 10).toNat, .int .u8 (k 11).toNat, .int .u8 (k 12).toNat, .int .u8 (k 13).toNat, .int .u8 (k 14).toNat, .int .u8 (k 15).toNat]), some (.pointer (some ⟨B + 1, 0, none⟩)), some (.string N), none, some (.int .u64 (h2 : Int)), some (.int .i64 (m : Int)), some (.int .i64 ((m - 1 : Nat) : Int)), some (.int .i64 b2), some (.int .i64 (s1 : Int)), some (.agg #[.int .i64 V, .int .i64 0, .int .i64 (f1 : Int), .int .i64 (s1 : Int)])]
    [[false, false, false, false, false, false, false, false, false, false, false, false, false, false, false, false, false, false, false], [true, false, false, false, false, false, false, false, false, false, false, false, false, false, false, false, false, false, false], [false, false, false, false, false, false, false, false, false, false, false, false, false, false, false, false, false, false, false], [false, false, false, false, false, false, false, false, false, false, false, false, false, false, false, false, false, false, false], [false, false, false, true, false, false, false, false, false, false, false, false, false, false, false, false, false, false, false], [false, false, false, false, true, false, false, false, false, false, false, false, false, false, false, false, false, false, false], [false, false, true, false, false, true, false, false, false, false, false, false, false, false, false, false, false, false, false], [false, false, false, false, false, false, false, false, false, false, false, false, false, false, false, false, false, false, false], [false, false, false, false, false, false, true, true, false, false, false, false, false, false, false, false, false, false, false], [false, false, false, false, false, false, false, false, false, false, false, false, false, false, false, false, false, false, false], [false, false, false, false, false, false, false, false, false, false, false, false, false, false, false, false, false, false, false], [false, false, false, false, false, false, false, false, false, false, true, false, false, false, false, false, false, false, false], [false, false, false, false, false, false, false, false, false, false, false, true, false, false, false, false, false, false, false], [false, false, false, false, false, false, false, false, true, true, false, false, true, false, false, false, false, false, false], [false, false, false, false, false, false, false, false, false, false, false, false, false, false, false, false, false, false, false], [false, false, false, false, false, false, false, false, false, false, false, false, false, false, true, false, false, false, false], [false, false, false, false, false, false, false, false, false, false, false, false, false, true, false, true, false, false, false], [false, false, false, false, false, false, false, false, false, false, false, false, false, false, false, false, true, false, false], [false, true, false, false, false, false, false, false, true, false, false, false, false, false, false, false, false, true, false]]
    (fun LL xx w9 => ClS W3 N LL xx w9)
    (by kernel_rfl) (by kernel_rfl) (by kernel_rfl) (by kernel_rfl) (by kernel_rfl) (by decide) ?_ ?_ ?_
  · intro x
    exact ⟨⟨rfl, rfl, rfl, Nat.le_refl _, fun _ _ => rfl⟩, (fun h => by cases h), (fun h => by cases h)⟩
  · simp only [List.take_succ_cons, List.take_zero]
    refine ⟨?_, ?_, ?_, ?_, ?_, ?_, ?_, ?_, ?_, ?_, ?_, ?_, ?_, ?_, ?_, ?_, ?_, ?_, ?_, trivial⟩
    all_goals
      intro L x w9 hS hl hp K9 hK9
      have hs : ClS W3 N L x w9 := hS
      clear hS
      replace hK9 := hK9.out
      simp only [actMix, pickV, List.tail_cons, List.headD_cons, Act.put, List.setIfInBounds_toArray, List.set_cons_zero, List.set_cons_succ] at hK9 ⊢
    · clear hp
      go_simp
      with_reducible refine hK9 _ ?_
      exact hs.keep 0 (by decide) (by decide) _ (Below.refl _ _)
    · have q1 : w9.cell? ⟨B + 1, 1, none⟩ = some (.int .i64 V) := by rw [(bcell hs.bel).1 _ _ hlt2]; exact e1
      clear hp
      go_simp
      with_reducible refine hK9 _ ?_
      exact hs.keep 1 (by decide) (by decide) _ (Below.refl _ _)
    · have hkk := HK1.out.below hs.bel hlt1
      clear hp
      rw [if_pos (by rfl)]
      refine wp_load_mid 26 _ rfl B 0 rfl [.int .u8 (k 0).toNat, .int .u8 (k 1).toNat, .int .u8 (k 2).toNat, .int .u8 (k 3).toNat, .int .u8 (k 4).toNat, .int .u8 (k 5).toNat, .int .u8 (k 6).toNat, .int .u8 (k 7).toNat, .int .u8 (k 8).toNat, .int .u8 (k 9).toNat, .int .u8 (k 10).toNat, .int .u8 (k 11).toNat, .int .u8 (k 12).toNat, .int .u8 (k 13).toNat, .int .u8 (k 14).toNat, .int .u8 (k 15).toNat] _ (key_range hkk) Tryd.underlying26 rfl (by kernel_rfl) ?_
      simp only [Act.put, List.setIfInBounds_toArray, List.set_cons_zero, List.set_cons_succ]
      with_reducible refine hK9 _ ?_
      exact hs.keep 2 (by decide) (by decide) _ (Below.refl _ _)
    · clear hp
      go_simp
      with_reducible refine hK9 _ ?_
      exact hs.keep 3 (by decide) (by decide) _ (Below.refl _ _)
    · have q1 : w9.cell? ⟨B + 1, 0, none⟩ = some (.string N) := by rw [(bcell hs.bel).1 _ _ hlt2]; exact e0
      clear hp
      go_simp
      with_reducible refine hK9 _ ?_
      exact hs.keep 4 (by decide) (by decide) _ (Below.refl _ _)
    · clear hp
      go_simp
      with_reducible refine hK9 _ _ ?_
      exact hs.new1 _
    · have hL : L 5 = true := allL_mem hp 5 (by decide +kernel)
      obtain ⟨g, hx, hst⟩ := hs.s1 hL
      clear hp
      rw [hx] at hK9 ⊢
      go_simp
      refine (HS1.out g w9 (HI3.out.below hs.bel) hst).mono ?_
      rintro e9 w8 ⟨rfl, hb8⟩
      with_reducible refine hK9 _ ?_
      exact hs.keep 6 (by decide) (by decide) _ hb8
    · clear hp
      go_simp
      with_reducible refine hK9 _ ?_
      exact hs.keep 7 (by decide) (by decide) _ (Below.refl _ _)
    · clear hp
      go_simp
      refine (HB1.out w9).mono ?_
      rintro e9 w8 ⟨rfl, hw8⟩
      subst hw8
      with_reducible refine hK9 _ ?_
      exact hs.keep 8 (by decide) (by decide) _ (Below.refl _ _)
    · have hkk := HK1.out.below hs.bel hlt1
      clear hp
      rw [if_pos (by rfl)]
      refine wp_load_mid 26 _ rfl B 0 rfl [.int .u8 (k 0).toNat, .int .u8 (k 1).toNat, .int .u8 (k 2).toNat, .int .u8 (k 3).toNat, .int .u8 (k 4).toNat, .int .u8 (k 5).toNat, .int .u8 (k 6).toNat, .int .u8 (k 7).toNat, .int .u8 (k 8).toNat, .int .u8 (k 9).toNat, .int .u8 (k 10).toNat, .int .u8 (k 11).toNat, .int .u8 (k 12).toNat, .int .u8 (k 13).toNat, .int .u8 (k 14).toNat, .int .u8 (k 15).toNat] _ (key_range hkk) Tryd.underlying26 rfl (by kernel_rfl) ?_
      simp only [Act.put, List.setIfInBounds_toArray, List.set_cons_zero, List.set_cons_succ]
      with_reducible refine hK9 _ ?_
      exact hs.keep 9 (by decide) (by decide) _ (Below.refl _ _)
    · clear hp
      go_simp
      with_reducible refine hK9 _ ?_
      exact hs.keep 10 (by decide) (by decide) _ (Below.refl _ _)
    · have q1 : w9.cell? ⟨B + 1, 0, none⟩ = some (.string N) := by rw [(bcell hs.bel).1 _ _ hlt2]; exact e0
      clear hp
      go_simp
      with_reducible refine hK9 _ ?_
      exact hs.keep 11 (by decide) (by decide) _ (Below.refl _ _)
    · clear hp
      go_simp
      with_reducible refine hK9 _ _ ?_
      exact hs.new2 _
    · have hL : L 12 = true := allL_mem hp 12 (by decide +kernel)
      obtain ⟨g, hx, hst⟩ := hs.s2 hL
      clear hp
      rw [hx] at hK9 ⊢
      go_simp
      refine (HS2.out g w9 (HI3.out.below hs.bel) hst).mono ?_
      rintro e9 w8 ⟨rfl, hb8⟩
      with_reducible refine hK9 _ ?_
      exact hs.keep 13 (by decide) (by decide) _ hb8
    · clear hp
      go_simp
      with_reducible refine hK9 _ ?_
      exact hs.keep 14 (by decide) (by decide) _ (Below.refl _ _)
    · have hm1 : IntKind.i64.wrap ((m : Int) - 1) = ((m - 1 : Nat) : Int) := wrapM m (by omega) (by omega)
      clear hp
      go_simp
      with_reducible refine hK9 _ ?_
      exact hs.keep 15 (by decide) (by decide) _ (Below.refl _ _)
    · clear hp
      go_simp
      refine (HB2.out w9).mono ?_
      rintro e9 w8 ⟨rfl, hw8⟩
      subst hw8
      with_reducible refine hK9 _ ?_
      exact hs.keep 16 (by decide) (by decide) _ (Below.refl _ _)
    · have hm1 : IntKind.i64.wrap (s1 : Int) = (s1 : Int) := wrap_i64_small s1 (by omega)
      clear hp
      go_simp
      with_reducible refine hK9 _ ?_
      exact hs.keep 17 (by decide) (by decide) _ (Below.refl _ _)
    · clear hp
      go_simp
      with_reducible refine hK9 _ ?_
      exact hs.keep 18 (by decide) (by decide) _ (Below.refl _ _)
  intro L x w9 hS hL
  have hs : ClS W3 N L x w9 := hS
  obtain ⟨g5, hx5, _⟩ := hs.s1 (hL 5 (by decide))
  obtain ⟨g12, hx12, _⟩ := hs.s2 (hL 12 (by decide))
  have R9 := R3.out.below hs.bel
  have HB9 := Lib.hid (HB0.out.trans (hs.bel.mono HB0.out.size))
  clear hS hs hL
  simp only [actMix, pickV, List.tail_cons, List.headD_cons, Act.put, List.setIfInBounds_toArray, List.set_cons_zero, List.set_cons_succ, List.replicate_succ, List.replicate_zero, List.drop_succ_cons, List.drop_zero, List.take_succ_cons, List.take_zero]
  rw [hx5, hx12]
  clear hx5 hx12
  have c0 := R9.cell 0
  have c1 := R9.cell 1
  have c2 := R9.cell 2
  have c3 := R9.cell 3
  simp only [List.getElem?_toArray, List.getElem?_cons_zero, List.getElem?_cons_succ] at c0 c1 c2 c3
  have f0 := R9.free 0
  have f1' := R9.free 1
  have f2 := R9.free 2
  have f3 := R9.free 3
  have RF := (((R9.put 0 (.int .i64 V)).put 1 (.int .i64 0)).put 2 (.int .i64 (f1 : Int))).put 3 (.int .i64 (s1 : Int))
  have d0 := RF.cell 0
  have d1 := RF.cell 1
  have d2 := RF.cell 2
  have d3 := RF.cell 3
  simp at d0 d1 d2 d3
  have D0 := Lib.hid d0
  have D1 := Lib.hid d1
  have D2 := Lib.hid d2
  have D3 := Lib.hid d3
  have HBF : Hid (Below w.heap.size w ((((w9.setCell ⟨B + 1 + 1, 0, none⟩ (.int .i64 V)).setCell ⟨B + 1 + 1, 1, none⟩ (.int .i64 0)).setCell ⟨B + 1 + 1, 2, none⟩ (.int .i64 (f1 : Int))).setCell ⟨B + 1 + 1, 3, none⟩ (.int .i64 (s1 : Int)))) := by
    have hle : w.heap.size ≤ B + 1 + 1 := by rw [HBE.out]; omega
    exact (((HB9.out.setCell (p := ⟨B + 1 + 1, 0, none⟩) hle _).setCell (p := ⟨B + 1 + 1, 1, none⟩) hle _).setCell (p := ⟨B + 1 + 1, 2, none⟩) hle _).setCell (p := ⟨B + 1 + 1, 3, none⟩) hle _
  clear R9 RF d0 d1 d2 d3
  go_wp2_with fail
  refine bodyPost_ret (v := .agg #[.int .i64 V, .int .i64 0, .int .i64 (f1 : Int), .int .i64 (s1 : Int)]) ?_ rfl ⟨rfl, HBF.out⟩
  simp [results, Tryd.results41, go_sem, D0.out, D1.out, D2.out, D3.out]
end Go.Proofs.YtlcpkplipfcdaaaDoor
