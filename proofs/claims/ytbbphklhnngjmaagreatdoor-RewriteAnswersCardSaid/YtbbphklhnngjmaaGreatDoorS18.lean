/- Packed: RsF, RsG, RLn, PrM, PbT, RwF, RwG. -/
import Derived.Test.YtbbphklhnngjmaaGreatDoorS08
import Derived.Test.YtbbphklhnngjmaaGreatDoorS09
import Derived.Test.YtbbphklhnngjmaaGreatDoorS12
import Derived.Test.YtbbphklhnngjmaaGreatDoorS13
import Derived.Test.YtbbphklhnngjmaaGreatDoorS14
import Derived.Test.YtbbphklhnngjmaaGreatDoorS16
import Derived.Test.YtbbphklhnngjmaaGreatDoorShelf
import Derived.Test.YtbbphklhnngjmaaGreatDoorShelfD
/- response: New, Done, Message, framing.Persists, Persists. -/
namespace Go.Proofs.YtbbphklhnngjmaaGreatDoor.R
open Go.RowKit

/-- A new parser's cells. -/
def psNew (l h c b : Int) (mt : List UInt8) : Array Value := heCells (max l 0) (max h 0) (max c 0) b 0 ⟨#[]⟩ (.slice none 0 0) 0 (.slice none 0 0) false 0 (psR mt 0 [] 0 0 (.slice none 0 0) false false)
set_option maxRecDepth 100000 in
set_option maxHeartbeats 2000000 in
theorem new30 (l h c b : Int) (mt : List UInt8) (w : World) :
    Calls Tryz.prog 30 #[.agg #[.int .i64 l, .int .i64 h, .int .i64 c, .int .i64 b], .string (bs mt)] w fun x w' => ∃ g, x = .returned (.pointer (some ⟨g, 0, none⟩)) ∧ w.heap.size ≤ g ∧ Row w' g 114 (psNew l h c b mt) ∧ Below w.heap.size w w' := by
  have L0 := below_alloc w (.cells #[.int .i64 l, .int .i64 h, .int .i64 c, .int .i64 b] 57)
  have HL0 := Lib.hid L0
  clear L0
  go_enter Tryz.func30, Tryz.ntmps30
  go_wp2_with fail
  with_reducible refine (newhead7x l h c b _).mono ?_
  rintro e w1 ⟨g1, rfl, hg1, hr, hb⟩
  have hc : ∀ i, w1.cell? ⟨g1, i, none⟩ = (YtbbphklhnngjmaaGreatDoor.heL (max l 0) (max h 0) (max c 0) b 0 ⟨#[]⟩ (.slice none 0 0) 0 (.slice none 0 0) false 0 [])[i]? := fun i => by
    rw [hr.cell i]; unfold YtbbphklhnngjmaaGreatDoor.heCells; rw [List.getElem?_toArray]
  have c0 := hc 0
  have c1 := hc 1
  have c2 := hc 2
  have c3 := hc 3
  have c4 := hc 4
  have c5 := hc 5
  have c6 := hc 6
  have c7 := hc 7
  have c8 := hc 8
  have c9 := hc 9
  have c10 := hc 10
  simp only [YtbbphklhnngjmaaGreatDoor.heL, List.getElem?_cons_zero, List.getElem?_cons_succ] at c0 c1 c2 c3 c4 c5 c6 c7 c8 c9 c10
  have hb2 := HL0.out.trans (hb.mono HL0.out.size)
  have HB := Lib.hid hb2
  clear hc hr hb hb2 hg1
  go_wp2_with fail
  go_ret
  exact ⟨w1.heap.size, rfl, HB.out.size, Row.new w1 114 _, HB.out.alloc HB.out.size _⟩
/-- A new parser stands at the machine's begin. -/
theorem psNew_S {w : World} {g : Nat} (l h c b : Int) (mt : List UInt8) (hr : Row w g 114 (psNew l h c b mt)) (G : Nat → Prop) (hg : G g) : HeS G 114 (psR mt 0 [] 0 0 (.slice none 0 0) false false) w g ⟨l, h, c⟩ b hd0 := by
  unfold psNew at hr
  rw [Int.max_comm l, Int.max_comm h, Int.max_comm c] at hr
  exact ⟨_, _, _, _, _, _, _, _, _, _, _, .line0 [] false, .slice none 0 0, .slice none 0 0, hr, by decide, by decide, hg, nil_flds _, nil_byt _, (fun j h => by cases h), (fun j h => by cases h)⟩
section
variable (G : Nat → Prop) (g : Nat) (M : HdL) (b : Int) (σ : HdS) (mt : List UInt8) (c : Int) (r : List UInt8) (k n : Int) (ba : Option Addr) (bc : Nat) (bd : List UInt8)
theorem done32 (bv : Value) (bg dn : Bool) (w : World) (h : HeS G 114 (psR mt c r k n bv bg dn) w g M b σ) :
    Calls Tryz.prog 32 #[.pointer (some ⟨g, 0, none⟩)] w fun x w' => x = .returned (.bool dn) ∧ w = w' := by
  have c := h.cellR 9
  simp only [psR, List.tail_cons, List.getElem?_cons_zero, List.getElem?_cons_succ, Nat.reduceAdd] at c
  go_enter Tryz.func32, Tryz.ntmps32
  go_wp2_with fail
  go_ret
  exact ⟨rfl, rfl⟩
end
theorem persists71 (a : Option Addr) (c : Nat) (fs : List Fld) (hfl : fs.length ≤ 1000000) (hok : ∀ f ∈ fs, FldOk f) (hsum : sumS (allB ⟨#[67, 111, 110, 110, 101, 99, 116, 105, 111, 110]⟩ fs) ≤ 1000000000) (q : Bool) (hq : Lib.containsS (bsOf (tokF ⟨#[67, 111, 110, 110, 101, 99, 116, 105, 111, 110]⟩ fs)) ⟨#[99, 108, 111, 115, 101]⟩ = q) (hsm : (tokF ⟨#[67, 111, 110, 110, 101, 99, 116, 105, 111, 110]⟩ fs).length ≤ 1000000) (w : World) (hM : MaxL w) (hf : IsFlds w a c fs) :
    Calls Tryz.prog 71 #[.slice a fs.length c] w fun x w' => x = .returned (.bool (!q)) ∧ Below w.heap.size w w' := by
  have HT := Lib.hid (tokens52s a c fs ⟨#[67, 111, 110, 110, 101, 99, 116, 105, 111, 110]⟩ hfl hok hsum w hM hf)
  obtain ⟨T, hT⟩ : ∃ T, T = bsOf (tokF ⟨#[67, 111, 110, 110, 101, 99, 116, 105, 111, 110]⟩ fs) := ⟨_, rfl⟩
  have hTl : T.length ≤ 1000000 := by rw [hT, bsOf_length]; exact hsm
  rw [← hT] at HT hq
  clear hT hf hM hok hfl hsum hsm
  go_enter Tryz.func71, Tryz.ntmps71
  go_wp2_with fail
  with_reducible refine HT.out.mono ?_
  rintro e w1 ⟨b1, d1, rfl, hs, hb⟩
  have HB := Lib.hid hb
  have HC : Hid (Calls Tryz.prog 99 #[.slice b1 T.length d1, .string ⟨#[99, 108, 111, 115, 101]⟩] w1 fun e w' => e = .returned (.bool q) ∧ w' = w1) := by
    rcases hs with hs0 | ⟨bk, o, rfl, hbk, hcc, hcell⟩
    · subst hs0
      have := Tryz.slices_Contains_string_empty b1 d1 ⟨#[99, 108, 111, 115, 101]⟩ w1
      refine this.mono ?_
      rintro e w' ⟨rfl, rfl⟩
      exact ⟨by rw [← hq]; rfl, rfl⟩
    · have := Tryz.slices_Contains_string bk o T.length d1 T ⟨#[99, 108, 111, 115, 101]⟩ w1 (Nat.le_refl _) (by omega) (fun j hj => by
        have := hcell j T[j] (by rw [List.getElem?_eq_getElem hj])
        rw [this, List.getD_eq_getElem?_getD, List.getElem?_eq_getElem hj]
        rfl)
      rw [List.take_length, hq] at this
      exact this
  clear hs hb HT
  go_wp2_with fail
  with_reducible refine HC.out.mono ?_
  rintro e w' ⟨rfl, rfl⟩
  go_wp2_with fail
  go_ret
  exact ⟨rfl, HB.out⟩
end Go.Proofs.YtbbphklhnngjmaaGreatDoor.R

/- response: Message, Persists. -/
namespace Go.Proofs.YtbbphklhnngjmaaGreatDoor.R
open Go.RowKit

set_option maxRecDepth 100000 in
set_option maxHeartbeats 4000000 in
theorem message33 (G : Nat → Prop) (g : Nat) (M : HdL) (b : Int) (σ : HdS) (mt : List UInt8) (cd : Int) (r : List UInt8) (k n : Int) (ba : Option Addr) (bc : Nat) (bd : List UInt8) (fs : List Fld) (hfs : σ.fldsOf = fs) (hfl : fs.length ≤ 1000000000)
    (w : World) (h : HeS G 114 (psR mt cd r k n (.slice ba bd.length bc) true true) w g M b σ) (hbo : w.ownsRow 0 5 1 (.slice ba bd.length bc) bd.length (byteVals bd)) :
    Calls Tryz.prog 33 #[.pointer (some ⟨g, 0, none⟩)] w fun x w' => ∃ a c, x = .returned (.agg #[.int .i64 cd, .string (bs r), .slice a fs.length c, .string (bs bd), .int .i64 k]) ∧ (∀ ad, a = some ad → w.heap.size ≤ ad.block) ∧ IsFlds w' a c fs ∧ Below w.heap.size w w' := by
  have HFL := Lib.hid (fun W hw => hfields15b (fun j => G j ∧ j < w.heap.size) 114 (psR mt cd r k n (.slice ba bd.length bc) true true) g M b σ (by rw [hfs]; exact hfl) W hw)
  rw [hfs] at HFL
  have k12 := h.cellR 0
  have k13 := h.cellR 1
  have k14 := h.cellR 2
  have k15 := h.cellR 3
  have k16 := h.cellR 4
  have k21 := h.cellR 9
  simp only [psR, List.tail_cons, List.getElem?_cons_zero, List.getElem?_cons_succ, Nat.reduceAdd] at k12 k13 k14 k15 k16 k21
  have hlt := h.lt
  have HD := Lib.hid h.less
  have HO := Lib.hid hbo
  clear h hbo hfs
  obtain ⟨R, hR⟩ : ∃ R, R = bs r := ⟨_, rfl⟩
  rw [← hR] at k13
  rw [← hR]
  have HRR := Lib.hid hR
  obtain ⟨X, hX⟩ : ∃ X, X = bs bd := ⟨_, rfl⟩
  rw [← hX]
  have HX := Lib.hid hX
  clear hR hX
  go_enter Tryz.func33, Tryz.ntmps33
  go_upto_region 4 with fail
  clear k12 k13 k14 k15 k16 k21
  have R0 := (Row.new w 33 #[.int .i64 0, .string ⟨#[]⟩, .slice none 0 0, .string ⟨#[]⟩, .int .i64 0]).alloc (.cells #[.int .i64 cd, .string R, .slice none 0 0, .string ⟨#[]⟩, .int .i64 k] 33)
  have R1 := Row.new (w.alloc (.cells #[.int .i64 0, .string ⟨#[]⟩, .slice none 0 0, .string ⟨#[]⟩, .int .i64 0] 33)) 33 #[.int .i64 cd, .string R, .slice none 0 0, .string ⟨#[]⟩, .int .i64 k]
  rw [show (w.alloc (.cells #[.int .i64 0, .string ⟨#[]⟩, .slice none 0 0, .string ⟨#[]⟩, .int .i64 0] 33)).heap.size = w.heap.size + 1 by simp] at R1
  have L1 := (below_alloc w (.cells #[.int .i64 0, .string ⟨#[]⟩, .slice none 0 0, .string ⟨#[]⟩, .int .i64 0] 33)).alloc (by simp) (.cells #[.int .i64 cd, .string R, .slice none 0 0, .string ⟨#[]⟩, .int .i64 k] 33)
  have hsz1 : ((w.alloc (.cells #[.int .i64 0, .string ⟨#[]⟩, .slice none 0 0, .string ⟨#[]⟩, .int .i64 0] 33)).alloc (.cells #[.int .i64 cd, .string R, .slice none 0 0, .string ⟨#[]⟩, .int .i64 k] 33)).heap.size = w.heap.size + 2 := by simp
  generalize (w.alloc (.cells #[.int .i64 0, .string ⟨#[]⟩, .slice none 0 0, .string ⟨#[]⟩, .int .i64 0] 33)).alloc (.cells #[.int .i64 cd, .string R, .slice none 0 0, .string ⟨#[]⟩, .int .i64 k] 33) = w1 at *
  have D1 := Lib.hid (HD.out.below L1)
  have B1 := Lib.hid L1
  obtain ⟨b0, hb0⟩ : ∃ b0, b0 = w.heap.size := ⟨_, rfl⟩
  obtain ⟨b1, hb1⟩ : ∃ b1, b1 = w.heap.size + 1 := ⟨_, rfl⟩
  rw [← hb0] at R0
  rw [← hb1] at R1
  have n0 : ¬ b0 = g := by omega
  have n1 : ¬ b1 = g := by omega
  have n2 : ¬ b0 = b1 := by omega
  have n3 : ¬ b1 = b0 := by omega
  have HB0 : Hid (w.heap.size ≤ b0) := Nat.le_of_eq hb0.symm
  have HB1 : Hid (w.heap.size ≤ b1) := by show _ ≤ _; omega
  have HB2 : Hid (b1 < w1.heap.size) := by show _ < _; omega
  have HB3 : Hid (b0 < w1.heap.size) := by show _ < _; omega
  rw [← hb1, ← hb0]
  have RR0 := Lib.hid R0
  have RR1 := Lib.hid R1
  have HO1 := Lib.hid (own_below HO.out L1)
  clear L1 HD hb0 hb1 hlt R0 R1 hsz1
  go_wp2_with fail
  with_reducible refine (HFL.out w1 D1.out).mono ?_
  rintro e w2 ⟨a, c, rfl, hlt2, hf2, hb2⟩
  have RR0' := Lib.hid (RR0.out.below hb2)
  have R1' := RR1.out.below hb2
  have f2 := R1'.free 2
  have q2 : w2.cell? ⟨b1, 2, none⟩ = some (.slice none 0 0) := R1'.cell 2
  have RR1' := Lib.hid R1'
  have D2 := Lib.hid (D1.out.below hb2)
  have F2 := Lib.hid hf2
  have HLT := Lib.hid hlt2
  have O2 := Lib.hid (own_below HO1.out hb2)
  have B2 := Lib.hid (B1.out.trans (hb2.mono B1.out.size))
  obtain ⟨nf, hnf⟩ : ∃ nf, nf = fs.length := ⟨_, rfl⟩
  rw [← hnf]
  have HNF := Lib.hid hnf
  clear hb2 hf2 hlt2 R1' hnf D1 B1 RR0 RR1 HO1 HFL HO
  go_upto_region 5 with fail
  have hk3 : Keep (fun j => j = b1) w2 (w2.setCell ⟨b1, 2, none⟩ (.slice a nf c)) := Keep.setCell (G := fun j => j = b1) w2 (p := ⟨b1, 2, none⟩) rfl _
  have S0 : Row (w2.setCell ⟨b1, 2, none⟩ (.slice a nf c)) b0 33 #[.int .i64 0, .string ⟨#[]⟩, .slice none 0 0, .string ⟨#[]⟩, .int .i64 0] := RR0'.out.far n2 _
  have S1 : Row (w2.setCell ⟨b1, 2, none⟩ (.slice a nf c)) b1 33 #[.int .i64 cd, .string R, .slice a nf c, .string ⟨#[]⟩, .int .i64 k] := RR1'.out.put 2 _
  have D3 := D2.out.keep hk3 (fun j hj e => by have := HB1.out; have := hj.2; omega)
  have O3 := own_set (i := 2) O2.out RR1'.out (by decide) (.slice a nf c)
  have F3 := isFlds_keepR F2.out hk3 (fun ad had e => by have := (HLT.out ad had).1; have := HB2.out; omega)
  have K3 : Keep (fun j => w.heap.size ≤ j) w (w2.setCell ⟨b1, 2, none⟩ (.slice a nf c)) := (Keep.of_below B2.out).trans (hk3.more (fun j _ hj => by rw [hj]; exact HB1.out))
  clear hk3 f2 q2 RR0' RR1' D2 F2 O2 B2
  generalize w2.setCell ⟨b1, 2, none⟩ (.slice a nf c) = w3 at *
  have hcv : (convert 101 9 (.slice ba bd.length bc)).run Tryz.prog w3 = .ok (.string (bs bd)) w3 := own_string _ 0 _ _ O3
  rw [← HX.out] at hcv
  have k18 := D3.cellR 6
  have k19 := D3.cellR 7
  simp only [psR, List.tail_cons, List.getElem?_cons_zero, List.getElem?_cons_succ, Nat.reduceAdd] at k18 k19
  have z0 := S0.free 0
  have z1 := S0.free 1
  have z2 := S0.free 2
  have z3 := S0.free 3
  have z4 := S0.free 4
  have y3 := S1.free 3
  have p0 : w3.cell? ⟨b0, 0, none⟩ = some (.int .i64 0) := S0.cell 0
  have p1 : w3.cell? ⟨b0, 1, none⟩ = some (.string ⟨#[]⟩) := S0.cell 1
  have p2 : w3.cell? ⟨b0, 2, none⟩ = some (.slice none 0 0) := S0.cell 2
  have p3 : w3.cell? ⟨b0, 3, none⟩ = some (.string ⟨#[]⟩) := S0.cell 3
  have p4 : w3.cell? ⟨b0, 4, none⟩ = some (.int .i64 0) := S0.cell 4
  have q0 : w3.cell? ⟨b1, 0, none⟩ = some (.int .i64 cd) := S1.cell 0
  have q1 : w3.cell? ⟨b1, 1, none⟩ = some (.string R) := S1.cell 1
  have q2 : w3.cell? ⟨b1, 2, none⟩ = some (.slice a nf c) := S1.cell 2
  have q3 : w3.cell? ⟨b1, 3, none⟩ = some (.string ⟨#[]⟩) := S1.cell 3
  have q4 : w3.cell? ⟨b1, 4, none⟩ = some (.int .i64 k) := S1.cell 4
  have FF := Lib.hid F3
  have KK := Lib.hid K3
  have KB0 : ∀ (v : World) (i : Nat) (u : Value), Keep (fun j => w.heap.size ≤ j) v (v.setCell ⟨b0, i, none⟩ u) := fun v i u => Keep.setCell (G := fun j => w.heap.size ≤ j) v (p := ⟨b0, i, none⟩) HB0.out u
  have KA0 : ∀ (v : World) (i : Nat) (u : Value), Keep (fun j => j = b0 ∨ j = b1) v (v.setCell ⟨b0, i, none⟩ u) := fun v i u => Keep.setCell (G := fun j => j = b0 ∨ j = b1) v (p := ⟨b0, i, none⟩) (.inl rfl) u
  have KA1 : Keep (fun j => j = b0 ∨ j = b1) w3 (w3.setCell ⟨b1, 3, none⟩ (.string X)) := Keep.setCell (G := fun j => j = b0 ∨ j = b1) w3 (p := ⟨b1, 3, none⟩) (.inr rfl) _
  have KC := Lib.hid (KA1.trans (((((KA0 _ 0 (.int .i64 cd)).trans (KA0 _ 1 (.string R))).trans (KA0 _ 2 (.slice a nf c))).trans (KA0 _ 3 (.string X))).trans (KA0 _ 4 (.int .i64 k))))
  clear S0 S1 D3 O3 F3 K3 KB0 KA0 KA1
  go_wp2_with fail
  refine bodyPost_ret (v := .agg #[.int .i64 cd, .string R, .slice a nf c, .string X, .int .i64 k]) (by simp [results, Tryz.results33, go_sem, p0, p1, p2, p3, p4]) rfl ⟨a, c, by rw [HNF.out], ?_, ?_, ?_⟩
  · intro ad had
    have := (HLT.out ad had).1
    have := HB3.out
    have := HB0.out
    omega
  · exact isFlds_keepR FF.out KC.out (fun ad had e => by
      have := (HLT.out ad had).1
      have := HB2.out
      have := HB3.out
      rcases e with e | e <;> omega)
  · refine Keep.bel (KK.out.trans (KC.out.more (fun j _ hj => ?_))) (fun j hj => hj) (Nat.le_refl _)
    rcases hj with rfl | rfl
    · exact HB0.out
    · exact HB1.out
set_option maxRecDepth 100000 in
set_option maxHeartbeats 2000000 in
theorem persists34 (G : Nat → Prop) (g : Nat) (M : HdL) (b : Int) (σ : HdS) (mt : List UInt8) (cd : Int) (r : List UInt8) (k n : Int) (hk3 : (k != 3) = true) (bv : Value) (fs : List Fld) (hfs : σ.fldsOf = fs) (hfl : fs.length ≤ 1000000) (hok : ∀ f ∈ fs, FldOk f) (hsum : sumS (allB ⟨#[67, 111, 110, 110, 101, 99, 116, 105, 111, 110]⟩ fs) ≤ 1000000000) (q : Bool) (hq : Lib.containsS (bsOf (tokF ⟨#[67, 111, 110, 110, 101, 99, 116, 105, 111, 110]⟩ fs)) ⟨#[99, 108, 111, 115, 101]⟩ = q) (hsm : (tokF ⟨#[67, 111, 110, 110, 101, 99, 116, 105, 111, 110]⟩ fs).length ≤ 1000000)
    (w : World) (hM : MaxL w) (h : HeS G 114 (psR mt cd r k n bv true true) w g M b σ) :
    Calls Tryz.prog 34 #[.pointer (some ⟨g, 0, none⟩)] w fun x w' => x = .returned (.bool (!q)) ∧ Below w.heap.size w w' := by
  have HFL := Lib.hid (fun W hw => hfields15b G 114 (psR mt cd r k n bv true true) g M b σ (by rw [hfs]; omega) W hw)
  rw [hfs] at HFL
  have HPE := Lib.hid (fun a c W hM hf => persists71 a c fs hfl hok hsum q hq hsm W hM hf)
  have k16 := h.cellR 4
  have k21 := h.cellR 9
  simp only [psR, List.tail_cons, List.getElem?_cons_zero, List.getElem?_cons_succ, Nat.reduceAdd] at k16 k21
  have HD := Lib.hid h
  have HM := Lib.hid hM
  clear h hfs hfl hok hsum hq hsm hM
  go_enter Tryz.func34, Tryz.ntmps34
  go_wp2_with fail
  with_reducible refine (HFL.out w HD.out).mono ?_
  rintro e w2 ⟨a, c, rfl, _, hf2, hb2⟩
  have F2 := Lib.hid hf2
  have B2 := Lib.hid hb2
  have M2 := Lib.hid (HM.out.below hb2)
  clear hf2 hb2 HFL HD
  go_wp2_with fail
  with_reducible refine (HPE.out a c w2 M2.out F2.out).mono ?_
  rintro e w3 ⟨rfl, hb3⟩
  have B3 := Lib.hid (B2.out.trans (hb3.mono B2.out.size))
  clear hb3 HPE
  go_wp2_with fail
  go_ret
  exact ⟨rfl, B3.out⟩
end Go.Proofs.YtbbphklhnngjmaaGreatDoor.R

/- request's reference: ReadLine. -/
namespace Go.Proofs.YtbbphklhnngjmaaGreatDoor
open Go.RowKit

def lnV (l : List UInt8) : LnR → Value
  | .part cur _ => .agg #[.string (bs cur), .int .i64 (l.length : Int), .bool false, .int .i64 0]
  | .whole s => .agg #[.string (bs s), .int .i64 ((s.length + 2 : Nat) : Int), .bool true, .int .i64 0]
  | .err e => .agg #[.string ⟨#[]⟩, .int .i64 0, .bool false, .int .i64 e]
theorem rl_end (most : Int) (cur : List UInt8) : rlGo most cur [] = .part cur false := rfl
theorem rl_lf (most : Int) (cur r : List UInt8) : rlGo most cur (10 :: r) = .err 2 := rfl
theorem rl_cr1 (most : Int) (cur : List UInt8) : rlGo most cur [13] = .part cur true := rfl
theorem rl_crlf (most : Int) (cur r : List UInt8) : rlGo most cur (13 :: 10 :: r) = .whole cur := rfl
theorem rl_crx (most : Int) (cur r : List UInt8) (d : UInt8) (h : d ≠ 10) : rlGo most cur (13 :: d :: r) = .err 2 := by
  show (if d = 10 then LnR.whole cur else .err 2) = _
  rw [if_neg h]
theorem rl_long (most : Int) (cur r : List UInt8) (c : UInt8) (h10 : c ≠ 10) (h13 : c ≠ 13) (h : most ≤ (cur.length : Int)) : rlGo most cur (c :: r) = .err 4 := by
  show (if c = 10 then LnR.err 2 else if c = 13 then _ else if most ≤ (cur.length : Int) then LnR.err 4 else rlGo most (cur ++ [c]) r) = _
  rw [if_neg h10, if_neg h13, if_pos h]
theorem rl_go (most : Int) (cur r : List UInt8) (c : UInt8) (h10 : c ≠ 10) (h13 : c ≠ 13) (h : ¬ most ≤ (cur.length : Int)) : rlGo most cur (c :: r) = rlGo most (cur ++ [c]) r := by
  show (if c = 10 then LnR.err 2 else if c = 13 then _ else if most ≤ (cur.length : Int) then LnR.err 4 else rlGo most (cur ++ [c]) r) = _
  rw [if_neg h10, if_neg h13, if_neg h]
end Go.Proofs.YtbbphklhnngjmaaGreatDoor

/- request: what a parser comes to over a request's text (lists). -/
namespace Go.Proofs.YtbbphklhnngjmaaGreatDoor
open Go.RowKit

def Clean (s : List UInt8) : Prop := (10 : UInt8) ∉ s ∧ (13 : UInt8) ∉ s
instance (s : List UInt8) : Decidable (Clean s) := inferInstanceAs (Decidable ((10 : UInt8) ∉ s ∧ (13 : UInt8) ∉ s))
theorem Clean.app {a b : List UInt8} (h : Clean a) (k : Clean b) : Clean (a ++ b) :=
  ⟨fun m => (List.mem_append.1 m).elim h.1 k.1, fun m => (List.mem_append.1 m).elim h.2 k.2⟩
theorem rl_clean (most : Int) (t : List UInt8) : ∀ (s cur : List UInt8), Clean s → rlGo most cur (s ++ 13 :: 10 :: t) = if s = [] ∨ ((cur.length + s.length : Nat) : Int) ≤ most then .whole (cur ++ s) else .err 4
  | [], cur, _ => by
    rw [if_pos (.inl rfl), List.nil_append, rl_crlf, List.append_nil]
  | c :: r, cur, h => by
    have h10 : c ≠ 10 := fun e => h.1 (by rw [e]; exact List.mem_cons_self ..)
    have h13 : c ≠ 13 := fun e => h.2 (by rw [e]; exact List.mem_cons_self ..)
    have hr : Clean r := ⟨fun m => h.1 (List.mem_cons_of_mem _ m), fun m => h.2 (List.mem_cons_of_mem _ m)⟩
    rw [List.cons_append]
    by_cases hm : most ≤ (cur.length : Int)
    · rw [rl_long _ _ _ _ h10 h13 hm, if_neg]
      rintro (e | e)
      · cases e
      · rw [List.length_cons] at e; omega
    · rw [rl_go _ _ _ _ h10 h13 hm, rl_clean most t r (cur ++ [c]) hr]
      have hl : (cur ++ [c]).length = cur.length + 1 := by simp
      have hl2 : (c :: r).length = r.length + 1 := rfl
      by_cases hc : ((cur.length + (c :: r).length : Nat) : Int) ≤ most
      · rw [if_pos (.inr (by rw [hl]; omega)), if_pos (.inr hc)]
        simp
      · rw [if_neg, if_neg]
        · rintro (e | e)
          · cases e
          · exact hc e
        · rintro (e | e)
          · subst e; exact hc (by rw [hl2]; simp; omega)
          · exact hc (by rw [hl] at e; rw [hl2]; omega)
theorem run_clean (M : HdL) (fo : Option (List UInt8)) (fs : List Fld) (sz : Nat) (s t : List UInt8) (hc : Clean s) : hRun M (.line fo fs sz [] false) (s ++ 13 :: 10 :: t) = if s = [] ∨ (s.length : Int) ≤ M.room fo sz then hRun M (M.close anyFirst fo fs sz s) t else .err 4 := by
  have h := rl_clean (M.room fo sz) t s [] hc
  rw [List.nil_append, List.length_nil, Nat.zero_add] at h
  by_cases hq : s = [] ∨ (s.length : Int) ≤ M.room fo sz
  · rw [if_pos hq]
    rw [if_pos hq] at h
    obtain ⟨t', e, h1, _⟩ := run_whole (may := anyFirst) (fs := fs) h
    have e2 : t = t' := by simpa using e
    rw [e2] at h1 ⊢
    exact h1
  · rw [if_neg hq]
    rw [if_neg hq] at h
    exact (run_line M anyFirst fo fs sz _ []).2.1 4 h
/-- A field that is read from how it is written. -/
def FOk (f : Fld) : Prop := parseL (f.1 ++ [58, 32] ++ f.2) = some f
theorem val10 : isVal 10 = false := by decide +kernel
theorem val13 : isVal 13 = false := by decide +kernel
theorem tok10 : isTok 10 = false := by decide +kernel
theorem tok13 : isTok 13 = false := by decide +kernel
theorem vis10 : isVis 10 = false := by decide +kernel
theorem vis13 : isVis 13 = false := by decide +kernel
theorem val_no {c : UInt8} (hc : isVal c = false) {n : List UInt8} (h : valB n = true) : c ∉ n := by
  intro hm
  unfold valB at h
  rw [Bool.and_eq_true] at h
  have := List.all_eq_true.1 h.2 c hm
  rw [hc] at this
  cases this
theorem fok_parts {f : Fld} (h : FOk f) : tokB f.1 = true ∧ valB f.2 = true := by
  unfold FOk parseL at h
  simp only at h
  split at h
  · rename_i hc
    injection h with h
    have e1 := congrArg Prod.fst h
    have e2 := congrArg Prod.snd h
    simp only at e1 e2
    rw [e1, e2] at hc
    exact hc.2
  · cases h
theorem fok_clean {f : Fld} (h : FOk f) : Clean (f.1 ++ [58, 32] ++ f.2) ∧ f.1 ++ [58, 32] ++ f.2 ≠ [] := by
  obtain ⟨h1, h2⟩ := fok_parts h
  refine ⟨Clean.app (Clean.app ⟨tok_no tok10 h1, tok_no tok13 h1⟩ (by decide)) ⟨val_no val10 h2, val_no val13 h2⟩, ?_⟩
  simp
theorem textL_cons (f : Fld) (r : List Fld) (t : List UInt8) : textL (f :: r) ++ t = (f.1 ++ [58, 32] ++ f.2) ++ 13 :: 10 :: (textL r ++ t) := by
  simp [textL, lineL]
theorem textL_len (f : Fld) (r : List Fld) : (textL (f :: r)).length = (f.1 ++ [58, 32] ++ f.2).length + 2 + (textL r).length := by
  have := congrArg List.length (textL_cons f r [])
  simp only [List.append_nil, List.length_append, List.length_cons, List.length_nil] at this ⊢
  omega
theorem hRun_err (M : HdL) (e : Int) (l : List UInt8) : hRun M (.err e) l = .err e := hdRun_err M anyFirst e l
theorem close_ok (M : HdL) (s : List UInt8) (gs : List Fld) (sz : Nat) (f : Fld) (hf : FOk f) (h1 : ((sz + (f.1 ++ [58, 32] ++ f.2).length + 2 : Nat) : Int) ≤ max 0 M.head) (h2 : ((gs.length + 1 : Nat) : Int) ≤ max 0 M.count) :
    M.close anyFirst (some s) gs sz (f.1 ++ [58, 32] ++ f.2) = .line (some s) (gs ++ [f]) (sz + (f.1 ++ [58, 32] ++ f.2).length + 2) [] false := by
  have hp : parseL (f.1 ++ [58, 32] ++ f.2) = some f := hf
  have hne := (fok_clean hf).2
  generalize f.1 ++ [58, 32] ++ f.2 = b at *
  simp only [HdL.close]
  rw [if_neg hne, if_neg (by rintro (h | h) <;> omega), hp]
theorem close_bad (M : HdL) (s : List UInt8) (gs : List Fld) (sz : Nat) (b : List UInt8) (hne : b ≠ []) (h : ¬ (((sz + b.length + 2 : Nat) : Int) ≤ max 0 M.head ∧ ((gs.length + 1 : Nat) : Int) ≤ max 0 M.count)) :
    M.close anyFirst (some s) gs sz b = .err 4 := by
  simp only [HdL.close]
  rw [if_neg hne, if_pos]
  by_cases h1 : ((sz + b.length + 2 : Nat) : Int) ≤ max 0 M.head
  · right
    have h2 : ¬ ((gs.length + 1 : Nat) : Int) ≤ max 0 M.count := fun k => h ⟨h1, k⟩
    omega
  · left; omega
theorem run_flds_ok (M : HdL) (s : List UInt8) : ∀ (FL gs : List Fld) (sz : Nat) (t : List UInt8), (∀ f ∈ FL, FOk f) → ((sz + (textL FL).length : Nat) : Int) ≤ max 0 M.head → ((gs.length + FL.length : Nat) : Int) ≤ max 0 M.count →
    hRun M (.line (some s) gs sz [] false) (textL FL ++ t) = hRun M (.line (some s) (gs ++ FL) (sz + (textL FL).length) [] false) t
  | [], gs, sz, t, _, _, _ => by
    have e : textL [] = [] := rfl
    rw [e, List.nil_append, List.append_nil]
    rfl
  | f :: r, gs, sz, t, hf, h1, h2 => by
    have hf0 := hf f (List.mem_cons_self ..)
    have hl := textL_len f r
    rw [List.length_cons] at h2
    rw [hl] at h1
    have hcl := close_ok M s gs sz f hf0 (by omega) (by omega)
    rw [textL_cons, run_clean _ _ _ _ _ _ (fok_clean hf0).1, if_pos (.inr (by show _ ≤ max 0 M.head - (sz : Int); omega)), hcl,
      run_flds_ok M s r (gs ++ [f]) _ t (fun g hg => hf g (List.mem_cons_of_mem _ hg)) (by omega) (by rw [List.length_append, List.length_singleton]; omega)]
    have e1 : gs ++ [f] ++ r = gs ++ f :: r := by simp
    have e2 : sz + (f.1 ++ [58, 32] ++ f.2).length + 2 + (textL r).length = sz + (textL (f :: r)).length := by omega
    rw [e1, e2]
theorem run_flds_bad (M : HdL) (s : List UInt8) : ∀ (FL gs : List Fld) (sz : Nat) (t : List UInt8), (∀ f ∈ FL, FOk f) → FL ≠ [] → ¬ (((sz + (textL FL).length : Nat) : Int) ≤ max 0 M.head ∧ ((gs.length + FL.length : Nat) : Int) ≤ max 0 M.count) →
    hRun M (.line (some s) gs sz [] false) (textL FL ++ t) = .err 4
  | [], _, _, _, _, hne, _ => absurd rfl hne
  | f :: r, gs, sz, t, hf, _, h => by
    have hf0 := hf f (List.mem_cons_self ..)
    have hl := textL_len f r
    rw [List.length_cons, hl] at h
    rw [textL_cons, run_clean _ _ _ _ _ _ (fok_clean hf0).1]
    by_cases hroom : ((f.1 ++ [58, 32] ++ f.2).length : Int) ≤ M.room (some s) sz
    · rw [if_pos (.inr hroom)]
      by_cases hfit : ((sz + (f.1 ++ [58, 32] ++ f.2).length + 2 : Nat) : Int) ≤ max 0 M.head ∧ ((gs.length + 1 : Nat) : Int) ≤ max 0 M.count
      · rw [close_ok M s gs sz f hf0 hfit.1 hfit.2]
        by_cases hr : r = []
        · subst hr
          have e : (textL ([] : List Fld)).length = 0 := rfl
          rw [e] at h
          exact absurd ⟨by have := hfit.1; omega, by have := hfit.2; simp; omega⟩ h
        · exact run_flds_bad M s r (gs ++ [f]) _ t (fun g hg => hf g (List.mem_cons_of_mem _ hg)) hr (fun k => h ⟨by have := k.1; omega, by have := k.2; rw [List.length_append, List.length_singleton] at this; omega⟩)
      · rw [close_bad M s gs sz _ (fok_clean hf0).2 hfit, hRun_err]
    · rw [if_neg]
      rintro (e | e)
      · exact (fok_clean hf0).2 e
      · exact hroom e
section
variable (M : HdL) (m t : List UInt8) (FL : List Fld)
def lnL : List UInt8 := m ++ 32 :: (t ++ sfxL)
theorem reqLine_ln : reqLine (m, t) = lnL m t ++ [13, 10] := by
  unfold reqLine lnL
  have : sfxL = 32 :: verL := rfl
  rw [this]
  simp
theorem ln_clean (hm : tokB m = true) (ht : tgtB t = true) : Clean (lnL m t) := by
  have h1 : Clean m := ⟨tok_no tok10 hm, tok_no tok13 hm⟩
  have h2 : Clean t := ⟨tgt_no vis10 ht, tgt_no vis13 ht⟩
  have h3 : Clean sfxL := by decide
  exact Clean.app h1 (Clean.app (a := [32]) (by decide) (Clean.app h2 h3))
theorem ln_nl (hc : Clean (lnL m t)) (r : List UInt8) : nlAt (lnL m t ++ 13 :: 10 :: r) = (lnL m t).length + 2 := by
  have h : Lib.indexByte (lnL m t ++ 13 :: 10 :: r) 10 = (((lnL m t).length + 1 : Nat) : Int) := by
    refine ib_at 10 _ _ ?_ ?_
    · have e : (lnL m t ++ 13 :: 10 :: r).take ((lnL m t).length + 1) = lnL m t ++ [13] := by
        have e2 : lnL m t ++ 13 :: 10 :: r = (lnL m t ++ [13]) ++ 10 :: r := by simp
        have e3 : (lnL m t).length + 1 = (lnL m t ++ [13]).length := by simp
        rw [e2, e3, List.take_left' rfl]
      rw [e]
      intro hm
      rcases List.mem_append.1 hm with h | h
      · exact hc.1 h
      · exact absurd h (by decide)
    · have e2 : lnL m t ++ 13 :: 10 :: r = (lnL m t ++ [13]) ++ 10 :: r := by simp
      have e3 : (lnL m t).length + 1 = (lnL m t ++ [13]).length := by simp
      rw [e2, e3, List.getElem?_append_right (Nat.le_refl _), Nat.sub_self]
      rfl
  unfold nlAt
  rw [if_neg (by rw [h]; omega), h]
  omega
/-- A request's text. -/
def rqL : List UInt8 := lnL m t ++ 13 :: 10 :: (textL FL ++ [13, 10])
theorem take_ln (r : List UInt8) : (lnL m t ++ 13 :: 10 :: r).take ((lnL m t).length + 2) = lnL m t ++ 13 :: 10 :: [] := by
  have e2 : lnL m t ++ 13 :: 10 :: r = (lnL m t ++ [13, 10]) ++ r := by simp
  have e3 : (lnL m t).length + 2 = (lnL m t ++ [13, 10]).length := by simp
  rw [e2, e3, List.take_left' rfl]
theorem drop_ln (r : List UInt8) : (lnL m t ++ 13 :: 10 :: r).drop ((lnL m t).length + 2) = r := by
  have e2 : lnL m t ++ 13 :: 10 :: r = (lnL m t ++ [13, 10]) ++ r := by simp
  have e3 : (lnL m t).length + 2 = (lnL m t ++ [13, 10]).length := by simp
  rw [e2, e3, List.drop_left' rfl]
theorem ln_ne : lnL m t ≠ [] := by
  intro h
  have := congrArg List.length h
  simp [lnL] at this
theorem ln_run (hc : Clean (lnL m t)) : hRun M hd0 (lnL m t ++ 13 :: 10 :: []) = if ((lnL m t).length : Int) ≤ max 0 M.line then .line (some (lnL m t)) [] 0 [] false else .err 4 := by
  have h := run_clean M none [] 0 (lnL m t) [] hc
  show hRun M (.line none [] 0 [] false) _ = _
  rw [h]
  by_cases hq : ((lnL m t).length : Int) ≤ max 0 M.line
  · rw [if_pos hq, if_pos (.inr hq)]
    rfl
  · rw [if_neg hq, if_neg]
    rintro (e | e)
    · exact ln_ne m t e
    · exact hq e
variable (hm : tokB m = true) (ht : tgtB t = true)
include hm ht
theorem req_back : reqP (lnL m t) = some (m, t) := by
  unfold lnL
  rw [req_line, if_pos ⟨hm, ht⟩]
variable (hz : (rqL m t FL).length ≤ 1000000)
include hz
theorem prun_long (h : ¬ ((lnL m t).length : Int) ≤ max 0 M.line) : PRun M (.on hd0 [] []) (rqL m t FL) [] (.err 4) := by
  have hc := ln_clean m t hm ht
  refine .bad hd0 (.err 4) [] [] _ 4 ?_ rfl ?_ ?_ rfl rfl (by decide) (by decide)
  · unfold rqL; simp
  · have : hd0.wt = 0 := rfl
    omega
  · unfold rqL
    rw [ln_nl m t hc, take_ln, ln_run M m t hc, if_neg h]
theorem prun_line {acc : List Rq} {p : PaP} (h : ((lnL m t).length : Int) ≤ max 0 M.line) (hr : PRun M (.on (.line (some (lnL m t)) [] 0 [] false) m t) (textL FL ++ [13, 10]) acc p) : PRun M (.on hd0 [] []) (rqL m t FL) acc p := by
  have hc := ln_clean m t hm ht
  have hlen : (lnL m t).length ≤ 1000000 := by unfold rqL at hz; simp at hz; omega
  refine .good hd0 (.line (some (lnL m t)) [] 0 [] false) [] [] _ m t _ _ ?_ rfl ?_ ?_ rfl rfl (req_back m t hm ht) (by show (lnL m t).length ≤ _; omega) ?_
  · unfold rqL; simp
  · have : hd0.wt = 0 := rfl
    omega
  · unfold rqL
    rw [ln_nl m t hc, take_ln, ln_run M m t hc, if_pos h]
  · unfold rqL
    rw [ln_nl m t hc, drop_ln]
    exact hr
variable (hf : ∀ f ∈ FL, FOk f)
include hf
theorem prun_flds (h : ((lnL m t).length : Int) ≤ max 0 M.line) (hne : FL ≠ []) (hbad : ¬ (((textL FL).length : Int) ≤ max 0 M.head ∧ (FL.length : Int) ≤ max 0 M.count)) : PRun M (.on hd0 [] []) (rqL m t FL) [] (.err 4) := by
  refine prun_line M m t FL hm ht hz h (.fbad _ _ _ _ 4 (by simp) rfl rfl ?_ ?_ (by decide))
  · unfold rqL at hz
    simp at hz ⊢
    show 0 + 0 + 0 + 4 * _ ≤ _
    omega
  · exact run_flds_bad M (lnL m t) FL [] 0 [13, 10] hf hne (fun k => hbad ⟨by have := k.1; omega, by have := k.2; rw [List.length_nil] at this; omega⟩)
theorem prun_good (h : ((lnL m t).length : Int) ≤ max 0 M.line) (h1 : ((textL FL).length : Int) ≤ max 0 M.head) (h2 : (FL.length : Int) ≤ max 0 M.count) (hn : NoBody FL) : PRun M (.on hd0 [] []) (rqL m t FL) [(m, t, FL.length)] (.on hd0 [] []) := by
  have hrun : ∀ r, hRun M (.line (some (lnL m t)) [] 0 [] false) (textL FL ++ r) = hRun M (.line (some (lnL m t)) FL (textL FL).length [] false) r := by
    intro r
    rw [run_flds_ok M (lnL m t) FL [] 0 r hf (by omega) (by rw [List.length_nil]; omega)]
    simp
  have hend : hRun M (.line (some (lnL m t)) FL (textL FL).length [] false) [13, 10] = .done (lnL m t) FL := by
    have := run_clean M (some (lnL m t)) FL (textL FL).length [] [] (by decide)
    rw [if_pos (.inl rfl)] at this
    rw [List.nil_append] at this
    rw [this]
    simp [HdL.close]
    rfl
  refine prun_line M m t FL hm ht hz h (.fdone _ _ _ _ (lnL m t) FL [] _ (by simp) rfl rfl ?_ ?_ hn ?_)
  · unfold rqL at hz
    simp at hz ⊢
    show 0 + 0 + 0 + 4 * _ ≤ _
    omega
  · rw [hrun, hend]
  · have e : hLeft M (.line (some (lnL m t)) [] 0 [] false) (textL FL ++ [13, 10]) = [] := by
      have hr0 := hrun []
      rw [List.append_nil] at hr0
      show mLeft _ _ _ _ = _
      rw [mLeft_app _ _ (hd_fin M anyFirst) _ _ _ (by rw [show mRun (M.step anyFirst) (.line (some (lnL m t)) [] 0 [] false) (textL FL) = _ from hr0]; rfl), show mRun (M.step anyFirst) (.line (some (lnL m t)) [] 0 [] false) (textL FL) = _ from hr0]
      rfl
    rw [e]
    exact .nil _ _ _
end
end Go.Proofs.YtbbphklhnngjmaaGreatDoor

/- request: Message.Text with a body. -/
namespace Go.Proofs.YtbbphklhnngjmaaGreatDoor
open Go.RowKit

set_option maxRecDepth 100000 in
set_option maxHeartbeats 4000000 in
theorem mtext19L (m t bd : List UInt8) (K : Int) (hbd : bd.length ≤ 1000000) (hm : m.length ≤ 1000000) (ht : t.length ≤ 1000000) (a : Option Addr) (c : Nat) (fs : List Fld) (hfl : fs.length ≤ 1000000) (hok : ∀ f ∈ fs, FldOk f) (hsum : (textL fs).length ≤ 1000000000) (w : World) (hf : IsFlds w a c fs) :
    Calls Tryz.prog 23 #[.agg #[.string (bs m), .string (bs t), .slice a fs.length c, .string (bs bd), .int .i64 K]] w fun x w' => x = .returned (.string (bs (reqLine (m, t) ++ textL fs ++ [13, 10] ++ bd))) ∧ Below w.heap.size w w' := by
  have hrl : (reqLine (m, t)).length ≤ 3000000 := by simp [reqLine, verL]; omega
  have A1 := fun W => add_str (reqLine (m, t)) (textL fs) (by omega) W
  have A2 := fun W => add_str (reqLine (m, t) ++ textL fs) [13, 10] (by simp; omega) W
  have A3 := fun W => add_str (reqLine (m, t) ++ textL fs ++ [13, 10]) bd (by simp; omega) W
  have e13 : bs [13, 10] = ⟨#[13, 10]⟩ := rfl
  rw [e13] at A2
  have HLN := Lib.hid (fun W => rline11 m t (by omega) (by omega) W)
  have HTX := Lib.hid (fun W h => text49 a c fs (by omega) hok (by omega) W h)
  have HF := Lib.hid hf
  generalize hx4 : bs (reqLine (m, t) ++ textL fs ++ [13, 10] ++ bd) = x4 at *
  generalize hxb : bs bd = bb at *
  have R0 := Row.new w 45 #[.string (bs m), .string (bs t), .slice a fs.length c, .string bb, .int .i64 K]
  have L0 := below_alloc w (.cells #[.string (bs m), .string (bs t), .slice a fs.length c, .string bb, .int .i64 K] 45)
  generalize hx3 : bs (reqLine (m, t) ++ textL fs ++ [13, 10]) = x3 at *
  generalize hx2 : bs (reqLine (m, t) ++ textL fs) = x2 at *
  generalize hx1 : bs (reqLine (m, t)) = x1 at *
  generalize hx0 : bs (textL fs) = x0 at *
  generalize hmm : bs m = mm at *
  generalize htt : bs t = tt at *
  clear hx4 hxb hbd hx3 hx2 hx1 hx0 hmm htt e13 hrl hf hok hm ht hsum
  go_enter Tryz.func23, Tryz.ntmps23
  go_upto_region 1 with fail
  obtain ⟨bM, hbM⟩ : ∃ bM, bM = w.heap.size := ⟨_, rfl⟩
  rw [← hbM] at R0 ⊢
  generalize w.alloc (.cells #[.string mm, .string tt, .slice a fs.length c, .string bb, .int .i64 K] 45) = w1 at *
  have HF1 := Lib.hid (HF.out.below L0)
  have HL1 := Lib.hid L0
  have r0 : w1.cell? ⟨bM, 0, none⟩ = some (.string mm) := R0.cell 0
  have r1 : w1.cell? ⟨bM, 1, none⟩ = some (.string tt) := R0.cell 1
  have r2 : w1.cell? ⟨bM, 2, none⟩ = some (.slice a fs.length c) := R0.cell 2
  have r3 : w1.cell? ⟨bM, 3, none⟩ = some (.string bb) := R0.cell 3
  have hlt := R0.lt
  obtain ⟨n, hn⟩ : ∃ n, n = fs.length := ⟨_, rfl⟩
  rw [← hn] at r2 HTX ⊢
  clear L0 R0 HF hbM hn
  refine region_mixt 11 [some (.pointer (some ⟨bM, 0, none⟩)), some (.agg #[.string mm, .string tt]), some (.string x1), some (.pointer (some ⟨bM, 2, none⟩)), some (.slice a n c), some (.string x0), some (.string x2), some (.string x3), some (.pointer (some ⟨bM, 3, none⟩)), some (.string bb), some (.string x4)]
    [[false, false, false, false, false, false, false, false, false, false, false], [true, false, false, false, false, false, false, false, false, false, false], [false, true, false, false, false, false, false, false, false, false, false], [false, false, false, false, false, false, false, false, false, false, false], [false, false, false, true, false, false, false, false, false, false, false], [false, false, true, false, true, false, false, false, false, false, false], [false, false, true, false, false, true, false, false, false, false, false], [false, false, false, false, false, false, true, false, false, false, false], [false, false, false, false, false, false, false, false, false, false, false], [false, false, false, false, false, false, false, false, true, false, false], [false, false, false, false, false, false, false, true, false, true, false]]
    (fun L x w9 => Below w1.heap.size w1 w9)
    (by kernel_rfl) (by kernel_rfl) (by kernel_rfl) (by kernel_rfl) (by kernel_rfl) (by decide) ?_ ?_ ?_
  · intro _
    exact ⟨rfl, rfl, rfl, Nat.le_refl _, fun _ _ => rfl⟩
  · simp only [List.take_succ_cons, List.take_zero]
    refine ⟨?_, ?_, ?_, ?_, ?_, ?_, ?_, ?_, ?_, ?_, ?_, trivial⟩
    all_goals
      intro L x w9 hS hl hp K9 hK9
      have hs : Below w1.heap.size w1 w9 := hS
      clear hS hp hl
      replace hK9 := hK9.out
      simp only [actMix, pickV, List.tail_cons, List.headD_cons, Act.put, List.setIfInBounds_toArray, List.set_cons_zero, List.set_cons_succ] at hK9 ⊢
    · go_simp
      with_reducible refine hK9 _ ?_
      exact hs
    · have r8 : w9.cell? ⟨bM, 0, none⟩ = some (.string mm) := by rw [(bcell hs).1 _ _ hlt]; exact r0
      have r9 : w9.cell? ⟨bM, 1, none⟩ = some (.string tt) := by rw [(bcell hs).1 _ _ hlt]; exact r1
      go_simp
      with_reducible refine hK9 _ ?_
      exact hs
    · go_simp
      refine (HLN.out w9).mono ?_
      rintro e9 w8 ⟨rfl, hb8⟩
      with_reducible refine hK9 _ ?_
      exact hs.trans (hb8.mono hs.size)
    · go_simp
      with_reducible refine hK9 _ ?_
      exact hs
    · have r9 : w9.cell? ⟨bM, 2, none⟩ = some (.slice a n c) := by rw [(bcell hs).1 _ _ hlt]; exact r2
      go_simp
      with_reducible refine hK9 _ ?_
      exact hs
    · go_simp
      refine (HTX.out w9 (HF1.out.below hs)).mono ?_
      rintro e9 w8 ⟨rfl, hb8⟩
      with_reducible refine hK9 _ ?_
      exact hs.trans (hb8.mono hs.size)
    · go_simp
      with_reducible refine hK9 _ ?_
      exact hs
    · go_simp
      with_reducible refine hK9 _ ?_
      exact hs
    · go_simp
      with_reducible refine hK9 _ ?_
      exact hs
    · have r9 : w9.cell? ⟨bM, 3, none⟩ = some (.string bb) := by rw [(bcell hs).1 _ _ hlt]; exact r3
      go_simp
      with_reducible refine hK9 _ ?_
      exact hs
    · go_simp
      with_reducible refine hK9 _ ?_
      exact hs
  intro L x w9 hS hL
  have hs : Below w1.heap.size w1 w9 := hS
  clear hS hL
  simp only [actMix, pickV, List.tail_cons, List.headD_cons, Act.put, List.setIfInBounds_toArray, List.set_cons_zero, List.set_cons_succ, List.replicate_succ, List.replicate_zero, List.drop_succ_cons, List.drop_zero, List.take_succ_cons, List.take_zero]
  have HB9 := Lib.hid (HL1.out.trans (hs.mono HL1.out.size))
  clear hs
  go_wp2_with fail
  go_ret
  exact ⟨rfl, HB9.out⟩
end Go.Proofs.YtbbphklhnngjmaaGreatDoor

/- rewrite: Drop and Hops with the room and the block of what they return; setLength; Join with a separator. -/
namespace Go.Proofs.YtbbphklhnngjmaaGreatDoor
open Go.RowKit

/-- The fields that go on. -/
def hopsF (fs : List Fld) : List Fld := hopsR (bsOf (tokF connB fs)) fs
theorem own_room {w : World} {base : Nat} {T : TypeId} {v : Value} {n s : Nat} {xs : List Value} (h : w.ownsRow base T s v n xs) : ∀ a m c, v = .slice a m c → c ≤ 9223372036854775807 := by
  intro a m c hv
  obtain ⟨_, ⟨h3, _⟩ | ⟨g, cap, cur, h3, hg, _, _, hcm, _⟩⟩ := h
  · rw [h3] at hv; injection hv with e1 e2 e3; omega
  · rw [h3] at hv; injection hv with e1 e2 e3; unfold maxLen at hcm; omega
set_option maxRecDepth 100000 in
set_option maxHeartbeats 2000000 in
theorem drop55m (a : Option Addr) (c : Nat) (fs : List Fld) (b : Option Addr) (d : Nat) (xs : List ByteArray) (hfl : fs.length ≤ 1000000000) (hx1 : xs.length ≤ 1000000000) (ha : a = none → c = 0 ∧ fs = []) (hok : ∀ f ∈ fs, FldOk f) (w : World) (hf : IsFlds w a c fs) (hx : IsStrs w b d xs) :
    Calls Tryz.prog 78 #[.slice a fs.length c, .slice b xs.length d] w fun e w' => ∃ a' c', e = .returned (.slice a' (dropL xs fs).length c') ∧ c' ≤ 9223372036854775807 ∧ (a' = none → c' = 0 ∧ dropL xs fs = []) ∧ (∀ ad, a' = some ad → w.heap.size ≤ ad.block) ∧ IsFlds w' a' c' (dropL xs fs) ∧ Below w.heap.size w w' := by
  have HX := Lib.hid hx
  have HC := Lib.hid (clone77 a c fs hfl ha w hf)
  have HOK := Lib.hid hok
  clear hx hf ha hok
  go_enter Tryz.func78, Tryz.ntmps78
  go_wp2_with fail
  refine HC.out.mono ?_
  rintro e w1 ⟨v, rfl, hown, hb1⟩
  have X1 : Hid (IsStrs w1 b d xs) := HX.out.below hb1
  have hcm := own_room hown
  obtain ⟨rfl, rfl⟩ | ⟨g, cap, rfl, hg, hcap, hop, hpa⟩ := own_open hown
  · have HD := Lib.hid (delete76_nil b d xs hx1 w1 X1.out)
    unfold hasV at HD
    clear HX HC HOK hown hcm
    go_wp2_with fail
    refine HD.out.mono ?_
    rintro e w2 ⟨rfl, hb2⟩
    go_wp2_with fail
    go_ret
    exact ⟨none, 0, rfl, by omega, fun _ => ⟨rfl, rfl⟩, (fun ad e => by cases e), .inl rfl, hb1.trans (hb2.mono hb1.size)⟩
  · have HCM : Hid (cap ≤ 9223372036854775807) := hcm _ _ _ rfl
    have HG := Lib.hid hg
    have HD := Lib.hid (delete76 w g cap fs b d xs hfl hx1 HOK.out HX.out hg hcap w1 hb1 hop hpa)
    unfold hasV at HD
    clear HX HC HOK hown hcm hop hpa X1
    go_wp2_with fail
    refine HD.out.mono ?_
    rintro e w2 ⟨rfl, hfl2, hb2⟩
    have HF2 := Lib.hid hfl2
    clear hfl2 HD
    go_wp2_with fail
    go_ret
    exact ⟨some ⟨g, 0, none⟩, cap, rfl, HCM.out, (fun h => by cases h), (fun ad e => by obtain rfl := Option.some.inj e; exact HG.out), HF2.out, hb2⟩
set_option maxRecDepth 1000000 in
set_option maxHeartbeats 4000000 in
/-- Hops. -/
theorem hops41m (a : Option Addr) (c : Nat) (fs : List Fld) (hfl : fs.length ≤ 1000000) (ha : a = none → c = 0 ∧ fs = []) (hok : ∀ f ∈ fs, FldOk f) (hsum : sumS (allB connB fs) ≤ 900000000) (gs : List Fld) (hgs : gs = hopsF fs) (w : World) (hM : MaxL w) (hf : IsFlds w a c fs) :
    Calls Tryz.prog 41 #[.slice a fs.length c] w fun e w' => ∃ b d, e = .returned (.slice b gs.length d) ∧ d ≤ 9223372036854775807 ∧ (b = none → d = 0 ∧ gs = []) ∧ (∀ ad, b = some ad → w.heap.size ≤ ad.block) ∧ IsFlds w' b d gs ∧ Below w.heap.size w w' := by
  have HH := Lib.hid (hopNames79 a c fs hfl hok (by omega) w hM hf)
  have HPL : (hopP (bsOf (tokF connB fs))).length ≤ 1000000000 := by
    have h1 := tokF_len connB fs
    have h2 := goes_len (bsOf (tokF connB fs))
    unfold hopP
    rw [List.length_append]
    have : nineP.length = 9 := rfl
    omega
  obtain ⟨HP, hHP⟩ : ∃ HP, HP = hopP (bsOf (tokF connB fs)) := ⟨_, rfl⟩
  have hgs2 : gs = dropL HP fs := by rw [hgs, hHP, hops_eq]; rfl
  rw [← hHP] at HH HPL
  rw [hgs2]
  have HD := Lib.hid (fun b d W hx h => drop55m a c fs b d HP (by omega) HPL ha hok W h hx)
  have HF := Lib.hid hf
  clear hHP hgs2 hgs hf hM hok hsum ha HPL
  go_enter Tryz.func41, Tryz.ntmps41
  go_wp2_with fail
  refine HH.out.mono ?_
  rintro e w1 ⟨b1, d1, rfl, hs1, hb1⟩
  have HD1 := Lib.hid (HD.out b1 d1 w1 hs1 (HF.out.below hb1))
  clear HD HH hs1
  go_wp2_with fail
  refine HD1.out.mono ?_
  rintro e w2 ⟨a2, c2, rfl, hcm, h0, hnw, hf2, hb2⟩
  have HCM := Lib.hid hcm
  have HNW : Hid (∀ ad, a2 = some ad → w.heap.size ≤ ad.block) := fun ad e => Nat.le_trans hb1.size (hnw ad e)
  have H0 := Lib.hid h0
  have F2 := Lib.hid hf2
  have B2 := Lib.hid (hb1.trans (hb2.mono hb1.size))
  clear h0 hf2 hb1 hb2 HD1 hcm hnw
  go_wp2_with fail
  go_ret
  exact ⟨a2, c2, rfl, HCM.out, H0.out, HNW.out, F2.out, B2.out⟩
/-- Set with the room and the block of what it returns. -/
theorem set46m (a : Option Addr) (c : Nat) (fs : List Fld) (n v : List UInt8) (hfl : fs.length ≤ 100000000) (hcm : c ≤ 9223372036854775807) (ha : a = none → c = 0 ∧ fs = []) (hok : ∀ f ∈ fs, FldOk f) (w : World) (hf : IsFlds w a c fs) :
    Calls Tryz.prog 44 #[.slice a fs.length c, .string (bs n), .string (bs v)] w fun e w' => ∃ b d, e = .returned (.slice b (setF n v fs).length d) ∧ d ≤ 9223372036854775807 ∧ (b = none → d = 0 ∧ setF n v fs = []) ∧ (∀ ad, b = some ad → w.heap.size ≤ ad.block) ∧ IsFlds w' b d (setF n v fs) ∧ Below w.heap.size w w' := by
  refine (set46 a c fs n v hfl hcm ha hok w hf).mono ?_
  rintro e w' ⟨u, rfl, ho, hb⟩
  obtain ⟨b, d, rfl, h0, h1, h2, h3⟩ := own_isFldsB ho
  exact ⟨b, d, rfl, h0, h1, h3, h2, hb⟩
theorem add48m (a : Option Addr) (c : Nat) (fs : List Fld) (n v : List UInt8) (hfl : fs.length ≤ 100000000) (ha : a = none → c = 0 ∧ fs = []) (w : World) (hf : IsFlds w a c fs) :
    Calls Tryz.prog 46 #[.slice a fs.length c, .string (bs n), .string (bs v)] w fun e w' => ∃ b d, e = .returned (.slice b (fs ++ [(n, v)]).length d) ∧ d ≤ 9223372036854775807 ∧ (b = none → d = 0 ∧ fs ++ [(n, v)] = []) ∧ (∀ ad, b = some ad → w.heap.size ≤ ad.block) ∧ IsFlds w' b d (fs ++ [(n, v)]) ∧ Below w.heap.size w w' := by
  refine (add48 a c fs n v hfl ha w hf).mono ?_
  rintro e w' ⟨u, rfl, ho, hb⟩
  obtain ⟨b, d, rfl, h0, h1, h2, h3⟩ := own_isFldsB ho
  exact ⟨b, d, rfl, h0, h1, h3, h2, hb⟩
def clenN : List UInt8 := [67, 111, 110, 116, 101, 110, 116, 45, 76, 101, 110, 103, 116, 104]
set_option maxRecDepth 100000 in
set_option maxHeartbeats 4000000 in
theorem setlen47 (a : Option Addr) (c : Nat) (fs : List Fld) (bd : ByteArray) (hbd : bd.size < 9223372036854775808) (hfl : fs.length ≤ 100000000) (hcm : c ≤ 9223372036854775807) (ha : a = none → c = 0 ∧ fs = []) (hok : ∀ f ∈ fs, FldOk f) (gs : List Fld) (hgs : gs = setF clenN (prtI 10 (bd.size : Int)) fs) (w : World) (hP : Pow w) (hf : IsFlds w a c fs) :
    Calls Tryz.prog 47 #[.slice a fs.length c, .string bd] w fun e w' => ∃ b d, e = .returned (.slice b gs.length d) ∧ d ≤ 9223372036854775807 ∧ (b = none → d = 0 ∧ gs = []) ∧ (∀ ad, b = some ad → w.heap.size ≤ ad.block) ∧ IsFlds w' b d gs ∧ Below w.heap.size w w' := by
  subst hgs
  have HD : Hid (∀ W, Pow W → Calls Tryz.prog 73 #[.int .i64 (bd.size : Int)] W fun e w' => e = .returned (.string (bs (prtI 10 (bd.size : Int)))) ∧ Below W.heap.size W w') := fun W h => digits28 (bd.size : Int) (by omega) W h
  have HS := Lib.hid (fun W h => set46m a c fs clenN (prtI 10 (bd.size : Int)) hfl hcm ha hok W h)
  rw [show bs clenN = ⟨#[67, 111, 110, 116, 101, 110, 116, 45, 76, 101, 110, 103, 116, 104]⟩ from rfl] at HS
  generalize setF clenN (prtI 10 (bd.size : Int)) fs = gs at *
  generalize bs (prtI 10 (bd.size : Int)) = X at *
  have HF := Lib.hid hf
  have HP := Lib.hid hP
  clear hf hP hok ha
  go_enter Tryz.func47, Tryz.ntmps47
  go_wp2_with fail
  with_reducible refine (HD.out w HP.out).mono ?_
  rintro e w1 ⟨rfl, hb1⟩
  have F1 := Lib.hid (HF.out.below hb1)
  have B1 := Lib.hid hb1
  clear hb1 HF HP HD
  go_wp2_with fail
  with_reducible refine (HS.out w1 F1.out).mono ?_
  rintro e w2 ⟨b, d, rfl, h1, h2, h3, hf2, hb2⟩
  have H1 := Lib.hid h1
  have H2 := Lib.hid h2
  have H3 := Lib.hid h3
  have F2 := Lib.hid hf2
  have B2 := Lib.hid hb2
  clear h1 h2 h3 hf2 hb2 F1 HS
  go_wp2_with fail
  go_ret
  exact ⟨b, d, rfl, H1.out, H2.out, (fun ad e => Nat.le_trans B1.out.size (H3.out ad e)), F2.out, B1.out.trans (B2.out.mono B1.out.size)⟩
/-- The values of X-Forwarded-For, and the client. -/
def whoL (vs : List ByteArray) (cl : List UInt8) : List UInt8 := (vs.map (fun v => v.data.toList ++ [44, 32])).flatten ++ cl
theorem inter_snoc (sep cl : List UInt8) : ∀ vs : List (List UInt8), sep.intercalate (vs ++ [cl]) = (vs.map (fun v => v ++ sep)).flatten ++ cl
  | [] => by simp [List.intercalate]
  | [v] => by simp [List.intercalate]
  | v :: y :: r => by
    have ih := inter_snoc sep cl (y :: r)
    simp only [List.cons_append, List.map_cons, List.flatten_cons, List.append_assoc] at ih ⊢
    rw [← ih]
    simp [List.intercalate]
theorem join_who (vs : List ByteArray) (cl : ByteArray) : Lib.join ((vs ++ [cl]).map (·.data.toList)) [44, 32] = whoL vs cl.data.toList := by
  show ([44, 32] : List UInt8).intercalate _ = _
  rw [List.map_append, List.map_singleton, inter_snoc]
  unfold whoL
  rw [List.map_map]
  rfl
theorem whoL_len (vs : List ByteArray) (cl : List UInt8) : (whoL vs cl).length ≤ sumS vs + vs.length + cl.length := by
  unfold whoL
  rw [List.length_append]
  have : ∀ vs : List ByteArray, (vs.map (fun v => v.data.toList ++ [44, 32])).flatten.length ≤ sumS vs + vs.length := by
    intro vs
    induction vs with
    | nil => simp
    | cons a r ih =>
      have e : sumS (a :: r) = a.size + 1 + sumS r := by simp [sumS]
      rw [List.map_cons, List.flatten_cons, List.length_append, List.length_append, e, List.length_cons, ← Lib.size_eq]
      simp only [List.length_cons, List.length_nil]
      omega
  have := this vs
  omega
theorem join45 (bk o c : Nat) (vs : List ByteArray) (cl : ByteArray) (hn : vs.length ≤ 1000000) (hc : vs.length + 1 ≤ c) (hl : (whoL vs cl.data.toList).length ≤ 140737488355328) (w : World) (hbk : bk < w.heap.size) (hcell : ∀ (j : Nat) x, (vs ++ [cl])[j]? = some x → w.cell? ⟨bk, o + j, none⟩ = some (.string x)) :
    Calls Tryz.prog 45 #[.slice (some ⟨bk, o, none⟩) (vs ++ [cl]).length c, .string ⟨#[44, 32]⟩] w fun e w' => e = .returned (.string (bs (whoL vs cl.data.toList))) ∧ Below w.heap.size w w' := by
  have h := Tryz.strings_Join bk o c (vs ++ [cl]) ⟨#[44, 32]⟩ w hcell hbk (by simp; omega) (by simp; omega) (by rw [show (ByteArray.data ⟨#[44, 32]⟩).toList = [44, 32] from rfl, join_who]; exact hl)
  rw [show (ByteArray.data ⟨#[44, 32]⟩).toList = [44, 32] from rfl, join_who] at h
  exact h
end Go.Proofs.YtbbphklhnngjmaaGreatDoor

/- rewrite: Request. -/
namespace Go.Proofs.YtbbphklhnngjmaaGreatDoor
open Go.RowKit

def xffN : List UInt8 := [88, 45, 70, 111, 114, 119, 97, 114, 100, 101, 100, 45, 70, 111, 114]
def xffB : ByteArray := ⟨#[88, 45, 70, 111, 114, 119, 97, 114, 100, 101, 100, 45, 70, 111, 114]⟩
def viaF : Fld := ([86, 105, 97], [49, 46, 49, 32, 115, 116, 101, 119, 97, 114, 100])
/-- The fields that go to a backend, but for the length. -/
def reqG (fs : List Fld) (cl : List UInt8) : List Fld := setF xffN (whoL (allB xffB (hopsF fs)) cl) (hopsF fs) ++ [viaF]
/-- The fields that go to a backend. -/
def reqF (fs : List Fld) (cl : List UInt8) (k : Int) (bl : Nat) : List Fld := if k = 0 then reqG fs cl else setF clenN (prtI 10 (bl : Int)) (reqG fs cl)
def reqK (k : Int) : Int := if k = 0 then 0 else 1
/-- Few and short fields. -/
def SmF (fs : List Fld) (k m : Nat) : Prop := fs.length ≤ k ∧ ∀ f ∈ fs, f.1.length ≤ m ∧ f.2.length ≤ m
theorem SmF.ok {fs : List Fld} {k m : Nat} (h : SmF fs k m) (hm : m ≤ 4000000000) : ∀ f ∈ fs, FldOk f := fun f hf => ⟨by have := (h.2 f hf).1; omega, by have := (h.2 f hf).2; omega⟩
theorem setF_memR {n v : List UInt8} {fs : List Fld} {f : Fld} (h : f ∈ setF n v fs) : f = (n, v) ∨ f ∈ fs := by
  unfold setF at h
  simp only at h
  split at h
  · rcases List.mem_append.1 h with h | h
    · exact .inr (List.mem_of_mem_take h)
    · rcases List.mem_cons.1 h with h | h
      · exact .inl h
      · exact .inr (List.mem_of_mem_drop (dropL_mem h))
  · rcases List.mem_append.1 h with h | h
    · exact .inr h
    · exact .inl (List.mem_singleton.1 h)
theorem SmF.set {fs : List Fld} {k m : Nat} (h : SmF fs k m) {n v : List UInt8} (hn : n.length ≤ m) (hv : v.length ≤ m) : SmF (setF n v fs) (k + 1) m :=
  ⟨Nat.le_trans (setF_len n v fs) (Nat.succ_le_succ h.1), fun f hf => by rcases setF_memR hf with rfl | hf; exact ⟨hn, hv⟩; exact h.2 f hf⟩
theorem SmF.add {fs : List Fld} {k m : Nat} (h : SmF fs k m) {f : Fld} (hn : f.1.length ≤ m) (hv : f.2.length ≤ m) : SmF (fs ++ [f]) (k + 1) m :=
  ⟨by rw [List.length_append]; have := h.1; simpa using this, fun g hg => by rcases List.mem_append.1 hg with hg | hg; exact h.2 g hg; obtain rfl := List.mem_singleton.1 hg; exact ⟨hn, hv⟩⟩
theorem SmF.more {fs : List Fld} {k m k' m' : Nat} (h : SmF fs k m) (hk : k ≤ k') (hm : m ≤ m') : SmF fs k' m' := ⟨Nat.le_trans h.1 hk, fun f hf => ⟨Nat.le_trans (h.2 f hf).1 hm, Nat.le_trans (h.2 f hf).2 hm⟩⟩
theorem SmF.hops {fs : List Fld} {k m : Nat} (h : SmF fs k m) : SmF (hopsF fs) k m := ⟨Nat.le_trans (List.length_filter_le _ _) h.1, fun f hf => h.2 f (List.mem_filter.1 hf).1⟩
theorem SmF.sum {fs : List Fld} {k m : Nat} (h : SmF fs k m) (x : ByteArray) : sumS (allB x fs) ≤ k * (m + 1) := by
  have h1 := sumS_small (allB x fs) m (fun y hy => by
    unfold allB at hy
    obtain ⟨f, hf, rfl⟩ := List.mem_map.1 hy
    rw [bs_size]
    exact (h.2 f (List.mem_filter.1 hf).1).2)
  refine Nat.le_trans h1 (Nat.mul_le_mul_right _ (Nat.le_trans ?_ h.1))
  unfold allB
  rw [List.length_map]
  exact List.length_filter_le _ _
theorem allB_lenR (x : ByteArray) (fs : List Fld) : (allB x fs).length ≤ fs.length := by
  unfold allB
  rw [List.length_map]
  exact List.length_filter_le _ _
theorem whoL_small {fs : List Fld} (h : SmF fs 1000 10000) {cl : List UInt8} (hc : cl.length ≤ 10000) : (whoL (allB xffB (hopsF fs)) cl).length ≤ 20000000 := by
  have h1 := whoL_len (allB xffB (hopsF fs)) cl
  have h2 := h.hops.sum xffB
  have h3 := allB_lenR xffB (hopsF fs)
  have h4 := h.hops.1
  omega
theorem SmF.reqG {fs : List Fld} (h : SmF fs 1000 10000) {cl : List UInt8} (hc : cl.length ≤ 10000) : SmF (reqG fs cl) 1002 20000000 := by
  unfold Go.Proofs.YtbbphklhnngjmaaGreatDoor.reqG
  exact ((h.hops.more (Nat.le_refl _) (by decide)).set (by decide) (whoL_small h hc)).add (by decide) (by decide)
theorem cells_new1s (w : World) (x : ByteArray) (T : TypeId) : ∀ (k : Nat) u, [Value.string x][k]? = some u → (w.alloc (.cells #[.string x] T)).cell? ((⟨w.heap.size, 0, none⟩ : Addr).add k) = some u := by
  intro k u hu
  rw [Addr.add_mid]
  match k, hu with
  | 0, hu => obtain rfl := Option.some.inj hu; simp
  | k + 1, hu => simp at hu
theorem own_snoc {w : World} {B : Nat} {v : Value} {n : Nat} {vs : List ByteArray} {cl : ByteArray} (hn : n = vs.length) (h : w.ownsRow B 9 1 v (n + 1) (vs.map Value.string ++ [.string cl])) : ∃ g c, v = .slice (some ⟨g, 0, none⟩) (n + 1) c ∧ vs.length + 1 ≤ c ∧ g < w.heap.size ∧ ∀ (j : Nat) x, (vs ++ [cl])[j]? = some x → w.cell? ⟨g, 0 + j, none⟩ = some (.string x) := by
  have e : n + 1 = (vs ++ [cl]).length := by rw [List.length_append, hn]; rfl
  have e2 : vs.map Value.string ++ [.string cl] = (vs ++ [cl]).map Value.string := by rw [List.map_append]; rfl
  rw [e, e2] at h
  rcases own_openS h with ⟨_, h2⟩ | ⟨g, cap, rfl, hg, hcap, hop, hpa⟩
  · simp at h2
  · exact ⟨g, cap, by rw [e], by rw [List.length_append] at hcap; exact hcap, hop.1, fun j x hx => by rw [Nat.zero_add]; exact hpa j x hx⟩
set_option maxRecDepth 100000 in
set_option maxHeartbeats 8000000 in
theorem rreq16 (mm tt bb : ByteArray) (kk : Int) (cl : List UInt8) (a : Option Addr) (c : Nat) (fs : List Fld) (hfew : SmF fs 1000 10000) (hcl : cl.length ≤ 10000) (hbb : bb.size < 9223372036854775808) (ha : a = none → c = 0 ∧ fs = []) (gs : List Fld) (hgs : gs = reqF fs cl kk bb.size) (K : Int) (hK : K = reqK kk) (w : World) (hw : LaidR w) (hf : IsFlds w a c fs) :
    Calls Tryz.prog 16 #[.agg #[.string mm, .string tt, .slice a fs.length c, .string bb, .int .i64 kk], .string (bs cl)] w fun e w' => ∃ b d, e = .returned (.agg #[.string mm, .string tt, .slice b gs.length d, .string bb, .int .i64 K]) ∧ IsFlds w' b d gs ∧ Below w.heap.size w w' := by
  obtain ⟨i0, hi, hz0, hz1, hz2⟩ := info_parts info9
  have hok := hfew.ok (by decide)
  have HH : Hid (∀ W, MaxL W → IsFlds W a c fs → Calls Tryz.prog 41 #[.slice a fs.length c] W fun e w' => ∃ b d, e = .returned (.slice b (hopsF fs).length d) ∧ d ≤ 9223372036854775807 ∧ (b = none → d = 0 ∧ hopsF fs = []) ∧ (∀ ad, b = some ad → W.heap.size ≤ ad.block) ∧ IsFlds w' b d (hopsF fs) ∧ Below W.heap.size W w') := fun W hM h => hops41m a c fs (by have := hfew.1; omega) ha hok (by have := hfew.sum connB; omega) _ rfl W hM h
  have hws := whoL_small hfew hcl
  have hGs := hfew.reqG hcl
  have hGS : reqG fs cl = setF xffN (whoL (allB xffB (hopsF fs)) cl) (hopsF fs) ++ [viaF] := rfl
  have hHf := hfew.hops
  obtain ⟨H, hH⟩ : ∃ H, H = hopsF fs := ⟨_, rfl⟩
  rw [← hH] at HH hws hGS hHf
  have HA : Hid (∀ b d W, IsFlds W b d H → Calls Tryz.prog 43 #[.slice b H.length d, .string ⟨#[88, 45, 70, 111, 114, 119, 97, 114, 100, 101, 100, 45, 70, 111, 114]⟩] W fun e w' => ∃ u, e = .returned u ∧ w'.ownsRow W.heap.size 9 1 u (allB xffB H).length ((allB xffB H).map Value.string) ∧ Below W.heap.size W w') := fun b d W h => all44 b d H xffB (by have := hHf.1; omega) (hHf.ok (by decide)) W h
  have hvn := allB_lenR xffB H
  have hHn := hHf.1
  obtain ⟨VS, hVS⟩ : ∃ VS, VS = allB xffB H := ⟨_, rfl⟩
  rw [← hVS] at HA hws hGS hvn
  have HJ : Hid (∀ g c W, VS.length + 1 ≤ c → g < W.heap.size → (∀ (j : Nat) x, (VS ++ [bs cl])[j]? = some x → W.cell? ⟨g, 0 + j, none⟩ = some (.string x)) → Calls Tryz.prog 45 #[.slice (some ⟨g, 0, none⟩) (VS ++ [bs cl]).length c, .string ⟨#[44, 32]⟩] W fun e w' => e = .returned (.string (bs (whoL VS cl))) ∧ Below W.heap.size W w') := fun g c W h1 h2 h3 => join45 g 0 c VS (bs cl) (by omega) h1 (by rw [bs_list]; omega) W h2 h3
  have HS : Hid (∀ b d W, d ≤ 9223372036854775807 → (b = none → d = 0 ∧ H = []) → IsFlds W b d H → Calls Tryz.prog 44 #[.slice b H.length d, .string ⟨#[88, 45, 70, 111, 114, 119, 97, 114, 100, 101, 100, 45, 70, 111, 114]⟩, .string (bs (whoL VS cl))] W fun e w' => ∃ b d, e = .returned (.slice b (setF xffN (whoL VS cl) H).length d) ∧ d ≤ 9223372036854775807 ∧ (b = none → d = 0 ∧ setF xffN (whoL VS cl) H = []) ∧ (∀ ad, b = some ad → W.heap.size ≤ ad.block) ∧ IsFlds w' b d (setF xffN (whoL VS cl) H) ∧ Below W.heap.size W w') := fun b d W h1 h2 h => set46m b d H xffN (whoL VS cl) (by omega) h1 h2 (hHf.ok (by decide)) W h
  have hsl := setF_len xffN (whoL VS cl) H
  have hso : SmF (setF xffN (whoL VS cl) H) 1001 20000000 := (hHf.more (Nat.le_refl _) (by decide)).set (by decide) hws
  obtain ⟨WHO, hWHO⟩ : ∃ X, X = bs (whoL VS cl) := ⟨_, rfl⟩
  rw [← hWHO] at HJ HS
  obtain ⟨SF, hSF⟩ : ∃ X, X = setF xffN (whoL VS cl) H := ⟨_, rfl⟩
  rw [← hSF] at HS hGS hsl hso
  obtain ⟨G, hG⟩ : ∃ X, X = reqG fs cl := ⟨_, rfl⟩
  rw [← hG] at hGS hGs
  have HV : Hid (∀ b d W, (b = none → d = 0 ∧ SF = []) → IsFlds W b d SF → Calls Tryz.prog 46 #[.slice b SF.length d, .string ⟨#[86, 105, 97]⟩, .string ⟨#[49, 46, 49, 32, 115, 116, 101, 119, 97, 114, 100]⟩] W fun e w' => ∃ b d, e = .returned (.slice b G.length d) ∧ d ≤ 9223372036854775807 ∧ (b = none → d = 0 ∧ G = []) ∧ (∀ ad, b = some ad → W.heap.size ≤ ad.block) ∧ IsFlds w' b d G ∧ Below W.heap.size W w') := fun b d W h2 h => by
    have := add48m b d SF viaF.1 viaF.2 (by have := hso.1; omega) h2 W h
    rw [show SF ++ [(viaF.1, viaF.2)] = G from hGS.symm] at this
    exact this
  have HLN : Hid (kk ≠ 0 → ∀ b d W, Pow W → d ≤ 9223372036854775807 → (b = none → d = 0 ∧ G = []) → IsFlds W b d G → Calls Tryz.prog 47 #[.slice b G.length d, .string bb] W fun e w' => ∃ b d, e = .returned (.slice b gs.length d) ∧ d ≤ 9223372036854775807 ∧ (b = none → d = 0 ∧ gs = []) ∧ (∀ ad, b = some ad → W.heap.size ≤ ad.block) ∧ IsFlds w' b d gs ∧ Below W.heap.size W w') := fun hne b d W hP h1 h2 h => setlen47 b d G bb hbb (by have := hGs.1; omega) h1 h2 (hGs.ok (by decide)) gs (by rw [hgs, hG]; unfold reqF; rw [if_neg hne]) W hP h
  have HG0 : Hid (kk = 0 → gs = G ∧ K = 0) := fun h => ⟨by rw [hgs, hG]; unfold reqF; rw [if_pos h], by rw [hK]; unfold reqK; rw [if_pos h]⟩
  have HG1 : Hid (kk ≠ 0 → K = 1) := fun h => by rw [hK]; unfold reqK; rw [if_neg h]
  have HW := Lib.hid hw
  obtain ⟨n, hn⟩ : ∃ n, n = fs.length := ⟨_, rfl⟩
  rw [← hn] at HH ⊢
  have R0 := Row.new w 45 #[.string mm, .string tt, .slice a n c, .string bb, .int .i64 kk]
  have L0 := (below_alloc w (.cells #[.string mm, .string tt, .slice a n c, .string bb, .int .i64 kk] 45))
  have R1 := Row.new (w.alloc (.cells #[.string mm, .string tt, .slice a n c, .string bb, .int .i64 kk] 45)) 45 #[.string ⟨#[]⟩, .string ⟨#[]⟩, .slice none 0 0, .string ⟨#[]⟩, .int .i64 0]
  have L1 := L0.alloc (by simp) (.cells #[.string ⟨#[]⟩, .string ⟨#[]⟩, .slice none 0 0, .string ⟨#[]⟩, .int .i64 0] 45)
  have R0' := R0.alloc (.cells #[.string ⟨#[]⟩, .string ⟨#[]⟩, .slice none 0 0, .string ⟨#[]⟩, .int .i64 0] 45)
  rw [show (w.alloc (.cells #[.string mm, .string tt, .slice a n c, .string bb, .int .i64 kk] 45)).heap.size = w.heap.size + 1 by simp] at R1
  have HF := Lib.hid (hf.below L1)
  generalize bs cl = CL at *
  have hvn2 : VS.length ≤ 1000 := by omega
  clear hf hn ha R0 L0 hw hgs hK hok hfew hws hGs hGS hHf hH hVS hHn hsl hso hWHO hSF hG hvn hbb hcl
  go_enter Tryz.func16, Tryz.ntmps16
  go_upto_region 1 with fail
  obtain ⟨b0, hb0⟩ : ∃ b0, b0 = w.heap.size := ⟨_, rfl⟩
  obtain ⟨b1, hb1⟩ : ∃ b1, b1 = w.heap.size + 1 := ⟨_, rfl⟩
  have hle : w.heap.size ≤ b1 := by omega
  have hle0 : w.heap.size ≤ b0 := by omega
  have hne : b0 ≠ b1 := by omega
  rw [← hb0] at R0'
  rw [← hb1] at R1 ⊢
  rw [← hb0]
  generalize World.alloc (World.alloc w _) _ = w1 at *
  have LL := Lib.hid L1
  have W1 := Lib.hid (HW.out.below L1)
  have HLE := Lib.hid hle
  have HLE0 := Lib.hid hle0
  have HNE := Lib.hid hne
  have HB0 : Hid (b0 < w1.heap.size) := R0'.lt
  have HB1 : Hid (b1 < w1.heap.size) := R1.lt
  have RR0 := Lib.hid R0'
  have RR1 := Lib.hid R1
  have r2 := R0'.cell 2
  simp only [List.getElem?_toArray, List.getElem?_cons_zero, List.getElem?_cons_succ] at r2
  clear R1 R0' L1 hb0 hb1 hle hle0 hne
  go_wp2_with fail
  with_reducible refine (HH.out w1 W1.out.m HF.out).mono ?_
  rintro e w2 ⟨b, d, rfl, hcm, hbn, hnw, hf2, hb2⟩
  have HCM := Lib.hid hcm
  have HBN := Lib.hid hbn
  have F2 := Lib.hid hf2
  have W2 := Lib.hid (W1.out.below hb2)
  have LL2 := Lib.hid (LL.out.trans (hb2.mono LL.out.size))
  have Q0 := Lib.hid (RR0.out.below hb2)
  have Q1 := Lib.hid (RR1.out.below hb2)
  clear hcm hbn hnw hf2 hb2 r2 HH HF W1 LL RR0 RR1
  go_wp2_with fail
  with_reducible refine (HA.out b d w2 F2.out).mono ?_
  rintro e w3 ⟨u, rfl, ho, hb3⟩
  have LC := below_alloc w3 (.cells #[.string CL] 9)
  have B3 := hb3.trans (LC.mono hb3.size)
  have HO := Lib.hid (ho.alloc (.cells #[.string CL] 9))
  have HNW := Lib.hid (cells_new1s w3 CL 9)
  have hg2 : w2.heap.size ≤ (w3.alloc (.cells #[.string CL] 9)).heap.size := B3.size
  have HB3 := Lib.hid B3
  obtain ⟨nv, hnv⟩ : ∃ nv, nv = VS.length := ⟨_, rfl⟩
  rw [← hnv] at HO hvn2
  have HNV := Lib.hid hnv
  clear LC hb3 ho B3 hnv HA
  go_wp2_with (at_builtin; refine wpList_append_own_at _ rfl _ _ 88 rfl w2.heap.size 9 i0 (.string ⟨#[]⟩) 1 16 Tryz.underlying88 hi hz0 hz1 hz2 rfl (by decide) _ _ _ rfl HO.out ⟨w3.heap.size, 0, none⟩ 1 1 [.string CL] rfl rfl HNW.out (by intro u hu; simp at hu; subst hu; rfl) (by unfold maxLen; omega) (by omega) hg2 ?_)
  intro v' w4 hown' hgrow _ _
  have hb4 : Below w2.heap.size w2 w4 := HB3.out.grown hgrow hg2 (fun k hk => (HO.out.lt k hk).1)
  obtain ⟨g, cc, rfl, hcc, hgl, hcell⟩ := own_snoc HNV.out hown'
  have hj4 := HJ.out g cc w4 hcc hgl hcell
  rw [show (VS ++ [CL]).length = nv + 1 by rw [List.length_append, HNV.out]; rfl] at hj4
  have HJ4 := Lib.hid hj4
  have F4 := Lib.hid (F2.out.below hb4)
  have W4 := Lib.hid (W2.out.below hb4)
  have P0 := Lib.hid (Q0.out.below hb4)
  have P1 := Lib.hid (Q1.out.below hb4)
  have LL4 := Lib.hid (LL2.out.trans (hb4.mono LL2.out.size))
  clear hj4 hown' hgrow hb4 hcc hgl hcell HJ F2 W2 Q0 Q1 LL2 HO HNW HB3 hg2
  go_wp2_with fail
  with_reducible refine HJ4.out.mono ?_
  rintro e w5 ⟨rfl, hb5⟩
  have F5 := Lib.hid (F4.out.below hb5)
  have W5 := Lib.hid (W4.out.below hb5)
  have Q0 := Lib.hid (P0.out.below hb5)
  have Q1 := Lib.hid (P1.out.below hb5)
  have LL5 := Lib.hid (LL4.out.trans (hb5.mono LL4.out.size))
  clear hb5 F4 W4 P0 P1 LL4 HJ4
  go_wp2_with fail
  with_reducible refine (HS.out b d w5 HCM.out HBN.out F5.out).mono ?_
  rintro e w6 ⟨b6, d6, rfl, _, hbn6, _, hf6, hb6⟩
  have F6 := Lib.hid hf6
  have HBN6 := Lib.hid hbn6
  have W6 := Lib.hid (W5.out.below hb6)
  have P0 := Lib.hid (Q0.out.below hb6)
  have P1 := Lib.hid (Q1.out.below hb6)
  have LL6 := Lib.hid (LL5.out.trans (hb6.mono LL5.out.size))
  clear hf6 hb6 hbn6 F5 W5 Q0 Q1 LL5 HS HCM HBN
  go_wp2_with fail
  with_reducible refine (HV.out b6 d6 w6 HBN6.out F6.out).mono ?_
  rintro e w7 ⟨b7, d7, rfl, hcm7, hbn7, hnw7, hf7, hb7⟩
  have HCM7 := Lib.hid hcm7
  have HBN7 := Lib.hid hbn7
  have hlt0 := P0.out.lt
  have hlt1 := P1.out.lt
  have HN0 : Hid (∀ ad, b7 = some ad → ¬ ad.block = b0) := fun ad had => by have := hnw7 ad had; omega
  have HN1 : Hid (∀ ad, b7 = some ad → ¬ ad.block = b1) := fun ad had => by have := hnw7 ad had; omega
  have Q0 := P0.out.below hb7
  have Q1 := P1.out.below hb7
  obtain ⟨m, hm⟩ : ∃ m, m = G.length := ⟨_, rfl⟩
  have HM := Lib.hid hm
  rw [← hm]
  have W7 := W6.out.below hb7
  have LL7 := LL6.out.trans (hb7.mono LL6.out.size)
  have LL8 := Lib.hid (LL7.setCell (p := ⟨b0, 2, none⟩) HLE0.out (.slice b7 m d7))
  have K8 : Keep (fun j => j = b0) w7 (w7.setCell ⟨b0, 2, none⟩ (.slice b7 m d7)) := Keep.setCell (G := fun j => j = b0) w7 (p := ⟨b0, 2, none⟩) rfl _
  have F8 := Lib.hid (isFlds_keepR hf7 K8 HN0.out)
  have x2 := Q0.cell 2
  have y2 := Q0.free 2
  have Q0' := Q0.put 2 (.slice b7 m d7)
  have Q1' := Q1.far (p := ⟨b0, 2, none⟩) (fun e => HNE.out e.symm) (.slice b7 m d7)
  have e0 : (#[.string mm, .string tt, .slice a n c, .string bb, .int .i64 kk] : Array Value).setIfInBounds 2 (.slice b7 m d7) = #[.string mm, .string tt, .slice b7 m d7, .string bb, .int .i64 kk] := rfl
  rw [e0] at Q0'
  have W8 : Hid (LaidR (w7.setCell ⟨b0, 2, none⟩ (.slice b7 m d7))) := HW.out.below LL8.out
  simp only [List.getElem?_toArray, List.getElem?_cons_zero, List.getElem?_cons_succ] at x2
  clear hcm7 hbn7 hnw7 hf7 hb7 Q0 Q1 W7 LL7 K8 e0 F6 W6 P0 P1 LL6 HV HBN6 hm hlt0 hlt1
  go_upto_region 4 with fail
  obtain ⟨w8, hw8⟩ : ∃ w8, w8 = w7.setCell ⟨b0, 2, none⟩ (.slice b7 m d7) := ⟨_, rfl⟩
  rw [← hw8] at LL8 F8 Q0' Q1' W8 ⊢
  clear hw8 x2 y2
  have RR0 := Lib.hid Q0'
  have RR1 := Lib.hid Q1'
  have r0 := Q0'.cell 0
  have r1 := Q0'.cell 1
  have r2 := Q0'.cell 2
  have r3 := Q0'.cell 3
  have r4 := Q0'.cell 4
  simp only [List.getElem?_toArray, List.getElem?_cons_zero, List.getElem?_cons_succ] at r0 r1 r2 r3 r4
  clear Q0' Q1'
  by_cases hk : kk = 0
  · obtain ⟨hgs, hK⟩ := HG0.out hk
    subst hk
    have HGS := Lib.hid hgs
    have HKK := Lib.hid hK
    have z0 := RR1.out.free 0
    have z1 := RR1.out.free 1
    have z2 := RR1.out.free 2
    have z3 := RR1.out.free 3
    have z4 := RR1.out.free 4
    have p0 := RR1.out.cell 0
    have p1 := RR1.out.cell 1
    have p2 := RR1.out.cell 2
    have p3 := RR1.out.cell 3
    have p4 := RR1.out.cell 4
    simp only [List.getElem?_toArray, List.getElem?_cons_zero, List.getElem?_cons_succ] at p0 p1 p2 p3 p4
    clear hgs hK HG0 HG1 HLN
    go_wp2_with fail
    refine bodyPost_ret (v := .agg #[.string mm, .string tt, .slice b7 m d7, .string bb, .int .i64 0]) (by simp [results, Tryz.results16, go_sem, p0, p1, p2, p3, p4]) rfl ⟨b7, d7, by rw [HGS.out, HKK.out, HM.out], ?_⟩
    have h5 := own_five b1 _ LL8.out HLE.out (.string mm) (.string tt) (.slice b7 m d7) (.string bb) (.int .i64 0)
    rw [HGS.out]
    exact ⟨isFlds_keepR F8.out h5.2 HN1.out, h5.1⟩
  · have HL8 := Lib.hid (HLN.out hk b7 d7 w8 W8.out.p HCM7.out HBN7.out F8.out)
    rw [← HM.out] at HL8
    have hkb : (kk == 0) = false := beq_eq_false_iff_ne.2 hk
    obtain rfl := HG1.out hk
    clear HG0 HG1 HLN F8 W8 HN0 HN1 HCM7 HBN7
    go_wp2_with fail
    with_reducible refine HL8.out.mono ?_
    rintro e w9 ⟨b9, d9, rfl, _, _, hnw9, hf9, hb9⟩
    have hlt0 := RR0.out.lt
    have hlt1 := RR1.out.lt
    have HN0 : ∀ ad, b9 = some ad → ¬ ad.block = b0 := fun ad had => by have := hnw9 ad had; omega
    have HN1 : Hid (∀ ad, b9 = some ad → ¬ ad.block = b1) := fun ad had => by have := hnw9 ad had; omega
    have Q0 := RR0.out.below hb9
    have Q1 := RR1.out.below hb9
    obtain ⟨q, hq⟩ : ∃ q, q = gs.length := ⟨_, rfl⟩
    have HQ := Lib.hid hq
    rw [← hq]
    have LL9 := LL8.out.trans (hb9.mono LL8.out.size)
    have LL10 := Lib.hid ((LL9.setCell (p := ⟨b0, 2, none⟩) HLE0.out (.slice b9 q d9)).setCell (p := ⟨b0, 4, none⟩) HLE0.out (.int .i64 1))
    have KB : ∀ (v : World) (i : Nat) (u : Value), Keep (fun j => j = b0) v (v.setCell ⟨b0, i, none⟩ u) := fun v i u => Keep.setCell (G := fun j => j = b0) v (p := ⟨b0, i, none⟩) rfl u
    have F10 := Lib.hid (isFlds_keepR hf9 ((KB w9 2 (.slice b9 q d9)).trans (KB _ 4 (.int .i64 1))) HN0)
    have x2 := Q0.cell 2
    have y2 := Q0.free 2
    have x4 := Q0.cell 4
    have y4 := Q0.free 4
    have Q0' := (Q0.put 2 (.slice b9 q d9)).put 4 (.int .i64 1)
    have Q1' := (Q1.far (p := ⟨b0, 2, none⟩) (fun e => HNE.out e.symm) (.slice b9 q d9)).far (p := ⟨b0, 4, none⟩) (fun e => HNE.out e.symm) (.int .i64 1)
    have e0 : ((#[.string mm, .string tt, .slice b7 m d7, .string bb, .int .i64 kk] : Array Value).setIfInBounds 2 (.slice b9 q d9)).setIfInBounds 4 (.int .i64 1) = #[.string mm, .string tt, .slice b9 q d9, .string bb, .int .i64 1] := rfl
    rw [e0] at Q0'
    simp only [List.getElem?_toArray, List.getElem?_cons_zero, List.getElem?_cons_succ] at x2 x4
    clear hnw9 hf9 hb9 Q0 Q1 LL9 KB e0 HL8 RR0 RR1 LL8 r0 r1 r2 r3 r4 HN0 hlt0 hlt1 hq
    go_upto_region 6 with fail
    obtain ⟨w10, hw10⟩ : ∃ w10, w10 = (w9.setCell ⟨b0, 2, none⟩ (.slice b9 q d9)).setCell ⟨b0, 4, none⟩ (.int .i64 1) := ⟨_, rfl⟩
    rw [← hw10] at LL10 F10 Q0' Q1' ⊢
    clear hw10 x2 y2 x4 y4
    have r0 := Q0'.cell 0
    have r1 := Q0'.cell 1
    have r2 := Q0'.cell 2
    have r3 := Q0'.cell 3
    have r4 := Q0'.cell 4
    have z0 := Q1'.free 0
    have z1 := Q1'.free 1
    have z2 := Q1'.free 2
    have z3 := Q1'.free 3
    have z4 := Q1'.free 4
    have p0 := Q1'.cell 0
    have p1 := Q1'.cell 1
    have p2 := Q1'.cell 2
    have p3 := Q1'.cell 3
    have p4 := Q1'.cell 4
    simp only [List.getElem?_toArray, List.getElem?_cons_zero, List.getElem?_cons_succ] at r0 r1 r2 r3 r4 p0 p1 p2 p3 p4
    clear Q0' Q1'
    go_wp2_with fail
    refine bodyPost_ret (v := .agg #[.string mm, .string tt, .slice b9 q d9, .string bb, .int .i64 1]) (by simp [results, Tryz.results16, go_sem, p0, p1, p2, p3, p4]) rfl ⟨b9, d9, by rw [HQ.out], ?_⟩
    have h5 := own_five b1 _ LL10.out HLE.out (.string mm) (.string tt) (.slice b9 q d9) (.string bb) (.int .i64 1)
    exact ⟨isFlds_keepR F10.out h5.2 HN1.out, h5.1⟩
end Go.Proofs.YtbbphklhnngjmaaGreatDoor

