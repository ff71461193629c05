/- Packed: RsK, RhA, PrN, LawFldP, RwC, PbL, PbM, RwH, RsH, LawRwR, LawRwS, RsI, RsL. -/
import Derived.StillTailTactics
import Derived.Test.YtbbphklhnngjmaaGreatDoorS05
import Derived.Test.YtbbphklhnngjmaaGreatDoorS07
import Derived.Test.YtbbphklhnngjmaaGreatDoorS08
import Derived.Test.YtbbphklhnngjmaaGreatDoorS09
import Derived.Test.YtbbphklhnngjmaaGreatDoorS10
import Derived.Test.YtbbphklhnngjmaaGreatDoorS11
import Derived.Test.YtbbphklhnngjmaaGreatDoorS12
import Derived.Test.YtbbphklhnngjmaaGreatDoorS13
import Derived.Test.YtbbphklhnngjmaaGreatDoorS15
import Derived.Test.YtbbphklhnngjmaaGreatDoorS16
import Derived.Test.YtbbphklhnngjmaaGreatDoorS18
/- rewrite: Response (written by genrsk.py). -/
namespace Go.Proofs.YtbbphklhnngjmaaGreatDoor
open Go.RowKit

def cookF : Fld := ([83, 101, 116, 45, 67, 111, 111, 107, 105, 101], [112, 105, 110, 61, 120])
def respB (fs : List Fld) : List Fld := hopsF fs ++ [viaF]
def respG (q : Bool) (fs : List Fld) (bl : Nat) : List Fld := if q = true then setF clenN (prtI 10 (bl : Int)) (respB fs) else respB fs
/-- The fields that go to a client, with the cookie pin=x. -/
def respF (q : Bool) (fs : List Fld) (bl : Nat) (cl : Bool) : List Fld := closeF cl (respG q fs bl ++ [cookF])
def respBody (q : Bool) (bb : ByteArray) : ByteArray := if q = true then bb else ⟨#[]⟩
def respK (q : Bool) : Int := if q = true then 1 else 0
theorem SmF.respG {fs : List Fld} (h : SmF fs 1000 10000) (q : Bool) (bl : Nat) : SmF (respG q fs bl) 1002 10000 := by
  have h1 : SmF (respB fs) 1001 10000 := h.hops.add (by decide) (by decide)
  unfold Go.Proofs.YtbbphklhnngjmaaGreatDoor.respG
  split
  · exact h1.set (by decide) (by have := prtI_short (bl : Int); omega)
  · exact h1.more (by decide) (Nat.le_refl _)
/-- Fields do not lie in a message's block. -/
theorem isFlds_msg {w w' : World} {T : TypeId} {b1 : Nat} {i0 i4 : Int} {s1 s3 : ByteArray} {v2 : Option Addr} {l2 c2 : Nat} {a : Option Addr} {c : Nat} {fs : List Fld} (hR : Row w b1 T #[.int .i64 i0, .string s1, .slice v2 l2 c2, .string s3, .int .i64 i4]) (h : IsFlds w a c fs) (hk : Keep (fun j => j = b1) w w') : IsFlds w' a c fs := by
  cases fs with
  | nil => exact .inl rfl
  | cons f r =>
    refine isFlds_keepR h hk ?_
    rcases h with h | ⟨bk, o, rfl, _, _, hcell⟩
    · cases h
    · rintro ad had rfl
      obtain rfl := Option.some.inj had
      obtain ⟨h0, h1⟩ := hcell 0 f rfl
      rw [Nat.zero_mul, Nat.add_zero] at h0 h1
      have g0 := hR.cell o
      have g1 := hR.cell (o + 1)
      rw [h0] at g0
      rw [h1] at g1
      clear h0 h1 hcell hk hR
      match o, g0, g1 with
      | 0, h0, _ => cases h0
      | 1, _, h1 => cases h1
      | 2, h0, _ => cases h0
      | 3, _, h1 => cases h1
      | 4, h0, _ => cases h0
      | k + 5, h0, _ => simp at h0
set_option maxRecDepth 100000 in
set_option maxHeartbeats 8000000 in
theorem rresp29 (kc : Int) (rr bb : ByteArray) (kk : Int) (mt : List UInt8) (cl : Bool) (a : Option Addr) (c : Nat) (fs : List Fld) (hfew : SmF fs 1000 10000) (hbb : bb.size < 9223372036854775808) (ha : a = none → c = 0 ∧ fs = []) (q : Bool) (hq : R.bodR mt kc = q) (w : World) (hw : LaidR w) (hf : IsFlds w a c fs) :
    Calls Tryz.prog 29 #[.agg #[.int .i64 kc, .string rr, .slice a fs.length c, .string bb, .int .i64 kk], .string (bs mt), .agg #[.string ⟨#[112, 105, 110, 61, 120]⟩, .bool cl]] w fun e w' => ∃ b d, e = .returned (.agg #[.int .i64 kc, .string rr, .slice b (respF q fs bb.size cl).length d, .string (respBody q bb), .int .i64 (respK q)]) ∧ (b = none → d = 0 ∧ respF q fs bb.size cl = []) ∧ IsFlds w' b d (respF q fs bb.size cl) ∧ Below w.heap.size w w' := by
  have hok := hfew.ok (by decide)
  have HH : Hid (∀ W, MaxL W → IsFlds W a c fs → Calls Tryz.prog 41 #[.slice a fs.length c] W fun e w' => ∃ b d, e = .returned (.slice b (hopsF fs).length d) ∧ d ≤ 9223372036854775807 ∧ (b = none → d = 0 ∧ hopsF fs = []) ∧ (∀ ad, b = some ad → W.heap.size ≤ ad.block) ∧ IsFlds w' b d (hopsF fs) ∧ Below W.heap.size W w') := fun W hM h => hops41m a c fs (by have := hfew.1; omega) ha hok (by have := hfew.sum connB; omega) _ rfl W hM h
  have hGs := hfew.respG q bb.size
  have hHf := hfew.hops
  have HV : Hid (∀ b d W, (b = none → d = 0 ∧ hopsF fs = []) → IsFlds W b d (hopsF fs) → Calls Tryz.prog 46 #[.slice b (hopsF fs).length d, .string ⟨#[86, 105, 97]⟩, .string ⟨#[49, 46, 49, 32, 115, 116, 101, 119, 97, 114, 100]⟩] W fun e w' => ∃ b d, e = .returned (.slice b (respB fs).length d) ∧ d ≤ 9223372036854775807 ∧ (b = none → d = 0 ∧ respB fs = []) ∧ (∀ ad, b = some ad → W.heap.size ≤ ad.block) ∧ IsFlds w' b d (respB fs) ∧ Below W.heap.size W w') := fun b d W h2 h => add48m b d (hopsF fs) viaF.1 viaF.2 (by have := hHf.1; omega) h2 W h
  have HLN : Hid (q = true → ∀ b d W, Pow W → d ≤ 9223372036854775807 → (b = none → d = 0 ∧ respB fs = []) → IsFlds W b d (respB fs) → Calls Tryz.prog 47 #[.slice b (respB fs).length d, .string bb] W fun e w' => ∃ b d, e = .returned (.slice b (respG q fs bb.size).length d) ∧ d ≤ 9223372036854775807 ∧ (b = none → d = 0 ∧ respG q fs bb.size = []) ∧ (∀ ad, b = some ad → W.heap.size ≤ ad.block) ∧ IsFlds w' b d (respG q fs bb.size) ∧ Below W.heap.size W w') := fun hne b d W hP h1 h2 h => setlen47 b d (respB fs) bb hbb (by have : SmF (respB fs) 1001 10000 := hHf.add (by decide) (by decide); have := this.1; omega) h1 h2 ((hHf.add (f := viaF) (by decide) (by decide)).ok (by decide)) _ (by unfold respG; rw [if_pos hne]) W hP h
  have HC : Hid (∀ b d W, (b = none → d = 0 ∧ respG q fs bb.size = []) → IsFlds W b d (respG q fs bb.size) → Calls Tryz.prog 46 #[.slice b (respG q fs bb.size).length d, .string ⟨#[83, 101, 116, 45, 67, 111, 111, 107, 105, 101]⟩, .string ⟨#[112, 105, 110, 61, 120]⟩] W fun e w' => ∃ b d, e = .returned (.slice b (respG q fs bb.size ++ [cookF]).length d) ∧ d ≤ 9223372036854775807 ∧ (b = none → d = 0 ∧ respG q fs bb.size ++ [cookF] = []) ∧ (∀ ad, b = some ad → W.heap.size ≤ ad.block) ∧ IsFlds w' b d (respG q fs bb.size ++ [cookF]) ∧ Below W.heap.size W w') := fun b d W h2 h => add48m b d (respG q fs bb.size) cookF.1 cookF.2 (by have := hGs.1; omega) h2 W h
  have HCL : Hid (∀ B K b d W, (b = none → d = 0 ∧ respG q fs bb.size ++ [cookF] = []) → IsFlds W b d (respG q fs bb.size ++ [cookF]) → Calls Tryz.prog 65 #[.agg #[.int .i64 kc, .string rr, .slice b (respG q fs bb.size ++ [cookF]).length d, .string B, .int .i64 K], .bool cl] W fun e w' => ∃ b d, e = .returned (.agg #[.int .i64 kc, .string rr, .slice b (respF q fs bb.size cl).length d, .string B, .int .i64 K]) ∧ (b = none → d = 0 ∧ respF q fs bb.size cl = []) ∧ IsFlds w' b d (respF q fs bb.size cl) ∧ Below W.heap.size W w') := fun B K b d W h2 h => closing65 kc K rr B b d (respG q fs bb.size ++ [cookF]) cl (by have := hGs.1; rw [List.length_append]; simp; omega) h2 W h
  have HG0 : Hid (q = false → respG q fs bb.size = respB fs) := fun h => by unfold respG; rw [if_neg (by rw [h]; decide)]
  have HBD := Lib.hid (fun W => bodied24 mt kc _ _ _ rfl rfl rfl W)
  unfold R.bodR at hq
  rw [hq] at HBD
  obtain ⟨BD, hBD⟩ : ∃ X, X = respBody q bb := ⟨_, rfl⟩
  obtain ⟨KR, hKR⟩ : ∃ X, X = respK q := ⟨_, rfl⟩
  rw [← hBD, ← hKR]
  have HBDY := Lib.hid hBD
  have HKRR := Lib.hid hKR
  obtain ⟨GB, hGB⟩ : ∃ X, X = respB fs := ⟨_, rfl⟩
  obtain ⟨GG, hGG⟩ : ∃ X, X = respG q fs bb.size := ⟨_, rfl⟩
  obtain ⟨GS, hGS⟩ : ∃ X, X = respF q fs bb.size cl := ⟨_, rfl⟩
  obtain ⟨H, hH⟩ : ∃ X, X = hopsF fs := ⟨_, rfl⟩
  rw [← hGS] at HCL ⊢
  rw [← hGG] at HLN HC HCL HG0
  rw [← hGB] at HV HLN HG0
  rw [← hH] at HH HV
  obtain ⟨GC, hGC⟩ : ∃ X, X = GG ++ [cookF] := ⟨_, rfl⟩
  rw [← hGC] at HC HCL
  have HW := Lib.hid hw
  obtain ⟨n, hn⟩ : ∃ n, n = fs.length := ⟨_, rfl⟩
  rw [← hn] at HH ⊢
  generalize bs mt = MT at *
  have R0 := ((Row.new w 33 #[.int .i64 kc, .string rr, .slice a n c, .string bb, .int .i64 kk]).alloc (.cells #[.string ⟨#[112, 105, 110, 61, 120]⟩, .bool cl] 74)).alloc (.cells #[.int .i64 0, .string ⟨#[]⟩, .slice none 0 0, .string ⟨#[]⟩, .int .i64 0] 33)
  have L0 := (below_alloc w (.cells #[.int .i64 kc, .string rr, .slice a n c, .string bb, .int .i64 kk] 33))
  have RX := (Row.new (w.alloc (.cells #[.int .i64 kc, .string rr, .slice a n c, .string bb, .int .i64 kk] 33)) 74 #[.string ⟨#[112, 105, 110, 61, 120]⟩, .bool cl]).alloc (.cells #[.int .i64 0, .string ⟨#[]⟩, .slice none 0 0, .string ⟨#[]⟩, .int .i64 0] 33)
  have L1 := L0.alloc (by simp) (.cells #[.string ⟨#[112, 105, 110, 61, 120]⟩, .bool cl] 74)
  have R1 := Row.new ((w.alloc (.cells #[.int .i64 kc, .string rr, .slice a n c, .string bb, .int .i64 kk] 33)).alloc (.cells #[.string ⟨#[112, 105, 110, 61, 120]⟩, .bool cl] 74)) 33 #[.int .i64 0, .string ⟨#[]⟩, .slice none 0 0, .string ⟨#[]⟩, .int .i64 0]
  have L2 := L1.alloc (by simp; omega) (.cells #[.int .i64 0, .string ⟨#[]⟩, .slice none 0 0, .string ⟨#[]⟩, .int .i64 0] 33)
  rw [show (w.alloc (.cells #[.int .i64 kc, .string rr, .slice a n c, .string bb, .int .i64 kk] 33)).heap.size = w.heap.size + 1 by simp] at RX
  rw [show ((w.alloc (.cells #[.int .i64 kc, .string rr, .slice a n c, .string bb, .int .i64 kk] 33)).alloc (.cells #[.string ⟨#[112, 105, 110, 61, 120]⟩, .bool cl] 74)).heap.size = w.heap.size + 2 by simp] at R1
  have HF := Lib.hid (hf.below L2)
  clear hf hn ha L0 L1 hw hok hfew hGs hHf hH hGB hGG hGS hGC hbb hBD hKR
  go_enter Tryz.func29, Tryz.ntmps29
  go_upto_region 1 with fail
  obtain ⟨b0, hb0⟩ : ∃ b0, b0 = w.heap.size := ⟨_, rfl⟩
  obtain ⟨bX, hbX⟩ : ∃ b1, b1 = w.heap.size + 1 := ⟨_, rfl⟩
  obtain ⟨b1, hb1⟩ : ∃ b1, b1 = w.heap.size + 2 := ⟨_, rfl⟩
  have HLE : Hid (w.heap.size ≤ b1) := by show _ ≤ _; omega
  have HLE0 : Hid (w.heap.size ≤ b0) := by show _ ≤ _; omega
  have HNE : Hid (b0 ≠ b1) := by show _ ≠ _; omega
  have HNX : Hid (b0 ≠ bX) := by show _ ≠ _; omega
  rw [← hb0] at R0
  rw [← hbX] at RX
  rw [← hb1] at R1
  try rw [← hb1]
  try rw [← hbX]
  try rw [← hb0]
  generalize World.alloc (World.alloc (World.alloc w _) _) _ = w1 at *
  have LL := Lib.hid L2
  have W1 := Lib.hid (HW.out.below L2)
  have RR0 := Lib.hid R0
  have RRX := Lib.hid RX
  have RR1 := Lib.hid R1
  have r2 := R0.cell 2
  simp only [List.getElem?_toArray, List.getElem?_cons_zero, List.getElem?_cons_succ] at r2
  clear R1 R0 RX L2 hb0 hb1 hbX
  go_wp2_with fail
  with_reducible refine (HH.out w1 W1.out.m HF.out).mono ?_
  rintro e w2 ⟨b, d, rfl, hcm, hbn, hnw, hf2, hb2⟩
  have HBN := Lib.hid hbn
  have F2 := Lib.hid hf2
  have W2 := Lib.hid (W1.out.below hb2)
  have LL2 := Lib.hid (LL.out.trans (hb2.mono LL.out.size))
  have Q0 := Lib.hid (RR0.out.below hb2)
  have QX := Lib.hid (RRX.out.below hb2)
  have Q1 := Lib.hid (RR1.out.below hb2)
  clear hcm hbn hnw hf2 hb2 r2 HH HF W1 LL RR0 RR1 RRX
  go_wp2_with fail
  with_reducible refine (HV.out b d w2 HBN.out F2.out).mono ?_
  rintro e w7 ⟨b7, d7, rfl, hcm7, hbn7, hnw7, hf7, hb7⟩
  have HCM7 := Lib.hid hcm7
  have HBN7 := Lib.hid hbn7
  have hlt0 := Q0.out.lt
  have HN0 : Hid (∀ ad, b7 = some ad → ¬ ad.block = b0) := fun ad had => by have := hnw7 ad had; omega
  have P0 := Q0.out.below hb7
  have PX := QX.out.below hb7
  have P1 := Q1.out.below hb7
  obtain ⟨m, hm⟩ : ∃ m, m = GB.length := ⟨_, rfl⟩
  have HM := Lib.hid hm
  rw [← hm]
  have LL7 := LL2.out.trans (hb7.mono LL2.out.size)
  have LL8 := Lib.hid (LL7.setCell (p := ⟨b0, 2, none⟩) HLE0.out (.slice b7 m d7))
  have K8 : Keep (fun j => j = b0) w7 (w7.setCell ⟨b0, 2, none⟩ (.slice b7 m d7)) := Keep.setCell (G := fun j => j = b0) w7 (p := ⟨b0, 2, none⟩) rfl _
  have F8 := Lib.hid (isFlds_keepR hf7 K8 HN0.out)
  have x2 := P0.cell 2
  have y2 := P0.free 2
  have P0' := P0.put 2 (.slice b7 m d7)
  have PX' := PX.far (p := ⟨b0, 2, none⟩) (fun e => HNX.out e.symm) (.slice b7 m d7)
  have P1' := P1.far (p := ⟨b0, 2, none⟩) (fun e => HNE.out e.symm) (.slice b7 m d7)
  have e0 : (#[.int .i64 kc, .string rr, .slice a n c, .string bb, .int .i64 kk] : Array Value).setIfInBounds 2 (.slice b7 m d7) = #[.int .i64 kc, .string rr, .slice b7 m d7, .string bb, .int .i64 kk] := rfl
  rw [e0] at P0'
  have W8 : Hid (LaidR (w7.setCell ⟨b0, 2, none⟩ (.slice b7 m d7))) := HW.out.below LL8.out
  simp only [List.getElem?_toArray, List.getElem?_cons_zero, List.getElem?_cons_succ] at x2
  clear hcm7 hbn7 hnw7 hf7 hb7 P0 P1 PX LL7 K8 e0 F2 W2 Q0 Q1 QX LL2 HV HBN hm hlt0
  go_upto_region 2 with fail
  obtain ⟨w8, hw8⟩ : ∃ w8, w8 = w7.setCell ⟨b0, 2, none⟩ (.slice b7 m d7) := ⟨_, rfl⟩
  rw [← hw8] at LL8 F8 P0' P1' PX' W8 ⊢
  clear hw8 x2 y2
  have RR0 := Lib.hid P0'
  have RRX := Lib.hid PX'
  have RR1 := Lib.hid P1'
  have r0 := P0'.cell 0
  have r1 := P0'.cell 1
  have r2 := P0'.cell 2
  have r3 := P0'.cell 3
  have r4 := P0'.cell 4
  simp only [List.getElem?_toArray, List.getElem?_cons_zero, List.getElem?_cons_succ] at r0 r1 r2 r3 r4
  clear P0' P1' PX'
  go_wp2_with fail
  refine (HBD.out w8).mono ?_
  rintro e w' ⟨rfl, rfl⟩
  cases q
  · have hG0 := HG0.out rfl
    have hB0 : BD = ⟨#[]⟩ := HBDY.out
    have hK0 : KR = 0 := HKRR.out
    clear HG0 HLN HBD HBDY HKRR HCM7
    subst hB0 hK0
    rw [← hG0] at F8 HBN7 HM
    have G0 := Lib.hid hG0
    clear hG0
    have KB : ∀ (v : World) (i : Nat) (u : Value), Keep (fun j => j = b0) v (v.setCell ⟨b0, i, none⟩ u) := fun v i u => Keep.setCell (G := fun j => j = b0) v (p := ⟨b0, i, none⟩) rfl u
    have LLA := Lib.hid ((LL8.out.setCell (p := ⟨b0, 3, none⟩) HLE0.out (.string ⟨#[]⟩)).setCell (p := ⟨b0, 4, none⟩) HLE0.out (.int .i64 0))
    have FFA := Lib.hid (isFlds_keepR F8.out ((KB w8 3 (.string ⟨#[]⟩)).trans (KB _ 4 (.int .i64 0))) HN0.out)
    have x3 := RR0.out.cell 3
    have y3 := RR0.out.free 3
    have x4 := RR0.out.cell 4
    have y4 := RR0.out.free 4
    simp only [List.getElem?_toArray, List.getElem?_cons_zero, List.getElem?_cons_succ] at x3 x4
    have R0A : Hid (Row ((w8.setCell ⟨b0, 3, none⟩ (.string ⟨#[]⟩)).setCell ⟨b0, 4, none⟩ (.int .i64 0)) b0 33 #[.int .i64 kc, .string rr, .slice b7 m d7, .string ⟨#[]⟩, .int .i64 0]) := ((RR0.out.put 3 (.string ⟨#[]⟩)).put 4 (.int .i64 0))
    have RXA := Lib.hid ((RRX.out.far (p := ⟨b0, 3, none⟩) (fun e => HNX.out e.symm) (.string ⟨#[]⟩)).far (p := ⟨b0, 4, none⟩) (fun e => HNX.out e.symm) (.int .i64 0))
    have R1A := Lib.hid ((RR1.out.far (p := ⟨b0, 3, none⟩) (fun e => HNE.out e.symm) (.string ⟨#[]⟩)).far (p := ⟨b0, 4, none⟩) (fun e => HNE.out e.symm) (.int .i64 0))
    clear KB r0 r1 r2 r3 r4 RR0 RRX RR1 W8
    go_upto_region 5 with fail
    obtain ⟨wA, hwA⟩ : ∃ W, W = (w8.setCell ⟨b0, 3, none⟩ (.string ⟨#[]⟩)).setCell ⟨b0, 4, none⟩ (.int .i64 0) := ⟨_, rfl⟩
    rw [← hwA] at LLA FFA R0A RXA R1A ⊢
    clear hwA x3 y3 x4 y4
    clear F8 LL8 HN0
    rw [← HM.out] at HC
    have q2 := R0A.out.cell 2
    have qx := RXA.out.cell 0
    simp only [List.getElem?_toArray, List.getElem?_cons_zero, List.getElem?_cons_succ] at q2 qx
    go_wp2_with fail
    with_reducible refine (HC.out b7 d7 wA HBN7.out FFA.out).mono ?_
    rintro e wB ⟨bB, dB, rfl, _, hbnB, hnwB, hfB, hbB⟩
    have HBNB := Lib.hid hbnB
    have hltB := R0A.out.lt
    have HNB : Hid (∀ ad, bB = some ad → ¬ ad.block = b0) := fun ad had => by have := hnwB ad had; omega
    have LLB' := LLA.out.trans (hbB.mono LLA.out.size)
    have E0 := R0A.out.below hbB
    have EX := RXA.out.below hbB
    have E1 := R1A.out.below hbB
    obtain ⟨nC, hnC⟩ : ∃ nC, nC = GC.length := ⟨_, rfl⟩
    have HNC := Lib.hid hnC
    rw [← hnC]
    rw [← hnC] at HCL
    have KB : ∀ (v : World) (i : Nat) (u : Value), Keep (fun j => j = b0) v (v.setCell ⟨b0, i, none⟩ u) := fun v i u => Keep.setCell (G := fun j => j = b0) v (p := ⟨b0, i, none⟩) rfl u
    have LLZ := Lib.hid (LLB'.setCell (p := ⟨b0, 2, none⟩) HLE0.out (.slice bB nC dB))
    have FFZ := Lib.hid (isFlds_keepR hfB (KB wB 2 (.slice bB nC dB)) HNB.out)
    have x2 := E0.cell 2
    have y2 := E0.free 2
    simp only [List.getElem?_toArray, List.getElem?_cons_zero, List.getElem?_cons_succ] at x2
    have R0Z : Hid (Row (wB.setCell ⟨b0, 2, none⟩ (.slice bB nC dB)) b0 33 #[.int .i64 kc, .string rr, .slice bB nC dB, .string ⟨#[]⟩, .int .i64 0]) := (E0.put 2 (.slice bB nC dB))
    have RXZ := Lib.hid (EX.far (p := ⟨b0, 2, none⟩) (fun e => HNX.out e.symm) (.slice bB nC dB))
    have R1Z := Lib.hid (E1.far (p := ⟨b0, 2, none⟩) (fun e => HNE.out e.symm) (.slice bB nC dB))
    clear KB hltB LLB' E0 EX E1 hbnB hnwB hfB hbB q2 qx R0A RXA R1A LLA FFA hnC HNB
    go_upto_region 7 with fail
    obtain ⟨wZ, hwZ⟩ : ∃ W, W = wB.setCell ⟨b0, 2, none⟩ (.slice bB nC dB) := ⟨_, rfl⟩
    rw [← hwZ] at LLZ FFZ R0Z RXZ R1Z ⊢
    clear hwZ x2 y2
    have c0 := R0Z.out.cell 0
    have c1 := R0Z.out.cell 1
    have c2 := R0Z.out.cell 2
    have c3 := R0Z.out.cell 3
    have c4 := R0Z.out.cell 4
    have cx := RXZ.out.cell 1
    simp only [List.getElem?_toArray, List.getElem?_cons_zero, List.getElem?_cons_succ] at c0 c1 c2 c3 c4 cx
    have HCZ := Lib.hid (HCL.out (⟨#[]⟩) (0) bB dB wZ HBNB.out FFZ.out)
    go_wp2_with fail
    with_reducible refine HCZ.out.mono ?_
    rintro e wD ⟨bD, dD, rfl, hbnD, hfD, hbD⟩
    have LLD := Lib.hid (LLZ.out.trans (hbD.mono LLZ.out.size))
    have V1 := R1Z.out.below hbD
    have z0 := V1.free 0
    have z1 := V1.free 1
    have z2 := V1.free 2
    have z3 := V1.free 3
    have z4 := V1.free 4
    have p0 := V1.cell 0
    have p1 := V1.cell 1
    have p2 := V1.cell 2
    have p3 := V1.cell 3
    have p4 := V1.cell 4
    simp only [List.getElem?_toArray, List.getElem?_cons_zero, List.getElem?_cons_succ] at p0 p1 p2 p3 p4
    obtain ⟨nD, hnD⟩ : ∃ nD, nD = GS.length := ⟨_, rfl⟩
    rw [← hnD]
    have HND := Lib.hid hnD
    have FFD := Lib.hid hfD
    have VV := Lib.hid V1
    have HBND := Lib.hid hbnD
    clear hbnD hfD hbD V1 hnD HCZ R0Z RXZ R1Z FFZ HBNB c0 c1 c2 c3 c4 cx
    go_wp2_with fail
    refine bodyPost_ret (v := .agg #[.int .i64 kc, .string rr, .slice bD nD dD, .string ⟨#[]⟩, .int .i64 0]) (by simp [results, Tryz.results29, go_sem, p0, p1, p2, p3, p4]) rfl ⟨bD, dD, by rw [HND.out], HBND.out, ?_⟩
    have h5 := own_five b1 _ LLD.out HLE.out (.int .i64 kc) (.string rr) (.slice bD nD dD) (.string ⟨#[]⟩) (.int .i64 0)
    exact ⟨isFlds_msg VV.out FFD.out h5.2, h5.1⟩
  · have hB0 : BD = bb := HBDY.out
    have hK0 : KR = 1 := HKRR.out
    have HL8 := Lib.hid (HLN.out rfl b7 d7 w8 W8.out.p HCM7.out HBN7.out F8.out)
    rw [← HM.out] at HL8
    clear HG0 HLN HBD HBDY HKRR HCM7 HBN7 F8 HN0
    subst hB0 hK0
    go_wp2_with fail
    with_reducible refine HL8.out.mono ?_
    rintro e w9 ⟨b9, d9, rfl, _, hbn9, hnw9, hf9, hb9⟩
    have HBN9 := Lib.hid hbn9
    have hlt9 := RR0.out.lt
    have HN9 : Hid (∀ ad, b9 = some ad → ¬ ad.block = b0) := fun ad had => by have := hnw9 ad had; omega
    have LL9 := LL8.out.trans (hb9.mono LL8.out.size)
    have E0 := RR0.out.below hb9
    have EX := RRX.out.below hb9
    have E1 := RR1.out.below hb9
    obtain ⟨n9, hn9⟩ : ∃ n9, n9 = GG.length := ⟨_, rfl⟩
    rw [← hn9]
    rw [← hn9] at HC
    have KB : ∀ (v : World) (i : Nat) (u : Value), Keep (fun j => j = b0) v (v.setCell ⟨b0, i, none⟩ u) := fun v i u => Keep.setCell (G := fun j => j = b0) v (p := ⟨b0, i, none⟩) rfl u
    have LLA := Lib.hid ((LL9.setCell (p := ⟨b0, 2, none⟩) HLE0.out (.slice b9 n9 d9)).setCell (p := ⟨b0, 4, none⟩) HLE0.out (.int .i64 1))
    have FFA := Lib.hid (isFlds_keepR hf9 ((KB w9 2 (.slice b9 n9 d9)).trans (KB _ 4 (.int .i64 1))) HN9.out)
    have x2 := E0.cell 2
    have y2 := E0.free 2
    have x4 := E0.cell 4
    have y4 := E0.free 4
    simp only [List.getElem?_toArray, List.getElem?_cons_zero, List.getElem?_cons_succ] at x2 x4
    have R0A : Hid (Row ((w9.setCell ⟨b0, 2, none⟩ (.slice b9 n9 d9)).setCell ⟨b0, 4, none⟩ (.int .i64 1)) b0 33 #[.int .i64 kc, .string rr, .slice b9 n9 d9, .string BD, .int .i64 1]) := ((E0.put 2 (.slice b9 n9 d9)).put 4 (.int .i64 1))
    have RXA := Lib.hid ((EX.far (p := ⟨b0, 2, none⟩) (fun e => HNX.out e.symm) (.slice b9 n9 d9)).far (p := ⟨b0, 4, none⟩) (fun e => HNX.out e.symm) (.int .i64 1))
    have R1A := Lib.hid ((E1.far (p := ⟨b0, 2, none⟩) (fun e => HNE.out e.symm) (.slice b9 n9 d9)).far (p := ⟨b0, 4, none⟩) (fun e => HNE.out e.symm) (.int .i64 1))
    clear KB r0 r1 r2 r3 r4 RR0 RRX RR1 W8 E0 EX E1 hbn9 hnw9 hf9 hb9 HN9 hlt9 LL9 LL8 HL8 hn9
    go_upto_region 5 with fail
    obtain ⟨wA, hwA⟩ : ∃ W, W = (w9.setCell ⟨b0, 2, none⟩ (.slice b9 n9 d9)).setCell ⟨b0, 4, none⟩ (.int .i64 1) := ⟨_, rfl⟩
    rw [← hwA] at LLA FFA R0A RXA R1A ⊢
    clear hwA x2 y2 x4 y4
    have q2 := R0A.out.cell 2
    have qx := RXA.out.cell 0
    simp only [List.getElem?_toArray, List.getElem?_cons_zero, List.getElem?_cons_succ] at q2 qx
    go_wp2_with fail
    with_reducible refine (HC.out b9 d9 wA HBN9.out FFA.out).mono ?_
    rintro e wB ⟨bB, dB, rfl, _, hbnB, hnwB, hfB, hbB⟩
    have HBNB := Lib.hid hbnB
    have hltB := R0A.out.lt
    have HNB : Hid (∀ ad, bB = some ad → ¬ ad.block = b0) := fun ad had => by have := hnwB ad had; omega
    have LLB' := LLA.out.trans (hbB.mono LLA.out.size)
    have E0 := R0A.out.below hbB
    have EX := RXA.out.below hbB
    have E1 := R1A.out.below hbB
    obtain ⟨nC, hnC⟩ : ∃ nC, nC = GC.length := ⟨_, rfl⟩
    have HNC := Lib.hid hnC
    rw [← hnC]
    rw [← hnC] at HCL
    have KB : ∀ (v : World) (i : Nat) (u : Value), Keep (fun j => j = b0) v (v.setCell ⟨b0, i, none⟩ u) := fun v i u => Keep.setCell (G := fun j => j = b0) v (p := ⟨b0, i, none⟩) rfl u
    have LLZ := Lib.hid (LLB'.setCell (p := ⟨b0, 2, none⟩) HLE0.out (.slice bB nC dB))
    have FFZ := Lib.hid (isFlds_keepR hfB (KB wB 2 (.slice bB nC dB)) HNB.out)
    have x2 := E0.cell 2
    have y2 := E0.free 2
    simp only [List.getElem?_toArray, List.getElem?_cons_zero, List.getElem?_cons_succ] at x2
    have R0Z : Hid (Row (wB.setCell ⟨b0, 2, none⟩ (.slice bB nC dB)) b0 33 #[.int .i64 kc, .string rr, .slice bB nC dB, .string BD, .int .i64 1]) := (E0.put 2 (.slice bB nC dB))
    have RXZ := Lib.hid (EX.far (p := ⟨b0, 2, none⟩) (fun e => HNX.out e.symm) (.slice bB nC dB))
    have R1Z := Lib.hid (E1.far (p := ⟨b0, 2, none⟩) (fun e => HNE.out e.symm) (.slice bB nC dB))
    clear KB hltB LLB' E0 EX E1 hbnB hnwB hfB hbB q2 qx R0A RXA R1A LLA FFA hnC HNB
    go_upto_region 7 with fail
    obtain ⟨wZ, hwZ⟩ : ∃ W, W = wB.setCell ⟨b0, 2, none⟩ (.slice bB nC dB) := ⟨_, rfl⟩
    rw [← hwZ] at LLZ FFZ R0Z RXZ R1Z ⊢
    clear hwZ x2 y2
    have c0 := R0Z.out.cell 0
    have c1 := R0Z.out.cell 1
    have c2 := R0Z.out.cell 2
    have c3 := R0Z.out.cell 3
    have c4 := R0Z.out.cell 4
    have cx := RXZ.out.cell 1
    simp only [List.getElem?_toArray, List.getElem?_cons_zero, List.getElem?_cons_succ] at c0 c1 c2 c3 c4 cx
    have HCZ := Lib.hid (HCL.out (BD) (1) bB dB wZ HBNB.out FFZ.out)
    go_wp2_with fail
    with_reducible refine HCZ.out.mono ?_
    rintro e wD ⟨bD, dD, rfl, hbnD, hfD, hbD⟩
    have LLD := Lib.hid (LLZ.out.trans (hbD.mono LLZ.out.size))
    have V1 := R1Z.out.below hbD
    have z0 := V1.free 0
    have z1 := V1.free 1
    have z2 := V1.free 2
    have z3 := V1.free 3
    have z4 := V1.free 4
    have p0 := V1.cell 0
    have p1 := V1.cell 1
    have p2 := V1.cell 2
    have p3 := V1.cell 3
    have p4 := V1.cell 4
    simp only [List.getElem?_toArray, List.getElem?_cons_zero, List.getElem?_cons_succ] at p0 p1 p2 p3 p4
    obtain ⟨nD, hnD⟩ : ∃ nD, nD = GS.length := ⟨_, rfl⟩
    rw [← hnD]
    have HND := Lib.hid hnD
    have FFD := Lib.hid hfD
    have VV := Lib.hid V1
    have HBND := Lib.hid hbnD
    clear hbnD hfD hbD V1 hnD HCZ R0Z RXZ R1Z FFZ HBNB c0 c1 c2 c3 c4 cx
    go_wp2_with fail
    refine bodyPost_ret (v := .agg #[.int .i64 kc, .string rr, .slice bD nD dD, .string BD, .int .i64 1]) (by simp [results, Tryz.results29, go_sem, p0, p1, p2, p3, p4]) rfl ⟨bD, dD, by rw [HND.out], HBND.out, ?_⟩
    have h5 := own_five b1 _ LLD.out HLE.out (.int .i64 kc) (.string rr) (.slice bD nD dD) (.string BD) (.int .i64 1)
    exact ⟨isFlds_msg VV.out FFD.out h5.2, h5.1⟩
end Go.Proofs.YtbbphklhnngjmaaGreatDoor

/- request's reference: bad, may, ReadHead of any first line. -/
namespace Go.Proofs.YtbbphklhnngjmaaGreatDoor
open Go.RowKit
/-- What holds while a field is put behind a copy of the others. -/
structure ReS (w0 : World) (fs : List Fld) (N V : ByteArray) (S : Nat → Bool) (x : Nat → Value) (w : World) : Prop where
  a : Below w0.heap.size w0 w
  i0 : S 0 = true → S 3 = false → w.ownsRow w0.heap.size 53 2 (x 0) 0 []
  i3 : S 3 = true → S 6 = false → w.ownsRow w0.heap.size 53 2 (x 3) fs.length (cellsF fs)
  i5 : S 5 = true → S 6 = false → ∃ b5, x 5 = .slice (some ⟨b5, 0, none⟩) 1 1 ∧ w0.heap.size ≤ b5 ∧ b5 < w.heap.size ∧ (∀ (k : Nat) u, [Value.string N, .string V][k]? = some u → w.cell? ((⟨b5, 0, none⟩ : Addr).add k) = some u) ∧ (S 0 = true → S 3 = false → (x 0).ownBlock ≠ some b5) ∧ (S 3 = true → (x 3).ownBlock ≠ some b5)
  i6 : S 6 = true → w.ownsRow w0.heap.size 53 2 (x 6) (fs.length + 1) (cellsF fs ++ [.string N, .string V])
  o3 : S 6 = true → S 3 = true
  o5 : S 6 = true → S 5 = true
  o0 : S 3 = true → S 0 = true
theorem ReS.keep {w0 : World} {fs : List Fld} {N V : ByteArray} {S : Nat → Bool} {x : Nat → Value} {w : World} (h : ReS w0 fs N V S x w) (i : Nat) (u : Value) (h0 : i ≠ 0) (h3 : i ≠ 3) (h5 : i ≠ 5) (h6 : i ≠ 6) : ReS w0 fs N V (setL S i) (updV x i u) w := by
  have e0 : setL S i 0 = S 0 := by simp only [setL, if_neg (Ne.symm h0)]
  have e3 : setL S i 3 = S 3 := by simp only [setL, if_neg (Ne.symm h3)]
  have e5 : setL S i 5 = S 5 := by simp only [setL, if_neg (Ne.symm h5)]
  have e6 : setL S i 6 = S 6 := by simp only [setL, if_neg (Ne.symm h6)]
  have x0 : updV x i u 0 = x 0 := by simp only [updV, if_neg (Ne.symm h0)]
  have x3 : updV x i u 3 = x 3 := by simp only [updV, if_neg (Ne.symm h3)]
  have x5 : updV x i u 5 = x 5 := by simp only [updV, if_neg (Ne.symm h5)]
  have x6 : updV x i u 6 = x 6 := by simp only [updV, if_neg (Ne.symm h6)]
  exact ⟨h.a, by rw [e0, e3, x0]; exact h.i0, by rw [e3, e6, x3]; exact h.i3, by rw [e5, e6, e0, e3, x5, x0, x3]; exact h.i5, by rw [e6, x6]; exact h.i6, by rw [e6, e3]; exact h.o3, by rw [e6, e5]; exact fun q => h.o5 q, by rw [e3, e0]; exact h.o0⟩
theorem ReS.lit {w0 : World} {fs : List Fld} {N V : ByteArray} {S : Nat → Bool} {x : Nat → Value} {w : World} (h : ReS w0 fs N V S x w) (hl : S 0 = false) (T : TypeId) (hT : T = 53) : ReS w0 fs N V (setL S 0) (updV x 0 (.slice (some ⟨w.heap.size, 0, none⟩) 0 0)) (w.alloc (.cells #[] T)) := by
  subst hT
  have h3 : S 3 = false := by
    cases h3 : S 3 with
    | false => rfl
    | true => rw [h.o0 h3] at hl; cases hl
  have h6 : S 6 = false := by
    cases h6 : S 6 with
    | false => rfl
    | true => rw [h.o3 h6] at h3; cases h3
  have hz := h.a.size
  refine ⟨h.a.alloc hz _, fun _ _ => ?_, fun q => ?_, fun q1 q2 => ?_, fun q => ?_, fun q => ?_, fun q => ?_, fun _ => by simp [setL]⟩
  · have e : updV x 0 (Value.slice (some ⟨w.heap.size, 0, none⟩) 0 0) 0 = .slice (some ⟨w.heap.size, 0, none⟩) 0 0 := by simp [updV]
    rw [e]
    exact World.ownsRow_lit w #[] 0 hz (by decide) (by simp)
  · simp [setL, h3] at q
  · have q5 : S 5 = true := by simpa [setL] using q1
    obtain ⟨b5, hx, hb0, hb, hc, _, _⟩ := h.i5 q5 h6
    refine ⟨b5, by simpa [updV] using hx, hb0, by simp; omega, fun k u hu => ?_, fun _ _ => ?_, fun q => by simp [setL, h3] at q⟩
    · have := hc k u hu
      rw [Addr.add_mid] at this ⊢
      rw [(bcell (below_alloc w _)).1 _ _ hb]
      exact this
    · simp [updV, Value.ownBlock]
      omega
  · simp [setL, h6] at q
  · simp [setL, h6] at q
  · simp [setL, h6] at q
theorem ReS.app {w0 : World} {fs : List Fld} {N V : ByteArray} {S : Nat → Bool} {x : Nat → Value} {w w' : World} {v' : Value} (h : ReS w0 fs N V S x w) (h0 : S 0 = true) (h3 : S 3 = false) (hg : w.grownBy w' (x 0).ownBlock) (hat : v'.ownBlock = (x 0).ownBlock ∨ v'.ownBlock = some w.heap.size)
    (ho : w'.ownsRow w0.heap.size 53 2 v' fs.length (cellsF fs)) : ReS w0 fs N V (setL S 3) (updV x 3 v') w' := by
  have h6 : S 6 = false := by
    cases h6 : S 6 with
    | false => rfl
    | true => rw [h.o3 h6] at h3; cases h3
  have hown := h.i0 h0 h3
  have hz := h.a.size
  have hz2 := hg.size
  refine ⟨h.a.grown hg hz (fun k hk => (hown.lt k hk).1), fun _ q => ?_, fun _ _ => ?_, fun q1 _ => ?_, fun q => ?_, fun q => ?_, fun q => ?_, fun _ => by simpa [setL] using h0⟩
  · simp [setL] at q
  · simpa [updV] using ho
  · have q5 : S 5 = true := by simpa [setL] using q1
    obtain ⟨b5, hx, hb0, hb, hc, hn, _⟩ := h.i5 q5 h6
    refine ⟨b5, by simpa [updV] using hx, hb0, by omega, fun k u hu => ?_, fun _ q => by simp [setL] at q, fun _ e => ?_⟩
    · have := hc k u hu
      rw [Addr.add_mid] at this ⊢
      unfold World.cell? at this ⊢
      rw [hg.block b5 hb (fun e => hn h0 h3 e.symm)]
      exact this
    · have e2 : v'.ownBlock = some b5 := by simpa [updV] using e
      rcases hat with q | q
      · exact hn h0 h3 (by rw [← q]; exact e2)
      · rw [e2] at q
        injection q with q
        omega
  · simp [setL, h6] at q
  · simp [setL, h6] at q
  · simp [setL, h6] at q
end Go.Proofs.YtbbphklhnngjmaaGreatDoor

/- request's reference: framing's Of, Plain. -/
namespace Go.Proofs.YtbbphklhnngjmaaGreatDoor
open Go.RowKit
def lenR : ByteArray := ⟨#[99, 111, 110, 116, 101, 110, 116, 45, 108, 101, 110, 103, 116, 104]⟩
def hostR : ByteArray := ⟨#[104, 111, 115, 116]⟩
end Go.Proofs.YtbbphklhnngjmaaGreatDoor

/- The walk of the statement FieldsParse. -/
namespace Go.Proofs.YtbbphklhnngjmaaGreatDoor
open Go.RowKit
theorem tok_no58 {n : List UInt8} (h : tokB n = true) : (58 : UInt8) ∉ n := by
  intro hm
  unfold tokB at h
  rw [Bool.and_eq_true, List.all_eq_true] at h
  exact absurd (h.2 58 hm) (by decide +kernel)
theorem parse_back {n v : List UInt8} (hn : tokB n = true) (hv : valB v = true) : parseL (n ++ [58, 32] ++ v) = some (n, v) := by
  have e : n ++ [58, 32] ++ v = n ++ (58 :: 32 :: v) := by simp
  have hi : Lib.indexByte (n ++ (58 :: 32 :: v)) 58 = (n.length : Int) := ib_at 58 _ n.length (by rw [List.take_left']; exact tok_no58 hn; rfl) (by simp)
  have ht : trimB v = v := by
    unfold valB at hv
    rw [Bool.and_eq_true] at hv
    exact of_decide_eq_true hv.1
  have h1 : (n ++ (58 :: 32 :: v)).take n.length = n := by rw [List.take_left']; rfl
  have h2 : (n ++ (58 :: 32 :: v)).drop (n.length + 1) = 32 :: v := by
    rw [← List.drop_drop, List.drop_left']
    · rfl
    · rfl
  rw [e]
  unfold parseL
  simp only [hi, Int.toNat_natCast, h1, h2]
  rw [trimB_left 32 v (by decide +kernel), ht, if_pos ⟨by omega, hn, hv⟩]
end Go.Proofs.YtbbphklhnngjmaaGreatDoor

/- rewrite: the reference's Hop, Hops. -/
namespace Go.Proofs.YtbbphklhnngjmaaGreatDoor
open Go.RowKit
theorem hopsR_len (ts : List ByteArray) (fs : List Fld) : (hopsR ts fs).length ≤ fs.length := List.length_filter_le _ _
theorem hopsR_mem {ts : List ByteArray} {fs : List Fld} {f : Fld} (h : f ∈ hopsR ts fs) : f ∈ fs := (List.mem_filter.1 h).1
theorem hopsR_sub (ts : List ByteArray) (fs : List Fld) : (hopsR ts fs).Sublist fs := List.filter_sublist
end Go.Proofs.YtbbphklhnngjmaaGreatDoor

/- rewrite: what goes to a backend can be read there (lists). -/
namespace Go.Proofs.YtbbphklhnngjmaaGreatDoor
open Go.RowKit

section
variable {x : ByteArray} {n v : List UInt8} {fs : List Fld} {toks : List ByteArray}
theorem isB_eq (x : ByteArray) (f : Fld) : isB x f = decide (f.1.map lowC = x.data.toList.map lowC) := rfl
theorem hasB_one (n : List UInt8) (f : Fld) : hasB [bs n] f = decide (n.map lowC = f.1.map lowC) := by
  unfold hasB
  rw [List.any_cons, List.any_nil, Bool.or_false, bs_list]
theorem fil_drop (hne : n.map lowC ≠ x.data.toList.map lowC) (l : List Fld) : (dropL [bs n] l).filter (isB x) = l.filter (isB x) := by
  unfold dropL
  rw [List.filter_filter]
  refine List.filter_congr fun f _ => ?_
  rw [hasB_one, isB_eq]
  by_cases h : f.1.map lowC = x.data.toList.map lowC
  · rw [h, decide_eq_false hne]; simp
  · rw [decide_eq_false h]; rfl
theorem fil_set (hne : n.map lowC ≠ x.data.toList.map lowC) (fs : List Fld) : (setF n v fs).filter (isB x) = fs.filter (isB x) := by
  have hnv : isB x (n, v) = false := decide_eq_false hne
  unfold setF
  simp only
  rcases findI_cases [bs n] fs with ⟨hi, hno⟩ | ⟨i, hil, hi, hyes, hno⟩
  · rw [hi, if_neg (by decide), List.filter_append]
    simp [hnv]
  · rw [hi, if_pos (by omega), Int.toNat_natCast, List.filter_append, List.filter_cons_of_neg (by rw [hnv]; decide), fil_drop hne]
    have hx : isB x fs[i] = false := by
      rw [hasB_one] at hyes
      have := of_decide_eq_true hyes
      exact decide_eq_false (by rw [← this]; exact hne)
    have e : fs = fs.take i ++ fs[i] :: fs.drop (i + 1) := by rw [List.getElem_cons_drop, List.take_append_drop]
    conv => rhs; rw [e, List.filter_append, List.filter_cons_of_neg (by rw [hx]; decide)]
theorem fil_none (h : ∀ f ∈ fs, hasB [bs n] f = false) (he : n.map lowC = x.data.toList.map lowC) : fs.filter (isB x) = [] := by
  rw [List.filter_eq_nil_iff]
  intro f hf
  have := h f hf
  rw [hasB_one, he] at this
  rw [isB_eq]
  have h2 := of_decide_eq_false this
  simp only [decide_eq_true_eq]
  exact fun k => h2 k.symm
theorem fil_same (he : n.map lowC = x.data.toList.map lowC) (fs : List Fld) : (setF n v fs).filter (isB x) = [(n, v)] := by
  have hnv : isB x (n, v) = true := decide_eq_true he
  unfold setF
  simp only
  rcases findI_cases [bs n] fs with ⟨hi, hno⟩ | ⟨i, hil, hi, hyes, hno⟩
  · rw [hi, if_neg (by decide), List.filter_append, fil_none hno he]
    simp [hnv]
  · rw [hi, if_pos (by omega), Int.toNat_natCast, List.filter_append, fil_none hno he, List.nil_append, List.filter_cons_of_pos hnv]
    congr 1
    refine fil_none (n := n) (fun f hf => ?_) he
    unfold dropL at hf
    have := (List.mem_filter.1 hf).2
    simpa using this
theorem fil_gone (hx : ∀ f : Fld, f.1.map lowC = x.data.toList.map lowC → hopR f.1 toks = true) (fs : List Fld) : (hopsR toks fs).filter (isB x) = [] := by
  rw [List.filter_eq_nil_iff]
  intro f hf
  have := (List.mem_filter.1 hf).2
  rw [isB_eq]
  simp only [decide_eq_true_eq]
  intro h
  rw [hx f h] at this
  simp at this
theorem hop_nine {f : Fld} (h : f.1.map lowC ∈ nineR) : hopR f.1 toks = true := by
  unfold hopR
  rw [Bool.or_eq_true, List.any_eq_true]
  exact .inl ⟨_, h, decide_eq_true rfl⟩
end
theorem allB_fil (x : ByteArray) (fs : List Fld) : allB x fs = (fs.filter (isB x)).map fun f => bs f.2 := rfl
section
variable (FS : List Fld) (cl : List UInt8) (K : Int) (bl : Nat)
end
def clientL : List UInt8 := [99, 108, 105, 101, 110, 116]
theorem fok_of {n v : List UInt8} (hn : tokB n = true) (hv : valB v = true) : FOk (n, v) := parse_back hn hv
theorem dig_val : ∀ n : Fin 61, valB (prtI 10 ((n.val : Nat) : Int)) = true ∧ numR 10 10 isDec (prtI 10 ((n.val : Nat) : Int)) 100 = (((n.val : Nat) : Int), 0) := by decide +kernel
theorem textL_app (a b : List Fld) : textL (a ++ b) = textL a ++ textL b := by unfold textL; simp
theorem textL_sub {a b : List Fld} (h : a.Sublist b) : (textL a).length ≤ (textL b).length := by
  induction h with
  | slnil => exact Nat.le_refl _
  | cons f _ ih => rw [textL_len]; omega
  | cons_cons f _ ih => rw [textL_len, textL_len]; omega
theorem textL_one (n v : List UInt8) : (textL [(n, v)]).length = n.length + v.length + 4 := by
  rw [textL_len]
  simp [textL]
  omega
theorem textL_set (n v : List UInt8) (fs : List Fld) : (textL (setF n v fs)).length ≤ (textL fs).length + (n.length + v.length + 4) := by
  unfold setF
  simp only
  split
  · rename_i hi
    have e : fs.take (findI [bs n] fs).toNat ++ ((n, v) :: dropL [bs n] (fs.drop ((findI [bs n] fs).toNat + 1))) = fs.take (findI [bs n] fs).toNat ++ ([(n, v)] ++ dropL [bs n] (fs.drop ((findI [bs n] fs).toNat + 1))) := rfl
    rw [e, textL_app, textL_app, List.length_append, List.length_append, textL_one]
    have h1 : (textL (fs.take (findI [bs n] fs).toNat ++ dropL [bs n] (fs.drop ((findI [bs n] fs).toNat + 1)))).length ≤ (textL fs).length := by
      refine textL_sub ?_
      conv => rhs; rw [← List.take_append_drop (findI [bs n] fs).toNat fs]
      refine List.Sublist.append (List.Sublist.refl _) ?_
      unfold dropL
      refine List.Sublist.trans List.filter_sublist ?_
      rw [← List.drop_drop]
      exact List.drop_sublist 1 _
    rw [textL_app, List.length_append] at h1
    omega
  · rw [textL_app, List.length_append, textL_one]
    exact Nat.le_refl _
end Go.Proofs.YtbbphklhnngjmaaGreatDoor

/- rewrite: a request that was sent on is read by a parser. -/
namespace Go.Proofs.YtbbphklhnngjmaaGreatDoor
open Go.RowKit

/-- A request that may be, before it is sent on. -/
structure SentIs (m t bd : List UInt8) (FS : List Fld) (K : Int) : Prop where
  fok : ∀ f ∈ FS, FOk f
  hm : tokB m = true
  ht : tgtB t = true
  host : ∃ h0, allB hostR FS = [h0] ∧ 0 < h0.size
  kind : K = 0 → allB lenR FS = [] ∧ bd = []
  fl : FS.length ≤ 9
  fz : ∀ f ∈ FS, f.1.length ≤ 20 ∧ f.2.length ≤ 40
  ml : m.length ≤ 20
  tl : t.length ≤ 40
  bl : bd.length ≤ 60
def limM : HdL := ⟨500, 2000, 40⟩
theorem SentIs.text {m t bd : List UInt8} {FS : List Fld} {K : Int} (h : SentIs m t bd FS K) : (textL (reqF FS clientL K bd.length)).length ≤ 2000 ∧ (reqF FS clientL K bd.length).length ≤ 40 := by
  have h0 : (textL (hopsF FS)).length ≤ FS.length * 64 := by
    refine Nat.le_trans (textL_sub (hopsR_sub _ FS)) ?_
    exact textL_small FS h.fz
  have hHl : (hopsF FS).length ≤ 9 := Nat.le_trans (hopsR_len _ FS) h.fl
  have hw : (whoL (allB xffB (hopsF FS)) clientL).length ≤ 400 := by
    have h1 := whoL_len (allB xffB (hopsF FS)) clientL
    have h2 := SmF.sum (k := 9) (m := 40) (fs := hopsF FS) ⟨hHl, fun f hf => ⟨by have := (h.fz f (hopsR_mem hf)).1; omega, (h.fz f (hopsR_mem hf)).2⟩⟩ xffB
    have h3 := allB_lenR xffB (hopsF FS)
    have h4 : clientL.length = 6 := rfl
    omega
  have hg1 : (textL (reqG FS clientL)).length ≤ 1100 := by
    unfold reqG
    rw [textL_app, List.length_append]
    have h1 := textL_set xffN (whoL (allB xffB (hopsF FS)) clientL) (hopsF FS)
    have h2 : xffN.length = 15 := rfl
    have h3 : (textL [viaF]).length = 18 := rfl
    have := h.fl
    omega
  have hg2 : (reqG FS clientL).length ≤ 11 := by
    unfold reqG
    rw [List.length_append]
    have := setF_len xffN (whoL (allB xffB (hopsF FS)) clientL) (hopsF FS)
    have h3 : [viaF].length = 1 := rfl
    omega
  unfold reqF
  split
  · exact ⟨by omega, by omega⟩
  · have h1 := textL_set clenN (prtI 10 (bd.length : Int)) (reqG FS clientL)
    have h2 := prtI_short (bd.length : Int)
    have h3 : clenN.length = 14 := rfl
    have h4 := setF_len clenN (prtI 10 (bd.length : Int)) (reqG FS clientL)
    exact ⟨by omega, by omega⟩
end Go.Proofs.YtbbphklhnngjmaaGreatDoor

/- rewrite's reference: add, Request. -/
namespace Go.Proofs.YtbbphklhnngjmaaGreatDoor
open Go.RowKit
theorem SmF.size {fs : List Fld} {k m : Nat} (h : SmF fs k m) (x : ByteArray) : ∀ y ∈ allB x fs, y.size ≤ m := by
  intro y hy
  unfold allB at hy
  obtain ⟨f, hf, rfl⟩ := List.mem_map.1 hy
  rw [bs_size]
  exact (h.2 f (List.mem_filter.1 hf).1).2
end Go.Proofs.YtbbphklhnngjmaaGreatDoor

/- response: Message.Text; the reference's Text; the law's Own (written by genrsh.py). -/
namespace Go.Proofs.YtbbphklhnngjmaaGreatDoor
open Go.RowKit

set_option maxRecDepth 100000 in
set_option maxHeartbeats 4000000 in
theorem mtext11 (cd : Int) (r bd : List UInt8) (K : Int) (hbd : bd.length ≤ 1000000) (hm : r.length ≤ 1000000) (a : Option Addr) (c : Nat) (fs : List Fld) (hfl : fs.length ≤ 1000000) (hok : ∀ f ∈ fs, FldOk f) (hsum : (textL fs).length ≤ 1000000000) (w : World) (hp : Pow w) (hf : IsFlds w a c fs) :
    Calls Tryz.prog 11 #[.agg #[.int .i64 cd, .string (bs r), .slice a fs.length c, .string (bs bd), .int .i64 K]] w fun x w' => x = .returned (.string (bs (stLine (cd, r) ++ textL fs ++ [13, 10] ++ bd))) ∧ Below w.heap.size w w' := by
  have hrl : (stLine (cd, r)).length ≤ 3000000 := by have := prtI_short (codeT cd); simp [stLine, pfxL]; omega
  have A1 := fun W => add_str (stLine (cd, r)) (textL fs) (by omega) W
  have A2 := fun W => add_str (stLine (cd, r) ++ textL fs) [13, 10] (by simp; omega) W
  have A3 := fun W => add_str (stLine (cd, r) ++ textL fs ++ [13, 10]) bd (by simp; omega) W
  have e13 : bs [13, 10] = ⟨#[13, 10]⟩ := rfl
  rw [e13] at A2
  have HLN := Lib.hid (fun W h => sline15 cd r (by omega) W h)
  have HP := Lib.hid hp
  have HTX := Lib.hid (fun W h => text49 a c fs (by omega) hok (by omega) W h)
  have HF := Lib.hid hf
  generalize hx4 : bs (stLine (cd, r) ++ textL fs ++ [13, 10] ++ bd) = x4 at *
  generalize hxb : bs bd = bb at *
  have R0 := Row.new w 33 #[.int .i64 cd, .string (bs r), .slice a fs.length c, .string bb, .int .i64 K]
  have L0 := below_alloc w (.cells #[.int .i64 cd, .string (bs r), .slice a fs.length c, .string bb, .int .i64 K] 33)
  generalize hx3 : bs (stLine (cd, r) ++ textL fs ++ [13, 10]) = x3 at *
  generalize hx2 : bs (stLine (cd, r) ++ textL fs) = x2 at *
  generalize hx1 : bs (stLine (cd, r)) = x1 at *
  generalize hx0 : bs (textL fs) = x0 at *
  generalize hmm : bs r = rr at *
  clear hx4 hxb hbd hx3 hx2 hx1 hx0 hmm e13 hrl hf hok hm hsum hp
  go_enter Tryz.func11, Tryz.ntmps11
  go_upto_region 1 with fail
  obtain ⟨bM, hbM⟩ : ∃ bM, bM = w.heap.size := ⟨_, rfl⟩
  rw [← hbM] at R0 ⊢
  generalize w.alloc (.cells #[.int .i64 cd, .string rr, .slice a fs.length c, .string bb, .int .i64 K] 33) = w1 at *
  have HF1 := Lib.hid (HF.out.below L0)
  have HP1 := Lib.hid (HP.out.below L0)
  have HL1 := Lib.hid L0
  have r0 : w1.cell? ⟨bM, 0, none⟩ = some (.int .i64 cd) := R0.cell 0
  have r1 : w1.cell? ⟨bM, 1, none⟩ = some (.string rr) := R0.cell 1
  have r2 : w1.cell? ⟨bM, 2, none⟩ = some (.slice a fs.length c) := R0.cell 2
  have r3 : w1.cell? ⟨bM, 3, none⟩ = some (.string bb) := R0.cell 3
  have hlt := R0.lt
  obtain ⟨n, hn⟩ : ∃ n, n = fs.length := ⟨_, rfl⟩
  rw [← hn] at r2 HTX ⊢
  clear L0 R0 HF hbM hn
  refine region_mixt 11 [some (.pointer (some ⟨bM, 0, none⟩)), some (.agg #[.int .i64 cd, .string rr]), some (.string x1), some (.pointer (some ⟨bM, 2, none⟩)), some (.slice a n c), some (.string x0), some (.string x2), some (.string x3), some (.pointer (some ⟨bM, 3, none⟩)), some (.string bb), some (.string x4)]
    [[false, false, false, false, false, false, false, false, false, false, false], [true, false, false, false, false, false, false, false, false, false, false], [false, true, false, false, false, false, false, false, false, false, false], [false, false, false, false, false, false, false, false, false, false, false], [false, false, false, true, false, false, false, false, false, false, false], [false, false, true, false, true, false, false, false, false, false, false], [false, false, true, false, false, true, false, false, false, false, false], [false, false, false, false, false, false, true, false, false, false, false], [false, false, false, false, false, false, false, false, false, false, false], [false, false, false, false, false, false, false, false, true, false, false], [false, false, false, false, false, false, false, true, false, true, false]]
    (fun L x w9 => Below w1.heap.size w1 w9)
    (by kernel_rfl) (by kernel_rfl) (by kernel_rfl) (by kernel_rfl) (by kernel_rfl) (by decide) ?_ ?_ ?_
  · intro _
    exact ⟨rfl, rfl, rfl, Nat.le_refl _, fun _ _ => rfl⟩
  · simp only [List.take_succ_cons, List.take_zero]
    refine ⟨?_, ?_, ?_, ?_, ?_, ?_, ?_, ?_, ?_, ?_, ?_, trivial⟩
    all_goals
      intro L x w9 hS hl hp K9 hK9
      have hs : Below w1.heap.size w1 w9 := hS
      clear hS hp hl
      replace hK9 := hK9.out
      simp only [actMix, pickV, List.tail_cons, List.headD_cons, Act.put, List.setIfInBounds_toArray, List.set_cons_zero, List.set_cons_succ] at hK9 ⊢
    · go_simp
      with_reducible refine hK9 _ ?_
      exact hs
    · have r8 : w9.cell? ⟨bM, 0, none⟩ = some (.int .i64 cd) := by rw [(bcell hs).1 _ _ hlt]; exact r0
      have r9 : w9.cell? ⟨bM, 1, none⟩ = some (.string rr) := by rw [(bcell hs).1 _ _ hlt]; exact r1
      go_simp
      with_reducible refine hK9 _ ?_
      exact hs
    · go_simp
      refine (HLN.out w9 (HP1.out.below hs)).mono ?_
      rintro e9 w8 ⟨rfl, hb8⟩
      with_reducible refine hK9 _ ?_
      exact hs.trans (hb8.mono hs.size)
    · go_simp
      with_reducible refine hK9 _ ?_
      exact hs
    · have r9 : w9.cell? ⟨bM, 2, none⟩ = some (.slice a n c) := by rw [(bcell hs).1 _ _ hlt]; exact r2
      go_simp
      with_reducible refine hK9 _ ?_
      exact hs
    · go_simp
      refine (HTX.out w9 (HF1.out.below hs)).mono ?_
      rintro e9 w8 ⟨rfl, hb8⟩
      with_reducible refine hK9 _ ?_
      exact hs.trans (hb8.mono hs.size)
    · go_simp
      with_reducible refine hK9 _ ?_
      exact hs
    · go_simp
      with_reducible refine hK9 _ ?_
      exact hs
    · go_simp
      with_reducible refine hK9 _ ?_
      exact hs
    · have r9 : w9.cell? ⟨bM, 3, none⟩ = some (.string bb) := by rw [(bcell hs).1 _ _ hlt]; exact r3
      go_simp
      with_reducible refine hK9 _ ?_
      exact hs
    · go_simp
      with_reducible refine hK9 _ ?_
      exact hs
  intro L x w9 hS hL
  have hs : Below w1.heap.size w1 w9 := hS
  clear hS hL
  simp only [actMix, pickV, List.tail_cons, List.headD_cons, Act.put, List.setIfInBounds_toArray, List.set_cons_zero, List.set_cons_succ, List.replicate_succ, List.replicate_zero, List.drop_succ_cons, List.drop_zero, List.take_succ_cons, List.take_zero]
  have HB9 := Lib.hid (HL1.out.trans (hs.mono HL1.out.size))
  clear hs
  go_wp2_with fail
  go_ret
  exact ⟨rfl, HB9.out⟩
set_option maxRecDepth 100000 in
set_option maxHeartbeats 8000000 in
theorem ownR10 (kc : Int) (tt bb : ByteArray) (kk : Int) (a : Option Addr) (c : Nat) (fs : List Fld) (hfl : fs.length ≤ 1000000) (gs : List Fld) (hgs : gs = fs) (w : World) (hf : IsFlds w a c fs) :
    Calls Tryz.prog 10 #[.agg #[.int .i64 kc, .string tt, .slice a fs.length c, .string bb, .int .i64 kk]] w fun e w' => ∃ b d, e = .returned (.agg #[.int .i64 kc, .string tt, .slice b gs.length d, .string bb, .int .i64 kk]) ∧ (b = none → d = 0 ∧ gs = []) ∧ IsFlds w' b d (gs) ∧ Below w.heap.size w w' := by
  have HM : Hid (∀ W, IsFlds W a c fs → Calls Tryz.prog 36 #[.slice a fs.length c] W fun e w' => ∃ u, e = .returned u ∧ w'.ownsRow W.heap.size 62 2 u gs.length (cellsF gs) ∧ Below W.heap.size W w') := fun W h => by rw [hgs]; exact own40 a c fs hfl W h
  clear hfl hgs
  obtain ⟨FF, hFF⟩ : ∃ X, X = gs := ⟨_, rfl⟩
  obtain ⟨m, hm⟩ : ∃ m, m = FF.length := ⟨_, rfl⟩
  rw [← hFF] at HM ⊢
  obtain ⟨n, hn⟩ : ∃ n, n = fs.length := ⟨_, rfl⟩
  rw [← hn] at HM ⊢
  have HMM := Lib.hid hm
  have R0 := (Row.new w 24 #[.int .i64 kc, .string tt, .slice a n c, .string bb, .int .i64 kk]).alloc (.cells #[.int .i64 0, .string ⟨#[]⟩, .slice none 0 0, .string ⟨#[]⟩, .int .i64 0] 33)
  have R1 := Row.new (w.alloc (.cells #[.int .i64 kc, .string tt, .slice a n c, .string bb, .int .i64 kk] 24)) 33 #[.int .i64 0, .string ⟨#[]⟩, .slice none 0 0, .string ⟨#[]⟩, .int .i64 0]
  rw [show (w.alloc (.cells #[.int .i64 kc, .string tt, .slice a n c, .string bb, .int .i64 kk] 24)).heap.size = w.heap.size + 1 by simp] at R1
  have L1 := (below_alloc w (.cells #[.int .i64 kc, .string tt, .slice a n c, .string bb, .int .i64 kk] 24)).alloc (by simp) (.cells #[.int .i64 0, .string ⟨#[]⟩, .slice none 0 0, .string ⟨#[]⟩, .int .i64 0] 33)
  have HF := Lib.hid (hf.below L1)
  clear hf hFF hn
  go_enter Tryz.func10, Tryz.ntmps10
  go_upto_region 1 with fail
  obtain ⟨bM, hbM⟩ : ∃ bM, bM = w.heap.size := ⟨_, rfl⟩
  obtain ⟨bR, hbR⟩ : ∃ bR, bR = w.heap.size + 1 := ⟨_, rfl⟩
  have hbR0 : w.heap.size ≤ bR := by omega
  rw [← hbM] at R0
  rw [← hbR] at R1 ⊢
  rw [← hbM]
  generalize World.alloc (World.alloc w _) _ = w1 at *
  have HL1 := Lib.hid L1
  have r0 : w1.cell? ⟨bM, 0, none⟩ = some (.int .i64 kc) := R0.cell 0
  have r1 : w1.cell? ⟨bM, 1, none⟩ = some (.string tt) := R0.cell 1
  have r2 : w1.cell? ⟨bM, 2, none⟩ = some (.slice a n c) := R0.cell 2
  have r3 : w1.cell? ⟨bM, 3, none⟩ = some (.string bb) := R0.cell 3
  have r4 : w1.cell? ⟨bM, 4, none⟩ = some (.int .i64 kk) := R0.cell 4
  have hlt := R0.lt
  have RR := Lib.hid R1
  clear L1 R0 R1 hbM hbR hm
  rw [← HMM.out] at HM
  refine region_mixt 13 [some (.pointer (some ⟨bM, 0, none⟩)), some (.int .i64 kc), some (.pointer (some ⟨bM, 1, none⟩)), some (.string tt), some (.agg #[.int .i64 kc, .string tt]), some (.pointer (some ⟨bM, 2, none⟩)), some (.slice a n c), none, some (.pointer (some ⟨bM, 3, none⟩)), some (.string bb), some (.pointer (some ⟨bM, 4, none⟩)), some (.int .i64 kk), none]
    [[false, false, false, false, false, false, false, false, false, false, false, false, false], [true, false, false, false, false, false, false, false, false, false, false, false, false], [false, false, false, false, false, false, false, false, false, false, false, false, false], [false, false, true, false, false, false, false, false, false, false, false, false, false], [false, true, false, true, false, false, false, false, false, false, false, false, false], [false, false, false, false, false, false, false, false, false, false, false, false, false], [false, false, false, false, false, true, false, false, false, false, false, false, false], [false, false, false, false, false, false, true, false, false, false, false, false, false], [false, false, false, false, false, false, false, false, false, false, false, false, false], [false, false, false, false, false, false, false, false, true, false, false, false, false], [false, false, false, false, false, false, false, false, false, false, false, false, false], [false, false, false, false, false, false, false, false, false, false, true, false, false], [false, false, false, false, true, false, false, true, false, true, false, true, false]]
    (fun L x w9 => Below w1.heap.size w1 w9 ∧ (L 7 = true → ∃ b d, x 7 = .slice b m d ∧ (b = none → d = 0 ∧ FF = []) ∧ IsFlds w9 b d FF ∧ (∀ ad, b = some ad → w1.heap.size ≤ ad.block)) ∧ (L 12 = true → L 7 = true ∧ x 12 = .agg #[.int .i64 kc, .string tt, x 7, .string bb, .int .i64 kk]))
    (by kernel_rfl) (by kernel_rfl) (by kernel_rfl) (by kernel_rfl) (by kernel_rfl) (by decide) ?_ ?_ ?_
  · intro _
    exact ⟨⟨rfl, rfl, rfl, Nat.le_refl _, fun _ _ => rfl⟩, (fun h => by cases h), (fun h => by cases h)⟩
  · simp only [List.take_succ_cons, List.take_zero]
    refine ⟨?_, ?_, ?_, ?_, ?_, ?_, ?_, ?_, ?_, ?_, ?_, ?_, ?_, trivial⟩
    all_goals
      intro L x w9 hS hl hp K9 hK9
      have hs : Below w1.heap.size w1 w9 ∧ (L 7 = true → ∃ b d, x 7 = .slice b m d ∧ (b = none → d = 0 ∧ FF = []) ∧ IsFlds w9 b d FF ∧ (∀ ad, b = some ad → w1.heap.size ≤ ad.block)) ∧ (L 12 = true → L 7 = true ∧ x 12 = .agg #[.int .i64 kc, .string tt, x 7, .string bb, .int .i64 kk]) := hS
      clear hS
      replace hK9 := hK9.out
      simp only [actMix, pickV, List.tail_cons, List.headD_cons, Act.put, List.setIfInBounds_toArray, List.set_cons_zero, List.set_cons_succ] at hK9 ⊢
    · clear hp
      go_simp
      with_reducible refine hK9 _ ?_
      exact ⟨hs.1, fun h => by
        obtain ⟨b, d, h1, h2, h3, h4⟩ := hs.2.1 (by simpa [setL] using h)
        exact ⟨b, d, by simpa [updV] using h1, h2, h3, h4⟩, fun h => by
        obtain ⟨h1, h2⟩ := hs.2.2 (by simpa [setL] using h)
        exact ⟨by simpa [setL] using h1, by simpa [updV] using h2⟩⟩
    · have s0 : w9.cell? ⟨bM, 0, none⟩ = some (.int .i64 kc) := by rw [(bcell hs.1).1 _ _ hlt]; exact r0
      clear hp
      go_simp
      with_reducible refine hK9 _ ?_
      exact ⟨hs.1, fun h => by
        obtain ⟨b, d, h1, h2, h3, h4⟩ := hs.2.1 (by simpa [setL] using h)
        exact ⟨b, d, by simpa [updV] using h1, h2, h3, h4⟩, fun h => by
        obtain ⟨h1, h2⟩ := hs.2.2 (by simpa [setL] using h)
        exact ⟨by simpa [setL] using h1, by simpa [updV] using h2⟩⟩
    · clear hp
      go_simp
      with_reducible refine hK9 _ ?_
      exact ⟨hs.1, fun h => by
        obtain ⟨b, d, h1, h2, h3, h4⟩ := hs.2.1 (by simpa [setL] using h)
        exact ⟨b, d, by simpa [updV] using h1, h2, h3, h4⟩, fun h => by
        obtain ⟨h1, h2⟩ := hs.2.2 (by simpa [setL] using h)
        exact ⟨by simpa [setL] using h1, by simpa [updV] using h2⟩⟩
    · have s1 : w9.cell? ⟨bM, 1, none⟩ = some (.string tt) := by rw [(bcell hs.1).1 _ _ hlt]; exact r1
      clear hp
      go_simp
      with_reducible refine hK9 _ ?_
      exact ⟨hs.1, fun h => by
        obtain ⟨b, d, h1, h2, h3, h4⟩ := hs.2.1 (by simpa [setL] using h)
        exact ⟨b, d, by simpa [updV] using h1, h2, h3, h4⟩, fun h => by
        obtain ⟨h1, h2⟩ := hs.2.2 (by simpa [setL] using h)
        exact ⟨by simpa [setL] using h1, by simpa [updV] using h2⟩⟩
    · clear hp
      go_simp
      with_reducible refine hK9 _ ?_
      exact ⟨hs.1, fun h => by
        obtain ⟨b, d, h1, h2, h3, h4⟩ := hs.2.1 (by simpa [setL] using h)
        exact ⟨b, d, by simpa [updV] using h1, h2, h3, h4⟩, fun h => by
        obtain ⟨h1, h2⟩ := hs.2.2 (by simpa [setL] using h)
        exact ⟨by simpa [setL] using h1, by simpa [updV] using h2⟩⟩
    · clear hp
      go_simp
      with_reducible refine hK9 _ ?_
      exact ⟨hs.1, fun h => by
        obtain ⟨b, d, h1, h2, h3, h4⟩ := hs.2.1 (by simpa [setL] using h)
        exact ⟨b, d, by simpa [updV] using h1, h2, h3, h4⟩, fun h => by
        obtain ⟨h1, h2⟩ := hs.2.2 (by simpa [setL] using h)
        exact ⟨by simpa [setL] using h1, by simpa [updV] using h2⟩⟩
    · have s2 : w9.cell? ⟨bM, 2, none⟩ = some (.slice a n c) := by rw [(bcell hs.1).1 _ _ hlt]; exact r2
      clear hp
      go_simp
      with_reducible refine hK9 _ ?_
      exact ⟨hs.1, fun h => by
        obtain ⟨b, d, h1, h2, h3, h4⟩ := hs.2.1 (by simpa [setL] using h)
        exact ⟨b, d, by simpa [updV] using h1, h2, h3, h4⟩, fun h => by
        obtain ⟨h1, h2⟩ := hs.2.2 (by simpa [setL] using h)
        exact ⟨by simpa [setL] using h1, by simpa [updV] using h2⟩⟩
    · clear hp
      go_simp
      have h12 : L 12 = false := by
        cases h : L 12 with
        | false => rfl
        | true => have := (hs.2.2 h).1; rw [hl] at this; cases this
      refine (HM.out w9 (HF.out.below hs.1)).mono ?_
      rintro e9 w8 ⟨u, rfl, ho, hb8⟩
      rw [HMM.out] at ho
      obtain ⟨b, d, rfl, _, hbn, hf8, hnw⟩ := own_isFldsB ho
      rw [← HMM.out]
      with_reducible refine hK9 _ _ ?_
      exact ⟨hs.1.trans (hb8.mono hs.1.size), fun _ => ⟨b, d, by simp [updV, *], hbn, hf8, fun ad had => Nat.le_trans hs.1.size (hnw ad had)⟩, fun h => by simp [setL, h12] at h⟩
    · clear hp
      go_simp
      with_reducible refine hK9 _ ?_
      exact ⟨hs.1, fun h => by
        obtain ⟨b, d, h1, h2, h3, h4⟩ := hs.2.1 (by simpa [setL] using h)
        exact ⟨b, d, by simpa [updV] using h1, h2, h3, h4⟩, fun h => by
        obtain ⟨h1, h2⟩ := hs.2.2 (by simpa [setL] using h)
        exact ⟨by simpa [setL] using h1, by simpa [updV] using h2⟩⟩
    · have s3 : w9.cell? ⟨bM, 3, none⟩ = some (.string bb) := by rw [(bcell hs.1).1 _ _ hlt]; exact r3
      clear hp
      go_simp
      with_reducible refine hK9 _ ?_
      exact ⟨hs.1, fun h => by
        obtain ⟨b, d, h1, h2, h3, h4⟩ := hs.2.1 (by simpa [setL] using h)
        exact ⟨b, d, by simpa [updV] using h1, h2, h3, h4⟩, fun h => by
        obtain ⟨h1, h2⟩ := hs.2.2 (by simpa [setL] using h)
        exact ⟨by simpa [setL] using h1, by simpa [updV] using h2⟩⟩
    · clear hp
      go_simp
      with_reducible refine hK9 _ ?_
      exact ⟨hs.1, fun h => by
        obtain ⟨b, d, h1, h2, h3, h4⟩ := hs.2.1 (by simpa [setL] using h)
        exact ⟨b, d, by simpa [updV] using h1, h2, h3, h4⟩, fun h => by
        obtain ⟨h1, h2⟩ := hs.2.2 (by simpa [setL] using h)
        exact ⟨by simpa [setL] using h1, by simpa [updV] using h2⟩⟩
    · have s4 : w9.cell? ⟨bM, 4, none⟩ = some (.int .i64 kk) := by rw [(bcell hs.1).1 _ _ hlt]; exact r4
      clear hp
      go_simp
      with_reducible refine hK9 _ ?_
      exact ⟨hs.1, fun h => by
        obtain ⟨b, d, h1, h2, h3, h4⟩ := hs.2.1 (by simpa [setL] using h)
        exact ⟨b, d, by simpa [updV] using h1, h2, h3, h4⟩, fun h => by
        obtain ⟨h1, h2⟩ := hs.2.2 (by simpa [setL] using h)
        exact ⟨by simpa [setL] using h1, by simpa [updV] using h2⟩⟩
    · have h7 : L 7 = true := allL_mem hp 7 (by decide +kernel)
      obtain ⟨b, d, hx7, hbn7, hf7, hnb7⟩ := hs.2.1 h7
      clear hp
      rw [hx7] at hK9 ⊢
      go_simp
      with_reducible refine hK9 _ _ ?_
      exact ⟨hs.1, fun _ => ⟨b, d, by simpa [updV] using hx7, hbn7, hf7, hnb7⟩, fun _ => ⟨by simpa [setL] using h7, by simp [updV, hx7]⟩⟩
  intro L x w9 hS hL
  have hs : Below w1.heap.size w1 w9 ∧ (L 7 = true → ∃ b d, x 7 = .slice b m d ∧ (b = none → d = 0 ∧ FF = []) ∧ IsFlds w9 b d FF ∧ (∀ ad, b = some ad → w1.heap.size ≤ ad.block)) ∧ (L 12 = true → L 7 = true ∧ x 12 = .agg #[.int .i64 kc, .string tt, x 7, .string bb, .int .i64 kk]) := hS
  obtain ⟨b, d, hx7, hbn7, hf7, hnb7⟩ := hs.2.1 (hL 7 (by decide))
  have hx12 := (hs.2.2 (hL 12 (by decide))).2
  have hb9 := hs.1
  clear hS hL hs
  simp only [actMix, pickV, List.tail_cons, List.headD_cons, Act.put, List.setIfInBounds_toArray, List.set_cons_zero, List.set_cons_succ, List.replicate_succ, List.replicate_zero, List.drop_succ_cons, List.drop_zero, List.take_succ_cons, List.take_zero]
  rw [hx7] at hx12 ⊢
  rw [hx12]
  have Q := RR.out.below hb9
  have HB9 := Lib.hid (HL1.out.trans (hb9.mono HL1.out.size))
  have HF9 := Lib.hid hf7
  have HBN := Lib.hid hbn7
  have z0 := Q.free 0
  have z1 := Q.free 1
  have z2 := Q.free 2
  have z3 := Q.free 3
  have z4 := Q.free 4
  have p0 : w9.cell? ⟨bR, 0, none⟩ = some (.int .i64 0) := Q.cell 0
  have p1 : w9.cell? ⟨bR, 1, none⟩ = some (.string ⟨#[]⟩) := Q.cell 1
  have p2 : w9.cell? ⟨bR, 2, none⟩ = some (.slice none 0 0) := Q.cell 2
  have p3 : w9.cell? ⟨bR, 3, none⟩ = some (.string ⟨#[]⟩) := Q.cell 3
  have p4 : w9.cell? ⟨bR, 4, none⟩ = some (.int .i64 0) := Q.cell 4
  have HNB : Hid (∀ ad, b = some ad → ¬ ad.block = bR) := fun ad had => by have := hnb7 ad had; have := RR.out.lt; omega
  clear hx7 hx12 hf7 hnb7 hb9 Q hbn7
  go_wp2_with fail
  refine bodyPost_ret (v := .agg #[.int .i64 kc, .string tt, .slice b m d, .string bb, .int .i64 kk]) (by simp [results, Tryz.results10, go_sem, p0, p1, p2, p3, p4]) rfl ⟨b, d, by rw [HMM.out], HBN.out, ?_⟩
  have h5 := own_five bR _ HB9.out hbR0 (.int .i64 kc) (.string tt) (.slice b m d) (.string bb) (.int .i64 kk)
  exact ⟨isFlds_keepR HF9.out h5.2 HNB.out, h5.1⟩
end Go.Proofs.YtbbphklhnngjmaaGreatDoor

/- The walk of the statement RewriteRequests. -/
namespace Go.Proofs.YtbbphklhnngjmaaGreatDoor
open Go.RowKit
theorem fewF_smF (fs : List Fld) (n : Nat) (hn : n ≤ 1000) : SmF (fewF fs n) 1000 10000 := by
  refine ⟨Nat.le_trans (fewF_length fs n) hn, fun f hf => ?_⟩
  unfold fewF at hf
  obtain ⟨g, _, rfl⟩ := List.mem_map.1 hf
  exact ⟨by simp; omega, by simp; omega⟩
end Go.Proofs.YtbbphklhnngjmaaGreatDoor

/- The walk of the statement RewriteReads. -/
namespace Go.Proofs.YtbbphklhnngjmaaGreatDoor
open Go.RowKit

theorem laidS_R {w : World} (h : LaidS w) : LaidR w := by
  unfold LaidS at h
  unfold LaidR
  exact ⟨h.1, h.2.2.1, h.2.2.2⟩
theorem laidS_Y {w : World} (h : LaidS w) : Syn w := by
  unfold LaidS at h
  exact h.2.1
theorem laidS_M {w : World} (h : LaidS w) : MaxL w := by
  unfold LaidS at h
  exact h.1
end Go.Proofs.YtbbphklhnngjmaaGreatDoor

/- response's law: awake (written by hand; the numbers are its text's bytes). -/
namespace Go.Proofs.YtbbphklhnngjmaaGreatDoor
open Go.RowKit
def conB : ByteArray := ⟨#[67, 111, 110, 110, 101, 99, 116, 105, 111, 110]⟩
def cloB : ByteArray := ⟨#[99, 108, 111, 115, 101]⟩
theorem run_fldB (c : Int) (r : ByteArray) (b : Option Addr) (n d : Nat) (s : ByteArray) (k : Int) (w : World) : (Instr.field 33 (.agg #[.int .i64 c, .string r, .slice b n d, .string s, .int .i64 k]) 2).run Tryz.prog w = .ok (.string s) w := by kernel_rfl
end Go.Proofs.YtbbphklhnngjmaaGreatDoor

/- rewrite: what goes to a client can be read there. -/
namespace Go.Proofs.YtbbphklhnngjmaaGreatDoor
open Go.RowKit

section
variable {s : List UInt8}
theorem cl_ix (hc : Clean s) (r : List UInt8) : Lib.indexByte (s ++ 13 :: 10 :: r) 10 = ((s.length + 1 : Nat) : Int) := by
  refine ib_at 10 _ _ ?_ ?_
  · have e : (s ++ 13 :: 10 :: r).take (s.length + 1) = s ++ [13] := by
      have e2 : s ++ 13 :: 10 :: r = (s ++ [13]) ++ 10 :: r := by simp
      have e3 : s.length + 1 = (s ++ [13]).length := by simp
      rw [e2, e3, List.take_left' rfl]
    rw [e]
    intro hm
    rcases List.mem_append.1 hm with h | h
    · exact hc.1 h
    · exact absurd h (by decide)
  · have e2 : s ++ 13 :: 10 :: r = (s ++ [13]) ++ 10 :: r := by simp
    have e3 : s.length + 1 = (s ++ [13]).length := by simp
    rw [e2, e3, List.getElem?_append_right (Nat.le_refl _), Nat.sub_self]
    rfl
theorem cl_nl (hc : Clean s) (r : List UInt8) : nlAt (s ++ 13 :: 10 :: r) = s.length + 2 := by
  unfold nlAt
  rw [if_neg (by rw [cl_ix hc]; omega), cl_ix hc]
  omega
theorem cl_found (hc : Clean s) (r : List UInt8) : R.Found (s ++ 13 :: 10 :: r) := ⟨s.length + 1, cl_ix hc r, cl_nl hc r, by simp⟩
theorem cl_take (r : List UInt8) : (s ++ 13 :: 10 :: r).take (s.length + 2) = s ++ 13 :: 10 :: [] := by
  have e2 : s ++ 13 :: 10 :: r = (s ++ [13, 10]) ++ r := by simp
  have e3 : s.length + 2 = (s ++ [13, 10]).length := by simp
  rw [e2, e3, List.take_left' rfl]
theorem cl_drop (r : List UInt8) : (s ++ 13 :: 10 :: r).drop (s.length + 2) = r := by
  have e2 : s ++ 13 :: 10 :: r = (s ++ [13, 10]) ++ r := by simp
  have e3 : s.length + 2 = (s ++ [13, 10]).length := by simp
  rw [e2, e3, List.drop_left' rfl]
theorem cl_run (M : HdL) (hc : Clean s) (hq : (s.length : Int) ≤ max 0 M.line) : hRun M hd0 (s ++ 13 :: 10 :: []) = .line (some s) [] 0 [] false := by
  have h := run_clean M none [] 0 s [] hc
  show hRun M (.line none [] 0 [] false) _ = _
  rw [h, if_pos (.inr hq)]
  rfl
end
def stLn (c : Int) (r : List UInt8) : List UInt8 := pfxL ++ prtI 10 (codeT c) ++ [32] ++ r
theorem prt_cleans : ∀ n : Fin 400, Clean (prtI 10 ((n.val : Int) + 200)) := by decide +kernel
theorem code_same {c : Int} (h1 : ¬ c < 200) (h2 : c ≤ 599) : codeT c = c := by unfold codeT; omega
theorem stLn_clean {c : Int} {r : List UInt8} (h1 : ¬ c < 200) (h2 : c ≤ 599) (hv : valB r = true) : Clean (stLn c r) := by
  have hp : Clean (prtI 10 c) := by
    have h := prt_cleans ⟨(c - 200).toNat, by omega⟩
    have e : ((c - 200).toNat : Int) + 200 = c := by omega
    simp only [e] at h
    exact h
  unfold stLn
  rw [code_same h1 h2]
  exact Clean.app (Clean.app (Clean.app (by decide) hp) (by decide)) ⟨val_no val10 hv, val_no val13 hv⟩
theorem stLn_back {c : Int} {r : List UInt8} (h1 : ¬ c < 200) (h2 : c ≤ 599) (hv : valB r = true) : stP (stLn c r) = some (c, r) := by
  obtain ⟨hp, hp3⟩ := prt_code c h1 h2
  unfold stLn
  rw [code_same h1 h2]
  exact (stP_is _ _).2 ⟨prtI 10 c, hp3, hp, h1, hv, .inr (by simp)⟩
theorem stLn_len {c : Int} {r : List UInt8} (h1 : ¬ c < 200) (h2 : c ≤ 599) : (stLn c r).length = r.length + 13 := by
  obtain ⟨_, hp3⟩ := prt_code c h1 h2
  unfold stLn
  rw [code_same h1 h2]
  simp [pfxL, hp3]
  omega
section
variable (q cl : Bool) (FS : List Fld) (bl : Nat)
theorem resp_gone (x : ByteArray) (hx : x.data.toList.map lowC ∈ nineR) (h2 : clenN.map lowC ≠ x.data.toList.map lowC) (h3 : isB x viaF = false) : (respG q FS bl).filter (isB x) = [] := by
  have h : (respB FS).filter (isB x) = [] := by
    unfold respB hopsF
    rw [List.filter_append, fil_gone (fun f h => hop_nine (by rw [h]; exact hx))]
    simp [h3]
  unfold respG
  split
  · rw [fil_set h2, h]
  · exact h
theorem resp_enc : allB encN (respF q FS bl cl) = [] := by
  rw [allB_fil]
  have h := resp_gone q FS bl encN (by decide +kernel) (by decide +kernel) (by decide +kernel)
  unfold respF closeF
  split
  · rw [List.filter_append, List.filter_append, h]; decide +kernel
  · rw [List.filter_append, h]; decide +kernel
theorem resp_con : allB conB (respF q FS bl cl) = if cl = true then [cloB] else [] := by
  rw [allB_fil]
  have h := resp_gone q FS bl conB (by decide +kernel) (by decide +kernel) (by decide +kernel)
  unfold respF closeF
  split
  · rw [List.filter_append, List.filter_append, h]; decide +kernel
  · rw [List.filter_append, h]; decide +kernel
theorem resp_len (hq : q = true) : allB lenN (respF q FS bl cl) = [bs (prtI 10 (bl : Int))] := by
  have h : (respG q FS bl).filter (isB lenN) = [(clenN, prtI 10 (bl : Int))] := by
    unfold respG
    rw [if_pos hq, fil_same (by decide +kernel)]
  rw [allB_fil]
  unfold respF closeF
  split
  · rw [List.filter_append, List.filter_append, h, show [cookF].filter (isB lenN) = [] by decide +kernel, show [ccF].filter (isB lenN) = [] by decide +kernel]; rfl
  · rw [List.filter_append, h, show [cookF].filter (isB lenN) = [] by decide +kernel]; rfl
theorem resp_tok : tokF conB (respF q FS bl cl) = if cl = true then [[99, 108, 111, 115, 101]] else [] := by
  unfold tokF
  rw [resp_con]
  cases cl
  · rfl
  · decide +kernel
theorem resp_has : Lib.containsS (bsOf (tokF conB (respF q FS bl cl))) cloB = cl := by
  rw [resp_tok]
  cases cl
  · kernel_rfl
  · kernel_rfl
theorem resp_fok (hF : ∀ f ∈ FS, FOk f) (hbl : bl ≤ 60) : ∀ f ∈ respF q FS bl cl, FOk f := by
  have hB : ∀ f ∈ respB FS, FOk f := by
    intro f hf
    unfold respB at hf
    rcases List.mem_append.1 hf with hf | hf
    · exact hF f (hopsR_mem hf)
    · obtain rfl := List.mem_singleton.1 hf
      exact fok_of (by decide +kernel) (by decide +kernel)
  have hG : ∀ f ∈ respG q FS bl, FOk f := by
    intro f hf
    unfold respG at hf
    split at hf
    · rcases setF_memR hf with rfl | hf
      · exact fok_of (by decide +kernel) (dig_val ⟨bl, by omega⟩).1
      · exact hB f hf
    · exact hB f hf
  have hC : ∀ f ∈ respG q FS bl ++ [cookF], FOk f := by
    intro f hf
    rcases List.mem_append.1 hf with hf | hf
    · exact hG f hf
    · obtain rfl := List.mem_singleton.1 hf
      exact fok_of (by decide +kernel) (by decide +kernel)
  intro f hf
  unfold respF closeF at hf
  split at hf
  · rcases List.mem_append.1 hf with hf | hf
    · exact hC f hf
    · obtain rfl := List.mem_singleton.1 hf
      exact fok_of (by decide +kernel) (by decide +kernel)
  · exact hC f hf
theorem resp_text (hl : FS.length ≤ 8) (hz : ∀ f ∈ FS, f.1.length ≤ 20 ∧ f.2.length ≤ 40) : (textL (respF q FS bl cl)).length ≤ 1000 ∧ (respF q FS bl cl).length ≤ 12 := by
  have h0 : (textL (hopsF FS)).length ≤ FS.length * 64 := Nat.le_trans (textL_sub (hopsR_sub _ FS)) (textL_small FS hz)
  have hHl : (hopsF FS).length ≤ 8 := Nat.le_trans (hopsR_len _ FS) hl
  have hB : (textL (respB FS)).length ≤ 540 ∧ (respB FS).length ≤ 9 := by
    unfold respB
    rw [textL_app, List.length_append, List.length_append]
    have h3 : (textL [viaF]).length = 18 := rfl
    have h4 : [viaF].length = 1 := rfl
    omega
  have hG : (textL (respG q FS bl)).length ≤ 700 ∧ (respG q FS bl).length ≤ 10 := by
    unfold respG
    split
    · have h1 := textL_set clenN (prtI 10 (bl : Int)) (respB FS)
      have h2 := prtI_short (bl : Int)
      have h3 : clenN.length = 14 := rfl
      have h4 := setF_len clenN (prtI 10 (bl : Int)) (respB FS)
      omega
    · omega
  have h5 : (textL [cookF]).length = 19 := rfl
  have h6 : (textL [ccF]).length = 19 := rfl
  have h7 : [cookF].length = 1 := rfl
  have h8 : [ccF].length = 1 := rfl
  unfold respF closeF
  split
  · rw [textL_app, textL_app, List.length_append, List.length_append, List.length_append, List.length_append]
    omega
  · rw [textL_app, List.length_append, List.length_append]
    omega
end
/-- A response that may be, before it is sent on. -/
structure SentR (kc : Int) (rr : List UInt8) (FS : List Fld) : Prop where
  c1 : ¬ kc < 200
  c2 : kc ≤ 599
  v : valB rr = true
  rl : rr.length ≤ 20
  fok : ∀ f ∈ FS, FOk f
  fl : FS.length ≤ 8
  fz : ∀ f ∈ FS, f.1.length ≤ 20 ∧ f.2.length ≤ 40
def nextL : List UInt8 := [110, 101, 120, 116]
def rbdL (q : Bool) (bb : List UInt8) : List UInt8 := if q = true then bb else []
theorem resp_frames (mt : List UInt8) (kc : Int) (q cl : Bool) (hq : R.bodR mt kc = q) (FS : List Fld) (bb : List UInt8) (hb : bb.length ≤ 60) : R.FramesR mt kc 100 (respF q FS bb.length cl) (respK q) ((rbdL q bb).length : Int) := by
  cases q
  · exact .inl ⟨hq, rfl, rfl⟩
  · refine .inr ⟨hq, rfl, .inr ⟨rfl, resp_enc .., bs (prtI 10 (bb.length : Int)), resp_len true cl FS bb.length rfl, fun W hW => ?_⟩⟩
    have e := dec_any (bs (prtI 10 (bb.length : Int))) (by rw [bs_size]; have := prtI_short (bb.length : Int); omega) 100 W hW
    rw [bs_list, (dig_val ⟨bb.length, by omega⟩).2] at e
    exact e
set_option maxRecDepth 100000 in
theorem respS_feed (mt : List UInt8) (kc : Int) (rr bb : List UInt8) (q cl : Bool) (hq : R.bodR mt kc = q) (FS : List Fld) (h : SentR kc rr FS) (hb : bb.length ≤ 60) (GS : List Fld) (hGS : GS = respF q FS bb.length cl) (G : Nat → Prop) (g : Nat) (w : World)
    (hp : R.HeS G 114 (R.psR mt 0 [] 0 0 (.slice none 0 0) false false) w g limM 100 hd0) (hu : Up G w) (hM : ∀ w', Keep G w w' → MaxL w') (hY : ∀ w', Keep G w w' → Syn w') :
    Calls Tryz.prog 31 #[.pointer (some ⟨g, 0, none⟩), .string (bs (stLine (kc, rr) ++ textL GS ++ [13, 10] ++ rbdL q bb ++ nextL))] w (R.FeedR G g limM 100 w mt kc rr (rbdL q bb) nextL (stLn kc rr) GS (respK q) ((rbdL q bb).length : Int)) := by
  have hfr := resp_frames mt kc q cl hq FS bb hb
  have hfok := resp_fok q cl FS bb.length h.fok hb
  obtain ⟨hx1, hx2⟩ := resp_text q cl FS bb.length h.fl h.fz
  rw [← hGS] at hfr hfok hx1 hx2
  have hok : ∀ f ∈ GS, FldOk f := fun f hf => by
    have hle : f.1.length + f.2.length ≤ (textL GS).length := by
      clear hfr hfok hx1 hx2 hGS
      induction GS with
      | nil => cases hf
      | cons a r ih =>
        rw [textL_len]
        simp only [List.length_append, List.length_cons, List.length_nil]
        rcases List.mem_cons.1 hf with rfl | hf
        · omega
        · have := ih hf; omega
    exact ⟨by omega, by omega⟩
  have hc := stLn_clean h.c1 h.c2 h.v
  have hlen := stLn_len (r := rr) h.c1 h.c2
  have hrl := h.rl
  have hbk := stLn_back h.c1 h.c2 h.v
  have hbd : (rbdL q bb).length ≤ 60 := by unfold rbdL; split; exact hb; exact Nat.zero_le _
  generalize rbdL q bb = bd at *
  obtain ⟨SL, hSL⟩ : ∃ SL, SL = stLn kc rr := ⟨_, rfl⟩
  rw [← hSL] at hc hlen hbk ⊢
  obtain ⟨l1, hl1⟩ : ∃ l1, l1 = textL GS ++ ([13, 10] ++ (bd ++ nextL)) := ⟨_, rfl⟩
  have e : stLine (kc, rr) ++ textL GS ++ [13, 10] ++ bd ++ nextL = SL ++ 13 :: 10 :: l1 := by
    rw [show stLine (kc, rr) = stLn kc rr ++ [13, 10] from rfl, ← hSL, hl1]
    simp
  have hnx : nextL.length = 4 := rfl
  have hl1z : l1.length ≤ 1100 := by
    rw [hl1]
    simp only [List.length_append, List.length_cons, List.length_nil]
    omega
  rw [e]
  have hrun : ∀ r, hRun limM (.line (some SL) [] 0 [] false) (textL GS ++ r) = hRun limM (.line (some SL) GS (textL GS).length [] false) r := by
    intro r
    rw [run_flds_ok limM SL GS [] 0 r hfok (by show _ ≤ max (0 : Int) 2000; omega) (by rw [List.length_nil]; show _ ≤ max (0 : Int) 40; omega)]
    simp
  obtain ⟨t', e1, e2, e3⟩ := run_whole (L := limM) (may := anyFirst) (fo := some SL) (fs := GS) (sz := (textL GS).length) (r := 13 :: 10 :: (bd ++ nextL)) (s := []) (rl_crlf ..)
  obtain rfl : bd ++ nextL = t' := by simpa using e1
  have hcl : limM.close anyFirst (some SL) GS (textL GS).length [] = .done SL GS := by simp [HdL.close]
  rw [hcl] at e2 e3
  refine R.feed31 G g limM 100 mt kc rr (SL ++ 13 :: 10 :: l1) l1 bd nextL SL (.line (some SL) [] 0 [] false) GS (respK q) (bd.length : Int) (cl_found hc l1) ?_ ?_ ?_ rfl rfl rfl hbk (by show SL.length ≤ _; omega) ?_ ?_ ?_ (by omega) hok hfr rfl w hp hu hM hY
  · simp only [List.length_append, List.length_cons]; omega
  · rw [cl_nl hc, cl_take, cl_run limM hc (by show _ ≤ max (0 : Int) 500; omega)]
  · rw [cl_nl hc, cl_drop]
  · rw [hl1]; simp
  · rw [hl1, hrun]
    show hdRun limM anyFirst _ (13 :: 10 :: (bd ++ nextL)) = _
    rw [e2]
    exact mRun_fin _ _ (hd_fin limM anyFirst) _ rfl _
  · rw [hl1]
    have hr0 := hrun []
    rw [List.append_nil] at hr0
    show mLeft _ _ _ _ = _
    rw [mLeft_app _ _ (hd_fin limM anyFirst) _ _ _ (by rw [show mRun (limM.step anyFirst) (.line (some SL) [] 0 [] false) (textL GS) = _ from hr0]; rfl), show mRun (limM.step anyFirst) (.line (some SL) [] 0 [] false) (textL GS) = _ from hr0]
    show hdLeft limM anyFirst (.line (some SL) GS (textL GS).length [] false) (13 :: 10 :: (bd ++ nextL)) = _
    rw [e3]
    exact mLeft_fin _ _ _ _ rfl
end Go.Proofs.YtbbphklhnngjmaaGreatDoor

