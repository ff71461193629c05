/- Packed: PbE, PbF, PbG, LawFldP, PbL, PbM, PbT. -/
import Derived.Test.YtbbphklhnngjmaaGreatDoorR05
import Derived.Test.YtbbphklhnngjmaaGreatDoorR08
import Derived.Test.YtbbphklhnngjmaaGreatDoorR09
import Derived.Test.YtbbphklhnngjmaaGreatDoorR10
import Derived.Test.YtbbphklhnngjmaaGreatDoorR12
import Derived.Test.YtbbphklhnngjmaaGreatDoorR16
/- request: a parser in memory with a body of a length: finish. -/
namespace Go.Proofs.YtbbphklhnngjmaaGreatDoor
open Go.RowKit

set_option maxRecDepth 100000 in
set_option maxHeartbeats 4000000 in
theorem finish39L (G : Nat → Prop) (g : Nat) (M : HdL) (b : Int) (σ : HdS) (m t : ByteArray) (fa : Option Addr) (fn fc : Nat) (k n : Int) (ba : Option Addr) (bc : Nat) (bl : List UInt8) (wt : Bool) (hne : ∀ e, σ ≠ .err e) (w : World) (h : HeS G 108 (paRL m t (.slice fa fn fc) k n (.slice ba bl.length bc) wt 0) w g M b σ) (hu : Up G w) (hbo : w.ownsRow 0 5 1 (.slice ba bl.length bc) bl.length (byteVals bl)) :
    Calls Tryz.prog 60 #[.pointer (some ⟨g, 0, none⟩)] w fun x w' => x = .returned (.agg #[.string m, .string t, .slice fa fn fc, .string (bs bl), .int .i64 k]) ∧ HeS G 108 (paR ⟨#[]⟩ ⟨#[]⟩ (.slice none 0 0) false 0) w' g M b hd0 ∧ Keep G w w' := by
  have k11 := h.cellR 0
  have k12 := h.cellR 1
  have k13 := h.cellR 2
  have k14 := h.cellR 3
  have k15 := h.cellR 4
  have k17 := h.cellR 6
  have k18 := h.cellR 7
  simp only [paRL, List.getElem?_cons_zero, List.getElem?_cons_succ, Nat.reduceAdd] at k11 k12 k13 k14 k15 k17 k18
  have hlt := h.lt
  have hcv : (convert 101 9 (.slice ba bl.length bc)).run Tryz.prog ((w.alloc (.cells #[.string ⟨#[]⟩, .string ⟨#[]⟩, .slice none 0 0, .string ⟨#[]⟩, .int .i64 0] 45)).alloc (.cells #[.string m, .string t, .slice fa fn fc, .string ⟨#[]⟩, .int .i64 k] 45)) = .ok (.string (bs bl)) ((w.alloc (.cells #[.string ⟨#[]⟩, .string ⟨#[]⟩, .slice none 0 0, .string ⟨#[]⟩, .int .i64 0] 45)).alloc (.cells #[.string m, .string t, .slice fa fn fc, .string ⟨#[]⟩, .int .i64 k] 45)) := own_string _ 0 _ _ ((hbo.alloc _).alloc _)
  obtain ⟨X, hX⟩ : ∃ X, X = bs bl := ⟨_, rfl⟩
  obtain ⟨bn, hbn⟩ : ∃ bn, bn = bl.length := ⟨_, rfl⟩
  rw [← hX, ← hbn] at hcv
  rw [← hbn] at k17
  rw [← hX]
  have HD := Lib.hid h.less
  clear hX hbn hbo
  have HG := Lib.hid h.gG
  obtain ⟨L, H, C, b', st, f, fs, sz, cur, cr, e, hr, rv, ln, hd⟩ := h
  obtain ⟨rfl, rfl, rfl, rfl⟩ := he_lim hr hne
  obtain ⟨c0, c1, c2, c3, _⟩ := hd.c
  have HU := Lib.hid hu
  clear hd hu hr
  go_enter Tryz.func60, Tryz.ntmps60
  go_upto_region 5 with fail
  clear k11 k12 k13 k14 k15 k17 k18 c0 c1 c2 c3 hcv
  have R0 := (Row.new w 45 #[.string ⟨#[]⟩, .string ⟨#[]⟩, .slice none 0 0, .string ⟨#[]⟩, .int .i64 0]).alloc (.cells #[.string m, .string t, .slice fa fn fc, .string X, .int .i64 k] 45)
  have R1 := Row.new (w.alloc (.cells #[.string ⟨#[]⟩, .string ⟨#[]⟩, .slice none 0 0, .string ⟨#[]⟩, .int .i64 0] 45)) 45 #[.string m, .string t, .slice fa fn fc, .string X, .int .i64 k]
  rw [show (w.alloc (.cells #[.string ⟨#[]⟩, .string ⟨#[]⟩, .slice none 0 0, .string ⟨#[]⟩, .int .i64 0] 45)).heap.size = w.heap.size + 1 by simp] at R1
  have L1 := (below_alloc w (.cells #[.string ⟨#[]⟩, .string ⟨#[]⟩, .slice none 0 0, .string ⟨#[]⟩, .int .i64 0] 45)).alloc (by simp) (.cells #[.string m, .string t, .slice fa fn fc, .string X, .int .i64 k] 45)
  generalize (w.alloc (.cells #[.string ⟨#[]⟩, .string ⟨#[]⟩, .slice none 0 0, .string ⟨#[]⟩, .int .i64 0] 45)).alloc (.cells #[.string m, .string t, .slice fa fn fc, .string X, .int .i64 k] 45) = w1 at *
  have D1 := Lib.hid (HD.out.below L1)
  have B1 := Lib.hid L1
  obtain ⟨b0, hb0⟩ : ∃ b0, b0 = w.heap.size := ⟨_, rfl⟩
  obtain ⟨b1, hb1⟩ : ∃ b1, b1 = w.heap.size + 1 := ⟨_, rfl⟩
  rw [← hb0] at R0
  rw [← hb1] at R1
  have n0 : ¬ b0 = g := by omega
  have n1 : ¬ b1 = g := by omega
  have hu0 : G b0 := HU.out _ (by omega)
  have HB0 : Hid (w.heap.size ≤ b0) := Nat.le_of_eq hb0.symm
  rw [← hb1, ← hb0]
  have RR0 := Lib.hid R0
  have RR1 := Lib.hid R1
  have HU0 := Lib.hid hu0
  clear L1 HD hb0 hb1 hlt R0 R1 hu0
  obtain ⟨L9, H9, C9, B9, st9, f9, fs9, sz9, cur9, cr9, e9, hr9, rv9, ln9, hd9⟩ := D1.out
  obtain ⟨rfl, rfl, rfl, rfl⟩ := he_lim hr9 hne
  obtain ⟨c0, c1, c2, c3, _⟩ := hd9.c
  clear hd9 hr9
  have HN := Lib.hid (new21 (max 0 M.line) (max 0 M.head) (max 0 M.count) B9 w1)
  rw [paNew_fix] at HN
  go_wp2_with fail
  with_reducible refine HN.out.mono ?_
  rintro e w2 ⟨g2, rfl, hg2, hr2, hb2⟩
  have D2 := Lib.hid (D1.out.below hb2)
  have B2 := Lib.hid (B1.out.trans (hb2.mono B1.out.size))
  have RR0' := Lib.hid (RR0.out.below hb2)
  have RR1' := Lib.hid (RR1.out.below hb2)
  obtain ⟨pl, hpl⟩ : ∃ pl, pl = paL (max 0 M.line) (max 0 M.head) (max 0 M.count) B9 0 := ⟨_, rfl⟩
  have HPL := Lib.hid hpl
  rw [← hpl] at hr2
  have hpz : (Tryz.prog.info? 108).map (·.size) = some pl.length := by rw [hpl, paL_len]; exact infoPa
  have hpz2 : (Tryz.prog.info? 108).map (·.size) = some pl.toArray.size := by rw [List.size_toArray]; exact hpz
  have hp1 : pl.toArray.all (·.oneCell') = true := by rw [hpl]; exact paL_one ..
  have hrg : w2.rangeAt g2 0 pl := fun j v hv => by rw [Nat.zero_add, hr2.cell j, List.getElem?_toArray]; exact hv
  obtain ⟨old, hold, holz⟩ := D2.out.row
  have hplz : pl.length = 21 := by rw [hpl]; rfl
  have hoz : old.toArray.size = pl.toArray.size := by rw [List.size_toArray, List.size_toArray, holz, hplz]; rfl
  have HOLD := Lib.hid hold
  clear hpl hplz holz c0 c1 c2 c3 D1 B1 RR0 RR1 HN hr2 hb2 hg2 hold
  go_upto_region 6 with (first
    | (refine wpList_load_mid rfl 108 _ rfl g2 0 rfl pl _ hrg Tryz.underlying108 rfl hpz ?_)
    | (refine wpList_store_row rfl 108 _ _ rfl g pl.toArray rfl rfl 108 old.toArray HOLD.out hpz2 hoz hp1 ?_))
  have hov := D2.out.over M B9 0
  unfold HdL.line HdL.head HdL.count at HPL
  rw [← HPL.out] at hov
  have Q0 : Row (w2.setRow g pl.toArray) b0 45 #[.string ⟨#[]⟩, .string ⟨#[]⟩, .slice none 0 0, .string ⟨#[]⟩, .int .i64 0] := (setRow_other w2 g b0 _ n0).trans RR0'.out
  have Q1 : Row (w2.setRow g pl.toArray) b1 45 #[.string m, .string t, .slice fa fn fc, .string X, .int .i64 k] := (setRow_other w2 g b1 _ n1).trans RR1'.out
  clear hpz hpz2 hp1 hrg hoz HOLD
  generalize w2.setRow g pl.toArray = w3 at *
  have DD3 := Lib.hid hov.1
  have KK3 := Lib.hid hov.2
  have z0 := Q0.free 0
  have z1 := Q0.free 1
  have z2 := Q0.free 2
  have z3 := Q0.free 3
  have z4 := Q0.free 4
  have p0 : w3.cell? ⟨b0, 0, none⟩ = some (.string ⟨#[]⟩) := Q0.cell 0
  have p1 : w3.cell? ⟨b0, 1, none⟩ = some (.string ⟨#[]⟩) := Q0.cell 1
  have p2 : w3.cell? ⟨b0, 2, none⟩ = some (.slice none 0 0) := Q0.cell 2
  have p3 : w3.cell? ⟨b0, 3, none⟩ = some (.string ⟨#[]⟩) := Q0.cell 3
  have p4 : w3.cell? ⟨b0, 4, none⟩ = some (.int .i64 0) := Q0.cell 4
  have q0 : w3.cell? ⟨b1, 0, none⟩ = some (.string m) := Q1.cell 0
  have q1 : w3.cell? ⟨b1, 1, none⟩ = some (.string t) := Q1.cell 1
  have q2 : w3.cell? ⟨b1, 2, none⟩ = some (.slice fa fn fc) := Q1.cell 2
  have q3 : w3.cell? ⟨b1, 3, none⟩ = some (.string X) := Q1.cell 3
  have q4 : w3.cell? ⟨b1, 4, none⟩ = some (.int .i64 k) := Q1.cell 4
  clear hov Q0 Q1 RR0' RR1' HPL
  go_wp2_with fail
  refine bodyPost_ret (v := .agg #[.string m, .string t, .slice fa fn fc, .string X, .int .i64 k]) (by simp [results, Tryz.results60, go_sem, p0, p1, p2, p3, p4]) rfl ⟨rfl, ?_⟩
  have KB : ∀ (v : World) (i : Nat) (u : Value), Keep (fun j => j = b0) v (v.setCell ⟨b0, i, none⟩ u) := fun v i u => Keep.setCell (G := fun j => j = b0) v (p := ⟨b0, i, none⟩) rfl u
  have KC := (((((KB w3 0 (.string m)).trans (KB _ 1 (.string t))).trans (KB _ 2 (.slice fa fn fc))).trans (KB _ 3 (.string X))).trans (KB _ 4 (.int .i64 k)))
  refine ⟨(DD3.out.keep KC ?_).more (fun j _ hj => hj.1), ((Keep.of_below B2.out).trans (KK3.out.more (fun j _ hj => hj.1))).trans (KC.more (fun j _ hj => by rw [hj]; exact HU0.out))⟩
  rintro j ⟨_, hj⟩ rfl
  have := HB0.out
  omega
end Go.Proofs.YtbbphklhnngjmaaGreatDoor

/- request: a parser in memory; Feed of a request with a body of a length, that comes at once. -/
namespace Go.Proofs.YtbbphklhnngjmaaGreatDoor
open Go.RowKit

section
variable (G : Nat → Prop) (g : Nat) (M : HdL) (b : Int) (σ : HdS)
variable (rest : List Value)
set_option maxHeartbeats 1000000 in
theorem step37c (P : World → Prop) (s y : ByteArray) (E : Int) (hb : σ.begun = true) (hf : σ.fin = true) (w : World) (h : HeS G 108 rest w g M b σ)
    (hc : Calls Tryz.prog 94 #[.pointer (some ⟨g, 0, none⟩), .string s] w fun x w' => x = .returned (.tuple #[.string y, .int .i64 E]) ∧ P w') :
    Calls Tryz.prog 58 #[.pointer (some ⟨g, 0, none⟩), .string s] w fun x w' => x = .returned (.tuple #[.string y, .int .i64 E]) ∧ P w' := by
  have HB := Lib.hid (hbegunS G 108 rest g M b σ w h)
  rw [hb] at HB
  have HD := Lib.hid (hdoneS G 108 rest g M b σ w h)
  rw [hf] at HD
  have HC := Lib.hid hc
  clear h hb hc hf
  go_enter Tryz.func58, Tryz.ntmps58
  go_wp2_with fail
  with_reducible refine HB.out.mono ?_
  rintro e w' ⟨rfl, rfl⟩
  go_wp2_with fail
  with_reducible refine HD.out.mono ?_
  rintro e w' ⟨rfl, rfl⟩
  go_wp2_with fail
  with_reducible refine HC.out.mono ?_
  rintro e w1 ⟨rfl, hp⟩
  have HP := Lib.hid hp
  clear hp HB HC HD
  go_wp2_with fail
  go_ret2
  exact ⟨rfl, HP.out⟩
end
/-- Where the feeding of one request stands: the bytes that are left, the requests so far, the world. -/
inductive PhB (G : Nat → Prop) (g : Nat) (M : HdL) (b : Int) (w : World) (m t l0 l1 bd fl : List UInt8) (σ1 : HdS) (GS : List Fld) (K N : Int) : List UInt8 → Value → World → Prop
  | p0 (wr : World) (h : HeS G 108 (paR ⟨#[]⟩ ⟨#[]⟩ (.slice none 0 0) false 0) wr g M b hd0) (hu : Up G wr) (hk : Keep G w wr) : PhB G g M b w m t l0 l1 bd fl σ1 GS K N l0 (.slice none 0 0) wr
  | p1 (wr : World) (h : HeS G 108 (paR (bs m) (bs t) (.slice none 0 0) true 0) wr g M b σ1) (hu : Up G wr) (hk : Keep G w wr) : PhB G g M b w m t l0 l1 bd fl σ1 GS K N l1 (.slice none 0 0) wr
  | p2 (wr : World) (a : Option Addr) (c : Nat) (G' : Nat → Prop) (hs : ∀ j, G' j → G j) (hu : Up G' wr) (hn : ∀ ad, a = some ad → ¬ G' ad.block) (h : HeS G' 108 (paRL (bs m) (bs t) (.slice a GS.length c) K N (.slice none 0 0) true 0) wr g M b (.done fl GS)) (hf : IsFlds wr a c GS) (hk : Keep G w wr) (hne : bd ≠ []) :
      PhB G g M b w m t l0 l1 bd fl σ1 GS K N bd (.slice none 0 0) wr
  | p3 (wr : World) (v : Value) (a : Option Addr) (c : Nat) (G' : Nat → Prop) (h : HeS G' 108 (paR ⟨#[]⟩ ⟨#[]⟩ (.slice none 0 0) false 0) wr g M b hd0) (ho : wr.ownsRow w.heap.size 45 5 v 1 [.string (bs m), .string (bs t), .slice a GS.length c, .string (bs bd), .int .i64 K]) (hf : IsFlds wr a c GS) (hk : Keep G w wr) :
      PhB G g M b w m t l0 l1 bd fl σ1 GS K N [] v wr
/-- What the feeding of one request comes to. -/
def FeedB (G : Nat → Prop) (w : World) (m t bd : List UInt8) (GS : List Fld) (K : Int) (x : Ending) (w' : World) : Prop :=
  ∃ v a c, x = .returned (.tuple #[v, .int .i64 0]) ∧ w'.ownsRow w.heap.size 45 5 v 1 [.string (bs m), .string (bs t), .slice a GS.length c, .string (bs bd), .int .i64 K] ∧ IsFlds w' a c GS ∧ Keep G w w'
end Go.Proofs.YtbbphklhnngjmaaGreatDoor

/- request: a parser in memory; Feed of one request, with or without a body of a length. -/
namespace Go.Proofs.YtbbphklhnngjmaaGreatDoor
open Go.RowKit

set_option maxRecDepth 100000 in
set_option maxHeartbeats 8000000 in
theorem pfeedB (G : Nat → Prop) (g : Nat) (M : HdL) (b : Int) (m t l0 l1 bd fl : List UInt8) (σ1 : HdS) (GS : List Fld) (K N : Int) (h0 : ByteArray)
    (hn0 : l0 ≠ []) (hl0 : l0.length ≤ 1000000) (hr0 : hRun M hd0 (l0.take (nlAt l0)) = σ1) (hd : l0.drop (nlAt l0) = l1) (hb1 : σ1.begun = true) (hf1 : σ1.fin = false) (he : reqP σ1.firstOf = some (m, t)) (hz : σ1.firstOf.length ≤ 4000000000)
    (hn1 : l1 ≠ []) (hw1 : σ1.wt + 4 * l1.length ≤ 1000000000) (hr1 : hRun M σ1 l1 = .done fl GS) (hlf : hLeft M σ1 l1 = bd)
    (hfl : GS.length ≤ 1000000) (hok : ∀ f ∈ GS, FldOk f) (hh : allB hostN GS = [h0]) (hh0 : 0 < h0.size) (hF : Frames b GS K N) (hN : N = (bd.length : Int))
    (w : World) (hp : HeS G 108 (paR ⟨#[]⟩ ⟨#[]⟩ (.slice none 0 0) false 0) w g M b hd0) (hu : Up G w) (hM : ∀ w', Keep G w w' → MaxL w') (hY : ∀ w', Keep G w w' → Syn w') :
    Calls Tryz.prog 22 #[.pointer (some ⟨g, 0, none⟩), .string (bs l0)] w (FeedB G w m t bd GS K) := by
  obtain ⟨i0, hi, hz0, hz1, hz2⟩ := info_parts infoMsg
  have H0 : Hid (PhB G g M b w m t l0 l1 bd fl σ1 GS K N l0 (.slice none 0 0) w) := .p0 w hp hu (Keep.refl G w)
  have HM := Lib.hid hM
  have HY := Lib.hid hY
  have DN : ∀ (W : World) k, Below W.heap.size W (W.drewN k) := fun W k => ⟨rfl, rfl, rfl, Nat.le_refl _, fun _ _ => rfl⟩
  have HDN := Lib.hid DN
  have HBL : Hid (bd.length ≤ 1000000) := by
    have h1 : bd.length ≤ l1.length := by
      rw [← hlf]
      obtain ⟨a, ha⟩ := mLeft_suffix (M.step anyFirst) HdS.fin l1 σ1
      have := congrArg List.length ha
      rw [List.length_append] at this
      show (mLeft _ _ _ _).length ≤ _
      omega
    have h2 := congrArg List.length hd
    rw [List.length_drop] at h2
    show _ ≤ _
    omega
  have HL10 : Hid (l1.length < l0.length) := by
    show _ < _
    rw [← hd, List.length_drop]
    have := nlAt_pos hn0
    have := nlAt_le l0
    have := List.length_pos_iff.2 hn0
    omega
  have HLB1 : Hid (bd.length < l1.length) := by
    show _ < _
    rw [← hlf]
    exact hLeft_lt M σ1 l1 hf1 hn1
  have HSA : Hid (∀ W, HeS G 108 (paR ⟨#[]⟩ ⟨#[]⟩ (.slice none 0 0) true 0) W g M b hd0 → Up G W → (∀ w', Keep G W w' → MaxL w') → Calls Tryz.prog 58 #[.pointer (some ⟨g, 0, none⟩), .string (bs l0)] W fun x w' => x = .returned (.tuple #[.string (bs l1), .int .i64 0]) ∧ (HeS G 108 (paR (bs m) (bs t) (.slice none 0 0) true 0) w' g M b σ1 ∧ Keep G W w')) := fun W hW hU hMM => by
    have := fline56 G g M b hd0 σ1 [] [] m t true l0 (by have : hd0.wt = 0 := rfl; omega) hr0 _ rfl 0 hz (.inr ⟨hb1, by rw [he]; rfl⟩) W hW hU hMM
    rw [hd] at this
    exact step37a G g M b hd0 _ _ _ _ 0 rfl W hW this
  have HSB : Hid (∀ W, HeS G 108 (paR (bs m) (bs t) (.slice none 0 0) true 0) W g M b σ1 → Up G W → (∀ w', Keep G W w' → MaxL w') → (∀ w', Keep G W w' → Syn w') → Calls Tryz.prog 58 #[.pointer (some ⟨g, 0, none⟩), .string (bs l1)] W fun x w' => x = .returned (.tuple #[.string (bs bd), .int .i64 0]) ∧ FldsTo G g M b (bs m) (bs t) K N fl GS true W w') := fun W hW hU hMM hYY => by
    have := fflds57L G g M b σ1 (bs m) (bs t) true l1 hw1 fl GS hr1 h0 hfl hok hh hh0 K N hF W hW hU hMM hYY
    rw [hlf] at this
    exact step37b G g M b σ1 _ _ _ _ 0 hb1 hf1 W hW this
  have HSC : Hid (∀ (G' : Nat → Prop) W a c, HeS G' 108 (paRL (bs m) (bs t) (.slice a GS.length c) K N (.slice none 0 0) true 0) W g M b (.done fl GS) → Calls Tryz.prog 58 #[.pointer (some ⟨g, 0, none⟩), .string (bs bd)] W fun x w' => x = .returned (.tuple #[.string ⟨#[]⟩, .int .i64 0]) ∧ BodyTo G' g M b (.done fl GS) (bs m) (bs t) (.slice a GS.length c) K bd true W w') := fun G' W a c hW => by
    subst hN
    exact step37c G' g M b (.done fl GS) _ _ _ _ 0 rfl rfl W hW (fbody94L G' g M b (.done fl GS) (bs m) (bs t) (.slice a GS.length c) K bd (by have := HBL.out; omega) true W hW)
  have HNN := Lib.hid hN
  have HN0 := Lib.hid hn0
  have HN1 := Lib.hid hn1
  have HF1 := Lib.hid hf1
  clear hp hu hM hY DN hr0 hd hb1 hf1 he hz hw1 hr1 hlf hok hh hh0 hF hN hn0 hn1 hl0
  obtain ⟨S0, hS0⟩ : ∃ S, S = bs l0 := ⟨_, rfl⟩
  rw [← hS0]
  have HS0 := Lib.hid hS0
  clear hS0
  go_enter Tryz.func22, Tryz.ntmps22
  go_wp2_with fail
  go_loopw [1, 6] (fun sv rv wr => ∃ (s : List UInt8) (rq : Value), sv = .string (bs s) ∧ rq = rv ∧ Hid (PhB G g M b w m t l0 l1 bd fl σ1 GS K N s rq wr)) (fun sv _ _ => (strOfH sv).size)
  case atStart => exact ⟨l0, _, by rw [HS0.out], rfl, H0⟩
  case round =>
    clear H0 HS0
    obtain ⟨s, rq, rfl, rfl, HP⟩ := hrel
    have hph := HP.out
    clear HP
    cases hph with
    | p0 wr h hu hk =>
      have hne' : 0 < (bs l0).size := by rw [bs_size]; exact List.length_pos_iff.2 HN0.out
      have e1 := emp_false (bs l0) hne'
      have k20 := h.cellR 9
      have k19 := h.cellR 8
      have f19 := h.free 19
      simp only [paR, List.getElem?_cons_zero, List.getElem?_cons_succ, Nat.reduceAdd] at k20 k19
      have D2 : Hid (HeS G 108 (paR ⟨#[]⟩ ⟨#[]⟩ (.slice none 0 0) true 0) (wr.setCell ⟨g, 19, none⟩ (.bool true)) g M b hd0) := h.setR 8 (.bool true)
      have K2 : Hid (Keep G wr (wr.setCell ⟨g, 19, none⟩ (.bool true))) := Keep.setCell wr (p := ⟨g, 19, none⟩) h.gG _
      have U2 : Hid (Up G (wr.setCell ⟨g, 19, none⟩ (.bool true))) := hu.keep K2.out
      have M2 : Hid (∀ w', Keep G (wr.setCell ⟨g, 19, none⟩ (.bool true)) w' → MaxL w') := fun w' hk' => HM.out w' (hk.trans (K2.out.trans hk'))
      obtain ⟨w2, hw2⟩ : ∃ w2, w2 = wr.setCell ⟨g, 19, none⟩ (.bool true) := ⟨_, rfl⟩
      rw [← hw2] at D2 K2 U2 M2 
      have HW2 := Lib.hid hw2
      have HST := Lib.hid (HSA.out w2 D2.out U2.out M2.out)
      have HKW := Lib.hid hk
      have HUW := Lib.hid hu
      have HLT : Hid ((bs l1).size < (bs l0).size) := by show _ < _; rw [bs_size, bs_size]; exact HL10.out
      obtain ⟨y, hy⟩ : ∃ y, y = bs l1 := ⟨_, rfl⟩
      obtain ⟨z, hz⟩ : ∃ z, z = bs l0 := ⟨_, rfl⟩
      rw [← hy, ← hz] at HST HLT
      rw [← hz] at e1 hne' ⊢
      have HYY := Lib.hid hy
      clear h hu hk hw2 hy hz
      go_wp2_with fail
      rw [← HW2.out]
      with_reducible refine HST.out.mono ?_
      rintro e9 w3 ⟨rfl, hd3, hk3⟩
      have D3 := Lib.hid hd3
      have K3 := Lib.hid (HKW.out.trans (K2.out.trans hk3))
      have U3 := Lib.hid (HUW.out.keep (K2.out.trans hk3))
      clear hd3 hk3
      have HC := Lib.hid (complete38 G g M b σ1 (bs m) (bs t) (.slice none 0 0) true 0 false HF1.out w3 D3.out)
      clear HST
      go_wp2_with fail
      with_reducible refine HC.out.mono ?_
      rintro e9 w4 ⟨rfl, n, rfl⟩
      have HPN : Hid (PhB G g M b w m t l0 l1 bd fl σ1 GS K N l1 (.slice none 0 0) (w3.drewN n)) := .p1 _ (D3.out.below (HDN.out _ _)) (U3.out.keep (.of_below (HDN.out _ _))) (K3.out.trans (.of_below (HDN.out _ _)))
      clear HC
      go_wp2_with fail
      go_roundw
      case rel => exact ⟨l1, _, by rw [HYY.out], rfl, HPN⟩
      case measure => show y.size < z.size; have := HLT.out; omega
    | p1 wr h hu hk =>
      have hne' : 0 < (bs l1).size := by rw [bs_size]; exact List.length_pos_iff.2 HN1.out
      have e1 := emp_false (bs l1) hne'
      have k20 := h.cellR 9
      have k19 := h.cellR 8
      have f19 := h.free 19
      simp only [paR, List.getElem?_cons_zero, List.getElem?_cons_succ, Nat.reduceAdd] at k20 k19
      have D2 : Hid (HeS G 108 (paR (bs m) (bs t) (.slice none 0 0) true 0) (wr.setCell ⟨g, 19, none⟩ (.bool true)) g M b σ1) := h.setR 8 (.bool true)
      have K2 : Hid (Keep G wr (wr.setCell ⟨g, 19, none⟩ (.bool true))) := Keep.setCell wr (p := ⟨g, 19, none⟩) h.gG _
      have U2 : Hid (Up G (wr.setCell ⟨g, 19, none⟩ (.bool true))) := hu.keep K2.out
      have M2 : Hid (∀ w', Keep G (wr.setCell ⟨g, 19, none⟩ (.bool true)) w' → MaxL w') := fun w' hk' => HM.out w' (hk.trans (K2.out.trans hk'))
      have Y2 : Hid (∀ w', Keep G (wr.setCell ⟨g, 19, none⟩ (.bool true)) w' → Syn w') := fun w' hk' => HY.out w' (hk.trans (K2.out.trans hk'))
      obtain ⟨w2, hw2⟩ : ∃ w2, w2 = wr.setCell ⟨g, 19, none⟩ (.bool true) := ⟨_, rfl⟩
      rw [← hw2] at D2 K2 U2 M2 Y2 
      have HW2 := Lib.hid hw2
      have HST := Lib.hid (HSB.out w2 D2.out U2.out M2.out Y2.out)
      have HKW := Lib.hid hk
      have HLT : Hid ((bs bd).size < (bs l1).size) := by show _ < _; rw [bs_size, bs_size]; exact HLB1.out
      obtain ⟨y, hy⟩ : ∃ y, y = bs bd := ⟨_, rfl⟩
      obtain ⟨z, hz⟩ : ∃ z, z = bs l1 := ⟨_, rfl⟩
      rw [← hy, ← hz] at HST HLT
      rw [← hz] at e1 hne' ⊢
      have HYY := Lib.hid hy
      clear h hu hk hw2 hy hz
      go_wp2_with fail
      rw [← HW2.out]
      with_reducible refine HST.out.mono ?_
      rintro e9 w3 ⟨rfl, a, c, G', hsb, hup, hnb, hd3, hf3, hk3⟩
      have HGS := Lib.hid hsb
      have U3 := Lib.hid hup
      have N3 := Lib.hid hnb
      have D3 := Lib.hid hd3
      have F3 := Lib.hid hf3
      have K3 := Lib.hid (HKW.out.trans (K2.out.trans hk3))
      clear hsb hup hnb hd3 hf3 hk3 HST
      by_cases hbd : bd = []
      · have hyz : y = ⟨#[]⟩ := by rw [HYY.out, hbd]; rfl
        have HC := Lib.hid (complete38L G' g M b (.done fl GS) (bs m) (bs t) (.slice a GS.length c) K N none 0 0 true 0 rfl true (by rw [HNN.out, hbd]; rfl) w3 D3.out)
        have HBD0 := Lib.hid hbd
        have HYZ := Lib.hid hyz
        have D3' : Hid (HeS G' 108 (paRL (bs m) (bs t) (.slice a GS.length c) K N (.slice none bd.length 0) true 0) w3 g M b (.done fl GS)) := by
          have e : bd.length = 0 := by rw [hbd]; rfl
          show HeS _ _ _ _ _ _ _ _
          rw [e]
          exact D3.out
        have O3 : Hid (w3.ownsRow 0 5 1 (.slice none bd.length 0) bd.length (byteVals bd)) := by rw [hbd]; exact nil_byt w3
        clear hbd hyz D3
        go_wp2_with fail
        with_reducible refine HC.out.mono ?_
        rintro e9 w4 ⟨rfl, n, rfl⟩
        have D4 : Hid (HeS G' 108 (paRL (bs m) (bs t) (.slice a GS.length c) K N (.slice none bd.length 0) true 0) (w3.drewN n) g M b (.done fl GS)) := D3'.out.below (HDN.out _ _)
        have O4 : Hid ((w3.drewN n).ownsRow 0 5 1 (.slice none bd.length 0) bd.length (byteVals bd)) := own_below O3.out (HDN.out _ _)
        have F4 : Hid (IsFlds (w3.drewN n) a c GS) := F3.out.below (HDN.out _ _)
        have K4 : Hid (Keep G w (w3.drewN n)) := K3.out.trans (.of_below (HDN.out _ _))
        have HFI := Lib.hid (finish39L G' g M b (.done fl GS) (bs m) (bs t) a GS.length c K N none 0 bd true (fun e he => by cases he) _ D4.out (U3.out.keep (.of_below (HDN.out _ _))) O4.out)
        clear HC
        go_wp2_with fail
        with_reducible refine HFI.out.mono ?_
        rintro e9 w5 ⟨rfl, hd5, hk5⟩
        have F5 := isFlds_keepR F4.out hk5 N3.out
        have K5 := K4.out.trans (hk5.more (fun j _ hj => HGS.out j hj))
        have hb5 : w.heap.size ≤ w5.heap.size := K5.size
        obtain ⟨nG, hnG⟩ : ∃ nG, nG = GS.length := ⟨_, rfl⟩
        obtain ⟨BD, hBD⟩ : ∃ BD, BD = bs bd := ⟨_, rfl⟩
        rw [← hnG, ← hBD]
        have HNG := Lib.hid hnG
        have HBD := Lib.hid hBD
        have HNW := Lib.hid (cells_new5 w5 (.string (bs m)) (.string (bs t)) (.slice a nG c) (.string BD) (.int .i64 K) 45)
        have HO5 : Hid ((w5.alloc (.cells #[.string (bs m), .string (bs t), .slice a nG c, .string BD, .int .i64 K] 45)).ownsRow w.heap.size 45 5 (.slice none 0 0) 0 []) := World.ownsRow_nil _ _ _ 5
        have D5 := Lib.hid (hd5.below (below_alloc w5 (.cells #[.string (bs m), .string (bs t), .slice a nG c, .string BD, .int .i64 K] 45)))
        have F5' := Lib.hid (F5.below (below_alloc w5 (.cells #[.string (bs m), .string (bs t), .slice a nG c, .string BD, .int .i64 K] 45)))
        have K5' := Lib.hid (K5.trans (.alloc w5 (.cells #[.string (bs m), .string (bs t), .slice a nG c, .string BD, .int .i64 K] 45)))
        have HB5 := Lib.hid hb5
        clear hd5 hk5 F5 K5 hnG hBD HFI K4 F4 O4 D4
        go_wp2_with (at_builtin; refine wpList_append_own_at _ rfl _ _ 58 rfl w.heap.size 45 i0 (.agg #[.string ⟨#[]⟩, .string ⟨#[]⟩, .slice none 0 0, .string ⟨#[]⟩, .int .i64 0]) 5 80 Tryz.underlying58 hi hz0 hz1 hz2 rfl (by decide) _ _ _ rfl HO5.out ⟨w5.heap.size, 0, none⟩ 1 1 [.string (bs m), .string (bs t), .slice a nG c, .string BD, .int .i64 K] rfl rfl HNW.out (by intro u hu; simp at hu; rcases hu with rfl | rfl | rfl | rfl | rfl <;> rfl) (by unfold maxLen; omega) (by omega) (by simp; omega) ?_)
        intro v' w6 hown' hgrow _ _
        have hb6 := below_grown_none hgrow
        have HPN : Hid (PhB G g M b w m t l0 l1 bd fl σ1 GS K N [] v' w6) := .p3 w6 v' a c G' (D5.out.below hb6) (by rw [← HNG.out, ← HBD.out]; simpa using hown') (F5'.out.below hb6) (K5'.out.trans (.of_below hb6))
        clear hown' hgrow hb6 HNW HO5 D5 F5' K5'
        go_wp2_with fail
        go_roundw
        case rel => exact ⟨[], _, by rw [HYZ.out]; rfl, rfl, HPN⟩
        case measure => show y.size < z.size; have := HLT.out; omega
      · have hnz : ((0 : Int) == N) = false := by
          rw [HNN.out]
          have := List.length_pos_iff.2 hbd
          exact beq_eq_false_iff_ne.2 (by omega)
        have HC := Lib.hid (complete38L G' g M b (.done fl GS) (bs m) (bs t) (.slice a GS.length c) K N none 0 0 true 0 rfl false hnz.symm w3 D3.out)
        have HBD0 := Lib.hid hbd
        clear hbd hnz
        go_wp2_with fail
        with_reducible refine HC.out.mono ?_
        rintro e9 w4 ⟨rfl, n, rfl⟩
        have HPN : Hid (PhB G g M b w m t l0 l1 bd fl σ1 GS K N bd (.slice none 0 0) (w3.drewN n)) := .p2 _ a c G' HGS.out (U3.out.keep (.of_below (HDN.out _ _))) N3.out (D3.out.below (HDN.out _ _)) (F3.out.below (HDN.out _ _)) (K3.out.trans (.of_below (HDN.out _ _))) HBD0.out
        clear HC
        go_wp2_with fail
        go_roundw
        case rel => exact ⟨bd, _, by rw [HYY.out], rfl, HPN⟩
        case measure => show y.size < z.size; have := HLT.out; omega
    | p2 wr a c G' hs hu hn h hf hk hne =>
      have hne' : 0 < (bs bd).size := by rw [bs_size]; exact List.length_pos_iff.2 hne
      have e1 := emp_false (bs bd) hne'
      have k20 := h.cellR 9
      have k19 := h.cellR 8
      have f19 := h.free 19
      simp only [paRL, List.getElem?_cons_zero, List.getElem?_cons_succ, Nat.reduceAdd] at k20 k19
      have D2 : Hid (HeS G' 108 (paRL (bs m) (bs t) (.slice a GS.length c) K N (.slice none 0 0) true 0) (wr.setCell ⟨g, 19, none⟩ (.bool true)) g M b (.done fl GS)) := h.setR 8 (.bool true)
      have K2 : Hid (Keep G' wr (wr.setCell ⟨g, 19, none⟩ (.bool true))) := Keep.setCell wr (p := ⟨g, 19, none⟩) h.gG _
      have U2 : Hid (Up G' (wr.setCell ⟨g, 19, none⟩ (.bool true))) := hu.keep K2.out
      obtain ⟨w2, hw2⟩ : ∃ w2, w2 = wr.setCell ⟨g, 19, none⟩ (.bool true) := ⟨_, rfl⟩
      rw [← hw2] at D2 K2 U2 
      have HW2 := Lib.hid hw2
      have HST := Lib.hid (HSC.out G' w2 a c D2.out)
      have HKW := Lib.hid hk
      have HGS := Lib.hid hs
      have HUW := Lib.hid hu
      have N3 := Lib.hid hn
      have FW := Lib.hid hf
      have hgG := h.gG
      have HGG := Lib.hid hgG
      have HLT : Hid (0 < (bs bd).size) := hne'
      obtain ⟨z, hz⟩ : ∃ z, z = bs bd := ⟨_, rfl⟩
      rw [← hz] at HST HLT
      rw [← hz] at e1 hne' ⊢
      clear h hu hk hw2 hz hs hn hf hgG hne
      go_wp2_with fail
      rw [← HW2.out]
      with_reducible refine HST.out.mono ?_
      rintro e9 w3 ⟨rfl, ba, bc, hd3, ho3, hk3⟩
      have D3 := Lib.hid hd3
      have O3 := Lib.hid (own_mono ho3 (Nat.zero_le _))
      have hk3' : Keep G' w2 w3 := hk3.more (fun j _ hj => by rw [hj]; exact HGG.out)
      have K3 := Lib.hid (HKW.out.trans ((K2.out.trans hk3').more (fun j _ hj => HGS.out j hj)))
      have F3 := Lib.hid (isFlds_keepR FW.out (K2.out.trans hk3') N3.out)
      have U3 := Lib.hid (HUW.out.keep (K2.out.trans hk3'))
      have HC := Lib.hid (complete38L G' g M b (.done fl GS) (bs m) (bs t) (.slice a GS.length c) K (bd.length : Int) ba bd.length bc true 0 rfl true (by simp) w3 D3.out)
      have D3' : Hid (HeS G' 108 (paRL (bs m) (bs t) (.slice a GS.length c) K N (.slice ba bd.length bc) true 0) w3 g M b (.done fl GS)) := by
        show HeS _ _ _ _ _ _ _ _
        rw [HNN.out]
        exact D3.out
      clear hd3 ho3 hk3 hk3' HST D3
      go_wp2_with fail
      with_reducible refine HC.out.mono ?_
      rintro e9 w4 ⟨rfl, n, rfl⟩
      have D4 : Hid (HeS G' 108 (paRL (bs m) (bs t) (.slice a GS.length c) K N (.slice ba bd.length bc) true 0) (w3.drewN n) g M b (.done fl GS)) := D3'.out.below (HDN.out _ _)
      have O4 : Hid ((w3.drewN n).ownsRow 0 5 1 (.slice ba bd.length bc) bd.length (byteVals bd)) := own_below O3.out (HDN.out _ _)
      have F4 : Hid (IsFlds (w3.drewN n) a c GS) := F3.out.below (HDN.out _ _)
      have K4 : Hid (Keep G w (w3.drewN n)) := K3.out.trans (.of_below (HDN.out _ _))
      have HFI := Lib.hid (finish39L G' g M b (.done fl GS) (bs m) (bs t) a GS.length c K N ba bc bd true (fun e he => by cases he) _ D4.out (U3.out.keep (.of_below (HDN.out _ _))) O4.out)
      clear HC
      go_wp2_with fail
      with_reducible refine HFI.out.mono ?_
      rintro e9 w5 ⟨rfl, hd5, hk5⟩
      have F5 := isFlds_keepR F4.out hk5 N3.out
      have K5 := K4.out.trans (hk5.more (fun j _ hj => HGS.out j hj))
      have hb5 : w.heap.size ≤ w5.heap.size := K5.size
      obtain ⟨nG, hnG⟩ : ∃ nG, nG = GS.length := ⟨_, rfl⟩
      obtain ⟨BD, hBD⟩ : ∃ BD, BD = bs bd := ⟨_, rfl⟩
      rw [← hnG, ← hBD]
      have HNG := Lib.hid hnG
      have HBD := Lib.hid hBD
      have HNW := Lib.hid (cells_new5 w5 (.string (bs m)) (.string (bs t)) (.slice a nG c) (.string BD) (.int .i64 K) 45)
      have HO5 : Hid ((w5.alloc (.cells #[.string (bs m), .string (bs t), .slice a nG c, .string BD, .int .i64 K] 45)).ownsRow w.heap.size 45 5 (.slice none 0 0) 0 []) := World.ownsRow_nil _ _ _ 5
      have D5 := Lib.hid (hd5.below (below_alloc w5 (.cells #[.string (bs m), .string (bs t), .slice a nG c, .string BD, .int .i64 K] 45)))
      have F5' := Lib.hid (F5.below (below_alloc w5 (.cells #[.string (bs m), .string (bs t), .slice a nG c, .string BD, .int .i64 K] 45)))
      have K5' := Lib.hid (K5.trans (.alloc w5 (.cells #[.string (bs m), .string (bs t), .slice a nG c, .string BD, .int .i64 K] 45)))
      have HB5 := Lib.hid hb5
      clear hd5 hk5 F5 K5 hnG hBD HFI K4 F4 O4 D4
      go_wp2_with (at_builtin; refine wpList_append_own_at _ rfl _ _ 58 rfl w.heap.size 45 i0 (.agg #[.string ⟨#[]⟩, .string ⟨#[]⟩, .slice none 0 0, .string ⟨#[]⟩, .int .i64 0]) 5 80 Tryz.underlying58 hi hz0 hz1 hz2 rfl (by decide) _ _ _ rfl HO5.out ⟨w5.heap.size, 0, none⟩ 1 1 [.string (bs m), .string (bs t), .slice a nG c, .string BD, .int .i64 K] rfl rfl HNW.out (by intro u hu; simp at hu; rcases hu with rfl | rfl | rfl | rfl | rfl <;> rfl) (by unfold maxLen; omega) (by omega) (by simp; omega) ?_)
      intro v' w6 hown' hgrow _ _
      have hb6 := below_grown_none hgrow
      have HPN : Hid (PhB G g M b w m t l0 l1 bd fl σ1 GS K N [] v' w6) := .p3 w6 v' a c G' (D5.out.below hb6) (by rw [← HNG.out, ← HBD.out]; simpa using hown') (F5'.out.below hb6) (K5'.out.trans (.of_below hb6))
      clear hown' hgrow hb6 HNW HO5 D5 F5' K5'
      go_wp2_with fail
      go_roundw
      case rel => exact ⟨[], _, rfl, rfl, HPN⟩
      case measure => show (⟨#[]⟩ : ByteArray).size < z.size; exact HLT.out
    | p3 wr v a c G' h ho hf hk =>
      have k20 := h.cellR 9
      simp only [paR, List.getElem?_cons_zero, List.getElem?_cons_succ, Nat.reduceAdd] at k20
      have FX : Hid (∀ k, FeedB G w m t bd GS K (.returned (.tuple #[rq, .int .i64 0])) (wr.drewN k)) := fun k => ⟨_, a, c, rfl, own_below ho (HDN.out _ _), hf.below (HDN.out _ _), hk.trans (.of_below (HDN.out _ _))⟩
      clear h ho hf hk
      have e0 : bs [] = ⟨#[]⟩ := rfl
      rw [e0]
      go_wp2_with fail
      go_quiet (fail)
      go_wp2_with fail
      go_ret2
      exact FX.out _
end Go.Proofs.YtbbphklhnngjmaaGreatDoor

/- The walk of the statement FieldsParse. -/
namespace Go.Proofs.YtbbphklhnngjmaaGreatDoor
open Go.RowKit

theorem parseL_some {l n v : List UInt8} (h : parseL l = some (n, v)) : tokB n = true ∧ valB v = true ∧ n.length ≤ l.length ∧ v.length ≤ l.length := by
  unfold parseL at h
  simp only at h
  split at h
  · next hh =>
    obtain ⟨_, h1, h2⟩ := hh
    injection h with h
    injection h with e1 e2
    subst e1 e2
    refine ⟨h1, h2, by rw [List.length_take]; omega, Nat.le_trans (trimB_length _) (by rw [List.length_drop]; omega)⟩
  · cases h
theorem tok_no58 {n : List UInt8} (h : tokB n = true) : (58 : UInt8) ∉ n := by
  intro hm
  unfold tokB at h
  rw [Bool.and_eq_true, List.all_eq_true] at h
  exact absurd (h.2 58 hm) (by decide +kernel)
theorem parse_back {n v : List UInt8} (hn : tokB n = true) (hv : valB v = true) : parseL (n ++ [58, 32] ++ v) = some (n, v) := by
  have e : n ++ [58, 32] ++ v = n ++ (58 :: 32 :: v) := by simp
  have hi : Lib.indexByte (n ++ (58 :: 32 :: v)) 58 = (n.length : Int) := ib_at 58 _ n.length (by rw [List.take_left']; exact tok_no58 hn; rfl) (by simp)
  have ht : trimB v = v := by
    unfold valB at hv
    rw [Bool.and_eq_true] at hv
    exact of_decide_eq_true hv.1
  have h1 : (n ++ (58 :: 32 :: v)).take n.length = n := by rw [List.take_left']; rfl
  have h2 : (n ++ (58 :: 32 :: v)).drop (n.length + 1) = 32 :: v := by
    rw [← List.drop_drop, List.drop_left']
    · rfl
    · rfl
  rw [e]
  unfold parseL
  simp only [hi, Int.toNat_natCast, h1, h2]
  rw [trimB_left 32 v (by decide +kernel), ht, if_pos ⟨by omega, hn, hv⟩]
theorem self_str (T : ByteArray) : (T.toList == T.toList) = true := by simp
theorem line_cut (n v : List UInt8) : (bs (lineL (n, v))).extract 0 ((lineL (n, v)).length - 2) = bs (n ++ [58, 32] ++ v) := by
  rw [extractC]
  apply ByteArray.ext
  show ((lineL (n, v)).drop 0 |>.take ((lineL (n, v)).length - 2 - 0)).toArray = _
  rw [List.drop_zero, Nat.sub_zero]
  have e : lineL (n, v) = (n ++ [58, 32] ++ v) ++ [13, 10] := rfl
  have hl : (lineL (n, v)).length - 2 = (n ++ [58, 32] ++ v).length := by rw [e, List.length_append]; rfl
  rw [hl, e, List.take_left']
  · rfl
  · rfl
end Go.Proofs.YtbbphklhnngjmaaGreatDoor

/- rewrite: what goes to a backend can be read there (lists). -/
namespace Go.Proofs.YtbbphklhnngjmaaGreatDoor
open Go.RowKit

section
variable {x : ByteArray} {n v : List UInt8} {fs : List Fld} {toks : List ByteArray}
theorem isB_eq (x : ByteArray) (f : Fld) : isB x f = decide (f.1.map lowC = x.data.toList.map lowC) := rfl
theorem hasB_one (n : List UInt8) (f : Fld) : hasB [bs n] f = decide (n.map lowC = f.1.map lowC) := by
  unfold hasB
  rw [List.any_cons, List.any_nil, Bool.or_false, bs_list]
theorem fil_drop (hne : n.map lowC ≠ x.data.toList.map lowC) (l : List Fld) : (dropL [bs n] l).filter (isB x) = l.filter (isB x) := by
  unfold dropL
  rw [List.filter_filter]
  refine List.filter_congr fun f _ => ?_
  rw [hasB_one, isB_eq]
  by_cases h : f.1.map lowC = x.data.toList.map lowC
  · rw [h, decide_eq_false hne]; simp
  · rw [decide_eq_false h]; rfl
theorem fil_set (hne : n.map lowC ≠ x.data.toList.map lowC) (fs : List Fld) : (setF n v fs).filter (isB x) = fs.filter (isB x) := by
  have hnv : isB x (n, v) = false := decide_eq_false hne
  unfold setF
  simp only
  rcases findI_cases [bs n] fs with ⟨hi, hno⟩ | ⟨i, hil, hi, hyes, hno⟩
  · rw [hi, if_neg (by decide), List.filter_append]
    simp [hnv]
  · rw [hi, if_pos (by omega), Int.toNat_natCast, List.filter_append, List.filter_cons_of_neg (by rw [hnv]; decide), fil_drop hne]
    have hx : isB x fs[i] = false := by
      rw [hasB_one] at hyes
      have := of_decide_eq_true hyes
      exact decide_eq_false (by rw [← this]; exact hne)
    have e : fs = fs.take i ++ fs[i] :: fs.drop (i + 1) := by rw [List.getElem_cons_drop, List.take_append_drop]
    conv => rhs; rw [e, List.filter_append, List.filter_cons_of_neg (by rw [hx]; decide)]
theorem fil_none (h : ∀ f ∈ fs, hasB [bs n] f = false) (he : n.map lowC = x.data.toList.map lowC) : fs.filter (isB x) = [] := by
  rw [List.filter_eq_nil_iff]
  intro f hf
  have := h f hf
  rw [hasB_one, he] at this
  rw [isB_eq]
  have h2 := of_decide_eq_false this
  simp only [decide_eq_true_eq]
  exact fun k => h2 k.symm
theorem fil_same (he : n.map lowC = x.data.toList.map lowC) (fs : List Fld) : (setF n v fs).filter (isB x) = [(n, v)] := by
  have hnv : isB x (n, v) = true := decide_eq_true he
  unfold setF
  simp only
  rcases findI_cases [bs n] fs with ⟨hi, hno⟩ | ⟨i, hil, hi, hyes, hno⟩
  · rw [hi, if_neg (by decide), List.filter_append, fil_none hno he]
    simp [hnv]
  · rw [hi, if_pos (by omega), Int.toNat_natCast, List.filter_append, fil_none hno he, List.nil_append, List.filter_cons_of_pos hnv]
    congr 1
    refine fil_none (n := n) (fun f hf => ?_) he
    unfold dropL at hf
    have := (List.mem_filter.1 hf).2
    simpa using this
theorem fil_keep (hx : ∀ f : Fld, f.1.map lowC = x.data.toList.map lowC → hopR f.1 toks = false) (fs : List Fld) : (hopsR toks fs).filter (isB x) = fs.filter (isB x) := by
  unfold hopsR
  rw [List.filter_filter]
  refine List.filter_congr fun f _ => ?_
  rw [isB_eq]
  by_cases h : f.1.map lowC = x.data.toList.map lowC
  · rw [hx f h]; simp
  · rw [decide_eq_false h]; rfl
theorem fil_gone (hx : ∀ f : Fld, f.1.map lowC = x.data.toList.map lowC → hopR f.1 toks = true) (fs : List Fld) : (hopsR toks fs).filter (isB x) = [] := by
  rw [List.filter_eq_nil_iff]
  intro f hf
  have := (List.mem_filter.1 hf).2
  rw [isB_eq]
  simp only [decide_eq_true_eq]
  intro h
  rw [hx f h] at this
  simp at this
theorem hop_nine {f : Fld} (h : f.1.map lowC ∈ nineR) : hopR f.1 toks = true := by
  unfold hopR
  rw [Bool.or_eq_true, List.any_eq_true]
  exact .inl ⟨_, h, decide_eq_true rfl⟩
theorem hop_stay {f : Fld} (h9 : f.1.map lowC ∉ nineR) (hk : f.1.map lowC = hostB.data.toList.map lowC ∨ f.1.map lowC = clenB.data.toList.map lowC) : hopR f.1 toks = false := by
  unfold hopR
  rw [Bool.or_eq_false_iff]
  constructor
  · rw [List.any_eq_false]
    intro h hh
    simp only [decide_eq_true_eq]
    exact fun e => h9 (e ▸ hh)
  · rw [List.any_eq_false]
    intro t _
    simp only [decide_eq_true_eq]
    rintro ⟨e, e1, e2⟩
    rcases hk with hk | hk
    · exact e1 (by rw [← e, hk])
    · exact e2 (by rw [← e, hk])
end
theorem allB_fil (x : ByteArray) (fs : List Fld) : allB x fs = (fs.filter (isB x)).map fun f => bs f.2 := rfl
section
variable (FS : List Fld) (cl : List UInt8) (K : Int) (bl : Nat)
theorem req_host : allB hostN (reqF FS cl K bl) = allB hostN FS := by
  have h1 : (reqG FS cl).filter (isB hostN) = FS.filter (isB hostN) := by
    unfold reqG hopsF
    rw [List.filter_append, fil_set (by decide +kernel), fil_keep (fun f h => hop_stay (by rw [h]; decide +kernel) (.inl (by rw [h]; rfl)))]
    rw [show [viaF].filter (isB hostN) = [] by decide +kernel, List.append_nil]
  rw [allB_fil, allB_fil]
  congr 1
  unfold reqF
  split
  · exact h1
  · rw [fil_set (by decide +kernel), h1]
theorem req_gone (x : ByteArray) (hx : x.data.toList.map lowC ∈ nineR) (h1 : xffN.map lowC ≠ x.data.toList.map lowC) (h2 : clenN.map lowC ≠ x.data.toList.map lowC) (h3 : isB x viaF = false) : (reqF FS cl K bl).filter (isB x) = [] := by
  have h : (reqG FS cl).filter (isB x) = [] := by
    unfold reqG hopsF
    rw [List.filter_append, fil_set h1, fil_gone (fun f h => hop_nine (by rw [h]; exact hx))]
    simp [h3]
  unfold reqF
  split
  · exact h
  · rw [fil_set h2, h]
theorem req_enc : allB encN (reqF FS cl K bl) = [] := by
  rw [allB_fil, req_gone FS cl K bl encN (by decide +kernel) (by decide +kernel) (by decide +kernel) (by decide +kernel)]
  rfl
theorem req_len0 (h : K = 0) : allB lenN (reqF FS cl K bl) = allB lenN FS := by
  have h1 : (reqG FS cl).filter (isB lenN) = FS.filter (isB lenN) := by
    unfold reqG hopsF
    rw [List.filter_append, fil_set (by decide +kernel), fil_keep (fun f h => hop_stay (by rw [h]; decide +kernel) (.inr (by rw [h]; rfl)))]
    rw [show [viaF].filter (isB lenN) = [] by decide +kernel, List.append_nil]
  rw [allB_fil, allB_fil]
  congr 1
  unfold reqF
  rw [if_pos h, h1]
theorem req_len1 (h : K ≠ 0) : allB lenN (reqF FS cl K bl) = [bs (prtI 10 (bl : Int))] := by
  rw [allB_fil]
  unfold reqF
  rw [if_neg h, fil_same (by decide +kernel)]
  rfl
/-- No field of these names is left. -/
theorem req_no (x : ByteArray) (h : (reqF FS cl K bl).filter (isB x) = []) : ∀ f ∈ reqF FS cl K bl, f.1.map lowC ≠ x.data.toList.map lowC := by
  intro f hf he
  have := List.filter_eq_nil_iff.1 h f hf
  rw [isB_eq, decide_eq_true he] at this
  exact this rfl
end
/-- A value that is read as it is written. -/
theorem val_of {l : List UInt8} {c d : UInt8} (ha : l.all isVal = true) (hc : l.head? = some c) (hd : l.getLast? = some d) (h1 : isBlk c = false) (h2 : isBlk d = false) : valB l = true := by
  unfold valB
  rw [trimB_stay l c d hc hd h1 h2, ha, decide_eq_true rfl]
  rfl
def clientL : List UInt8 := [99, 108, 105, 101, 110, 116]
theorem who_val : ∀ (vs : List ByteArray), (∀ v ∈ vs, valB v.data.toList = true) → (whoL vs clientL).all isVal = true ∧ (∃ c, (whoL vs clientL).head? = some c ∧ isBlk c = false) ∧ (whoL vs clientL).getLast? = some 116
  | [], _ => ⟨by decide +kernel, ⟨99, rfl, by decide +kernel⟩, rfl⟩
  | v :: r, h => by
    obtain ⟨h1, _, h3⟩ := who_val r (fun y hy => h y (List.mem_cons_of_mem _ hy))
    have hv := h v (List.mem_cons_self ..)
    have e : whoL (v :: r) clientL = v.data.toList ++ (44 :: 32 :: whoL r clientL) := by
      unfold whoL
      simp
    rw [e]
    have hv2 : valB v.data.toList = true := hv
    unfold valB at hv
    rw [Bool.and_eq_true] at hv
    refine ⟨?_, ?_, ?_⟩
    · rw [List.all_append, hv.2, List.all_cons, List.all_cons, h1]
      decide +kernel
    · cases hl : v.data.toList with
      | nil => exact ⟨44, rfl, by decide +kernel⟩
      | cons c q => exact ⟨c, rfl, trimB_fix_head v.data.toList c (by rw [hl]; rfl) (of_decide_eq_true hv.1)⟩
    · rw [List.getLast?_append]
      have : (44 :: 32 :: whoL r clientL).getLast? = some 116 := by
        rw [List.getLast?_cons, List.getLast?_cons, h3]
        rfl
      rw [this]
      rfl
theorem fok_of {n v : List UInt8} (hn : tokB n = true) (hv : valB v = true) : FOk (n, v) := parse_back hn hv
theorem dig_val : ∀ n : Fin 61, valB (prtI 10 ((n.val : Nat) : Int)) = true ∧ numR 10 10 isDec (prtI 10 ((n.val : Nat) : Int)) 100 = (((n.val : Nat) : Int), 0) := by decide +kernel
theorem req_fok {FS : List Fld} (hF : ∀ f ∈ FS, FOk f) (K : Int) (bl : Nat) (hbl : bl ≤ 60) : ∀ f ∈ reqF FS clientL K bl, FOk f := by
  have hw : FOk (xffN, whoL (allB xffB (hopsF FS)) clientL) := by
    obtain ⟨h1, ⟨c, h2, h3⟩, h4⟩ := who_val (allB xffB (hopsF FS)) (fun v hv => by
      unfold allB at hv
      obtain ⟨f, hf, rfl⟩ := List.mem_map.1 hv
      rw [bs_list]
      exact (fok_parts (hF f (hopsR_mem (List.mem_filter.1 hf).1))).2)
    exact fok_of (by decide +kernel) (val_of h1 h2 h4 h3 (by decide +kernel))
  have hG : ∀ f ∈ reqG FS clientL, FOk f := by
    intro f hf
    unfold reqG at hf
    rcases List.mem_append.1 hf with hf | hf
    · rcases setF_memR hf with rfl | hf
      · exact hw
      · exact hF f (hopsR_mem hf)
    · obtain rfl := List.mem_singleton.1 hf
      exact fok_of (by decide +kernel) (by decide +kernel)
  intro f hf
  unfold reqF at hf
  split at hf
  · exact hG f hf
  · rcases setF_memR hf with rfl | hf
    · exact fok_of (by decide +kernel) (dig_val ⟨bl, by omega⟩).1
    · exact hG f hf
theorem textL_app (a b : List Fld) : textL (a ++ b) = textL a ++ textL b := by unfold textL; simp
theorem textL_sub {a b : List Fld} (h : a.Sublist b) : (textL a).length ≤ (textL b).length := by
  induction h with
  | slnil => exact Nat.le_refl _
  | cons f _ ih => rw [textL_len]; omega
  | cons_cons f _ ih => rw [textL_len, textL_len]; omega
theorem textL_one (n v : List UInt8) : (textL [(n, v)]).length = n.length + v.length + 4 := by
  rw [textL_len]
  simp [textL]
  omega
theorem textL_set (n v : List UInt8) (fs : List Fld) : (textL (setF n v fs)).length ≤ (textL fs).length + (n.length + v.length + 4) := by
  unfold setF
  simp only
  split
  · rename_i hi
    have e : fs.take (findI [bs n] fs).toNat ++ ((n, v) :: dropL [bs n] (fs.drop ((findI [bs n] fs).toNat + 1))) = fs.take (findI [bs n] fs).toNat ++ ([(n, v)] ++ dropL [bs n] (fs.drop ((findI [bs n] fs).toNat + 1))) := rfl
    rw [e, textL_app, textL_app, List.length_append, List.length_append, textL_one]
    have h1 : (textL (fs.take (findI [bs n] fs).toNat ++ dropL [bs n] (fs.drop ((findI [bs n] fs).toNat + 1)))).length ≤ (textL fs).length := by
      refine textL_sub ?_
      conv => rhs; rw [← List.take_append_drop (findI [bs n] fs).toNat fs]
      refine List.Sublist.append (List.Sublist.refl _) ?_
      unfold dropL
      refine List.Sublist.trans List.filter_sublist ?_
      rw [← List.drop_drop]
      exact List.drop_sublist 1 _
    rw [textL_app, List.length_append] at h1
    omega
  · rw [textL_app, List.length_append, textL_one]
    exact Nat.le_refl _
end Go.Proofs.YtbbphklhnngjmaaGreatDoor

/- rewrite: a request that was sent on is read by a parser. -/
namespace Go.Proofs.YtbbphklhnngjmaaGreatDoor
open Go.RowKit

/-- A request that may be, before it is sent on. -/
structure SentIs (m t bd : List UInt8) (FS : List Fld) (K : Int) : Prop where
  fok : ∀ f ∈ FS, FOk f
  hm : tokB m = true
  ht : tgtB t = true
  host : ∃ h0, allB hostR FS = [h0] ∧ 0 < h0.size
  kind : K = 0 → allB lenR FS = [] ∧ bd = []
  fl : FS.length ≤ 9
  fz : ∀ f ∈ FS, f.1.length ≤ 20 ∧ f.2.length ≤ 40
  ml : m.length ≤ 20
  tl : t.length ≤ 40
  bl : bd.length ≤ 60
def limM : HdL := ⟨500, 2000, 40⟩
theorem SentIs.smf {m t bd : List UInt8} {FS : List Fld} {K : Int} (h : SentIs m t bd FS K) : SmF FS 1000 10000 := ⟨by have := h.fl; omega, fun f hf => ⟨by have := (h.fz f hf).1; omega, by have := (h.fz f hf).2; omega⟩⟩
theorem SentIs.text {m t bd : List UInt8} {FS : List Fld} {K : Int} (h : SentIs m t bd FS K) : (textL (reqF FS clientL K bd.length)).length ≤ 2000 ∧ (reqF FS clientL K bd.length).length ≤ 40 := by
  have h0 : (textL (hopsF FS)).length ≤ FS.length * 64 := by
    refine Nat.le_trans (textL_sub (hopsR_sub _ FS)) ?_
    exact textL_small FS h.fz
  have hHl : (hopsF FS).length ≤ 9 := Nat.le_trans (hopsR_len _ FS) h.fl
  have hw : (whoL (allB xffB (hopsF FS)) clientL).length ≤ 400 := by
    have h1 := whoL_len (allB xffB (hopsF FS)) clientL
    have h2 := SmF.sum (k := 9) (m := 40) (fs := hopsF FS) ⟨hHl, fun f hf => ⟨by have := (h.fz f (hopsR_mem hf)).1; omega, (h.fz f (hopsR_mem hf)).2⟩⟩ xffB
    have h3 := allB_lenR xffB (hopsF FS)
    have h4 : clientL.length = 6 := rfl
    omega
  have hg1 : (textL (reqG FS clientL)).length ≤ 1100 := by
    unfold reqG
    rw [textL_app, List.length_append]
    have h1 := textL_set xffN (whoL (allB xffB (hopsF FS)) clientL) (hopsF FS)
    have h2 : xffN.length = 15 := rfl
    have h3 : (textL [viaF]).length = 18 := rfl
    have := h.fl
    omega
  have hg2 : (reqG FS clientL).length ≤ 11 := by
    unfold reqG
    rw [List.length_append]
    have := setF_len xffN (whoL (allB xffB (hopsF FS)) clientL) (hopsF FS)
    have h3 : [viaF].length = 1 := rfl
    omega
  unfold reqF
  split
  · exact ⟨by omega, by omega⟩
  · have h1 := textL_set clenN (prtI 10 (bd.length : Int)) (reqG FS clientL)
    have h2 := prtI_short (bd.length : Int)
    have h3 : clenN.length = 14 := rfl
    have h4 := setF_len clenN (prtI 10 (bd.length : Int)) (reqG FS clientL)
    exact ⟨by omega, by omega⟩
theorem sent_frames {m t bd : List UInt8} {FS : List Fld} {K : Int} (h : SentIs m t bd FS K) : Frames 100 (reqF FS clientL K bd.length) (reqK K) (bd.length : Int) := by
  by_cases hk : K = 0
  · obtain ⟨h1, h2⟩ := h.kind hk
    refine .inl ⟨by unfold reqK; rw [if_pos hk], by rw [h2]; rfl, req_enc .., ?_⟩
    rw [req_len0 FS clientL K bd.length hk, ← h1]
    exact allB_case (by decide +kernel) FS
  · refine .inr ⟨by unfold reqK; rw [if_neg hk], req_enc .., bs (prtI 10 (bd.length : Int)), req_len1 FS clientL K bd.length hk, fun W hW => ?_⟩
    have hb := h.bl
    have e := dec_any (bs (prtI 10 (bd.length : Int))) (by rw [bs_size]; have := prtI_short (bd.length : Int); omega) 100 W hW
    rw [bs_list, (dig_val ⟨bd.length, by omega⟩).2] at e
    exact e
theorem sent_feed (m t bd : List UInt8) (FS : List Fld) (K : Int) (h : SentIs m t bd FS K) (G : Nat → Prop) (g : Nat) (w : World) (hp : HeS G 108 (paR ⟨#[]⟩ ⟨#[]⟩ (.slice none 0 0) false 0) w g limM 100 hd0) (hu : Up G w) (hM : ∀ w', Keep G w w' → MaxL w') (hY : ∀ w', Keep G w w' → Syn w') :
    Calls Tryz.prog 22 #[.pointer (some ⟨g, 0, none⟩), .string (bs (reqLine (m, t) ++ textL (reqF FS clientL K bd.length) ++ [13, 10] ++ bd))] w (FeedB G w m t bd (reqF FS clientL K bd.length) (reqK K)) := by
  have hfr := sent_frames h
  obtain ⟨hx1, hx2⟩ := h.text
  have hfok := req_fok h.fok K bd.length h.bl
  obtain ⟨h0, hh, hh0⟩ := h.host
  have hho : allB hostN (reqF FS clientL K bd.length) = [h0] := by
    rw [req_host, ← hh]
    exact allB_case (by decide +kernel) FS
  have hok : ∀ f ∈ reqF FS clientL K bd.length, FldOk f := by
    have hs : SmF (reqF FS clientL K bd.length) 1003 20000000 := by
      have hG := h.smf.reqG (cl := clientL) (by decide)
      unfold reqF
      split
      · exact hG.more (by decide) (Nat.le_refl _)
      · exact hG.set (by decide) (by have := prtI_short (bd.length : Int); omega)
    exact hs.ok (by decide)
  generalize reqF FS clientL K bd.length = GS at *
  have hc := ln_clean m t h.hm h.ht
  have hlen : (lnL m t).length ≤ 100 := by
    have h1 := h.ml
    have h2 := h.tl
    have h3 : sfxL.length = 9 := rfl
    unfold lnL
    simp only [List.length_append, List.length_cons]
    omega
  have hbl := h.bl
  obtain ⟨l1, hl1⟩ : ∃ l1, l1 = textL GS ++ ([13, 10] ++ bd) := ⟨_, rfl⟩
  have e : reqLine (m, t) ++ textL GS ++ [13, 10] ++ bd = lnL m t ++ 13 :: 10 :: l1 := by
    rw [reqLine_ln, hl1]
    simp
  have hl1z : l1.length ≤ 2100 := by
    rw [hl1]
    simp only [List.length_append, List.length_cons, List.length_nil]
    omega
  rw [e]
  have hrun : ∀ r, hRun limM (.line (some (lnL m t)) [] 0 [] false) (textL GS ++ r) = hRun limM (.line (some (lnL m t)) GS (textL GS).length [] false) r := by
    intro r
    rw [run_flds_ok limM (lnL m t) GS [] 0 r hfok (by show _ ≤ max (0 : Int) 2000; omega) (by rw [List.length_nil]; show _ ≤ max (0 : Int) 40; omega)]
    simp
  obtain ⟨t', e1, e2, e3⟩ := run_whole (L := limM) (may := anyFirst) (fo := some (lnL m t)) (fs := GS) (sz := (textL GS).length) (r := 13 :: 10 :: bd) (s := []) (rl_crlf ..)
  obtain rfl : bd = t' := by simpa using e1
  have hcl : limM.close anyFirst (some (lnL m t)) GS (textL GS).length [] = .done (lnL m t) GS := by simp [HdL.close]
  rw [hcl] at e2 e3
  refine pfeedB G g limM 100 m t (lnL m t ++ 13 :: 10 :: l1) l1 bd (lnL m t) (.line (some (lnL m t)) [] 0 [] false) GS (reqK K) (bd.length : Int) h0 (by simp) ?_ ?_ ?_ rfl rfl (req_back m t h.hm h.ht) (by show (lnL m t).length ≤ _; omega) ?_ ?_ ?_ ?_ (by omega) hok hho hh0 hfr rfl w hp hu hM hY
  · simp only [List.length_append, List.length_cons]; omega
  · rw [ln_nl m t hc, take_ln, ln_run limM m t hc, if_pos (by show _ ≤ max (0 : Int) 500; omega)]
  · rw [ln_nl m t hc, drop_ln]
  · rw [hl1]; simp
  · show 0 + 0 + 0 + 4 * _ ≤ _
    omega
  · rw [hl1, hrun]
    show hdRun limM anyFirst _ (13 :: 10 :: bd) = _
    rw [e2]
    exact mRun_fin _ _ (hd_fin limM anyFirst) _ rfl bd
  · rw [hl1]
    have hr0 := hrun []
    rw [List.append_nil] at hr0
    show mLeft _ _ _ _ = _
    rw [mLeft_app _ _ (hd_fin limM anyFirst) _ _ _ (by rw [show mRun (limM.step anyFirst) (.line (some (lnL m t)) [] 0 [] false) (textL GS) = _ from hr0]; rfl), show mRun (limM.step anyFirst) (.line (some (lnL m t)) [] 0 [] false) (textL GS) = _ from hr0]
    show hdLeft limM anyFirst (.line (some (lnL m t)) GS (textL GS).length [] false) (13 :: 10 :: bd) = _
    rw [e3]
    exact mLeft_fin _ _ _ bd rfl
end Go.Proofs.YtbbphklhnngjmaaGreatDoor

/- request: Message.Text with a body. -/
namespace Go.Proofs.YtbbphklhnngjmaaGreatDoor
open Go.RowKit

set_option maxRecDepth 100000 in
set_option maxHeartbeats 4000000 in
theorem mtext19L (m t bd : List UInt8) (K : Int) (hbd : bd.length ≤ 1000000) (hm : m.length ≤ 1000000) (ht : t.length ≤ 1000000) (a : Option Addr) (c : Nat) (fs : List Fld) (hfl : fs.length ≤ 1000000) (hok : ∀ f ∈ fs, FldOk f) (hsum : (textL fs).length ≤ 1000000000) (w : World) (hf : IsFlds w a c fs) :
    Calls Tryz.prog 23 #[.agg #[.string (bs m), .string (bs t), .slice a fs.length c, .string (bs bd), .int .i64 K]] w fun x w' => x = .returned (.string (bs (reqLine (m, t) ++ textL fs ++ [13, 10] ++ bd))) ∧ Below w.heap.size w w' := by
  have hrl : (reqLine (m, t)).length ≤ 3000000 := by simp [reqLine, verL]; omega
  have A1 := fun W => add_str (reqLine (m, t)) (textL fs) (by omega) W
  have A2 := fun W => add_str (reqLine (m, t) ++ textL fs) [13, 10] (by simp; omega) W
  have A3 := fun W => add_str (reqLine (m, t) ++ textL fs ++ [13, 10]) bd (by simp; omega) W
  have e13 : bs [13, 10] = ⟨#[13, 10]⟩ := rfl
  rw [e13] at A2
  have HLN := Lib.hid (fun W => rline11 m t (by omega) (by omega) W)
  have HTX := Lib.hid (fun W h => text49 a c fs (by omega) hok (by omega) W h)
  have HF := Lib.hid hf
  generalize hx4 : bs (reqLine (m, t) ++ textL fs ++ [13, 10] ++ bd) = x4 at *
  generalize hxb : bs bd = bb at *
  have R0 := Row.new w 45 #[.string (bs m), .string (bs t), .slice a fs.length c, .string bb, .int .i64 K]
  have L0 := below_alloc w (.cells #[.string (bs m), .string (bs t), .slice a fs.length c, .string bb, .int .i64 K] 45)
  generalize hx3 : bs (reqLine (m, t) ++ textL fs ++ [13, 10]) = x3 at *
  generalize hx2 : bs (reqLine (m, t) ++ textL fs) = x2 at *
  generalize hx1 : bs (reqLine (m, t)) = x1 at *
  generalize hx0 : bs (textL fs) = x0 at *
  generalize hmm : bs m = mm at *
  generalize htt : bs t = tt at *
  clear hx4 hxb hbd hx3 hx2 hx1 hx0 hmm htt e13 hrl hf hok hm ht hsum
  go_enter Tryz.func23, Tryz.ntmps23
  go_upto_region 1 with fail
  obtain ⟨bM, hbM⟩ : ∃ bM, bM = w.heap.size := ⟨_, rfl⟩
  rw [← hbM] at R0 ⊢
  generalize w.alloc (.cells #[.string mm, .string tt, .slice a fs.length c, .string bb, .int .i64 K] 45) = w1 at *
  have HF1 := Lib.hid (HF.out.below L0)
  have HL1 := Lib.hid L0
  have r0 : w1.cell? ⟨bM, 0, none⟩ = some (.string mm) := R0.cell 0
  have r1 : w1.cell? ⟨bM, 1, none⟩ = some (.string tt) := R0.cell 1
  have r2 : w1.cell? ⟨bM, 2, none⟩ = some (.slice a fs.length c) := R0.cell 2
  have r3 : w1.cell? ⟨bM, 3, none⟩ = some (.string bb) := R0.cell 3
  have hlt := R0.lt
  obtain ⟨n, hn⟩ : ∃ n, n = fs.length := ⟨_, rfl⟩
  rw [← hn] at r2 HTX ⊢
  clear L0 R0 HF hbM hn
  refine region_mixt 11 [some (.pointer (some ⟨bM, 0, none⟩)), some (.agg #[.string mm, .string tt]), some (.string x1), some (.pointer (some ⟨bM, 2, none⟩)), some (.slice a n c), some (.string x0), some (.string x2), some (.string x3), some (.pointer (some ⟨bM, 3, none⟩)), some (.string bb), some (.string x4)]
    [[false, false, false, false, false, false, false, false, false, false, false], [true, false, false, false, false, false, false, false, false, false, false], [false, true, false, false, false, false, false, false, false, false, false], [false, false, false, false, false, false, false, false, false, false, false], [false, false, false, true, false, false, false, false, false, false, false], [false, false, true, false, true, false, false, false, false, false, false], [false, false, true, false, false, true, false, false, false, false, false], [false, false, false, false, false, false, true, false, false, false, false], [false, false, false, false, false, false, false, false, false, false, false], [false, false, false, false, false, false, false, false, true, false, false], [false, false, false, false, false, false, false, true, false, true, false]]
    (fun L x w9 => Below w1.heap.size w1 w9)
    (by kernel_rfl) (by kernel_rfl) (by kernel_rfl) (by kernel_rfl) (by kernel_rfl) (by decide) ?_ ?_ ?_
  · intro _
    exact ⟨rfl, rfl, rfl, Nat.le_refl _, fun _ _ => rfl⟩
  · simp only [List.take_succ_cons, List.take_zero]
    refine ⟨?_, ?_, ?_, ?_, ?_, ?_, ?_, ?_, ?_, ?_, ?_, trivial⟩
    all_goals
      intro L x w9 hS hl hp K9 hK9
      have hs : Below w1.heap.size w1 w9 := hS
      clear hS hp hl
      replace hK9 := hK9.out
      simp only [actMix, pickV, List.tail_cons, List.headD_cons, Act.put, List.setIfInBounds_toArray, List.set_cons_zero, List.set_cons_succ] at hK9 ⊢
    · go_simp
      with_reducible refine hK9 _ ?_
      exact hs
    · have r8 : w9.cell? ⟨bM, 0, none⟩ = some (.string mm) := by rw [(bcell hs).1 _ _ hlt]; exact r0
      have r9 : w9.cell? ⟨bM, 1, none⟩ = some (.string tt) := by rw [(bcell hs).1 _ _ hlt]; exact r1
      go_simp
      with_reducible refine hK9 _ ?_
      exact hs
    · go_simp
      refine (HLN.out w9).mono ?_
      rintro e9 w8 ⟨rfl, hb8⟩
      with_reducible refine hK9 _ ?_
      exact hs.trans (hb8.mono hs.size)
    · go_simp
      with_reducible refine hK9 _ ?_
      exact hs
    · have r9 : w9.cell? ⟨bM, 2, none⟩ = some (.slice a n c) := by rw [(bcell hs).1 _ _ hlt]; exact r2
      go_simp
      with_reducible refine hK9 _ ?_
      exact hs
    · go_simp
      refine (HTX.out w9 (HF1.out.below hs)).mono ?_
      rintro e9 w8 ⟨rfl, hb8⟩
      with_reducible refine hK9 _ ?_
      exact hs.trans (hb8.mono hs.size)
    · go_simp
      with_reducible refine hK9 _ ?_
      exact hs
    · go_simp
      with_reducible refine hK9 _ ?_
      exact hs
    · go_simp
      with_reducible refine hK9 _ ?_
      exact hs
    · have r9 : w9.cell? ⟨bM, 3, none⟩ = some (.string bb) := by rw [(bcell hs).1 _ _ hlt]; exact r3
      go_simp
      with_reducible refine hK9 _ ?_
      exact hs
    · go_simp
      with_reducible refine hK9 _ ?_
      exact hs
  intro L x w9 hS hL
  have hs : Below w1.heap.size w1 w9 := hS
  clear hS hL
  simp only [actMix, pickV, List.tail_cons, List.headD_cons, Act.put, List.setIfInBounds_toArray, List.set_cons_zero, List.set_cons_succ, List.replicate_succ, List.replicate_zero, List.drop_succ_cons, List.drop_zero, List.take_succ_cons, List.take_zero]
  have HB9 := Lib.hid (HL1.out.trans (hs.mono HL1.out.size))
  clear hs
  go_wp2_with fail
  go_ret
  exact ⟨rfl, HB9.out⟩
end Go.Proofs.YtbbphklhnngjmaaGreatDoor

