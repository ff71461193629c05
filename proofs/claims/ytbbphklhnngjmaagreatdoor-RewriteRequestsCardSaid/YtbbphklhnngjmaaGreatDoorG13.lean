/- Packed: LawRwR, FldsO, MsgO. -/
import Derived.Deep.SlicePairs
import Derived.Deep.MidRow
import Derived.WideKeyArgs
import Derived.DataReads
import Derived.KernelRfl
import Derived.Test.YtbbphklhnngjmaaGreatDoorG08
import Derived.Test.YtbbphklhnngjmaaGreatDoorG09
import Derived.Test.YtbbphklhnngjmaaGreatDoorG12
/- The walk of the statement RewriteRequests. -/
namespace Go.Proofs.YtbbphklhnngjmaaGreatDoor
open Go.RowKit

set_option maxRecDepth 100000 in
set_option maxHeartbeats 4000000 in
theorem is15 (mm tt bb : ByteArray) (kk : Int) (a1 a2 : Option Addr) (c1 c2 : Nat) (fs : List Fld) (hfl : fs.length ≤ 1000000) (w : World) (h1 : IsFlds w a1 c1 fs) (h2 : IsFlds w a2 c2 fs) :
    Calls Tryz.prog 15 #[.agg #[.string mm, .string tt, .slice a1 fs.length c1, .string bb, .int .i64 kk], .agg #[.string mm, .string tt, .slice a2 fs.length c2, .string bb, .int .i64 kk]] w fun e w' => e = .returned (.bool true) ∧ Below w.heap.size w w' := by
  have HI := Lib.hid (fun W h1 h2 => lawIs45 a1 c1 fs a2 c2 fs true (by simp) (by omega) (by omega) W h1 h2)
  obtain ⟨n, hn⟩ : ∃ n, n = fs.length := ⟨_, rfl⟩
  rw [← hn] at HI ⊢
  have em := self_strP mm
  have et := self_strP tt
  have eb := self_strP bb
  have R0 := (Row.new w 45 #[.string mm, .string tt, .slice a1 n c1, .string bb, .int .i64 kk]).alloc (.cells #[.string mm, .string tt, .slice a2 n c2, .string bb, .int .i64 kk] 39)
  have R1 := Row.new (w.alloc (.cells #[.string mm, .string tt, .slice a1 n c1, .string bb, .int .i64 kk] 45)) 39 #[.string mm, .string tt, .slice a2 n c2, .string bb, .int .i64 kk]
  rw [show (w.alloc (.cells #[.string mm, .string tt, .slice a1 n c1, .string bb, .int .i64 kk] 45)).heap.size = w.heap.size + 1 by simp] at R1
  have L1 := (below_alloc w (.cells #[.string mm, .string tt, .slice a1 n c1, .string bb, .int .i64 kk] 45)).alloc (by simp) (.cells #[.string mm, .string tt, .slice a2 n c2, .string bb, .int .i64 kk] 39)
  have H1 := Lib.hid (h1.below L1)
  have H2 := Lib.hid (h2.below L1)
  clear h1 h2 hfl hn
  go_enter Tryz.func15, Tryz.ntmps15
  go_upto_region 1 with fail
  obtain ⟨b0, hb0⟩ : ∃ b0, b0 = w.heap.size := ⟨_, rfl⟩
  obtain ⟨b1, hb1⟩ : ∃ b1, b1 = w.heap.size + 1 := ⟨_, rfl⟩
  rw [← hb0] at R0
  rw [← hb1] at R1 ⊢
  rw [← hb0]
  generalize World.alloc (World.alloc w _) _ = w1 at *
  have LL := Lib.hid L1
  have r0 := R0.cell 0
  have r1 := R0.cell 1
  have r2 := R0.cell 2
  have r3 := R0.cell 3
  have r4 := R0.cell 4
  have p0 := R1.cell 0
  have p1 := R1.cell 1
  have p2 := R1.cell 2
  have p3 := R1.cell 3
  have p4 := R1.cell 4
  simp only [List.getElem?_toArray, List.getElem?_cons_zero, List.getElem?_cons_succ] at r0 r1 r2 r3 r4 p0 p1 p2 p3 p4
  clear R0 R1 L1 hb0 hb1
  go_wp2_with fail
  with_reducible refine (HI.out w1 H1.out H2.out).mono ?_
  rintro e w2 ⟨rfl, hb2⟩
  have L2 := Lib.hid (LL.out.trans (hb2.mono LL.out.size))
  clear hb2 LL H1 H2 HI
  go_wp2_with fail
  go_ret
  exact ⟨rfl, L2.out⟩
theorem fewF_smF (fs : List Fld) (n : Nat) (hn : n ≤ 1000) : SmF (fewF fs n) 1000 10000 := by
  refine ⟨Nat.le_trans (fewF_length fs n) hn, fun f hf => ?_⟩
  unfold fewF at hf
  obtain ⟨g, _, rfl⟩ := List.mem_map.1 hf
  exact ⟨by simp; omega, by simp; omega⟩
theorem reqF_len {fs : List Fld} (h : SmF fs 1000 10000) {cl : List UInt8} (hc : cl.length ≤ 10000) (k : Int) (bl : Nat) : (reqF fs cl k bl).length ≤ 1000000 := by
  have h1 := (h.reqG hc).1
  unfold reqF
  split
  · omega
  · have := setF_len clenN (prtI 10 (bl : Int)) (reqG fs cl)
    omega
set_option maxRecDepth 100000 in
set_option maxHeartbeats 8000000 in
theorem lawRewriteRequests (mm tt bb : ByteArray) (kk : Int) (client : ByteArray) (a : Option Addr) (c : Nat) (fs : List Fld) (hfl : fs.length ≤ 9223372036854775807) (w : World) (hw : LaidR w) (hf : IsFlds w a c fs) :
    Calls Tryz.prog 4 #[.agg #[.string mm, .string tt, .slice a fs.length c, .string bb, .int .i64 kk], .string client] w fun e w' => e = .returned (.bool true) ∧ Below w.heap.size w w' := by
  have HAW := Lib.hid (fun W h => awake13 W h)
  have HAS := Lib.hid (fun W h => asks14 mm tt bb kk a c fs hfl W h)
  have HCU := Lib.hid (fun W => cut11 client 20 W)
  have hsm := fewF_smF fs 8 (by decide)
  have hbz : (cutS bb 60).size < 9223372036854775808 := by have := cutS_size bb 60; omega
  have hcz : (cutS client 20).data.toList.length ≤ 10000 := by have := cutS_size client 20; rw [← Lib.size_eq]; omega
  obtain ⟨FF, hFF⟩ : ∃ X, X = fewF fs 8 := ⟨_, rfl⟩
  rw [← hFF] at HAS hsm
  obtain ⟨m2, hm2⟩ : ∃ X, X = cutS mm 20 := ⟨_, rfl⟩
  obtain ⟨t2, ht2⟩ : ∃ X, X = cutS tt 40 := ⟨_, rfl⟩
  obtain ⟨b2, hb2⟩ : ∃ X, X = cutS bb 60 := ⟨_, rfl⟩
  obtain ⟨cl, hcl⟩ : ∃ X, X = cutS client 20 := ⟨_, rfl⟩
  rw [← hm2, ← ht2, ← hb2] at HAS
  rw [← hb2] at hbz
  rw [← hcl] at HCU hcz
  have HOW := Lib.hid (fun b d W h => own17g m2 t2 b2 kk b d FF (by have := hsm.1; omega) FF rfl W h)
  obtain ⟨gs, hgs⟩ : ∃ X, X = reqF FF cl.data.toList kk b2.size := ⟨_, rfl⟩
  obtain ⟨K, hK⟩ : ∃ X, X = reqK kk := ⟨_, rfl⟩
  have HRQ := Lib.hid (fun b d ha W hW h => rreq16 m2 t2 b2 kk cl.data.toList b d FF hsm hcz hbz ha gs hgs K hK W hW h)
  have HRR := Lib.hid (fun b d W h => rrq18 m2 t2 b2 kk cl.data.toList b d FF hsm hcz hbz gs hgs K hK W h)
  have HIS := Lib.hid (fun b1 d1 b2' d2 W h1 h2 => is15 m2 t2 b2 K b1 b2' d1 d2 gs (by rw [hgs]; exact reqF_len hsm hcz kk b2.size) W h1 h2)
  rw [bs_of] at HRQ HRR
  obtain ⟨n2, hn2⟩ : ∃ X, X = FF.length := ⟨_, rfl⟩
  obtain ⟨ng, hng⟩ : ∃ X, X = gs.length := ⟨_, rfl⟩
  rw [← hn2] at HAS HOW HRQ HRR
  rw [← hng] at HRQ HRR HIS
  obtain ⟨n, hn⟩ : ∃ n, n = fs.length := ⟨_, rfl⟩
  rw [← hn] at HAS ⊢
  have R0 := Row.new w 39 #[.string mm, .string tt, .slice a n c, .string bb, .int .i64 kk]
  have L0 := below_alloc w (.cells #[.string mm, .string tt, .slice a n c, .string bb, .int .i64 kk] 39)
  have HW := Lib.hid (hw.below L0)
  have HF := Lib.hid (hf.below L0)
  clear hw hf hfl hsm hbz hcz hFF hm2 ht2 hb2 hcl hgs hK hn2 hng hn
  go_enter Tryz.func4, Tryz.ntmps4
  go_upto_region 1 with fail
  obtain ⟨b0, hb0⟩ : ∃ b0, b0 = w.heap.size := ⟨_, rfl⟩
  rw [← hb0] at R0 ⊢
  generalize World.alloc w _ = w1 at *
  have LL := Lib.hid L0
  have RR0 := Lib.hid R0
  clear L0 R0 hb0
  go_wp2_with fail
  with_reducible refine (HAW.out w1 HW.out).mono ?_
  rintro e w2 ⟨rfl, hb2⟩
  have F2 := Lib.hid (HF.out.below hb2)
  have W2 := Lib.hid (HW.out.below hb2)
  have L2 := Lib.hid (LL.out.trans (hb2.mono LL.out.size))
  have R2 := RR0.out.below hb2
  have r0 := R2.cell 0
  have r1 := R2.cell 1
  have r2 := R2.cell 2
  have r3 := R2.cell 3
  have r4 := R2.cell 4
  simp only [List.getElem?_toArray, List.getElem?_cons_zero, List.getElem?_cons_succ] at r0 r1 r2 r3 r4
  clear hb2 HF HW LL RR0 R2 HAW
  go_wp2_with fail
  with_reducible refine (HAS.out w2 F2.out).mono ?_
  rintro e w3 ⟨a2, d2, rfl, hbn, hf3, hb3⟩
  have F3 := Lib.hid hf3
  have W3 := Lib.hid (W2.out.below hb3)
  have L3 := Lib.hid (L2.out.trans (hb3.mono L2.out.size))
  have HBN := Lib.hid hbn
  clear hbn hf3 hb3 F2 W2 L2 HAS r0 r1 r2 r3 r4
  go_wp2_with fail
  refine (HCU.out w3).mono ?_
  rintro e w' ⟨rfl, rfl⟩
  have R4 := Row.new w3 39 #[.string m2, .string t2, .slice a2 n2 d2, .string b2, .int .i64 kk]
  have LA := below_alloc w3 (.cells #[.string m2, .string t2, .slice a2 n2 d2, .string b2, .int .i64 kk] 39)
  have F4 := Lib.hid (F3.out.below LA)
  have W4 := Lib.hid (W3.out.below LA)
  have L4 := Lib.hid (L3.out.trans (LA.mono L3.out.size))
  clear LA F3 W3 L3 HCU
  go_upto_region 4 with fail
  obtain ⟨b1, hb1⟩ : ∃ b1, b1 = w3.heap.size := ⟨_, rfl⟩
  rw [← hb1] at R4 ⊢
  generalize World.alloc w3 _ = w4 at *
  have hlt := R4.lt
  have p0 := R4.cell 0
  have p1 := R4.cell 1
  have p2 := R4.cell 2
  have p3 := R4.cell 3
  have p4 := R4.cell 4
  simp only [List.getElem?_toArray, List.getElem?_cons_zero, List.getElem?_cons_succ] at p0 p1 p2 p3 p4
  clear R4 hb1
  refine region_mixt 8 [some (.agg #[.string m2, .string t2, .slice a2 n2 d2, .string b2, .int .i64 kk]), none, some (.string cl), none, some (.agg #[.string m2, .string t2, .slice a2 n2 d2, .string b2, .int .i64 kk]), some (.string cl), none, some (.bool true)]
    [[false, false, false, false, false, false, false, false], [true, false, false, false, false, false, false, false], [false, false, false, false, false, false, false, false], [false, true, true, false, false, false, false, false], [false, false, false, false, false, false, false, false], [false, false, false, false, false, false, false, false], [false, false, false, true, true, true, false, false], [false, false, false, true, false, false, true, false]]
    (fun L x w9 => Below w4.heap.size w4 w9 ∧ (L 1 = true → ∃ b d, x 1 = .agg #[.string m2, .string t2, .slice b n2 d, .string b2, .int .i64 kk] ∧ (b = none → d = 0 ∧ FF = []) ∧ IsFlds w9 b d FF) ∧ (L 3 = true → ∃ b d, x 3 = .agg #[.string m2, .string t2, .slice b ng d, .string b2, .int .i64 K] ∧ IsFlds w9 b d gs) ∧ (L 6 = true → ∃ b d, x 6 = .agg #[.string m2, .string t2, .slice b ng d, .string b2, .int .i64 K] ∧ IsFlds w9 b d gs))
    (by kernel_rfl) (by kernel_rfl) (by kernel_rfl) (by kernel_rfl) (by kernel_rfl) (by decide) ?_ ?_ ?_
  · intro _
    exact ⟨⟨rfl, rfl, rfl, Nat.le_refl _, fun _ _ => rfl⟩, (fun h => by cases h), (fun h => by cases h), (fun h => by cases h)⟩
  · simp only [List.take_succ_cons, List.take_zero]
    refine ⟨?_, ?_, ?_, ?_, ?_, ?_, ?_, ?_, trivial⟩
    all_goals
      intro L x w9 hS hl hp K9 hK9
      have hs : Below w4.heap.size w4 w9 ∧ (L 1 = true → ∃ b d, x 1 = .agg #[.string m2, .string t2, .slice b n2 d, .string b2, .int .i64 kk] ∧ (b = none → d = 0 ∧ FF = []) ∧ IsFlds w9 b d FF) ∧ (L 3 = true → ∃ b d, x 3 = .agg #[.string m2, .string t2, .slice b ng d, .string b2, .int .i64 K] ∧ IsFlds w9 b d gs) ∧ (L 6 = true → ∃ b d, x 6 = .agg #[.string m2, .string t2, .slice b ng d, .string b2, .int .i64 K] ∧ IsFlds w9 b d gs) := hS
      clear hS
      replace hK9 := hK9.out
      simp only [actMix, pickV, List.tail_cons, List.headD_cons, Act.put, List.setIfInBounds_toArray, List.set_cons_zero, List.set_cons_succ] at hK9 ⊢
    · skip
      have q0 : w9.cell? ⟨b1, 0, none⟩ = some (.string m2) := by rw [(bcell hs.1).1 _ _ hlt]; exact p0
      have q1 : w9.cell? ⟨b1, 1, none⟩ = some (.string t2) := by rw [(bcell hs.1).1 _ _ hlt]; exact p1
      have q2 : w9.cell? ⟨b1, 2, none⟩ = some (.slice a2 n2 d2) := by rw [(bcell hs.1).1 _ _ hlt]; exact p2
      have q3 : w9.cell? ⟨b1, 3, none⟩ = some (.string b2) := by rw [(bcell hs.1).1 _ _ hlt]; exact p3
      have q4 : w9.cell? ⟨b1, 4, none⟩ = some (.int .i64 kk) := by rw [(bcell hs.1).1 _ _ hlt]; exact p4
      clear hp
      go_simp
      with_reducible refine hK9 _ ?_
      exact ⟨hs.1, fun h => by
        obtain ⟨b, d, h1, h2, h3⟩ := hs.2.1 (by simpa [setL] using h)
        exact ⟨b, d, by simpa [updV] using h1, h2, h3⟩, fun h => by
        obtain ⟨b, d, h1, h2⟩ := hs.2.2.1 (by simpa [setL] using h)
        exact ⟨b, d, by simpa [updV] using h1, h2⟩, fun h => by
        obtain ⟨b, d, h1, h2⟩ := hs.2.2.2 (by simpa [setL] using h)
        exact ⟨b, d, by simpa [updV] using h1, h2⟩⟩
    · clear hp
      go_simp
      refine (HOW.out a2 d2 w9 (F4.out.below hs.1)).mono ?_
      rintro e9 w8 ⟨b, d, rfl, hbn, hf8, hb8⟩
      with_reducible refine hK9 _ _ ?_
      exact ⟨hs.1.trans (hb8.mono hs.1.size), fun _ => ⟨b, d, by simp [updV], hbn, hf8⟩, fun h => by
        obtain ⟨b, d, h1, h2⟩ := hs.2.2.1 (by simpa [setL] using h)
        exact ⟨b, d, by simpa [updV] using h1, h2.below hb8⟩, fun h => by
        obtain ⟨b, d, h1, h2⟩ := hs.2.2.2 (by simpa [setL] using h)
        exact ⟨b, d, by simpa [updV] using h1, h2.below hb8⟩⟩
    · skip
      clear hp
      go_simp
      with_reducible refine hK9 _ ?_
      exact ⟨hs.1, fun h => by
        obtain ⟨b, d, h1, h2, h3⟩ := hs.2.1 (by simpa [setL] using h)
        exact ⟨b, d, by simpa [updV] using h1, h2, h3⟩, fun h => by
        obtain ⟨b, d, h1, h2⟩ := hs.2.2.1 (by simpa [setL] using h)
        exact ⟨b, d, by simpa [updV] using h1, h2⟩, fun h => by
        obtain ⟨b, d, h1, h2⟩ := hs.2.2.2 (by simpa [setL] using h)
        exact ⟨b, d, by simpa [updV] using h1, h2⟩⟩
    · have h1 : L 1 = true := allL_mem hp 1 (by decide +kernel)
      obtain ⟨b, d, hx1, hbn1, hf1⟩ := hs.2.1 h1
      clear hp
      rw [hx1] at hK9 ⊢
      go_simp
      refine (HRQ.out b d hbn1 w9 (W4.out.below hs.1) hf1).mono ?_
      rintro e9 w8 ⟨b', d', rfl, hf8, hb8⟩
      with_reducible refine hK9 _ _ ?_
      exact ⟨hs.1.trans (hb8.mono hs.1.size), fun h => by
        obtain ⟨b, d, h1, h2, h3⟩ := hs.2.1 (by simpa [setL] using h)
        exact ⟨b, d, by simpa [updV] using h1, h2, h3.below hb8⟩, fun _ => ⟨b', d', by simp [updV], hf8⟩, fun h => by
        obtain ⟨b, d, h1, h2⟩ := hs.2.2.2 (by simpa [setL] using h)
        exact ⟨b, d, by simpa [updV] using h1, h2.below hb8⟩⟩
    · skip
      have q0 : w9.cell? ⟨b1, 0, none⟩ = some (.string m2) := by rw [(bcell hs.1).1 _ _ hlt]; exact p0
      have q1 : w9.cell? ⟨b1, 1, none⟩ = some (.string t2) := by rw [(bcell hs.1).1 _ _ hlt]; exact p1
      have q2 : w9.cell? ⟨b1, 2, none⟩ = some (.slice a2 n2 d2) := by rw [(bcell hs.1).1 _ _ hlt]; exact p2
      have q3 : w9.cell? ⟨b1, 3, none⟩ = some (.string b2) := by rw [(bcell hs.1).1 _ _ hlt]; exact p3
      have q4 : w9.cell? ⟨b1, 4, none⟩ = some (.int .i64 kk) := by rw [(bcell hs.1).1 _ _ hlt]; exact p4
      clear hp
      go_simp
      with_reducible refine hK9 _ ?_
      exact ⟨hs.1, fun h => by
        obtain ⟨b, d, h1, h2, h3⟩ := hs.2.1 (by simpa [setL] using h)
        exact ⟨b, d, by simpa [updV] using h1, h2, h3⟩, fun h => by
        obtain ⟨b, d, h1, h2⟩ := hs.2.2.1 (by simpa [setL] using h)
        exact ⟨b, d, by simpa [updV] using h1, h2⟩, fun h => by
        obtain ⟨b, d, h1, h2⟩ := hs.2.2.2 (by simpa [setL] using h)
        exact ⟨b, d, by simpa [updV] using h1, h2⟩⟩
    · skip
      clear hp
      go_simp
      with_reducible refine hK9 _ ?_
      exact ⟨hs.1, fun h => by
        obtain ⟨b, d, h1, h2, h3⟩ := hs.2.1 (by simpa [setL] using h)
        exact ⟨b, d, by simpa [updV] using h1, h2, h3⟩, fun h => by
        obtain ⟨b, d, h1, h2⟩ := hs.2.2.1 (by simpa [setL] using h)
        exact ⟨b, d, by simpa [updV] using h1, h2⟩, fun h => by
        obtain ⟨b, d, h1, h2⟩ := hs.2.2.2 (by simpa [setL] using h)
        exact ⟨b, d, by simpa [updV] using h1, h2⟩⟩
    · clear hp
      go_simp
      refine (HRR.out a2 d2 w9 (F4.out.below hs.1)).mono ?_
      rintro e9 w8 ⟨b', d', rfl, hf8, hb8⟩
      with_reducible refine hK9 _ _ ?_
      exact ⟨hs.1.trans (hb8.mono hs.1.size), fun h => by
        obtain ⟨b, d, h1, h2, h3⟩ := hs.2.1 (by simpa [setL] using h)
        exact ⟨b, d, by simpa [updV] using h1, h2, h3.below hb8⟩, fun h => by
        obtain ⟨b, d, h1, h2⟩ := hs.2.2.1 (by simpa [setL] using h)
        exact ⟨b, d, by simpa [updV] using h1, h2.below hb8⟩, fun _ => ⟨b', d', by simp [updV], hf8⟩⟩
    · have h3 : L 3 = true := allL_mem hp 3 (by decide +kernel)
      have h6 : L 6 = true := allL_mem hp 6 (by decide +kernel)
      obtain ⟨b, d, hx3, hf3⟩ := hs.2.2.1 h3
      obtain ⟨b', d', hx6, hf6⟩ := hs.2.2.2 h6
      clear hp
      rw [hx3, hx6] at hK9 ⊢
      go_simp
      refine (HIS.out b d b' d' w9 hf3 hf6).mono ?_
      rintro e9 w8 ⟨rfl, hb8⟩
      with_reducible refine hK9 _ ?_
      exact ⟨hs.1.trans (hb8.mono hs.1.size), fun h => by
        obtain ⟨b, d, h1, h2, h3⟩ := hs.2.1 (by simpa [setL] using h)
        exact ⟨b, d, by simpa [updV] using h1, h2, h3.below hb8⟩, fun h => by
        obtain ⟨b, d, h1, h2⟩ := hs.2.2.1 (by simpa [setL] using h)
        exact ⟨b, d, by simpa [updV] using h1, h2.below hb8⟩, fun h => by
        obtain ⟨b, d, h1, h2⟩ := hs.2.2.2 (by simpa [setL] using h)
        exact ⟨b, d, by simpa [updV] using h1, h2.below hb8⟩⟩
  intro L x w9 hS hL
  have hs : Below w4.heap.size w4 w9 ∧ (L 1 = true → ∃ b d, x 1 = .agg #[.string m2, .string t2, .slice b n2 d, .string b2, .int .i64 kk] ∧ (b = none → d = 0 ∧ FF = []) ∧ IsFlds w9 b d FF) ∧ (L 3 = true → ∃ b d, x 3 = .agg #[.string m2, .string t2, .slice b ng d, .string b2, .int .i64 K] ∧ IsFlds w9 b d gs) ∧ (L 6 = true → ∃ b d, x 6 = .agg #[.string m2, .string t2, .slice b ng d, .string b2, .int .i64 K] ∧ IsFlds w9 b d gs) := hS
  have hb9 := hs.1
  clear hS hL hs
  simp only [actMix, pickV, List.tail_cons, List.headD_cons, Act.put, List.setIfInBounds_toArray, List.set_cons_zero, List.set_cons_succ, List.replicate_succ, List.replicate_zero, List.drop_succ_cons, List.drop_zero, List.take_succ_cons, List.take_zero]
  have LL := Lib.hid (L4.out.trans (hb9.mono L4.out.size))
  clear hb9
  go_wp2_with fail
  go_ret
  exact ⟨rfl, LL.out⟩
end Go.Proofs.YtbbphklhnngjmaaGreatDoor

/- A slice of fields that is handed in. -/
namespace Go.Proofs.YtbbphklhnngjmaaGreatDoor
open Go.ChangeShapes Go.WideShapes Go.ChangeAt Go.RowKit

/-- A string's bytes. -/
def strL (v : Value) : List UInt8 := match v with
  | .string s => s.data.toList
  | _ => []
theorem strL_bs (s : ByteArray) : Value.string (bs (strL (.string s))) = .string s := by
  cases s; rfl
theorem flds_open {H : Type} {enc : TypeId × Value → H} {P : Program} {t e u : TypeId} {W : World} {base : Nat} {held : Bool} (ht : P.underlying t = some (.slice e)) (hu : (P.underlying e).map fieldsOf = some [(u, 0), (u, 1)]) (hs : P.underlying u = some .string) (hc : P.cellsOf u = 1) (ce : P.cellsOf e = 2)
    {r : Reach} {b0 : Nat} {v : Value} {d : DataW H} {ps : List MemPlace} (hval : Value.okWide P W r b0 t v) (hd : DataW.Trod enc P W base (fun _ => true) held t v d ps) :
    ∃ a c fs, v = .slice a fs.length c ∧ IsFlds W a c fs ∧ fs.length ≤ maxLen := by
  obtain ⟨a, l, c, rfl⟩ := okWide_slice ht hval
  obtain ⟨fuel, hf⟩ := hd
  obtain ⟨fa, hfa, hm⟩ := fieldsOf_struct hu (List.cons_ne_nil _ _)
  obtain ⟨fl, hfl⟩ : ∃ fl, fl = fa.toList := ⟨_, rfl⟩
  rw [← hfl] at hm
  have hl2 : fl.length = 2 := by have := congrArg List.length hm; simpa using this
  match fl, hl2 with
  | [f0, f1], _ =>
    simp only [List.map_cons, List.map_nil, List.cons.injEq, Prod.mk.injEq, and_true] at hm
    obtain ⟨⟨t0, o0⟩, t1, o1⟩ := hm
    have hfa2 : fa = #[f0, f1] := by rw [← Array.toArray_toList (xs := fa), ← hfl]
    rw [hfa2] at hfa
    rcases Go.Deep.open_slice_pairs ht hfa ce o0 o1 (by rw [t0]; exact hc) (by rw [t1]; exact hc) hf with ⟨hcs, _⟩ | ⟨a', l', c', m, n, V0, V1, D0, D1, P0, P1, hcs, _, hl, hmx, hme, _, hcell⟩
    · simp [Value.cells] at hcs
      obtain ⟨rfl, rfl, rfl⟩ := hcs
      exact ⟨none, 0, [], rfl, .inl rfl, by simp⟩
    · simp [Value.cells] at hcs
      obtain ⟨rfl, h1, h2⟩ := hcs
      subst h1 h2
      simp only [if_true] at hme
      subst hme
      obtain ⟨fs, hfs⟩ : ∃ fs : List Fld, fs = (List.range l).map fun i => (strL (V0 i), strL (V1 i)) := ⟨_, rfl⟩
      have hlen : fs.length = l := by rw [hfs]; simp
      refine ⟨some a', m, fs, by rw [hlen], ?_, by rw [hlen]; omega⟩
      by_cases h0 : l = 0
      · left; rw [hfs, h0]; rfl
      · right
        have c0 := (hcell 0 (by omega)).1
        have hs0 := World.cell?_spot c0
        have ha0 : a'.add (0 * 2) = a' := by simp [Addr.add]
        rw [ha0] at hs0 c0
        obtain ⟨bk, o, sp⟩ := a'
        simp only at hs0
        subst hs0
        refine ⟨bk, o, rfl, World.block_lt_of_cell? W _ c0, by rw [hlen]; exact hl, fun j f hj => ?_⟩
        have hjl : j < l := by
          rcases Nat.lt_or_ge j l with h | h
          · exact h
          · rw [List.getElem?_eq_none (by omega)] at hj; cases hj
        obtain ⟨g0, g1, g2, g3⟩ := hcell j (by omega)
        rw [t0] at g2
        rw [t1] at g3
        obtain ⟨s0, e0, _, _⟩ := DataW.trod_string hs g2
        obtain ⟨s1, e1, _, _⟩ := DataW.trod_string hs g3
        simp only [List.cons.injEq, and_true] at e0 e1
        rw [hfs] at hj
        simp only [List.getElem?_map, List.getElem?_range hjl, Option.map_some, Option.some.injEq] at hj
        subst hj
        rw [Addr.add_mid] at g0 g1
        rw [e0] at g0
        rw [e1] at g1
        refine ⟨?_, ?_⟩
        · simp only [e0]
          rw [strL_bs]; exact g0
        · simp only [e1]
          rw [strL_bs, Nat.add_assoc]; exact g1
end Go.Proofs.YtbbphklhnngjmaaGreatDoor

/- A message that is handed in by value: strings, numbers, a slice of fields. -/
namespace Go.Proofs.YtbbphklhnngjmaaGreatDoor
open Go.ChangeShapes Go.WideShapes Go.ChangeAt Go.RowKit

/-- A slice of fields, out of its cell. -/
theorem flds_cell {H : Type} {enc : TypeId × Value → H} {P : Program} {t e u : TypeId} {W : World} {base : Nat} {held : Bool} (ht : P.underlying t = some (.slice e)) (hu : (P.underlying e).map fieldsOf = some [(u, 0), (u, 1)]) (hs : P.underlying u = some .string) (hc : P.cellsOf u = 1) (ce : P.cellsOf e = 2)
    {fuel : Nat} {cl : List Value} {x : DataW H × List MemPlace} (hf : DataW.trod enc P W base (fun _ => true) held fuel t cl = some x) :
    ∃ a c fs, cl = [.slice a fs.length c] ∧ IsFlds W a c fs ∧ fs.length ≤ maxLen := by
  obtain ⟨fa, hfa, hm⟩ := fieldsOf_struct hu (List.cons_ne_nil _ _)
  obtain ⟨fl, hfl⟩ : ∃ fl, fl = fa.toList := ⟨_, rfl⟩
  rw [← hfl] at hm
  have hl2 : fl.length = 2 := by have := congrArg List.length hm; simpa using this
  match fl, hl2 with
  | [f0, f1], _ =>
    simp only [List.map_cons, List.map_nil, List.cons.injEq, Prod.mk.injEq, and_true] at hm
    obtain ⟨⟨t0, o0⟩, t1, o1⟩ := hm
    have hfa2 : fa = #[f0, f1] := by rw [← Array.toArray_toList (xs := fa), ← hfl]
    rw [hfa2] at hfa
    rcases Go.Deep.open_slice_pairs ht hfa ce o0 o1 (by rw [t0]; exact hc) (by rw [t1]; exact hc) hf with ⟨hcs, _⟩ | ⟨a', l', c', m, n, V0, V1, D0, D1, P0, P1, hcs, _, hl, hmx, hme, _, hcell⟩
    · exact ⟨none, 0, [], hcs, .inl rfl, by simp⟩
    · simp only [if_true] at hme
      subst hme
      obtain ⟨fs, hfs⟩ : ∃ fs : List Fld, fs = (List.range l').map fun i => (strL (V0 i), strL (V1 i)) := ⟨_, rfl⟩
      have hlen : fs.length = l' := by rw [hfs]; simp
      refine ⟨some a', m, fs, by rw [hlen]; exact hcs, ?_, by rw [hlen]; omega⟩
      by_cases h0 : l' = 0
      · left; rw [hfs, h0]; rfl
      · right
        have c0 := (hcell 0 (by omega)).1
        have hs0 := World.cell?_spot c0
        have ha0 : a'.add (0 * 2) = a' := by simp [Addr.add]
        rw [ha0] at hs0 c0
        obtain ⟨bk, o, sp⟩ := a'
        simp only at hs0
        subst hs0
        refine ⟨bk, o, rfl, World.block_lt_of_cell? W _ c0, by rw [hlen]; exact hl, fun j f hj => ?_⟩
        have hjl : j < l' := by
          rcases Nat.lt_or_ge j l' with h | h
          · exact h
          · rw [List.getElem?_eq_none (by omega)] at hj; cases hj
        obtain ⟨g0, g1, g2, g3⟩ := hcell j (by omega)
        rw [t0] at g2
        rw [t1] at g3
        obtain ⟨s0, e0, _, _⟩ := DataW.trod_string hs g2
        obtain ⟨s1, e1, _, _⟩ := DataW.trod_string hs g3
        simp only [List.cons.injEq, and_true] at e0 e1
        rw [hfs] at hj
        simp only [List.getElem?_map, List.getElem?_range hjl, Option.map_some, Option.some.injEq] at hj
        subst hj
        rw [Addr.add_mid] at g0 g1
        rw [e0] at g0
        rw [e1] at g1
        refine ⟨?_, ?_⟩
        · simp only [e0]
          rw [strL_bs]; exact g0
        · simp only [e1]
          rw [strL_bs, Nat.add_assoc]; exact g1
theorem refUm : (Tryz.prog.underlying 53).map fieldsOf = some [(9, 0), (9, 1)] := by kernel_rfl
theorem refCm : Tryz.prog.cellsOf 53 = 2 := by kernel_rfl
theorem cellsSm : Tryz.prog.cellsOf 9 = 1 := by kernel_rfl
theorem cellsIm : Tryz.prog.cellsOf 3 = 1 := by kernel_rfl
theorem cellsFm : Tryz.prog.cellsOf 22 = 1 := by kernel_rfl
theorem msgU : (Tryz.prog.underlying 39).map fieldsOf = some [(9, 0), (9, 1), (22, 2), (9, 3), (3, 4)] := by kernel_rfl
theorem msgC : Tryz.prog.cellsOf 39 = 5 := by kernel_rfl
set_option maxRecDepth 100000 in
theorem msg_open {H : Type} {enc : TypeId × Value → H} {W : World} {base : Nat} {held : Bool} {r : Reach} {b0 : Nat} {v : Value} {d : DataW H} {ps : List MemPlace} (hval : Value.okWide Tryz.prog W r b0 39 v) (hd : DataW.Trod enc Tryz.prog W base (fun _ => true) held 39 v d ps) :
    ∃ (m t b : ByteArray) (k : Int) (a : Option Addr) (c : Nat) (fs : List Fld), v = .agg #[.string m, .string t, .slice a fs.length c, .string b, .int .i64 k] ∧ IsFlds W a c fs ∧ fs.length ≤ maxLen := by
  obtain ⟨cs, xs, q, rfl, hc, rfl, rfl, hx, hf⟩ := rec_open msgU (List.cons_ne_nil _ _) hval hd
  rw [msgC] at hc
  have f0 := hf 0 _ _ rfl
  have f1 := hf 1 _ _ rfl
  have f2 := hf 2 _ _ rfl
  have f3 := hf 3 _ _ rfl
  have f4 := hf 4 _ _ rfl
  match xs, hx with
  | [y0, y1, y2, y3, y4], _ =>
    rw [cellsSm] at f0 f1 f3
    rw [cellsIm] at f4
    rw [cellsFm] at f2
    obtain ⟨m, e0, _, _⟩ := DataW.trod_string Tryz.underlying9 f0
    obtain ⟨t, e1, _, _⟩ := DataW.trod_string Tryz.underlying9 f1
    obtain ⟨a, c, fs, e2, hfs, hlen⟩ := flds_cell Tryz.underlying22 refUm Tryz.underlying9 cellsSm refCm f2
    obtain ⟨b, e3, _, _⟩ := DataW.trod_string Tryz.underlying9 f3
    obtain ⟨k, e4, _, _⟩ := DataW.trod_int Tryz.underlying3 f4
    have g0 := one_cellR e0
    have g1 := one_cellR e1
    have g2 := one_cellR e2
    have g3 := one_cellR e3
    have g4 := one_cellR e4
    obtain ⟨l, hl⟩ : ∃ l, l = cs.toList := ⟨_, rfl⟩
    rw [← hl] at hc g0 g1 g2 g3 g4
    match l, hc with
    | [z0, z1, z2, z3, z4], _ =>
      obtain rfl : z0 = _ := Option.some.inj g0
      obtain rfl : z1 = _ := Option.some.inj g1
      obtain rfl : z2 = _ := Option.some.inj g2
      obtain rfl : z3 = _ := Option.some.inj g3
      obtain rfl : z4 = _ := Option.some.inj g4
      refine ⟨m, t, b, k, a, c, fs, ?_, hfs, hlen⟩
      rw [← Array.toArray_toList (xs := cs), ← hl]
end Go.Proofs.YtbbphklhnngjmaaGreatDoor

