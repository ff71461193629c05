/- Packed: RsH, RhA, PrN, PlB, LawFldP, PbL, PbM. -/
import Derived.StillTailTactics
import Derived.Test.YtbbphklhnngjmaaGreatDoorS05
import Derived.Test.YtbbphklhnngjmaaGreatDoorS07
import Derived.Test.YtbbphklhnngjmaaGreatDoorS08
import Derived.Test.YtbbphklhnngjmaaGreatDoorS10
import Derived.Test.YtbbphklhnngjmaaGreatDoorS11
import Derived.Test.YtbbphklhnngjmaaGreatDoorS12
import Derived.Test.YtbbphklhnngjmaaGreatDoorS15
import Derived.Test.YtbbphklhnngjmaaGreatDoorS18
import Derived.Test.YtbbphklhnngjmaaGreatDoorS19
/- response: Message.Text; the reference's Text; the law's Own (written by genrsh.py). -/
namespace Go.Proofs.YtbbphklhnngjmaaGreatDoor
open Go.RowKit

set_option maxRecDepth 100000 in
set_option maxHeartbeats 4000000 in
theorem mtext11 (cd : Int) (r bd : List UInt8) (K : Int) (hbd : bd.length ≤ 1000000) (hm : r.length ≤ 1000000) (a : Option Addr) (c : Nat) (fs : List Fld) (hfl : fs.length ≤ 1000000) (hok : ∀ f ∈ fs, FldOk f) (hsum : (textL fs).length ≤ 1000000000) (w : World) (hp : Pow w) (hf : IsFlds w a c fs) :
    Calls Tryz.prog 11 #[.agg #[.int .i64 cd, .string (bs r), .slice a fs.length c, .string (bs bd), .int .i64 K]] w fun x w' => x = .returned (.string (bs (stLine (cd, r) ++ textL fs ++ [13, 10] ++ bd))) ∧ Below w.heap.size w w' := by
  have hrl : (stLine (cd, r)).length ≤ 3000000 := by have := prtI_short (codeT cd); simp [stLine, pfxL]; omega
  have A1 := fun W => add_str (stLine (cd, r)) (textL fs) (by omega) W
  have A2 := fun W => add_str (stLine (cd, r) ++ textL fs) [13, 10] (by simp; omega) W
  have A3 := fun W => add_str (stLine (cd, r) ++ textL fs ++ [13, 10]) bd (by simp; omega) W
  have e13 : bs [13, 10] = ⟨#[13, 10]⟩ := rfl
  rw [e13] at A2
  have HLN := Lib.hid (fun W h => sline15 cd r (by omega) W h)
  have HP := Lib.hid hp
  have HTX := Lib.hid (fun W h => text49 a c fs (by omega) hok (by omega) W h)
  have HF := Lib.hid hf
  generalize hx4 : bs (stLine (cd, r) ++ textL fs ++ [13, 10] ++ bd) = x4 at *
  generalize hxb : bs bd = bb at *
  have R0 := Row.new w 33 #[.int .i64 cd, .string (bs r), .slice a fs.length c, .string bb, .int .i64 K]
  have L0 := below_alloc w (.cells #[.int .i64 cd, .string (bs r), .slice a fs.length c, .string bb, .int .i64 K] 33)
  generalize hx3 : bs (stLine (cd, r) ++ textL fs ++ [13, 10]) = x3 at *
  generalize hx2 : bs (stLine (cd, r) ++ textL fs) = x2 at *
  generalize hx1 : bs (stLine (cd, r)) = x1 at *
  generalize hx0 : bs (textL fs) = x0 at *
  generalize hmm : bs r = rr at *
  clear hx4 hxb hbd hx3 hx2 hx1 hx0 hmm e13 hrl hf hok hm hsum hp
  go_enter Tryz.func11, Tryz.ntmps11
  go_upto_region 1 with fail
  obtain ⟨bM, hbM⟩ : ∃ bM, bM = w.heap.size := ⟨_, rfl⟩
  rw [← hbM] at R0 ⊢
  generalize w.alloc (.cells #[.int .i64 cd, .string rr, .slice a fs.length c, .string bb, .int .i64 K] 33) = w1 at *
  have HF1 := Lib.hid (HF.out.below L0)
  have HP1 := Lib.hid (HP.out.below L0)
  have HL1 := Lib.hid L0
  have r0 : w1.cell? ⟨bM, 0, none⟩ = some (.int .i64 cd) := R0.cell 0
  have r1 : w1.cell? ⟨bM, 1, none⟩ = some (.string rr) := R0.cell 1
  have r2 : w1.cell? ⟨bM, 2, none⟩ = some (.slice a fs.length c) := R0.cell 2
  have r3 : w1.cell? ⟨bM, 3, none⟩ = some (.string bb) := R0.cell 3
  have hlt := R0.lt
  obtain ⟨n, hn⟩ : ∃ n, n = fs.length := ⟨_, rfl⟩
  rw [← hn] at r2 HTX ⊢
  clear L0 R0 HF hbM hn
  refine region_mixt 11 [some (.pointer (some ⟨bM, 0, none⟩)), some (.agg #[.int .i64 cd, .string rr]), some (.string x1), some (.pointer (some ⟨bM, 2, none⟩)), some (.slice a n c), some (.string x0), some (.string x2), some (.string x3), some (.pointer (some ⟨bM, 3, none⟩)), some (.string bb), some (.string x4)]
    [[false, false, false, false, false, false, false, false, false, false, false], [true, false, false, false, false, false, false, false, false, false, false], [false, true, false, false, false, false, false, false, false, false, false], [false, false, false, false, false, false, false, false, false, false, false], [false, false, false, true, false, false, false, false, false, false, false], [false, false, true, false, true, false, false, false, false, false, false], [false, false, true, false, false, true, false, false, false, false, false], [false, false, false, false, false, false, true, false, false, false, false], [false, false, false, false, false, false, false, false, false, false, false], [false, false, false, false, false, false, false, false, true, false, false], [false, false, false, false, false, false, false, true, false, true, false]]
    (fun L x w9 => Below w1.heap.size w1 w9)
    (by kernel_rfl) (by kernel_rfl) (by kernel_rfl) (by kernel_rfl) (by kernel_rfl) (by decide) ?_ ?_ ?_
  · intro _
    exact ⟨rfl, rfl, rfl, Nat.le_refl _, fun _ _ => rfl⟩
  · simp only [List.take_succ_cons, List.take_zero]
    refine ⟨?_, ?_, ?_, ?_, ?_, ?_, ?_, ?_, ?_, ?_, ?_, trivial⟩
    all_goals
      intro L x w9 hS hl hp K9 hK9
      have hs : Below w1.heap.size w1 w9 := hS
      clear hS hp hl
      replace hK9 := hK9.out
      simp only [actMix, pickV, List.tail_cons, List.headD_cons, Act.put, List.setIfInBounds_toArray, List.set_cons_zero, List.set_cons_succ] at hK9 ⊢
    · go_simp
      with_reducible refine hK9 _ ?_
      exact hs
    · have r8 : w9.cell? ⟨bM, 0, none⟩ = some (.int .i64 cd) := by rw [(bcell hs).1 _ _ hlt]; exact r0
      have r9 : w9.cell? ⟨bM, 1, none⟩ = some (.string rr) := by rw [(bcell hs).1 _ _ hlt]; exact r1
      go_simp
      with_reducible refine hK9 _ ?_
      exact hs
    · go_simp
      refine (HLN.out w9 (HP1.out.below hs)).mono ?_
      rintro e9 w8 ⟨rfl, hb8⟩
      with_reducible refine hK9 _ ?_
      exact hs.trans (hb8.mono hs.size)
    · go_simp
      with_reducible refine hK9 _ ?_
      exact hs
    · have r9 : w9.cell? ⟨bM, 2, none⟩ = some (.slice a n c) := by rw [(bcell hs).1 _ _ hlt]; exact r2
      go_simp
      with_reducible refine hK9 _ ?_
      exact hs
    · go_simp
      refine (HTX.out w9 (HF1.out.below hs)).mono ?_
      rintro e9 w8 ⟨rfl, hb8⟩
      with_reducible refine hK9 _ ?_
      exact hs.trans (hb8.mono hs.size)
    · go_simp
      with_reducible refine hK9 _ ?_
      exact hs
    · go_simp
      with_reducible refine hK9 _ ?_
      exact hs
    · go_simp
      with_reducible refine hK9 _ ?_
      exact hs
    · have r9 : w9.cell? ⟨bM, 3, none⟩ = some (.string bb) := by rw [(bcell hs).1 _ _ hlt]; exact r3
      go_simp
      with_reducible refine hK9 _ ?_
      exact hs
    · go_simp
      with_reducible refine hK9 _ ?_
      exact hs
  intro L x w9 hS hL
  have hs : Below w1.heap.size w1 w9 := hS
  clear hS hL
  simp only [actMix, pickV, List.tail_cons, List.headD_cons, Act.put, List.setIfInBounds_toArray, List.set_cons_zero, List.set_cons_succ, List.replicate_succ, List.replicate_zero, List.drop_succ_cons, List.drop_zero, List.take_succ_cons, List.take_zero]
  have HB9 := Lib.hid (HL1.out.trans (hs.mono HL1.out.size))
  clear hs
  go_wp2_with fail
  go_ret
  exact ⟨rfl, HB9.out⟩
set_option maxRecDepth 100000 in
set_option maxHeartbeats 4000000 in
theorem rtext12 (cd : Int) (r bd : List UInt8) (K : Int) (hbd : bd.length ≤ 1000000) (hm : r.length ≤ 1000000) (a : Option Addr) (c : Nat) (fs : List Fld) (hfl : fs.length ≤ 1000000) (hok : ∀ f ∈ fs, FldOk f) (hsum : (textL fs).length ≤ 1000000000) (w : World) (hp : Pow w) (hf : IsFlds w a c fs) :
    Calls Tryz.prog 12 #[.agg #[.int .i64 cd, .string (bs r), .slice a fs.length c, .string (bs bd), .int .i64 K]] w fun x w' => x = .returned (.string (bs (stLine (cd, r) ++ textL fs ++ [13, 10] ++ bd))) ∧ Below w.heap.size w w' := by
  have hrl : (stLine (cd, r)).length ≤ 3000000 := by have := prtI_short (codeT cd); simp [stLine, pfxL]; omega
  have A1 := fun W => add_str (stLine (cd, r)) (textL fs) (by omega) W
  have A2 := fun W => add_str (stLine (cd, r) ++ textL fs) [13, 10] (by simp; omega) W
  have A3 := fun W => add_str (stLine (cd, r) ++ textL fs ++ [13, 10]) bd (by simp; omega) W
  have e13 : bs [13, 10] = ⟨#[13, 10]⟩ := rfl
  rw [e13] at A2
  have HLN := Lib.hid (fun W h => rsline16 cd r (by omega) W h)
  have HP := Lib.hid hp
  have HTX := Lib.hid (fun W h => rtext50 a c fs (by omega) hok (by omega) W h)
  have HF := Lib.hid hf
  generalize hx4 : bs (stLine (cd, r) ++ textL fs ++ [13, 10] ++ bd) = x4 at *
  generalize hxb : bs bd = bb at *
  have R0 := Row.new w 24 #[.int .i64 cd, .string (bs r), .slice a fs.length c, .string bb, .int .i64 K]
  have L0 := below_alloc w (.cells #[.int .i64 cd, .string (bs r), .slice a fs.length c, .string bb, .int .i64 K] 24)
  generalize hx3 : bs (stLine (cd, r) ++ textL fs ++ [13, 10]) = x3 at *
  generalize hx2 : bs (stLine (cd, r) ++ textL fs) = x2 at *
  generalize hx1 : bs (stLine (cd, r)) = x1 at *
  generalize hx0 : bs (textL fs) = x0 at *
  generalize hmm : bs r = rr at *
  clear hx4 hxb hbd hx3 hx2 hx1 hx0 hmm e13 hrl hf hok hm hsum hp
  go_enter Tryz.func12, Tryz.ntmps12
  go_upto_region 1 with fail
  obtain ⟨bM, hbM⟩ : ∃ bM, bM = w.heap.size := ⟨_, rfl⟩
  rw [← hbM] at R0 ⊢
  generalize w.alloc (.cells #[.int .i64 cd, .string rr, .slice a fs.length c, .string bb, .int .i64 K] 24) = w1 at *
  have HF1 := Lib.hid (HF.out.below L0)
  have HP1 := Lib.hid (HP.out.below L0)
  have HL1 := Lib.hid L0
  have r0 : w1.cell? ⟨bM, 0, none⟩ = some (.int .i64 cd) := R0.cell 0
  have r1 : w1.cell? ⟨bM, 1, none⟩ = some (.string rr) := R0.cell 1
  have r2 : w1.cell? ⟨bM, 2, none⟩ = some (.slice a fs.length c) := R0.cell 2
  have r3 : w1.cell? ⟨bM, 3, none⟩ = some (.string bb) := R0.cell 3
  have hlt := R0.lt
  obtain ⟨n, hn⟩ : ∃ n, n = fs.length := ⟨_, rfl⟩
  rw [← hn] at r2 HTX ⊢
  clear L0 R0 HF hbM hn
  refine region_mixt 14 [some (.pointer (some ⟨bM, 0, none⟩)), some (.int .i64 cd), some (.pointer (some ⟨bM, 1, none⟩)), some (.string rr), some (.agg #[.int .i64 cd, .string rr]), some (.string x1), some (.pointer (some ⟨bM, 2, none⟩)), some (.slice a n c), some (.string x0), some (.string x2), some (.string x3), some (.pointer (some ⟨bM, 3, none⟩)), some (.string bb), some (.string x4)]
    [[false, false, false, false, false, false, false, false, false, false, false, false, false, false], [true, false, false, false, false, false, false, false, false, false, false, false, false, false], [false, false, false, false, false, false, false, false, false, false, false, false, false, false], [false, false, true, false, false, false, false, false, false, false, false, false, false, false], [false, true, false, true, false, false, false, false, false, false, false, false, false, false], [false, false, false, false, true, false, false, false, false, false, false, false, false, false], [false, false, false, false, false, false, false, false, false, false, false, false, false, false], [false, false, false, false, false, false, true, false, false, false, false, false, false, false], [false, false, false, false, false, true, false, true, false, false, false, false, false, false], [false, false, false, false, false, true, false, false, true, false, false, false, false, false], [false, false, false, false, false, false, false, false, false, true, false, false, false, false], [false, false, false, false, false, false, false, false, false, false, false, false, false, false], [false, false, false, false, false, false, false, false, false, false, false, true, false, false], [false, false, false, false, false, false, false, false, false, false, true, false, true, false]]
    (fun L x w9 => Below w1.heap.size w1 w9)
    (by kernel_rfl) (by kernel_rfl) (by kernel_rfl) (by kernel_rfl) (by kernel_rfl) (by decide) ?_ ?_ ?_
  · intro _
    exact ⟨rfl, rfl, rfl, Nat.le_refl _, fun _ _ => rfl⟩
  · simp only [List.take_succ_cons, List.take_zero]
    refine ⟨?_, ?_, ?_, ?_, ?_, ?_, ?_, ?_, ?_, ?_, ?_, ?_, ?_, ?_, trivial⟩
    all_goals
      intro L x w9 hS hl hp K9 hK9
      have hs : Below w1.heap.size w1 w9 := hS
      clear hS hp hl
      replace hK9 := hK9.out
      simp only [actMix, pickV, List.tail_cons, List.headD_cons, Act.put, List.setIfInBounds_toArray, List.set_cons_zero, List.set_cons_succ] at hK9 ⊢
    · go_simp
      with_reducible refine hK9 _ ?_
      exact hs
    · have r9 : w9.cell? ⟨bM, 0, none⟩ = some (.int .i64 cd) := by rw [(bcell hs).1 _ _ hlt]; exact r0
      go_simp
      with_reducible refine hK9 _ ?_
      exact hs
    · go_simp
      with_reducible refine hK9 _ ?_
      exact hs
    · have r9 : w9.cell? ⟨bM, 1, none⟩ = some (.string rr) := by rw [(bcell hs).1 _ _ hlt]; exact r1
      go_simp
      with_reducible refine hK9 _ ?_
      exact hs
    · go_simp
      with_reducible refine hK9 _ ?_
      exact hs
    · go_simp
      refine (HLN.out w9 (HP1.out.below hs)).mono ?_
      rintro e9 w8 ⟨rfl, hb8⟩
      with_reducible refine hK9 _ ?_
      exact hs.trans (hb8.mono hs.size)
    · go_simp
      with_reducible refine hK9 _ ?_
      exact hs
    · have r9 : w9.cell? ⟨bM, 2, none⟩ = some (.slice a n c) := by rw [(bcell hs).1 _ _ hlt]; exact r2
      go_simp
      with_reducible refine hK9 _ ?_
      exact hs
    · go_simp
      refine (HTX.out w9 (HF1.out.below hs)).mono ?_
      rintro e9 w8 ⟨rfl, hb8⟩
      with_reducible refine hK9 _ ?_
      exact hs.trans (hb8.mono hs.size)
    · go_simp
      with_reducible refine hK9 _ ?_
      exact hs
    · go_simp
      with_reducible refine hK9 _ ?_
      exact hs
    · go_simp
      with_reducible refine hK9 _ ?_
      exact hs
    · have r9 : w9.cell? ⟨bM, 3, none⟩ = some (.string bb) := by rw [(bcell hs).1 _ _ hlt]; exact r3
      go_simp
      with_reducible refine hK9 _ ?_
      exact hs
    · go_simp
      with_reducible refine hK9 _ ?_
      exact hs
  intro L x w9 hS hL
  have hs : Below w1.heap.size w1 w9 := hS
  clear hS hL
  simp only [actMix, pickV, List.tail_cons, List.headD_cons, Act.put, List.setIfInBounds_toArray, List.set_cons_zero, List.set_cons_succ, List.replicate_succ, List.replicate_zero, List.drop_succ_cons, List.drop_zero, List.take_succ_cons, List.take_zero]
  have HB9 := Lib.hid (HL1.out.trans (hs.mono HL1.out.size))
  clear hs
  go_wp2_with fail
  go_ret
  exact ⟨rfl, HB9.out⟩
set_option maxRecDepth 100000 in
set_option maxHeartbeats 8000000 in
theorem ownR10 (kc : Int) (tt bb : ByteArray) (kk : Int) (a : Option Addr) (c : Nat) (fs : List Fld) (hfl : fs.length ≤ 1000000) (gs : List Fld) (hgs : gs = fs) (w : World) (hf : IsFlds w a c fs) :
    Calls Tryz.prog 10 #[.agg #[.int .i64 kc, .string tt, .slice a fs.length c, .string bb, .int .i64 kk]] w fun e w' => ∃ b d, e = .returned (.agg #[.int .i64 kc, .string tt, .slice b gs.length d, .string bb, .int .i64 kk]) ∧ (b = none → d = 0 ∧ gs = []) ∧ IsFlds w' b d (gs) ∧ Below w.heap.size w w' := by
  have HM : Hid (∀ W, IsFlds W a c fs → Calls Tryz.prog 36 #[.slice a fs.length c] W fun e w' => ∃ u, e = .returned u ∧ w'.ownsRow W.heap.size 62 2 u gs.length (cellsF gs) ∧ Below W.heap.size W w') := fun W h => by rw [hgs]; exact own40 a c fs hfl W h
  clear hfl hgs
  obtain ⟨FF, hFF⟩ : ∃ X, X = gs := ⟨_, rfl⟩
  obtain ⟨m, hm⟩ : ∃ m, m = FF.length := ⟨_, rfl⟩
  rw [← hFF] at HM ⊢
  obtain ⟨n, hn⟩ : ∃ n, n = fs.length := ⟨_, rfl⟩
  rw [← hn] at HM ⊢
  have HMM := Lib.hid hm
  have R0 := (Row.new w 24 #[.int .i64 kc, .string tt, .slice a n c, .string bb, .int .i64 kk]).alloc (.cells #[.int .i64 0, .string ⟨#[]⟩, .slice none 0 0, .string ⟨#[]⟩, .int .i64 0] 33)
  have R1 := Row.new (w.alloc (.cells #[.int .i64 kc, .string tt, .slice a n c, .string bb, .int .i64 kk] 24)) 33 #[.int .i64 0, .string ⟨#[]⟩, .slice none 0 0, .string ⟨#[]⟩, .int .i64 0]
  rw [show (w.alloc (.cells #[.int .i64 kc, .string tt, .slice a n c, .string bb, .int .i64 kk] 24)).heap.size = w.heap.size + 1 by simp] at R1
  have L1 := (below_alloc w (.cells #[.int .i64 kc, .string tt, .slice a n c, .string bb, .int .i64 kk] 24)).alloc (by simp) (.cells #[.int .i64 0, .string ⟨#[]⟩, .slice none 0 0, .string ⟨#[]⟩, .int .i64 0] 33)
  have HF := Lib.hid (hf.below L1)
  clear hf hFF hn
  go_enter Tryz.func10, Tryz.ntmps10
  go_upto_region 1 with fail
  obtain ⟨bM, hbM⟩ : ∃ bM, bM = w.heap.size := ⟨_, rfl⟩
  obtain ⟨bR, hbR⟩ : ∃ bR, bR = w.heap.size + 1 := ⟨_, rfl⟩
  have hbR0 : w.heap.size ≤ bR := by omega
  rw [← hbM] at R0
  rw [← hbR] at R1 ⊢
  rw [← hbM]
  generalize World.alloc (World.alloc w _) _ = w1 at *
  have HL1 := Lib.hid L1
  have r0 : w1.cell? ⟨bM, 0, none⟩ = some (.int .i64 kc) := R0.cell 0
  have r1 : w1.cell? ⟨bM, 1, none⟩ = some (.string tt) := R0.cell 1
  have r2 : w1.cell? ⟨bM, 2, none⟩ = some (.slice a n c) := R0.cell 2
  have r3 : w1.cell? ⟨bM, 3, none⟩ = some (.string bb) := R0.cell 3
  have r4 : w1.cell? ⟨bM, 4, none⟩ = some (.int .i64 kk) := R0.cell 4
  have hlt := R0.lt
  have RR := Lib.hid R1
  clear L1 R0 R1 hbM hbR hm
  rw [← HMM.out] at HM
  refine region_mixt 13 [some (.pointer (some ⟨bM, 0, none⟩)), some (.int .i64 kc), some (.pointer (some ⟨bM, 1, none⟩)), some (.string tt), some (.agg #[.int .i64 kc, .string tt]), some (.pointer (some ⟨bM, 2, none⟩)), some (.slice a n c), none, some (.pointer (some ⟨bM, 3, none⟩)), some (.string bb), some (.pointer (some ⟨bM, 4, none⟩)), some (.int .i64 kk), none]
    [[false, false, false, false, false, false, false, false, false, false, false, false, false], [true, false, false, false, false, false, false, false, false, false, false, false, false], [false, false, false, false, false, false, false, false, false, false, false, false, false], [false, false, true, false, false, false, false, false, false, false, false, false, false], [false, true, false, true, false, false, false, false, false, false, false, false, false], [false, false, false, false, false, false, false, false, false, false, false, false, false], [false, false, false, false, false, true, false, false, false, false, false, false, false], [false, false, false, false, false, false, true, false, false, false, false, false, false], [false, false, false, false, false, false, false, false, false, false, false, false, false], [false, false, false, false, false, false, false, false, true, false, false, false, false], [false, false, false, false, false, false, false, false, false, false, false, false, false], [false, false, false, false, false, false, false, false, false, false, true, false, false], [false, false, false, false, true, false, false, true, false, true, false, true, false]]
    (fun L x w9 => Below w1.heap.size w1 w9 ∧ (L 7 = true → ∃ b d, x 7 = .slice b m d ∧ (b = none → d = 0 ∧ FF = []) ∧ IsFlds w9 b d FF ∧ (∀ ad, b = some ad → w1.heap.size ≤ ad.block)) ∧ (L 12 = true → L 7 = true ∧ x 12 = .agg #[.int .i64 kc, .string tt, x 7, .string bb, .int .i64 kk]))
    (by kernel_rfl) (by kernel_rfl) (by kernel_rfl) (by kernel_rfl) (by kernel_rfl) (by decide) ?_ ?_ ?_
  · intro _
    exact ⟨⟨rfl, rfl, rfl, Nat.le_refl _, fun _ _ => rfl⟩, (fun h => by cases h), (fun h => by cases h)⟩
  · simp only [List.take_succ_cons, List.take_zero]
    refine ⟨?_, ?_, ?_, ?_, ?_, ?_, ?_, ?_, ?_, ?_, ?_, ?_, ?_, trivial⟩
    all_goals
      intro L x w9 hS hl hp K9 hK9
      have hs : Below w1.heap.size w1 w9 ∧ (L 7 = true → ∃ b d, x 7 = .slice b m d ∧ (b = none → d = 0 ∧ FF = []) ∧ IsFlds w9 b d FF ∧ (∀ ad, b = some ad → w1.heap.size ≤ ad.block)) ∧ (L 12 = true → L 7 = true ∧ x 12 = .agg #[.int .i64 kc, .string tt, x 7, .string bb, .int .i64 kk]) := hS
      clear hS
      replace hK9 := hK9.out
      simp only [actMix, pickV, List.tail_cons, List.headD_cons, Act.put, List.setIfInBounds_toArray, List.set_cons_zero, List.set_cons_succ] at hK9 ⊢
    · clear hp
      go_simp
      with_reducible refine hK9 _ ?_
      exact ⟨hs.1, fun h => by
        obtain ⟨b, d, h1, h2, h3, h4⟩ := hs.2.1 (by simpa [setL] using h)
        exact ⟨b, d, by simpa [updV] using h1, h2, h3, h4⟩, fun h => by
        obtain ⟨h1, h2⟩ := hs.2.2 (by simpa [setL] using h)
        exact ⟨by simpa [setL] using h1, by simpa [updV] using h2⟩⟩
    · have s0 : w9.cell? ⟨bM, 0, none⟩ = some (.int .i64 kc) := by rw [(bcell hs.1).1 _ _ hlt]; exact r0
      clear hp
      go_simp
      with_reducible refine hK9 _ ?_
      exact ⟨hs.1, fun h => by
        obtain ⟨b, d, h1, h2, h3, h4⟩ := hs.2.1 (by simpa [setL] using h)
        exact ⟨b, d, by simpa [updV] using h1, h2, h3, h4⟩, fun h => by
        obtain ⟨h1, h2⟩ := hs.2.2 (by simpa [setL] using h)
        exact ⟨by simpa [setL] using h1, by simpa [updV] using h2⟩⟩
    · clear hp
      go_simp
      with_reducible refine hK9 _ ?_
      exact ⟨hs.1, fun h => by
        obtain ⟨b, d, h1, h2, h3, h4⟩ := hs.2.1 (by simpa [setL] using h)
        exact ⟨b, d, by simpa [updV] using h1, h2, h3, h4⟩, fun h => by
        obtain ⟨h1, h2⟩ := hs.2.2 (by simpa [setL] using h)
        exact ⟨by simpa [setL] using h1, by simpa [updV] using h2⟩⟩
    · have s1 : w9.cell? ⟨bM, 1, none⟩ = some (.string tt) := by rw [(bcell hs.1).1 _ _ hlt]; exact r1
      clear hp
      go_simp
      with_reducible refine hK9 _ ?_
      exact ⟨hs.1, fun h => by
        obtain ⟨b, d, h1, h2, h3, h4⟩ := hs.2.1 (by simpa [setL] using h)
        exact ⟨b, d, by simpa [updV] using h1, h2, h3, h4⟩, fun h => by
        obtain ⟨h1, h2⟩ := hs.2.2 (by simpa [setL] using h)
        exact ⟨by simpa [setL] using h1, by simpa [updV] using h2⟩⟩
    · clear hp
      go_simp
      with_reducible refine hK9 _ ?_
      exact ⟨hs.1, fun h => by
        obtain ⟨b, d, h1, h2, h3, h4⟩ := hs.2.1 (by simpa [setL] using h)
        exact ⟨b, d, by simpa [updV] using h1, h2, h3, h4⟩, fun h => by
        obtain ⟨h1, h2⟩ := hs.2.2 (by simpa [setL] using h)
        exact ⟨by simpa [setL] using h1, by simpa [updV] using h2⟩⟩
    · clear hp
      go_simp
      with_reducible refine hK9 _ ?_
      exact ⟨hs.1, fun h => by
        obtain ⟨b, d, h1, h2, h3, h4⟩ := hs.2.1 (by simpa [setL] using h)
        exact ⟨b, d, by simpa [updV] using h1, h2, h3, h4⟩, fun h => by
        obtain ⟨h1, h2⟩ := hs.2.2 (by simpa [setL] using h)
        exact ⟨by simpa [setL] using h1, by simpa [updV] using h2⟩⟩
    · have s2 : w9.cell? ⟨bM, 2, none⟩ = some (.slice a n c) := by rw [(bcell hs.1).1 _ _ hlt]; exact r2
      clear hp
      go_simp
      with_reducible refine hK9 _ ?_
      exact ⟨hs.1, fun h => by
        obtain ⟨b, d, h1, h2, h3, h4⟩ := hs.2.1 (by simpa [setL] using h)
        exact ⟨b, d, by simpa [updV] using h1, h2, h3, h4⟩, fun h => by
        obtain ⟨h1, h2⟩ := hs.2.2 (by simpa [setL] using h)
        exact ⟨by simpa [setL] using h1, by simpa [updV] using h2⟩⟩
    · clear hp
      go_simp
      have h12 : L 12 = false := by
        cases h : L 12 with
        | false => rfl
        | true => have := (hs.2.2 h).1; rw [hl] at this; cases this
      refine (HM.out w9 (HF.out.below hs.1)).mono ?_
      rintro e9 w8 ⟨u, rfl, ho, hb8⟩
      rw [HMM.out] at ho
      obtain ⟨b, d, rfl, _, hbn, hf8, hnw⟩ := own_isFldsB ho
      rw [← HMM.out]
      with_reducible refine hK9 _ _ ?_
      exact ⟨hs.1.trans (hb8.mono hs.1.size), fun _ => ⟨b, d, by simp [updV, *], hbn, hf8, fun ad had => Nat.le_trans hs.1.size (hnw ad had)⟩, fun h => by simp [setL, h12] at h⟩
    · clear hp
      go_simp
      with_reducible refine hK9 _ ?_
      exact ⟨hs.1, fun h => by
        obtain ⟨b, d, h1, h2, h3, h4⟩ := hs.2.1 (by simpa [setL] using h)
        exact ⟨b, d, by simpa [updV] using h1, h2, h3, h4⟩, fun h => by
        obtain ⟨h1, h2⟩ := hs.2.2 (by simpa [setL] using h)
        exact ⟨by simpa [setL] using h1, by simpa [updV] using h2⟩⟩
    · have s3 : w9.cell? ⟨bM, 3, none⟩ = some (.string bb) := by rw [(bcell hs.1).1 _ _ hlt]; exact r3
      clear hp
      go_simp
      with_reducible refine hK9 _ ?_
      exact ⟨hs.1, fun h => by
        obtain ⟨b, d, h1, h2, h3, h4⟩ := hs.2.1 (by simpa [setL] using h)
        exact ⟨b, d, by simpa [updV] using h1, h2, h3, h4⟩, fun h => by
        obtain ⟨h1, h2⟩ := hs.2.2 (by simpa [setL] using h)
        exact ⟨by simpa [setL] using h1, by simpa [updV] using h2⟩⟩
    · clear hp
      go_simp
      with_reducible refine hK9 _ ?_
      exact ⟨hs.1, fun h => by
        obtain ⟨b, d, h1, h2, h3, h4⟩ := hs.2.1 (by simpa [setL] using h)
        exact ⟨b, d, by simpa [updV] using h1, h2, h3, h4⟩, fun h => by
        obtain ⟨h1, h2⟩ := hs.2.2 (by simpa [setL] using h)
        exact ⟨by simpa [setL] using h1, by simpa [updV] using h2⟩⟩
    · have s4 : w9.cell? ⟨bM, 4, none⟩ = some (.int .i64 kk) := by rw [(bcell hs.1).1 _ _ hlt]; exact r4
      clear hp
      go_simp
      with_reducible refine hK9 _ ?_
      exact ⟨hs.1, fun h => by
        obtain ⟨b, d, h1, h2, h3, h4⟩ := hs.2.1 (by simpa [setL] using h)
        exact ⟨b, d, by simpa [updV] using h1, h2, h3, h4⟩, fun h => by
        obtain ⟨h1, h2⟩ := hs.2.2 (by simpa [setL] using h)
        exact ⟨by simpa [setL] using h1, by simpa [updV] using h2⟩⟩
    · have h7 : L 7 = true := allL_mem hp 7 (by decide +kernel)
      obtain ⟨b, d, hx7, hbn7, hf7, hnb7⟩ := hs.2.1 h7
      clear hp
      rw [hx7] at hK9 ⊢
      go_simp
      with_reducible refine hK9 _ _ ?_
      exact ⟨hs.1, fun _ => ⟨b, d, by simpa [updV] using hx7, hbn7, hf7, hnb7⟩, fun _ => ⟨by simpa [setL] using h7, by simp [updV, hx7]⟩⟩
  intro L x w9 hS hL
  have hs : Below w1.heap.size w1 w9 ∧ (L 7 = true → ∃ b d, x 7 = .slice b m d ∧ (b = none → d = 0 ∧ FF = []) ∧ IsFlds w9 b d FF ∧ (∀ ad, b = some ad → w1.heap.size ≤ ad.block)) ∧ (L 12 = true → L 7 = true ∧ x 12 = .agg #[.int .i64 kc, .string tt, x 7, .string bb, .int .i64 kk]) := hS
  obtain ⟨b, d, hx7, hbn7, hf7, hnb7⟩ := hs.2.1 (hL 7 (by decide))
  have hx12 := (hs.2.2 (hL 12 (by decide))).2
  have hb9 := hs.1
  clear hS hL hs
  simp only [actMix, pickV, List.tail_cons, List.headD_cons, Act.put, List.setIfInBounds_toArray, List.set_cons_zero, List.set_cons_succ, List.replicate_succ, List.replicate_zero, List.drop_succ_cons, List.drop_zero, List.take_succ_cons, List.take_zero]
  rw [hx7] at hx12 ⊢
  rw [hx12]
  have Q := RR.out.below hb9
  have HB9 := Lib.hid (HL1.out.trans (hb9.mono HL1.out.size))
  have HF9 := Lib.hid hf7
  have HBN := Lib.hid hbn7
  have z0 := Q.free 0
  have z1 := Q.free 1
  have z2 := Q.free 2
  have z3 := Q.free 3
  have z4 := Q.free 4
  have p0 : w9.cell? ⟨bR, 0, none⟩ = some (.int .i64 0) := Q.cell 0
  have p1 : w9.cell? ⟨bR, 1, none⟩ = some (.string ⟨#[]⟩) := Q.cell 1
  have p2 : w9.cell? ⟨bR, 2, none⟩ = some (.slice none 0 0) := Q.cell 2
  have p3 : w9.cell? ⟨bR, 3, none⟩ = some (.string ⟨#[]⟩) := Q.cell 3
  have p4 : w9.cell? ⟨bR, 4, none⟩ = some (.int .i64 0) := Q.cell 4
  have HNB : Hid (∀ ad, b = some ad → ¬ ad.block = bR) := fun ad had => by have := hnb7 ad had; have := RR.out.lt; omega
  clear hx7 hx12 hf7 hnb7 hb9 Q hbn7
  go_wp2_with fail
  refine bodyPost_ret (v := .agg #[.int .i64 kc, .string tt, .slice b m d, .string bb, .int .i64 kk]) (by simp [results, Tryz.results10, go_sem, p0, p1, p2, p3, p4]) rfl ⟨b, d, by rw [HMM.out], HBN.out, ?_⟩
  have h5 := own_five bR _ HB9.out hbR0 (.int .i64 kc) (.string tt) (.slice b m d) (.string bb) (.int .i64 kk)
  exact ⟨isFlds_keepR HF9.out h5.2 HNB.out, h5.1⟩
end Go.Proofs.YtbbphklhnngjmaaGreatDoor

/- request's reference: bad, may, ReadHead of any first line. -/
namespace Go.Proofs.YtbbphklhnngjmaaGreatDoor
open Go.RowKit

def RhPost (w : World) (T : HdT) (x : Ending) (w' : World) : Prop :=
  ∃ v, x = .returned (.agg #[.string (bs T.first), .bool T.begun, v, .int .i64 (T.n : Int), .bool T.whole, .int .i64 T.e]) ∧ w'.ownsRow w.heap.size 53 2 v T.fs.length (cellsF T.fs) ∧ Below w.heap.size w w'
theorem rl_err {most : Int} : ∀ {r cur : List UInt8} {e : Int}, rlGo most cur r = .err e → e = 2 ∨ e = 4
  | [], cur, e, h => by simp only [rlGo] at h; cases h
  | c :: r, cur, e, h => by
    simp only [rlGo] at h
    split at h
    · injection h with h; exact .inl h.symm
    · split at h
      · split at h
        · cases h
        · split at h
          · cases h
          · injection h with h; exact .inl h.symm
      · split at h
        · injection h with h; exact .inr h.symm
        · exact rl_err h
/-- The end: the result lies in its variable. -/
theorem rh_end {w0 w : World} {br : Nat} {T : HdT} {v : Value} (u0 u1 u2 u3 u4 u5 : Value) (hbel : Below w0.heap.size w0 w) (hbr : w0.heap.size ≤ br) (ho : w.ownsRow w0.heap.size 53 2 v T.fs.length (cellsF T.fs)) (hn : v.ownBlock ≠ some br) (cs : Array Value) (hc : cs = #[.string (bs T.first), .bool T.begun, v, .int .i64 (T.n : Int), .bool T.whole, .int .i64 T.e]) :
    RhPost w0 T (.returned (.agg cs)) ((((((w.setCell ⟨br, 0, none⟩ u0).setCell ⟨br, 1, none⟩ u1).setCell ⟨br, 2, none⟩ u2).setCell ⟨br, 3, none⟩ u3).setCell ⟨br, 4, none⟩ u4).setCell ⟨br, 5, none⟩ u5) := by
  have K : ∀ (v : World) (i : Nat) (u : Value), Keep (fun j => j = br) v (v.setCell ⟨br, i, none⟩ u) := fun v i u => Keep.setCell (G := fun j => j = br) v (p := ⟨br, i, none⟩) rfl u
  have KC := (((((K w 0 u0).trans (K _ 1 u1)).trans (K _ 2 u2)).trans (K _ 3 u3)).trans (K _ 4 u4)).trans (K _ 5 u5)
  exact ⟨v, by rw [hc], own_keepB ho KC (fun k hk e => hn (by rw [hk, e])), (((((hbel.setCell (p := ⟨br, 0, none⟩) hbr u0).setCell (p := ⟨br, 1, none⟩) hbr u1).setCell (p := ⟨br, 2, none⟩) hbr u2).setCell (p := ⟨br, 3, none⟩) hbr u3).setCell (p := ⟨br, 4, none⟩) hbr u4).setCell (p := ⟨br, 5, none⟩) hbr u5⟩
structure RhD (w0 : World) (bl br bx bh B : Nat) : Prop where
  r0 : w0.heap.size ≤ br
  x0 : w0.heap.size ≤ bx
  h0 : w0.heap.size ≤ bh
  lr : bl ≠ br
  lx : bl ≠ bx
  lh : bl ≠ bh
  rx : br ≠ bx
  rh : br ≠ bh
  xh : bx ≠ bh
  lB : bl < B
  rB : br < B
  xB : bx < B
  hB : bh < B
def cellN (w : World) (b : Nat) : Nat := (((w.cell? ⟨b, 3, none⟩).map intOf).getD 0).toNat
theorem cellN_of {w : World} {b k : Nat} (h : w.cell? ⟨b, 3, none⟩ = some (.int .i64 (k : Int))) : cellN w b = k := by
  unfold cellN
  rw [h]
  simp [intOf]
/-- append of nothing, at an operation. -/
theorem wp_append_nil {P : Program} (w : World) {o : Oper} {a : Act} {K : Act → World → Prop} {Q : Exit → Act → World → Prop} (s x : Operand) (t : TypeId)
    (ho : o.op = .call { callee := .builtin .append, args := #[s, x], argTypes := #[t, t] })
    (base : Nat) (e : TypeId) (i : TypeInfo) (size : Nat) (ht : P.underlying t = some (.slice e)) (hi : P.info? e = some i)
    (v : Value) (n : Nat) (xs : List Value) (hs : a.eval s = v) (hown : w.ownsRow base e size v n xs) (hx : a.eval x = .slice none 0 0)
    (h : K (a.put o.dst v) w) : o.wp P a w K Q := by
  have hrun := run_append_owned_none (P := P) (w := w) base t o.type e i size ht hi v n xs hown
  unfold Oper.wp
  simp [execOp, ho, resolve, invoke, builtin, hs, hx, hrun, Result.andThen]
  exact h
theorem grown_refl (w : World) (row : Option Nat) : w.grownBy w row := ⟨rfl, rfl, rfl, Nat.le_refl _, fun _ _ _ => rfl⟩
/-- The cells of a row that is owned, as a source. -/
theorem own_src {w w' : World} {B : Nat} {e : TypeId} {n m c : Nat} {ad : Addr} {k : Nat} {xs : List Value} (h : w.ownsRow B e n (.slice (some ad) k c) m xs) (hb : Below w.heap.size w w') : ∀ j u, xs[j]? = some u → w'.cell? (ad.add j) = some u := by
  intro j u hu
  obtain ⟨_, ⟨h1, _⟩ | ⟨g, cap, cur, h1, _, hg, _, _, _, ht⟩⟩ := h
  · cases h1
  · injection h1 with h2
    injection h2 with h2
    subst h2
    rw [Addr.add_mid, Nat.zero_add, (bcell hb).1 _ _ (Array.getElem?_eq_some_iff.1 hg).1]
    have hx := hu
    rw [← ht, List.getElem?_take] at hx
    split at hx
    · simp only [Array.getElem?_toList] at hx
      simp [World.cell?, hg, hx]
    · cases hx
/-- What holds while a field is put behind a copy of the others. -/
structure ReS (w0 : World) (fs : List Fld) (N V : ByteArray) (S : Nat → Bool) (x : Nat → Value) (w : World) : Prop where
  a : Below w0.heap.size w0 w
  i0 : S 0 = true → S 3 = false → w.ownsRow w0.heap.size 53 2 (x 0) 0 []
  i3 : S 3 = true → S 6 = false → w.ownsRow w0.heap.size 53 2 (x 3) fs.length (cellsF fs)
  i5 : S 5 = true → S 6 = false → ∃ b5, x 5 = .slice (some ⟨b5, 0, none⟩) 1 1 ∧ w0.heap.size ≤ b5 ∧ b5 < w.heap.size ∧ (∀ (k : Nat) u, [Value.string N, .string V][k]? = some u → w.cell? ((⟨b5, 0, none⟩ : Addr).add k) = some u) ∧ (S 0 = true → S 3 = false → (x 0).ownBlock ≠ some b5) ∧ (S 3 = true → (x 3).ownBlock ≠ some b5)
  i6 : S 6 = true → w.ownsRow w0.heap.size 53 2 (x 6) (fs.length + 1) (cellsF fs ++ [.string N, .string V])
  o3 : S 6 = true → S 3 = true
  o5 : S 6 = true → S 5 = true
  o0 : S 3 = true → S 0 = true
theorem ReS.keep {w0 : World} {fs : List Fld} {N V : ByteArray} {S : Nat → Bool} {x : Nat → Value} {w : World} (h : ReS w0 fs N V S x w) (i : Nat) (u : Value) (h0 : i ≠ 0) (h3 : i ≠ 3) (h5 : i ≠ 5) (h6 : i ≠ 6) : ReS w0 fs N V (setL S i) (updV x i u) w := by
  have e0 : setL S i 0 = S 0 := by simp only [setL, if_neg (Ne.symm h0)]
  have e3 : setL S i 3 = S 3 := by simp only [setL, if_neg (Ne.symm h3)]
  have e5 : setL S i 5 = S 5 := by simp only [setL, if_neg (Ne.symm h5)]
  have e6 : setL S i 6 = S 6 := by simp only [setL, if_neg (Ne.symm h6)]
  have x0 : updV x i u 0 = x 0 := by simp only [updV, if_neg (Ne.symm h0)]
  have x3 : updV x i u 3 = x 3 := by simp only [updV, if_neg (Ne.symm h3)]
  have x5 : updV x i u 5 = x 5 := by simp only [updV, if_neg (Ne.symm h5)]
  have x6 : updV x i u 6 = x 6 := by simp only [updV, if_neg (Ne.symm h6)]
  exact ⟨h.a, by rw [e0, e3, x0]; exact h.i0, by rw [e3, e6, x3]; exact h.i3, by rw [e5, e6, e0, e3, x5, x0, x3]; exact h.i5, by rw [e6, x6]; exact h.i6, by rw [e6, e3]; exact h.o3, by rw [e6, e5]; exact fun q => h.o5 q, by rw [e3, e0]; exact h.o0⟩
theorem infoRf : (Tryz.prog.info? 53).map (fun i => (i.zero, i.size, i.bytes)) = some (some (.agg #[.string ⟨#[]⟩, .string ⟨#[]⟩]), 2, 32) := by kernel_rfl
theorem ReS.lit {w0 : World} {fs : List Fld} {N V : ByteArray} {S : Nat → Bool} {x : Nat → Value} {w : World} (h : ReS w0 fs N V S x w) (hl : S 0 = false) (T : TypeId) (hT : T = 53) : ReS w0 fs N V (setL S 0) (updV x 0 (.slice (some ⟨w.heap.size, 0, none⟩) 0 0)) (w.alloc (.cells #[] T)) := by
  subst hT
  have h3 : S 3 = false := by
    cases h3 : S 3 with
    | false => rfl
    | true => rw [h.o0 h3] at hl; cases hl
  have h6 : S 6 = false := by
    cases h6 : S 6 with
    | false => rfl
    | true => rw [h.o3 h6] at h3; cases h3
  have hz := h.a.size
  refine ⟨h.a.alloc hz _, fun _ _ => ?_, fun q => ?_, fun q1 q2 => ?_, fun q => ?_, fun q => ?_, fun q => ?_, fun _ => by simp [setL]⟩
  · have e : updV x 0 (Value.slice (some ⟨w.heap.size, 0, none⟩) 0 0) 0 = .slice (some ⟨w.heap.size, 0, none⟩) 0 0 := by simp [updV]
    rw [e]
    exact World.ownsRow_lit w #[] 0 hz (by decide) (by simp)
  · simp [setL, h3] at q
  · have q5 : S 5 = true := by simpa [setL] using q1
    obtain ⟨b5, hx, hb0, hb, hc, _, _⟩ := h.i5 q5 h6
    refine ⟨b5, by simpa [updV] using hx, hb0, by simp; omega, fun k u hu => ?_, fun _ _ => ?_, fun q => by simp [setL, h3] at q⟩
    · have := hc k u hu
      rw [Addr.add_mid] at this ⊢
      rw [(bcell (below_alloc w _)).1 _ _ hb]
      exact this
    · simp [updV, Value.ownBlock]
      omega
  · simp [setL, h6] at q
  · simp [setL, h6] at q
  · simp [setL, h6] at q
theorem ReS.arr {w0 : World} {fs : List Fld} {N V : ByteArray} {S : Nat → Bool} {x : Nat → Value} {w : World} (h : ReS w0 fs N V S x w) (h6 : S 6 = false) (T : TypeId) : ReS w0 fs N V (setL S 5) (updV x 5 (.slice (some ⟨w.heap.size, 0, none⟩) 1 1)) (w.alloc (.cells #[.string N, .string V] T)) := by
  have hz := h.a.size
  refine ⟨h.a.alloc hz _, fun q1 q2 => ?_, fun q1 q2 => ?_, fun _ _ => ?_, fun q => ?_, fun q => ?_, fun _ => by simp [setL], fun q => ?_⟩
  · simpa [updV] using (h.i0 (by simpa [setL] using q1) (by simpa [setL] using q2)).alloc (.cells #[.string N, .string V] T)
  · simpa [updV] using (h.i3 (by simpa [setL] using q1) h6).alloc (.cells #[.string N, .string V] T)
  · refine ⟨w.heap.size, by simp [updV], hz, by simp, cells_new1 w N V T, fun q1 q2 e => ?_, fun q e => ?_⟩
    · have := (h.i0 (by simpa [setL] using q1) (by simpa [setL] using q2)).lt w.heap.size (by simpa [updV] using e)
      omega
    · have := (h.i3 (by simpa [setL] using q) h6).lt w.heap.size (by simpa [updV] using e)
      omega
  · simp [setL, h6] at q
  · simp [setL, h6] at q
  · have := h.o0 (by simpa [setL] using q)
    simpa [setL] using this
theorem ReS.app {w0 : World} {fs : List Fld} {N V : ByteArray} {S : Nat → Bool} {x : Nat → Value} {w w' : World} {v' : Value} (h : ReS w0 fs N V S x w) (h0 : S 0 = true) (h3 : S 3 = false) (hg : w.grownBy w' (x 0).ownBlock) (hat : v'.ownBlock = (x 0).ownBlock ∨ v'.ownBlock = some w.heap.size)
    (ho : w'.ownsRow w0.heap.size 53 2 v' fs.length (cellsF fs)) : ReS w0 fs N V (setL S 3) (updV x 3 v') w' := by
  have h6 : S 6 = false := by
    cases h6 : S 6 with
    | false => rfl
    | true => rw [h.o3 h6] at h3; cases h3
  have hown := h.i0 h0 h3
  have hz := h.a.size
  have hz2 := hg.size
  refine ⟨h.a.grown hg hz (fun k hk => (hown.lt k hk).1), fun _ q => ?_, fun _ _ => ?_, fun q1 _ => ?_, fun q => ?_, fun q => ?_, fun q => ?_, fun _ => by simpa [setL] using h0⟩
  · simp [setL] at q
  · simpa [updV] using ho
  · have q5 : S 5 = true := by simpa [setL] using q1
    obtain ⟨b5, hx, hb0, hb, hc, hn, _⟩ := h.i5 q5 h6
    refine ⟨b5, by simpa [updV] using hx, hb0, by omega, fun k u hu => ?_, fun _ q => by simp [setL] at q, fun _ e => ?_⟩
    · have := hc k u hu
      rw [Addr.add_mid] at this ⊢
      unfold World.cell? at this ⊢
      rw [hg.block b5 hb (fun e => hn h0 h3 e.symm)]
      exact this
    · have e2 : v'.ownBlock = some b5 := by simpa [updV] using e
      rcases hat with q | q
      · exact hn h0 h3 (by rw [← q]; exact e2)
      · rw [e2] at q
        injection q with q
        omega
  · simp [setL, h6] at q
  · simp [setL, h6] at q
  · simp [setL, h6] at q
theorem ReS.fin {w0 : World} {fs : List Fld} {N V : ByteArray} {S : Nat → Bool} {x : Nat → Value} {w w' : World} {v' : Value} (h : ReS w0 fs N V S x w) (h3 : S 3 = true) (h5 : S 5 = true) (h6 : S 6 = false) (hg : w.grownBy w' (x 3).ownBlock)
    (ho : w'.ownsRow w0.heap.size 53 2 v' (fs.length + 1) (cellsF fs ++ [.string N, .string V])) : ReS w0 fs N V (setL S 6) (updV x 6 v') w' := by
  have hown := h.i3 h3 h6
  have hz := h.a.size
  refine ⟨h.a.grown hg hz (fun k hk => (hown.lt k hk).1), fun _ q => ?_, fun _ q => ?_, fun _ q => ?_, fun _ => ?_, fun _ => by simpa [setL] using h3, fun _ => by simpa [setL] using h5, fun _ => by simpa [setL] using h.o0 h3⟩
  · simp [setL, h3] at q
  · simp [setL] at q
  · simp [setL] at q
  · simpa [updV] using ho
end Go.Proofs.YtbbphklhnngjmaaGreatDoor

/- request's reference: framing's Of, Plain. -/
namespace Go.Proofs.YtbbphklhnngjmaaGreatDoor
open Go.RowKit

def encR : ByteArray := ⟨#[116, 114, 97, 110, 115, 102, 101, 114, 45, 101, 110, 99, 111, 100, 105, 110, 103]⟩
def lenR : ByteArray := ⟨#[99, 111, 110, 116, 101, 110, 116, 45, 108, 101, 110, 103, 116, 104]⟩
def hostR : ByteArray := ⟨#[104, 111, 115, 116]⟩
theorem allB_case {x y : ByteArray} (h : x.data.toList.map lowC = y.data.toList.map lowC) (fs : List Fld) : allB x fs = allB y fs := by
  unfold allB isB
  rw [h]
theorem allB_mem {x : ByteArray} {fs : List Fld} {v : ByteArray} (h : v ∈ allB x fs) : ∃ f ∈ fs, v = bs f.2 := by
  unfold allB at h
  obtain ⟨f, hf, rfl⟩ := List.mem_map.1 h
  exact ⟨f, (List.mem_filter.1 hf).1, rfl⟩
def OfPost (fs : List Fld) (w : World) (x : Ending) (w' : World) : Prop :=
  ∃ k n e : Int, x = .returned (.tuple #[.int .i64 k, .int .i64 n, .int .i64 e]) ∧ (e = 0 → k = 0 → (allB encR fs = [] ∧ allB lenR fs = [] ∧ n = 0)) ∧ 0 ≤ k ∧ Below w.heap.size w w'
set_option maxRecDepth 100000 in
set_option maxHeartbeats 4000000 in
theorem of31 (a : Option Addr) (c : Nat) (fs : List Fld) (most : Int) (hfl : fs.length ≤ 1000000) (hok : ∀ f ∈ fs, FldOk f) (hsm : ∀ f ∈ fs, f.2.length ≤ 1000000) (w : World) (hf : IsFlds w a c fs) :
    Calls Tryz.prog 53 #[.slice a fs.length c, .int .i64 most, .int .i64 0] w (OfPost fs w) := by
  have HT := Lib.hid (rall41 a c fs encR hfl hok (by decide) w hf)
  have HC := Lib.hid (fun W h => rall41 a c fs lenR hfl hok (by decide) W h)
  have hmT : ∀ v ∈ allB encR fs, v.size ≤ 1000000 := fun v hv => by
    obtain ⟨f, hf, rfl⟩ := allB_mem hv
    rw [bs_size]; exact hsm f hf
  have hmC : ∀ v ∈ allB lenR fs, v.size ≤ 1000000 := fun v hv => by
    obtain ⟨f, hf, rfl⟩ := allB_mem hv
    rw [bs_size]; exact hsm f hf
  have hlT := allB_len encR fs
  have hlC := allB_len lenR fs
  have HF := Lib.hid hf
  obtain ⟨T, hT⟩ : ∃ T, T = allB encR fs := ⟨_, rfl⟩
  obtain ⟨C, hC⟩ : ∃ C, C = allB lenR fs := ⟨_, rfl⟩
  rw [← hT] at HT hmT hlT
  rw [← hC] at HC hmC hlC
  have HTT := Lib.hid hT
  have HCC := Lib.hid hC
  unfold encR at HT
  unfold lenR at HC
  have HMT := Lib.hid hmT
  have HMC := Lib.hid hmC
  obtain ⟨nT, hnT⟩ : ∃ nT, nT = T.length := ⟨_, rfl⟩
  obtain ⟨nC, hnC⟩ : ∃ nC, nC = C.length := ⟨_, rfl⟩
  have HNT := Lib.hid hnT
  have HNC := Lib.hid hnC
  have hbT : nT ≤ 1000000 := by omega
  have hbC : nC ≤ 1000000 := by omega
  clear hf hok hsm hT hC hmT hmC hnT hnC hlT hlC
  go_enter Tryz.func53, Tryz.ntmps53
  go_wp2_with fail
  with_reducible refine HT.out.mono ?_
  rintro e w1 ⟨u1, rfl, ho1, hb1⟩
  have ho1' := own_len ho1 HNT.out.symm
  obtain ⟨a1, c1, rfl⟩ := own_slice ho1'
  have S1 := isStrs_of_row ho1' HNT.out.symm
  have F1 := Lib.hid (HF.out.below hb1)
  have B1 := Lib.hid hb1
  clear ho1 ho1' hb1 HT HF
  go_wp2_with fail
  with_reducible refine (HC.out w1 F1.out).mono ?_
  rintro e w2 ⟨u2, rfl, ho2, hb2⟩
  have ho2' := own_len ho2 HNC.out.symm
  obtain ⟨a2, c2, rfl⟩ := own_slice ho2'
  have S2 := Lib.hid (isStrs_of_row ho2' HNC.out.symm)
  have S1' := Lib.hid (S1.below hb2)
  have B2 := Lib.hid (B1.out.trans (hb2.mono B1.out.size))
  clear ho2 ho2' hb2 HC F1 B1 S1
  by_cases hT0 : 0 < nT
  · have t1 : decide (0 < (nT : Int)) = true := decide_eq_true (by omega)
    have hcells := S1'.out
    obtain h0 | ⟨bk, o, rfl, hbk, hcc, hcell⟩ := hcells
    · exfalso; have := HNT.out; rw [h0] at this; simp at this; omega
    have hT0' : 0 < T.length := by have := HNT.out; omega
    have cj : w2.cell? ⟨bk, o, none⟩ = some (.string T[0]) := hcell 0 T[0] (by simp [hT0'])
    have hTz := HMT.out T[0] (List.getElem_mem hT0')
    obtain ⟨x0, hx0⟩ : ∃ x0, x0 = T[0] := ⟨_, rfl⟩
    rw [← hx0] at cj hTz
    have hcc2 : nT ≤ c1 := by have := HNT.out; omega
    clear hcell hx0 hT0' hbk hcc
    have FIN : ∀ k n e : Int, ∀ w', Below w.heap.size w w' → (e ≠ 0 ∨ k ≠ 0) → 0 ≤ k → OfPost fs w (.returned (.tuple #[.int .i64 k, .int .i64 n, .int .i64 e])) w' := fun k n e w' hb h hk => ⟨k, n, e, rfl, (fun h1 h2 => by rcases h with h | h; exact absurd h1 h; exact absurd h2 h), hk, hb⟩
    have HFIN := Lib.hid FIN
    clear FIN
    by_cases hC0 : 0 < nC
    · have t2 : decide (0 < (nC : Int)) = true := decide_eq_true (by omega)
      go_wp2_with fail
      refine bodyPost_ret (v := .tuple #[.int .i64 0, .int .i64 0, .int .i64 2]) (by simp [results, Tryz.results53, go_sem]) rfl (HFIN.out 0 0 2 w2 B2.out (.inl (by decide)) (by decide))
    · obtain rfl : nC = 0 := by omega
      by_cases hT1 : 1 < nT
      · have t3 : decide (1 < (nT : Int)) = true := decide_eq_true (by omega)
        go_wp2_with fail
        refine bodyPost_ret (v := .tuple #[.int .i64 0, .int .i64 0, .int .i64 2]) (by simp [results, Tryz.results53, go_sem]) rfl (HFIN.out 0 0 2 w2 B2.out (.inl (by decide)) (by decide))
      · obtain rfl : nT = 1 := by omega
        have HL := Lib.hid (lower21 x0 (by omega) w2)
        obtain ⟨y, hy⟩ : ∃ y, y = (⟨(x0.data.toList.map lowC).toArray⟩ : ByteArray) := ⟨_, rfl⟩
        rw [← hy] at HL
        clear hy
        go_wp2_with fail
        with_reducible refine HL.out.mono ?_
        rintro e w3 ⟨rfl, hb3⟩
        have B3 := Lib.hid (B2.out.trans (hb3.mono B2.out.size))
        obtain ⟨q, hq⟩ : ∃ q, (y.toList == [99, 104, 117, 110, 107, 101, 100]) = q := ⟨_, rfl⟩
        clear hb3 HL
        cases q
        · go_wp2_with fail
          refine bodyPost_ret (v := .tuple #[.int .i64 0, .int .i64 0, .int .i64 2]) (by simp [results, Tryz.results53, go_sem]) rfl (HFIN.out 0 0 2 w3 B3.out (.inl (by decide)) (by decide))
        · go_wp2_with fail
          refine bodyPost_ret (v := .tuple #[.int .i64 2, .int .i64 0, .int .i64 0]) (by simp [results, Tryz.results53, go_sem]) rfl (HFIN.out 2 0 0 w3 B3.out (.inr (by decide)) (by decide))
  · obtain rfl : nT = 0 := by omega
    have hTn : T = [] := List.eq_nil_of_length_eq_zero HNT.out.symm
    have HTN := Lib.hid hTn
    clear hTn hT0
    by_cases hC0 : 0 < nC
    · have t1 : decide ((nC : Int) = 0) = false := decide_eq_false (by omega)
      have t1b : ((nC : Int) == 0) = false := beq_eq_false_iff_ne.2 (by omega)
      have FIN : ∀ k n e : Int, ∀ w', Below w.heap.size w w' → (e ≠ 0 ∨ k ≠ 0) → 0 ≤ k → OfPost fs w (.returned (.tuple #[.int .i64 k, .int .i64 n, .int .i64 e])) w' := fun k n e w' hb h hk => ⟨k, n, e, rfl, (fun h1 h2 => by rcases h with h | h; exact absurd h1 h; exact absurd h2 h), hk, hb⟩
      have HFIN := Lib.hid FIN
      clear FIN
      have hcells := S2.out
      obtain h0 | ⟨bk, o, rfl, hbk, hcc, hcell⟩ := hcells
      · exfalso; have := HNC.out; rw [h0] at this; simp at this; omega
      have hC0' : 0 < C.length := by have := HNC.out; omega
      have c0 : w2.cell? ⟨bk, o, none⟩ = some (.string C[0]) := hcell 0 C[0] (by simp [hC0'])
      have hz0 := HMC.out C[0] (List.getElem_mem hC0')
      obtain ⟨x0, hx0⟩ : ∃ x0, x0 = C[0] := ⟨_, rfl⟩
      rw [← hx0] at c0 hz0
      obtain ⟨m1, m2, hm⟩ : ∃ m1 m2, numR 10 10 isDec x0.data.toList 9999999999 = (m1, m2) := ⟨_, _, rfl⟩
      have HN0 := Lib.hid (fun W => num27_10 x0 hz0 9999999999 m1 m2 hm W)
      have HCELL := Lib.hid hcell
      have hcc2 : nC ≤ c2 := by have := HNC.out; omega
      clear hx0 hC0' hbk hcc hcell hm hz0
      go_wp2_with fail
      go_loopw [47] (fun iv wr => w2 = wr ∧ ∃ j : Nat, j ≤ nC ∧ iv = .int .i64 (j : Int)) (fun iv _ => nC - (intOf iv).toNat)
      case atStart => exact ⟨rfl, 0, Nat.zero_le _, rfl⟩
      case round =>
        obtain ⟨rfl, j, hj, rfl⟩ := hrel
        by_cases hlt : j < nC
        · have hjC : j < C.length := by have := HNC.out; omega
          have cj := HCELL.out j C[j] (by simp [hjC])
          have hzj := HMC.out C[j] (List.getElem_mem hjC)
          obtain ⟨xj, hxj⟩ : ∃ xj, xj = C[j] := ⟨_, rfl⟩
          rw [← hxj] at cj hzj
          obtain ⟨n1, n2, hn⟩ : ∃ n1 n2, numR 10 10 isDec xj.data.toList 9999999999 = (n1, n2) := ⟨_, _, rfl⟩
          have HNJ := Lib.hid (fun W => num27_10 xj hzj 9999999999 n1 n2 hn W)
          have j1 : (j : Int) < nC := by omega
          have j0 : (0 : Int) < nC := by omega
          clear hxj hn hzj hjC
          go_wp2_with fail
          with_reducible refine (HNJ.out w2).mono ?_
          rintro e w' ⟨rfl, rfl⟩
          go_wp2_with fail
          with_reducible refine (HN0.out w2).mono ?_
          rintro e w' ⟨rfl, rfl⟩
          by_cases hn2 : n2 = 0
          · subst hn2
            by_cases hnm : n1 = m1
            · subst hnm
              go_wp2_with fail
              go_roundw
              case rel => exact ⟨by trivial, j + 1, hlt, by go_num⟩
              case measure => simp [intOf]; omega
            · have u1 : (n1 != m1) = true := bne_iff_ne.2 hnm
              go_wp2_with fail
              refine bodyPost_ret (v := .tuple #[.int .i64 0, .int .i64 0, .int .i64 2]) (by simp [results, Tryz.results53, go_sem]) rfl (HFIN.out 0 0 2 w2 B2.out (.inl (by decide)) (by decide))
          · have u1 : (n2 != 0) = true := bne_iff_ne.2 hn2
            go_wp2_with fail
            refine bodyPost_ret (v := .tuple #[.int .i64 0, .int .i64 0, .int .i64 2]) (by simp [results, Tryz.results53, go_sem]) rfl (HFIN.out 0 0 2 w2 B2.out (.inl (by decide)) (by decide))
        · have j1 : ¬ (j : Int) < nC := by omega
          have j0 : (0 : Int) < nC := by omega
          go_wp2_with fail
          with_reducible refine (HN0.out w2).mono ?_
          rintro e w' ⟨rfl, rfl⟩
          by_cases hmm : most < m1
          · have u1 : decide (most < m1) = true := decide_eq_true hmm
            go_wp2_with fail
            refine bodyPost_ret (v := .tuple #[.int .i64 0, .int .i64 0, .int .i64 3]) (by simp [results, Tryz.results53, go_sem]) rfl (HFIN.out 0 0 3 w2 B2.out (.inl (by decide)) (by decide))
          · have u1 : decide (most < m1) = false := decide_eq_false hmm
            go_wp2_with fail
            refine bodyPost_ret (v := .tuple #[.int .i64 1, .int .i64 m1, .int .i64 0]) (by simp [results, Tryz.results53, go_sem]) rfl (HFIN.out 1 m1 0 w2 B2.out (.inr (by decide)) (by decide))
    · obtain rfl : nC = 0 := by omega
      have hCn : C = [] := List.eq_nil_of_length_eq_zero HNC.out.symm
      have HCN := Lib.hid hCn
      clear hCn hC0
      go_wp2_with fail
      refine bodyPost_ret (v := .tuple #[.int .i64 0, .int .i64 0, .int .i64 0]) (by simp [results, Tryz.results53, go_sem]) rfl ⟨0, 0, 0, rfl, (fun _ _ => ⟨HTT.out.symm.trans HTN.out, HCC.out.symm.trans HCN.out, rfl⟩), Int.le_refl 0, B2.out⟩
end Go.Proofs.YtbbphklhnngjmaaGreatDoor

/- request's reference: Plain, of any body and kind. -/
namespace Go.Proofs.YtbbphklhnngjmaaGreatDoor
open Go.RowKit

/-- What Plain's yes says. -/
def PlainIsL (m t : List UInt8) (fs : List Fld) (bb : ByteArray) (kk : Int) : Prop :=
  (∀ f ∈ fs, FOk f) ∧ tokB m = true ∧ tgtB t = true ∧ (∃ h0, allB hostR fs = [h0] ∧ 0 < h0.size) ∧ ((kk = 0 ∧ allB lenR fs = [] ∧ bb.size = 0) ∨ kk = 1)
def PlainPostL (m t : List UInt8) (fs : List Fld) (bb : ByteArray) (kk : Int) (w : World) (x : Ending) (w' : World) : Prop :=
  ∃ q, x = .returned (.bool q) ∧ (q = true → PlainIsL m t fs bb kk) ∧ Below w.heap.size w w'
set_option maxRecDepth 100000 in
set_option maxHeartbeats 8000000 in
theorem plain17L (m t : List UInt8) (bb : ByteArray) (kk : Int) (hm : m.length ≤ 1000000) (ht : t.length ≤ 1000000) (a : Option Addr) (c : Nat) (fs : List Fld) (hfl : fs.length ≤ 1000000) (hok : ∀ f ∈ fs, f.1.length ≤ 1000000 ∧ f.2.length ≤ 1000000) (w : World) (hf : IsFlds w a c fs) :
    Calls Tryz.prog 19 #[.agg #[.string (bs m), .string (bs t), .slice a fs.length c, .string bb, .int .i64 kk]] w (PlainPostL m t fs bb kk w) := by
  have hok2 : ∀ f ∈ fs, FldOk f := fun f h => ⟨by have := (hok f h).1; omega, by have := (hok f h).2; omega⟩
  obtain ⟨qm, hqm⟩ : ∃ q, tokB m = q := ⟨_, rfl⟩
  obtain ⟨qt, hqt⟩ : ∃ q, tgtB t = q := ⟨_, rfl⟩
  have HTK := Lib.hid (fun W => token15 (bs m) (by rw [bs_size]; omega) qm hqm W)
  have HTG := Lib.hid (fun W => target17 (bs t) (by rw [bs_size]; omega) qt hqt W)
  have HAL := Lib.hid (fun W h => rall41 a c fs hostR hfl hok2 (by decide) W h)
  have HOF := Lib.hid (fun W h => of31 a c fs 1099511627776 hfl hok2 (fun f h => (hok f h).2) W h)
  have HF := Lib.hid hf
  have HOK := Lib.hid hok
  have L0 := Lib.hid (below_alloc w (.cells #[.string (bs m), .string (bs t), .slice a fs.length c, .string bb, .int .i64 kk] 39))
  have R0 := Lib.hid (Row.new w 39 #[.string (bs m), .string (bs t), .slice a fs.length c, .string bb, .int .i64 kk])
  have NO : ∀ w', Below w.heap.size w w' → PlainPostL m t fs bb kk w (.returned (.bool false)) w' := fun w' hb => ⟨false, rfl, (fun h => by cases h), hb⟩
  have HNO := Lib.hid NO
  have HM := Lib.hid hqm
  have HT := Lib.hid hqt
  obtain ⟨mm, hmm⟩ : ∃ mm, mm = bs m := ⟨_, rfl⟩
  obtain ⟨tt, htt⟩ : ∃ tt, tt = bs t := ⟨_, rfl⟩
  rw [← hmm] at HTK L0 R0 ⊢
  rw [← htt] at HTG L0 R0 ⊢
  clear hf hok hok2 hqm hqt NO hm ht hmm htt
  unfold hostR at HAL
  go_enter Tryz.func19, Tryz.ntmps19
  go_wp2_with fail
  obtain ⟨w0, hw0⟩ : ∃ w0, w0 = w.alloc (.cells #[.string mm, .string tt, .slice a fs.length c, .string bb, .int .i64 kk] 39) := ⟨_, rfl⟩
  rw [← hw0] at L0 R0 ⊢
  clear hw0
  go_loopw [14] (fun iv wr => ∃ j : Nat, j ≤ fs.length ∧ iv = .int .i64 (j : Int) ∧ Hid (∀ f ∈ fs.take j, FOk f) ∧ Hid (Below w0.heap.size w0 wr)) (fun iv _ => fs.length - (intOf iv).toNat)
  case atStart => exact ⟨0, Nat.zero_le _, rfl, (fun f h => by simp at h), Below.refl _ _⟩
  case round =>
    obtain ⟨j, hj, rfl, hall, hb⟩ := hrel
    by_cases hlt : j < fs.length
    · have hf0 := (HF.out.below L0.out).below hb.out
      obtain h0 | ⟨bk, o, rfl, hbk, hc, hcell⟩ := hf0
      · subst h0; simp at hlt
      obtain ⟨c1, c2⟩ := hcell j fs[j] (by simp [hlt])
      have hok := HOK.out fs[j] (List.getElem_mem hlt)
      have hst : fs.take (j + 1) = fs.take j ++ [fs[j]] := by rw [List.take_succ_eq_append_getElem hlt]
      obtain ⟨f, hfe⟩ : ∃ f, f = fs[j] := ⟨_, rfl⟩
      rw [← hfe] at c1 c2 hok hst
      have HST := Lib.hid hst
      obtain ⟨n, v⟩ := f
      simp only at c1 c2 hok
      have A1 := fun W => add_str n [58, 32] (by simp; omega) W
      have A2 := fun W => add_str (n ++ [58, 32]) v (by simp; omega) W
      have e58 : bs [58, 32] = ⟨#[58, 32]⟩ := rfl
      rw [e58] at A1
      have HP := Lib.hid (fun W => parse37 (bs (n ++ [58, 32] ++ v)) (by rw [bs_size]; simp; omega) W)
      rw [bs_list] at HP
      unfold parseV at HP
      have j1 : (j : Int) < fs.length := by omega
      have hbb := hb.out
      have hsz := hbb.size
      have HBA := Lib.hid (hbb.alloc hsz (.cells #[.string (bs n), .string (bs v)] 53))
      have RF := Row.new wr 53 #[.string (bs n), .string (bs v)]
      have eN := self_strP (bs n)
      have eV := self_strP (bs v)
      cases hp : parseL (n ++ [58, 32] ++ v) with
      | none =>
        rw [hp] at HP
        unfold fldV at HP
        simp only at HP
        generalize hx2 : bs (n ++ [58, 32] ++ v) = x2 at *
        generalize hx1 : bs (n ++ [58, 32]) = x1 at *
        generalize bs n = N at *
        generalize bs v = V at *
        clear hx1 hx2 hcell hfe hst hp e58 hbk hc
        go_wp2_with fail
        with_reducible refine (HP.out _).mono ?_
        rintro e w1 ⟨rfl, hb1⟩
        have HB1 := Lib.hid ((HBA.out.trans (hb1.mono HBA.out.size)).alloc (HBA.out.trans (hb1.mono HBA.out.size)).size (.cells #[.string (bs []), .string (bs [])] 53))
        clear hb1 HP
        go_wp2_with fail
        go_ret
        exact HNO.out _ (L0.out.trans (HB1.out.mono L0.out.size))
      | some g =>
        obtain ⟨gn, gv⟩ := g
        rw [hp] at HP
        unfold fldV at HP
        simp only at HP
        have q1 := bs_beq gn n
        have q2 := bs_beq gv v
        by_cases hg : (gn, gv) = (n, v)
        · injection hg with hg1 hg2
          subst hg1 hg2
          have HN : Hid (∀ f ∈ fs.take (j + 1), FOk f) := by
            show ∀ f ∈ _, _
            rw [HST.out]
            intro f hf
            rcases List.mem_append.1 hf with h | h
            · exact hall.out f h
            · rw [List.mem_singleton.1 h]; exact hp
          generalize hx2 : bs (gn ++ [58, 32] ++ gv) = x2 at *
          generalize hx1 : bs (gn ++ [58, 32]) = x1 at *
          generalize bs gn = N at *
          generalize bs gv = V at *
          clear hx1 hx2 hcell hfe hst hp e58 hbk hc q1 q2
          go_wp2_with fail
          with_reducible refine (HP.out _).mono ?_
          rintro e w1 ⟨rfl, hb1⟩
          have RF1 := (RF.below hb1).alloc (.cells #[.string N, .string V] 53)
          have hb2 := (HBA.out.trans (hb1.mono HBA.out.size)).alloc (HBA.out.trans (hb1.mono HBA.out.size)).size (.cells #[.string N, .string V] 53)
          have HB1 := Lib.hid hb2
          have s0 : (w1.alloc (.cells #[.string N, .string V] 53)).cell? ⟨wr.heap.size, 0, none⟩ = some (.string N) := RF1.cell 0
          have s1 : (w1.alloc (.cells #[.string N, .string V] 53)).cell? ⟨wr.heap.size, 1, none⟩ = some (.string V) := RF1.cell 1
          have RG := Row.new w1 53 #[.string N, .string V]
          have s2 : (w1.alloc (.cells #[.string N, .string V] 53)).cell? ⟨w1.heap.size, 0, none⟩ = some (.string N) := RG.cell 0
          have s3 : (w1.alloc (.cells #[.string N, .string V] 53)).cell? ⟨w1.heap.size, 1, none⟩ = some (.string V) := RG.cell 1
          clear hb1 hb2 HP RF RF1 RG
          go_upto_region 5 with fail
          generalize w1.alloc (.cells #[.string N, .string V] 53) = w2 at *
          go_wp2_with fail
          go_roundw
          case rel => exact ⟨j + 1, hlt, by go_num, HN, HB1⟩
          case measure => simp [intOf]; omega
        · have hcase : (decide (gn = n) = false) ∨ (decide (gn = n) = true ∧ decide (gv = v) = false) := by
            by_cases h1 : gn = n
            · exact .inr ⟨decide_eq_true h1, decide_eq_false (fun h2 => hg (by rw [h1, h2]))⟩
            · exact .inl (decide_eq_false h1)
          generalize decide (gn = n) = b1 at *
          generalize decide (gv = v) = b2 at *
          generalize hx2 : bs (n ++ [58, 32] ++ v) = x2 at *
          generalize hx1 : bs (n ++ [58, 32]) = x1 at *
          generalize bs n = N at *
          generalize bs v = V at *
          generalize bs gn = GN at *
          generalize bs gv = GV at *
          clear hx1 hx2 hcell hfe hst hp e58 hbk hc hg eN eV
          rcases hcase with rfl | ⟨rfl, rfl⟩
          all_goals
            go_wp2_with fail
            with_reducible refine (HP.out _).mono ?_
            rintro e w1 ⟨rfl, hb1⟩
            have RF1 := (RF.below hb1).alloc (.cells #[.string GN, .string GV] 53)
            have hb2 := (HBA.out.trans (hb1.mono HBA.out.size)).alloc (HBA.out.trans (hb1.mono HBA.out.size)).size (.cells #[.string GN, .string GV] 53)
            have HB1 := Lib.hid hb2
            have s0 : (w1.alloc (.cells #[.string GN, .string GV] 53)).cell? ⟨wr.heap.size, 0, none⟩ = some (.string N) := RF1.cell 0
            have s1 : (w1.alloc (.cells #[.string GN, .string GV] 53)).cell? ⟨wr.heap.size, 1, none⟩ = some (.string V) := RF1.cell 1
            have RG := Row.new w1 53 #[.string GN, .string GV]
            have s2 : (w1.alloc (.cells #[.string GN, .string GV] 53)).cell? ⟨w1.heap.size, 0, none⟩ = some (.string GN) := RG.cell 0
            have s3 : (w1.alloc (.cells #[.string GN, .string GV] 53)).cell? ⟨w1.heap.size, 1, none⟩ = some (.string GV) := RG.cell 1
            clear hb1 hb2 HP RF RF1 RG
            go_upto_region 5 with fail
            generalize w1.alloc (.cells #[.string GN, .string GV] 53) = w2 at *
            go_wp2_with fail
            go_ret
            exact HNO.out _ (L0.out.trans (HB1.out.mono L0.out.size))
    · obtain rfl : j = fs.length := by omega
      have hall2 := hall.out
      rw [List.take_of_length_le (Nat.le_refl _)] at hall2
      have HALL := Lib.hid hall2
      have RM := R0.out.below hb.out
      have r0 : wr.cell? ⟨w.heap.size, 0, none⟩ = some (.string mm) := RM.cell 0
      have r1 : wr.cell? ⟨w.heap.size, 1, none⟩ = some (.string tt) := RM.cell 1
      have r2 : wr.cell? ⟨w.heap.size, 2, none⟩ = some (.slice a fs.length c) := RM.cell 2
      have FW := Lib.hid ((HF.out.below L0.out).below hb.out)
      have RMH := Lib.hid RM
      clear hall hall2 RM
      go_wp2_with fail
      with_reducible refine (HAL.out wr FW.out).mono ?_
      rintro e w1 ⟨u1, rfl, ho1, hb1⟩
      obtain ⟨H, hH⟩ : ∃ H, H = allB (⟨#[104, 111, 115, 116]⟩ : ByteArray) fs := ⟨_, rfl⟩
      rw [← hH] at ho1
      have HH := Lib.hid hH
      obtain ⟨nH, hnH⟩ : ∃ nH, nH = H.length := ⟨_, rfl⟩
      have hnb : nH ≤ 1000000 := by rw [hnH, hH]; exact Nat.le_trans (allB_len _ _) hfl
      have ho1' := own_len ho1 hnH.symm
      obtain ⟨a1, c1, rfl⟩ := own_slice ho1'
      have S1 := isStrs_of_row ho1' hnH.symm
      have RM1 := RMH.out.below hb1
      have r2 : w1.cell? ⟨w.heap.size, 2, none⟩ = some (.slice a fs.length c) := RM1.cell 2
      have F1 := Lib.hid (FW.out.below hb1)
      have B1 := Lib.hid (hb.out.trans (hb1.mono hb.out.size))
      have HNH := Lib.hid hnH
      have RM1H := Lib.hid RM1
      clear ho1 ho1' hb1 HAL FW RM1 hH hnH RMH hb
      go_wp2_with fail
      with_reducible refine (HOF.out w1 F1.out).mono ?_
      rintro e w2 ⟨k, n, e2, rfl, hke, hk00, hb2⟩
      have RM2 := RM1H.out.below hb2
      have r0 : w2.cell? ⟨w.heap.size, 0, none⟩ = some (.string mm) := RM2.cell 0
      have r1 : w2.cell? ⟨w.heap.size, 1, none⟩ = some (.string tt) := RM2.cell 1
      have r3 : w2.cell? ⟨w.heap.size, 3, none⟩ = some (.string bb) := RM2.cell 3
      have r4 : w2.cell? ⟨w.heap.size, 4, none⟩ = some (.int .i64 kk) := RM2.cell 4
      have S2 := Lib.hid (S1.below hb2)
      have B2 := Lib.hid (L0.out.trans ((B1.out.trans (hb2.mono B1.out.size)).mono L0.out.size))
      have HKE := Lib.hid hke
      clear RM2 RM1H hb2 S1 B1 HOF hke r2
      go_wp2_with fail
      with_reducible refine (HTK.out w2).mono ?_
      rintro e w' ⟨rfl, rfl⟩
      cases qm
      · go_wp2_with fail
        go_ret
        exact HNO.out _ B2.out
      · go_wp2_with fail
        with_reducible refine (HTG.out w2).mono ?_
        rintro e w' ⟨rfl, rfl⟩
        cases qt
        · go_wp2_with fail
          go_ret
          exact HNO.out _ B2.out
        · by_cases hn1 : nH = 1
          · subst hn1
            obtain h0 | ⟨bk, o, rfl, hbk, hcc, hcell⟩ := S2.out
            · exfalso; have := HNH.out; rw [h0] at this; simp at this
            have hl1 : 0 < H.length := by have := HNH.out; omega
            have cj : w2.cell? ⟨bk, o, none⟩ = some (.string H[0]) := hcell 0 H[0] (by simp [hl1])
            have hH1 : H = [H[0]] := by
              have h1 := HNH.out
              match H, h1 with
              | [x], _ => rfl
            obtain ⟨h0, hh0⟩ : ∃ h0, h0 = H[0] := ⟨_, rfl⟩
            rw [← hh0] at cj hH1
            have HH1 := Lib.hid hH1
            have hc1 : 1 ≤ c1 := by have := HNH.out; omega
            clear hcell hh0 hl1 hcc hbk hH1
            by_cases hne : 0 < h0.size
            · have e1 := emp_false h0 hne
              by_cases he2 : e2 = 0
              · subst he2
                by_cases hkk : k = kk
                · subst hkk
                  by_cases hk2 : k < 2
                  · have u2 : decide (k < 2) = true := decide_eq_true hk2
                    by_cases hn0 : n = (bb.size : Int)
                    · have YES : PlainIsL m t fs bb k := by
                        refine ⟨HALL.out, HM.out, HT.out, ⟨h0, by rw [← HH1.out, HH.out]; rfl, hne⟩, ?_⟩
                        by_cases hk0 : k = 0
                        · subst hk0
                          obtain ⟨_, q2, q3⟩ := HKE.out rfl rfl
                          exact .inl ⟨rfl, q2, by rw [q3] at hn0; omega⟩
                        · exact .inr (by omega)
                      have HYES := Lib.hid YES
                      subst hn0
                      clear YES
                      go_wp2_with fail
                      go_ret
                      exact ⟨_, rfl, fun _ => HYES.out, B2.out⟩
                    · have u3 : (n == (bb.size : Int)) = false := beq_eq_false_iff_ne.2 hn0
                      go_wp2_with fail
                      go_ret
                      exact HNO.out _ B2.out
                  · have u2 : decide (k < 2) = false := decide_eq_false hk2
                    go_wp2_with fail
                    go_ret
                    exact HNO.out _ B2.out
                · have u1 : (k == kk) = false := beq_eq_false_iff_ne.2 hkk
                  go_wp2_with fail
                  go_ret
                  exact HNO.out _ B2.out
              · have u1 : (e2 == 0) = false := beq_eq_false_iff_ne.2 he2
                go_wp2_with fail
                go_ret
                exact HNO.out _ B2.out
            · obtain rfl := empty_of h0 hne
              go_wp2_with fail
              go_ret
              exact HNO.out _ B2.out
          · have u1 : ((nH : Int) == 1) = false := beq_eq_false_iff_ne.2 (by omega)
            go_wp2_with fail
            go_ret
            exact HNO.out _ B2.out
end Go.Proofs.YtbbphklhnngjmaaGreatDoor

/- The walk of the statement FieldsParse. -/
namespace Go.Proofs.YtbbphklhnngjmaaGreatDoor
open Go.RowKit

theorem parseL_some {l n v : List UInt8} (h : parseL l = some (n, v)) : tokB n = true ∧ valB v = true ∧ n.length ≤ l.length ∧ v.length ≤ l.length := by
  unfold parseL at h
  simp only at h
  split at h
  · next hh =>
    obtain ⟨_, h1, h2⟩ := hh
    injection h with h
    injection h with e1 e2
    subst e1 e2
    refine ⟨h1, h2, by rw [List.length_take]; omega, Nat.le_trans (trimB_length _) (by rw [List.length_drop]; omega)⟩
  · cases h
theorem tok_no58 {n : List UInt8} (h : tokB n = true) : (58 : UInt8) ∉ n := by
  intro hm
  unfold tokB at h
  rw [Bool.and_eq_true, List.all_eq_true] at h
  exact absurd (h.2 58 hm) (by decide +kernel)
theorem parse_back {n v : List UInt8} (hn : tokB n = true) (hv : valB v = true) : parseL (n ++ [58, 32] ++ v) = some (n, v) := by
  have e : n ++ [58, 32] ++ v = n ++ (58 :: 32 :: v) := by simp
  have hi : Lib.indexByte (n ++ (58 :: 32 :: v)) 58 = (n.length : Int) := ib_at 58 _ n.length (by rw [List.take_left']; exact tok_no58 hn; rfl) (by simp)
  have ht : trimB v = v := by
    unfold valB at hv
    rw [Bool.and_eq_true] at hv
    exact of_decide_eq_true hv.1
  have h1 : (n ++ (58 :: 32 :: v)).take n.length = n := by rw [List.take_left']; rfl
  have h2 : (n ++ (58 :: 32 :: v)).drop (n.length + 1) = 32 :: v := by
    rw [← List.drop_drop, List.drop_left']
    · rfl
    · rfl
  rw [e]
  unfold parseL
  simp only [hi, Int.toNat_natCast, h1, h2]
  rw [trimB_left 32 v (by decide +kernel), ht, if_pos ⟨by omega, hn, hv⟩]
theorem self_str (T : ByteArray) : (T.toList == T.toList) = true := by simp
theorem line_cut (n v : List UInt8) : (bs (lineL (n, v))).extract 0 ((lineL (n, v)).length - 2) = bs (n ++ [58, 32] ++ v) := by
  rw [extractC]
  apply ByteArray.ext
  show ((lineL (n, v)).drop 0 |>.take ((lineL (n, v)).length - 2 - 0)).toArray = _
  rw [List.drop_zero, Nat.sub_zero]
  have e : lineL (n, v) = (n ++ [58, 32] ++ v) ++ [13, 10] := rfl
  have hl : (lineL (n, v)).length - 2 = (n ++ [58, 32] ++ v).length := by rw [e, List.length_append]; rfl
  rw [hl, e, List.take_left']
  · rfl
  · rfl
end Go.Proofs.YtbbphklhnngjmaaGreatDoor

/- rewrite: what goes to a backend can be read there (lists). -/
namespace Go.Proofs.YtbbphklhnngjmaaGreatDoor
open Go.RowKit

section
variable {x : ByteArray} {n v : List UInt8} {fs : List Fld} {toks : List ByteArray}
theorem isB_eq (x : ByteArray) (f : Fld) : isB x f = decide (f.1.map lowC = x.data.toList.map lowC) := rfl
theorem hasB_one (n : List UInt8) (f : Fld) : hasB [bs n] f = decide (n.map lowC = f.1.map lowC) := by
  unfold hasB
  rw [List.any_cons, List.any_nil, Bool.or_false, bs_list]
theorem fil_drop (hne : n.map lowC ≠ x.data.toList.map lowC) (l : List Fld) : (dropL [bs n] l).filter (isB x) = l.filter (isB x) := by
  unfold dropL
  rw [List.filter_filter]
  refine List.filter_congr fun f _ => ?_
  rw [hasB_one, isB_eq]
  by_cases h : f.1.map lowC = x.data.toList.map lowC
  · rw [h, decide_eq_false hne]; simp
  · rw [decide_eq_false h]; rfl
theorem fil_set (hne : n.map lowC ≠ x.data.toList.map lowC) (fs : List Fld) : (setF n v fs).filter (isB x) = fs.filter (isB x) := by
  have hnv : isB x (n, v) = false := decide_eq_false hne
  unfold setF
  simp only
  rcases findI_cases [bs n] fs with ⟨hi, hno⟩ | ⟨i, hil, hi, hyes, hno⟩
  · rw [hi, if_neg (by decide), List.filter_append]
    simp [hnv]
  · rw [hi, if_pos (by omega), Int.toNat_natCast, List.filter_append, List.filter_cons_of_neg (by rw [hnv]; decide), fil_drop hne]
    have hx : isB x fs[i] = false := by
      rw [hasB_one] at hyes
      have := of_decide_eq_true hyes
      exact decide_eq_false (by rw [← this]; exact hne)
    have e : fs = fs.take i ++ fs[i] :: fs.drop (i + 1) := by rw [List.getElem_cons_drop, List.take_append_drop]
    conv => rhs; rw [e, List.filter_append, List.filter_cons_of_neg (by rw [hx]; decide)]
theorem fil_none (h : ∀ f ∈ fs, hasB [bs n] f = false) (he : n.map lowC = x.data.toList.map lowC) : fs.filter (isB x) = [] := by
  rw [List.filter_eq_nil_iff]
  intro f hf
  have := h f hf
  rw [hasB_one, he] at this
  rw [isB_eq]
  have h2 := of_decide_eq_false this
  simp only [decide_eq_true_eq]
  exact fun k => h2 k.symm
theorem fil_same (he : n.map lowC = x.data.toList.map lowC) (fs : List Fld) : (setF n v fs).filter (isB x) = [(n, v)] := by
  have hnv : isB x (n, v) = true := decide_eq_true he
  unfold setF
  simp only
  rcases findI_cases [bs n] fs with ⟨hi, hno⟩ | ⟨i, hil, hi, hyes, hno⟩
  · rw [hi, if_neg (by decide), List.filter_append, fil_none hno he]
    simp [hnv]
  · rw [hi, if_pos (by omega), Int.toNat_natCast, List.filter_append, fil_none hno he, List.nil_append, List.filter_cons_of_pos hnv]
    congr 1
    refine fil_none (n := n) (fun f hf => ?_) he
    unfold dropL at hf
    have := (List.mem_filter.1 hf).2
    simpa using this
theorem fil_keep (hx : ∀ f : Fld, f.1.map lowC = x.data.toList.map lowC → hopR f.1 toks = false) (fs : List Fld) : (hopsR toks fs).filter (isB x) = fs.filter (isB x) := by
  unfold hopsR
  rw [List.filter_filter]
  refine List.filter_congr fun f _ => ?_
  rw [isB_eq]
  by_cases h : f.1.map lowC = x.data.toList.map lowC
  · rw [hx f h]; simp
  · rw [decide_eq_false h]; rfl
theorem fil_gone (hx : ∀ f : Fld, f.1.map lowC = x.data.toList.map lowC → hopR f.1 toks = true) (fs : List Fld) : (hopsR toks fs).filter (isB x) = [] := by
  rw [List.filter_eq_nil_iff]
  intro f hf
  have := (List.mem_filter.1 hf).2
  rw [isB_eq]
  simp only [decide_eq_true_eq]
  intro h
  rw [hx f h] at this
  simp at this
theorem hop_nine {f : Fld} (h : f.1.map lowC ∈ nineR) : hopR f.1 toks = true := by
  unfold hopR
  rw [Bool.or_eq_true, List.any_eq_true]
  exact .inl ⟨_, h, decide_eq_true rfl⟩
theorem hop_stay {f : Fld} (h9 : f.1.map lowC ∉ nineR) (hk : f.1.map lowC = hostB.data.toList.map lowC ∨ f.1.map lowC = clenB.data.toList.map lowC) : hopR f.1 toks = false := by
  unfold hopR
  rw [Bool.or_eq_false_iff]
  constructor
  · rw [List.any_eq_false]
    intro h hh
    simp only [decide_eq_true_eq]
    exact fun e => h9 (e ▸ hh)
  · rw [List.any_eq_false]
    intro t _
    simp only [decide_eq_true_eq]
    rintro ⟨e, e1, e2⟩
    rcases hk with hk | hk
    · exact e1 (by rw [← e, hk])
    · exact e2 (by rw [← e, hk])
end
theorem allB_fil (x : ByteArray) (fs : List Fld) : allB x fs = (fs.filter (isB x)).map fun f => bs f.2 := rfl
section
variable (FS : List Fld) (cl : List UInt8) (K : Int) (bl : Nat)
theorem req_host : allB hostN (reqF FS cl K bl) = allB hostN FS := by
  have h1 : (reqG FS cl).filter (isB hostN) = FS.filter (isB hostN) := by
    unfold reqG hopsF
    rw [List.filter_append, fil_set (by decide +kernel), fil_keep (fun f h => hop_stay (by rw [h]; decide +kernel) (.inl (by rw [h]; rfl)))]
    rw [show [viaF].filter (isB hostN) = [] by decide +kernel, List.append_nil]
  rw [allB_fil, allB_fil]
  congr 1
  unfold reqF
  split
  · exact h1
  · rw [fil_set (by decide +kernel), h1]
theorem req_gone (x : ByteArray) (hx : x.data.toList.map lowC ∈ nineR) (h1 : xffN.map lowC ≠ x.data.toList.map lowC) (h2 : clenN.map lowC ≠ x.data.toList.map lowC) (h3 : isB x viaF = false) : (reqF FS cl K bl).filter (isB x) = [] := by
  have h : (reqG FS cl).filter (isB x) = [] := by
    unfold reqG hopsF
    rw [List.filter_append, fil_set h1, fil_gone (fun f h => hop_nine (by rw [h]; exact hx))]
    simp [h3]
  unfold reqF
  split
  · exact h
  · rw [fil_set h2, h]
theorem req_enc : allB encN (reqF FS cl K bl) = [] := by
  rw [allB_fil, req_gone FS cl K bl encN (by decide +kernel) (by decide +kernel) (by decide +kernel) (by decide +kernel)]
  rfl
theorem req_len0 (h : K = 0) : allB lenN (reqF FS cl K bl) = allB lenN FS := by
  have h1 : (reqG FS cl).filter (isB lenN) = FS.filter (isB lenN) := by
    unfold reqG hopsF
    rw [List.filter_append, fil_set (by decide +kernel), fil_keep (fun f h => hop_stay (by rw [h]; decide +kernel) (.inr (by rw [h]; rfl)))]
    rw [show [viaF].filter (isB lenN) = [] by decide +kernel, List.append_nil]
  rw [allB_fil, allB_fil]
  congr 1
  unfold reqF
  rw [if_pos h, h1]
theorem req_len1 (h : K ≠ 0) : allB lenN (reqF FS cl K bl) = [bs (prtI 10 (bl : Int))] := by
  rw [allB_fil]
  unfold reqF
  rw [if_neg h, fil_same (by decide +kernel)]
  rfl
/-- No field of these names is left. -/
theorem req_no (x : ByteArray) (h : (reqF FS cl K bl).filter (isB x) = []) : ∀ f ∈ reqF FS cl K bl, f.1.map lowC ≠ x.data.toList.map lowC := by
  intro f hf he
  have := List.filter_eq_nil_iff.1 h f hf
  rw [isB_eq, decide_eq_true he] at this
  exact this rfl
end
/-- A value that is read as it is written. -/
theorem val_of {l : List UInt8} {c d : UInt8} (ha : l.all isVal = true) (hc : l.head? = some c) (hd : l.getLast? = some d) (h1 : isBlk c = false) (h2 : isBlk d = false) : valB l = true := by
  unfold valB
  rw [trimB_stay l c d hc hd h1 h2, ha, decide_eq_true rfl]
  rfl
def clientL : List UInt8 := [99, 108, 105, 101, 110, 116]
theorem who_val : ∀ (vs : List ByteArray), (∀ v ∈ vs, valB v.data.toList = true) → (whoL vs clientL).all isVal = true ∧ (∃ c, (whoL vs clientL).head? = some c ∧ isBlk c = false) ∧ (whoL vs clientL).getLast? = some 116
  | [], _ => ⟨by decide +kernel, ⟨99, rfl, by decide +kernel⟩, rfl⟩
  | v :: r, h => by
    obtain ⟨h1, _, h3⟩ := who_val r (fun y hy => h y (List.mem_cons_of_mem _ hy))
    have hv := h v (List.mem_cons_self ..)
    have e : whoL (v :: r) clientL = v.data.toList ++ (44 :: 32 :: whoL r clientL) := by
      unfold whoL
      simp
    rw [e]
    have hv2 : valB v.data.toList = true := hv
    unfold valB at hv
    rw [Bool.and_eq_true] at hv
    refine ⟨?_, ?_, ?_⟩
    · rw [List.all_append, hv.2, List.all_cons, List.all_cons, h1]
      decide +kernel
    · cases hl : v.data.toList with
      | nil => exact ⟨44, rfl, by decide +kernel⟩
      | cons c q => exact ⟨c, rfl, trimB_fix_head v.data.toList c (by rw [hl]; rfl) (of_decide_eq_true hv.1)⟩
    · rw [List.getLast?_append]
      have : (44 :: 32 :: whoL r clientL).getLast? = some 116 := by
        rw [List.getLast?_cons, List.getLast?_cons, h3]
        rfl
      rw [this]
      rfl
theorem fok_of {n v : List UInt8} (hn : tokB n = true) (hv : valB v = true) : FOk (n, v) := parse_back hn hv
theorem dig_val : ∀ n : Fin 61, valB (prtI 10 ((n.val : Nat) : Int)) = true ∧ numR 10 10 isDec (prtI 10 ((n.val : Nat) : Int)) 100 = (((n.val : Nat) : Int), 0) := by decide +kernel
theorem req_fok {FS : List Fld} (hF : ∀ f ∈ FS, FOk f) (K : Int) (bl : Nat) (hbl : bl ≤ 60) : ∀ f ∈ reqF FS clientL K bl, FOk f := by
  have hw : FOk (xffN, whoL (allB xffB (hopsF FS)) clientL) := by
    obtain ⟨h1, ⟨c, h2, h3⟩, h4⟩ := who_val (allB xffB (hopsF FS)) (fun v hv => by
      unfold allB at hv
      obtain ⟨f, hf, rfl⟩ := List.mem_map.1 hv
      rw [bs_list]
      exact (fok_parts (hF f (hopsR_mem (List.mem_filter.1 hf).1))).2)
    exact fok_of (by decide +kernel) (val_of h1 h2 h4 h3 (by decide +kernel))
  have hG : ∀ f ∈ reqG FS clientL, FOk f := by
    intro f hf
    unfold reqG at hf
    rcases List.mem_append.1 hf with hf | hf
    · rcases setF_memR hf with rfl | hf
      · exact hw
      · exact hF f (hopsR_mem hf)
    · obtain rfl := List.mem_singleton.1 hf
      exact fok_of (by decide +kernel) (by decide +kernel)
  intro f hf
  unfold reqF at hf
  split at hf
  · exact hG f hf
  · rcases setF_memR hf with rfl | hf
    · exact fok_of (by decide +kernel) (dig_val ⟨bl, by omega⟩).1
    · exact hG f hf
theorem textL_app (a b : List Fld) : textL (a ++ b) = textL a ++ textL b := by unfold textL; simp
theorem textL_sub {a b : List Fld} (h : a.Sublist b) : (textL a).length ≤ (textL b).length := by
  induction h with
  | slnil => exact Nat.le_refl _
  | cons f _ ih => rw [textL_len]; omega
  | cons_cons f _ ih => rw [textL_len, textL_len]; omega
theorem textL_one (n v : List UInt8) : (textL [(n, v)]).length = n.length + v.length + 4 := by
  rw [textL_len]
  simp [textL]
  omega
theorem textL_set (n v : List UInt8) (fs : List Fld) : (textL (setF n v fs)).length ≤ (textL fs).length + (n.length + v.length + 4) := by
  unfold setF
  simp only
  split
  · rename_i hi
    have e : fs.take (findI [bs n] fs).toNat ++ ((n, v) :: dropL [bs n] (fs.drop ((findI [bs n] fs).toNat + 1))) = fs.take (findI [bs n] fs).toNat ++ ([(n, v)] ++ dropL [bs n] (fs.drop ((findI [bs n] fs).toNat + 1))) := rfl
    rw [e, textL_app, textL_app, List.length_append, List.length_append, textL_one]
    have h1 : (textL (fs.take (findI [bs n] fs).toNat ++ dropL [bs n] (fs.drop ((findI [bs n] fs).toNat + 1)))).length ≤ (textL fs).length := by
      refine textL_sub ?_
      conv => rhs; rw [← List.take_append_drop (findI [bs n] fs).toNat fs]
      refine List.Sublist.append (List.Sublist.refl _) ?_
      unfold dropL
      refine List.Sublist.trans List.filter_sublist ?_
      rw [← List.drop_drop]
      exact List.drop_sublist 1 _
    rw [textL_app, List.length_append] at h1
    omega
  · rw [textL_app, List.length_append, textL_one]
    exact Nat.le_refl _
end Go.Proofs.YtbbphklhnngjmaaGreatDoor

/- rewrite: a request that was sent on is read by a parser. -/
namespace Go.Proofs.YtbbphklhnngjmaaGreatDoor
open Go.RowKit

/-- A request that may be, before it is sent on. -/
structure SentIs (m t bd : List UInt8) (FS : List Fld) (K : Int) : Prop where
  fok : ∀ f ∈ FS, FOk f
  hm : tokB m = true
  ht : tgtB t = true
  host : ∃ h0, allB hostR FS = [h0] ∧ 0 < h0.size
  kind : K = 0 → allB lenR FS = [] ∧ bd = []
  fl : FS.length ≤ 9
  fz : ∀ f ∈ FS, f.1.length ≤ 20 ∧ f.2.length ≤ 40
  ml : m.length ≤ 20
  tl : t.length ≤ 40
  bl : bd.length ≤ 60
def limM : HdL := ⟨500, 2000, 40⟩
theorem SentIs.smf {m t bd : List UInt8} {FS : List Fld} {K : Int} (h : SentIs m t bd FS K) : SmF FS 1000 10000 := ⟨by have := h.fl; omega, fun f hf => ⟨by have := (h.fz f hf).1; omega, by have := (h.fz f hf).2; omega⟩⟩
theorem SentIs.text {m t bd : List UInt8} {FS : List Fld} {K : Int} (h : SentIs m t bd FS K) : (textL (reqF FS clientL K bd.length)).length ≤ 2000 ∧ (reqF FS clientL K bd.length).length ≤ 40 := by
  have h0 : (textL (hopsF FS)).length ≤ FS.length * 64 := by
    refine Nat.le_trans (textL_sub (hopsR_sub _ FS)) ?_
    exact textL_small FS h.fz
  have hHl : (hopsF FS).length ≤ 9 := Nat.le_trans (hopsR_len _ FS) h.fl
  have hw : (whoL (allB xffB (hopsF FS)) clientL).length ≤ 400 := by
    have h1 := whoL_len (allB xffB (hopsF FS)) clientL
    have h2 := SmF.sum (k := 9) (m := 40) (fs := hopsF FS) ⟨hHl, fun f hf => ⟨by have := (h.fz f (hopsR_mem hf)).1; omega, (h.fz f (hopsR_mem hf)).2⟩⟩ xffB
    have h3 := allB_lenR xffB (hopsF FS)
    have h4 : clientL.length = 6 := rfl
    omega
  have hg1 : (textL (reqG FS clientL)).length ≤ 1100 := by
    unfold reqG
    rw [textL_app, List.length_append]
    have h1 := textL_set xffN (whoL (allB xffB (hopsF FS)) clientL) (hopsF FS)
    have h2 : xffN.length = 15 := rfl
    have h3 : (textL [viaF]).length = 18 := rfl
    have := h.fl
    omega
  have hg2 : (reqG FS clientL).length ≤ 11 := by
    unfold reqG
    rw [List.length_append]
    have := setF_len xffN (whoL (allB xffB (hopsF FS)) clientL) (hopsF FS)
    have h3 : [viaF].length = 1 := rfl
    omega
  unfold reqF
  split
  · exact ⟨by omega, by omega⟩
  · have h1 := textL_set clenN (prtI 10 (bd.length : Int)) (reqG FS clientL)
    have h2 := prtI_short (bd.length : Int)
    have h3 : clenN.length = 14 := rfl
    have h4 := setF_len clenN (prtI 10 (bd.length : Int)) (reqG FS clientL)
    exact ⟨by omega, by omega⟩
theorem sent_frames {m t bd : List UInt8} {FS : List Fld} {K : Int} (h : SentIs m t bd FS K) : Frames 100 (reqF FS clientL K bd.length) (reqK K) (bd.length : Int) := by
  by_cases hk : K = 0
  · obtain ⟨h1, h2⟩ := h.kind hk
    refine .inl ⟨by unfold reqK; rw [if_pos hk], by rw [h2]; rfl, req_enc .., ?_⟩
    rw [req_len0 FS clientL K bd.length hk, ← h1]
    exact allB_case (by decide +kernel) FS
  · refine .inr ⟨by unfold reqK; rw [if_neg hk], req_enc .., bs (prtI 10 (bd.length : Int)), req_len1 FS clientL K bd.length hk, fun W hW => ?_⟩
    have hb := h.bl
    have e := dec_any (bs (prtI 10 (bd.length : Int))) (by rw [bs_size]; have := prtI_short (bd.length : Int); omega) 100 W hW
    rw [bs_list, (dig_val ⟨bd.length, by omega⟩).2] at e
    exact e
theorem sent_feed (m t bd : List UInt8) (FS : List Fld) (K : Int) (h : SentIs m t bd FS K) (G : Nat → Prop) (g : Nat) (w : World) (hp : HeS G 108 (paR ⟨#[]⟩ ⟨#[]⟩ (.slice none 0 0) false 0) w g limM 100 hd0) (hu : Up G w) (hM : ∀ w', Keep G w w' → MaxL w') (hY : ∀ w', Keep G w w' → Syn w') :
    Calls Tryz.prog 22 #[.pointer (some ⟨g, 0, none⟩), .string (bs (reqLine (m, t) ++ textL (reqF FS clientL K bd.length) ++ [13, 10] ++ bd))] w (FeedB G w m t bd (reqF FS clientL K bd.length) (reqK K)) := by
  have hfr := sent_frames h
  obtain ⟨hx1, hx2⟩ := h.text
  have hfok := req_fok h.fok K bd.length h.bl
  obtain ⟨h0, hh, hh0⟩ := h.host
  have hho : allB hostN (reqF FS clientL K bd.length) = [h0] := by
    rw [req_host, ← hh]
    exact allB_case (by decide +kernel) FS
  have hok : ∀ f ∈ reqF FS clientL K bd.length, FldOk f := by
    have hs : SmF (reqF FS clientL K bd.length) 1003 20000000 := by
      have hG := h.smf.reqG (cl := clientL) (by decide)
      unfold reqF
      split
      · exact hG.more (by decide) (Nat.le_refl _)
      · exact hG.set (by decide) (by have := prtI_short (bd.length : Int); omega)
    exact hs.ok (by decide)
  generalize reqF FS clientL K bd.length = GS at *
  have hc := ln_clean m t h.hm h.ht
  have hlen : (lnL m t).length ≤ 100 := by
    have h1 := h.ml
    have h2 := h.tl
    have h3 : sfxL.length = 9 := rfl
    unfold lnL
    simp only [List.length_append, List.length_cons]
    omega
  have hbl := h.bl
  obtain ⟨l1, hl1⟩ : ∃ l1, l1 = textL GS ++ ([13, 10] ++ bd) := ⟨_, rfl⟩
  have e : reqLine (m, t) ++ textL GS ++ [13, 10] ++ bd = lnL m t ++ 13 :: 10 :: l1 := by
    rw [reqLine_ln, hl1]
    simp
  have hl1z : l1.length ≤ 2100 := by
    rw [hl1]
    simp only [List.length_append, List.length_cons, List.length_nil]
    omega
  rw [e]
  have hrun : ∀ r, hRun limM (.line (some (lnL m t)) [] 0 [] false) (textL GS ++ r) = hRun limM (.line (some (lnL m t)) GS (textL GS).length [] false) r := by
    intro r
    rw [run_flds_ok limM (lnL m t) GS [] 0 r hfok (by show _ ≤ max (0 : Int) 2000; omega) (by rw [List.length_nil]; show _ ≤ max (0 : Int) 40; omega)]
    simp
  obtain ⟨t', e1, e2, e3⟩ := run_whole (L := limM) (may := anyFirst) (fo := some (lnL m t)) (fs := GS) (sz := (textL GS).length) (r := 13 :: 10 :: bd) (s := []) (rl_crlf ..)
  obtain rfl : bd = t' := by simpa using e1
  have hcl : limM.close anyFirst (some (lnL m t)) GS (textL GS).length [] = .done (lnL m t) GS := by simp [HdL.close]
  rw [hcl] at e2 e3
  refine pfeedB G g limM 100 m t (lnL m t ++ 13 :: 10 :: l1) l1 bd (lnL m t) (.line (some (lnL m t)) [] 0 [] false) GS (reqK K) (bd.length : Int) h0 (by simp) ?_ ?_ ?_ rfl rfl (req_back m t h.hm h.ht) (by show (lnL m t).length ≤ _; omega) ?_ ?_ ?_ ?_ (by omega) hok hho hh0 hfr rfl w hp hu hM hY
  · simp only [List.length_append, List.length_cons]; omega
  · rw [ln_nl m t hc, take_ln, ln_run limM m t hc, if_pos (by show _ ≤ max (0 : Int) 500; omega)]
  · rw [ln_nl m t hc, drop_ln]
  · rw [hl1]; simp
  · show 0 + 0 + 0 + 4 * _ ≤ _
    omega
  · rw [hl1, hrun]
    show hdRun limM anyFirst _ (13 :: 10 :: bd) = _
    rw [e2]
    exact mRun_fin _ _ (hd_fin limM anyFirst) _ rfl bd
  · rw [hl1]
    have hr0 := hrun []
    rw [List.append_nil] at hr0
    show mLeft _ _ _ _ = _
    rw [mLeft_app _ _ (hd_fin limM anyFirst) _ _ _ (by rw [show mRun (limM.step anyFirst) (.line (some (lnL m t)) [] 0 [] false) (textL GS) = _ from hr0]; rfl), show mRun (limM.step anyFirst) (.line (some (lnL m t)) [] 0 [] false) (textL GS) = _ from hr0]
    show hdLeft limM anyFirst (.line (some (lnL m t)) GS (textL GS).length [] false) (13 :: 10 :: bd) = _
    rw [e3]
    exact mLeft_fin _ _ _ bd rfl
end Go.Proofs.YtbbphklhnngjmaaGreatDoor

