/- The walk of the statement RewriteAnswers, the connection stays (written by genlawra2.py). -/
import Derived.Test.YtbbphklhnngjmaaGreatDoorV01
namespace Go.Proofs.YtbbphklhnngjmaaGreatDoor
open Go.RowKit

set_option maxRecDepth 100000 in
set_option maxHeartbeats 16000000 in
theorem lawRaF (kc : Int) (tt bb : ByteArray) (kk : Int) (me co : ByteArray) (a : Option Addr) (c : Nat) (fs : List Fld) (hfl : fs.length ≤ 9223372036854775807) (w : World) (hw : LaidS w) (hf : IsFlds w a c fs) :
    Calls Tryz.prog 6 #[.agg #[.int .i64 kc, .string tt, .slice a fs.length c, .string bb, .int .i64 kk, .string me, .string co, .bool false]] w fun e w' => e = .returned (.bool true) ∧ Below w.heap.size w w' := by
  have HAN := Lib.hid (fun W h => answers26 kc tt bb kk a c fs hfl W h)
  have hrz : (cutS tt 20).size ≤ 20 := cutS_size tt 20
  have hbz : (cutS bb 60).size ≤ 60 := cutS_size bb 60
  have hsm := fewF_smF fs 8 (by decide)
  have hsz := fewF_small fs 8
  have hl8 := fewF_length fs 8
  generalize cutS tt 20 = r2 at *
  generalize cutS bb 60 = b2 at *
  obtain ⟨FF, hFF⟩ : ∃ X, X = fewF fs 8 := ⟨_, rfl⟩
  rw [← hFF] at HAN hsm hsz hl8
  obtain ⟨m, hm⟩ : ∃ m, m = FF.length := ⟨_, rfl⟩
  obtain ⟨n, hn⟩ : ∃ n, n = fs.length := ⟨_, rfl⟩
  rw [← hn] at HAN ⊢
  rw [← hm] at HAN
  have HMM := Lib.hid hm
  clear hm
  obtain ⟨qv, hqv⟩ : ∃ qv, valB r2.data.toList = qv := ⟨_, rfl⟩
  have HVA := Lib.hid (fun W => value19 r2 (by omega) qv hqv W)
  have HQV := Lib.hid hqv
  have HSM := Lib.hid hsm
  have HSZ := Lib.hid hsz
  have HL8 := Lib.hid hl8
  have HRZ := Lib.hid hrz
  have HBZ := Lib.hid hbz
  have R0 := Row.new w 67 #[.int .i64 kc, .string tt, .slice a n c, .string bb, .int .i64 kk, .string me, .string co, .bool false]
  have L0 := below_alloc w (.cells #[.int .i64 kc, .string tt, .slice a n c, .string bb, .int .i64 kk, .string me, .string co, .bool false] 67)
  have HF := Lib.hid (hf.below L0)
  have HW := Lib.hid (hw.below L0)
  have HWW := Lib.hid hw
  have HAW := Lib.hid (fun W h => awake13 W h)
  clear hf hw hFF hn hfl hqv hrz hbz hsm hsz
  go_enter Tryz.func6, Tryz.ntmps6
  go_upto_region 1 with fail
  obtain ⟨bT, hbT⟩ : ∃ bT, bT = w.heap.size := ⟨_, rfl⟩
  have HBT : Hid (w.heap.size ≤ bT) := Nat.le_of_eq hbT.symm
  rw [← hbT] at R0 ⊢
  generalize World.alloc w _ = w0 at *
  have HL0 := Lib.hid L0
  have RR0 := Lib.hid R0
  clear L0 R0 hbT
  go_wp2_with fail
  with_reducible refine (HAW.out w0 (laidS_R HW.out)).mono ?_
  rintro e w1 ⟨rfl, hb1⟩
  have HL1 := Lib.hid (HL0.out.trans (hb1.mono HL0.out.size))
  have HF1 := Lib.hid (HF.out.below hb1)
  have R1 := RR0.out.below hb1
  have r0 := R1.cell 0
  have r1 := R1.cell 1
  have r2' := R1.cell 2
  have r3 := R1.cell 3
  have r4 := R1.cell 4
  simp only [List.getElem?_toArray, List.getElem?_cons_zero, List.getElem?_cons_succ] at r0 r1 r2' r3 r4
  have RR1 := Lib.hid R1
  clear hb1 HL0 HF HW RR0 R1 HAW
  go_wp2_with fail
  with_reducible refine (HAN.out w1 HF1.out).mono ?_
  rintro e w2 ⟨b3, d3, rfl, hbn3, hf3, hb2⟩
  have R2 := (RR1.out.below hb2).alloc (.cells #[.int .i64 kc, .string r2, .slice b3 m d3, .string b2, .int .i64 kk] 24)
  have L2 := hb2.trans ((below_alloc w2 (.cells #[.int .i64 kc, .string r2, .slice b3 m d3, .string b2, .int .i64 kk] 24)).mono hb2.size)
  have RA := Row.new w2 24 #[.int .i64 kc, .string r2, .slice b3 m d3, .string b2, .int .i64 kk]
  have F3 := hf3.below (below_alloc w2 (.cells #[.int .i64 kc, .string r2, .slice b3 m d3, .string b2, .int .i64 kk] 24))
  have L3 := HL1.out.trans (L2.mono HL1.out.size)
  have x7 := R2.cell 7
  have HBA : Hid (w.heap.size ≤ w2.heap.size) := (HL1.out.trans (hb2.mono HL1.out.size)).size
  simp only [List.getElem?_toArray, List.getElem?_cons_zero, List.getElem?_cons_succ] at x7
  have HBN3 := Lib.hid hbn3
  clear hb2 hf3 hbn3 HF1 HL1 RR1 L2 HAN r0 r1 r2' r3 r4
  go_upto_region 4 with fail
  obtain ⟨bA, hbA⟩ : ∃ bA, bA = w2.heap.size := ⟨_, rfl⟩
  rw [← hbA] at RA HBA ⊢
  generalize World.alloc w2 _ = w3 at *
  have hlT := R2.lt
  have RT3 := Lib.hid R2
  have RA3 := Lib.hid RA
  have FF3 := Lib.hid F3
  have LL3 := Lib.hid L3
  have a0 := RA.cell 0
  have a1 := RA.cell 1
  have a2 := RA.cell 2
  simp only [List.getElem?_toArray, List.getElem?_cons_zero, List.getElem?_cons_succ] at a0 a1 a2
  clear R2 RA F3 L3 hbA
  by_cases h1 : kc < 200
  · have d1 : decide (kc < 200) = true := decide_eq_true h1
    clear h1
    go_wp2_with fail
    go_ret
    exact ⟨rfl, LL3.out⟩
  have d1 : decide (kc < 200) = false := decide_eq_false h1
  by_cases h2 : kc > 599
  · have d2 : decide (kc > 599) = true := decide_eq_true h2
    clear h1 h2
    go_wp2_with fail
    go_ret
    exact ⟨rfl, LL3.out⟩
  have d2 : decide (kc > 599) = false := decide_eq_false h2
  have H1 : Hid (200 ≤ kc) := by show _ ≤ _; omega
  have H2 : Hid (kc ≤ 599) := by show _ ≤ _; omega
  clear h1 h2
  go_wp2_with fail
  refine (HVA.out w3).mono ?_
  rintro e w' ⟨rfl, rfl⟩
  cases qv
  · go_wp2_with fail
    go_ret
    exact ⟨rfl, LL3.out⟩
  clear HVA d1 d2 x7 a0 a1
  go_wp2_with fail
  go_loopw [37] (fun iv wr => ∃ j : Nat, j ≤ m ∧ iv = .int .i64 (j : Int) ∧ Hid (∀ f ∈ FF.take j, FOk f) ∧ Hid (Below w3.heap.size w3 wr)) (fun iv _ => m - (intOf iv).toNat)
  case atStart => exact ⟨0, Nat.zero_le _, rfl, (fun f h => by simp at h), Below.refl _ _⟩
  case round =>
    obtain ⟨j, hj, rfl, hall, hb⟩ := hrel
    by_cases hlt : j < m
    · have hltF : j < FF.length := by have := HMM.out; omega
      have hf0 := FF3.out.below hb.out
      obtain h0 | ⟨bk, o, rfl, hbk, hc, hcell⟩ := hf0
      · subst h0; simp at hltF
      obtain ⟨c1, c2⟩ := hcell j FF[j] (by simp [hltF])
      have hok := HSZ.out FF[j] (List.getElem_mem hltF)
      have hst : FF.take (j + 1) = FF.take j ++ [FF[j]] := by rw [List.take_succ_eq_append_getElem hltF]
      obtain ⟨f, hfe⟩ : ∃ f, f = FF[j] := ⟨_, rfl⟩
      rw [← hfe] at c1 c2 hok hst
      have HST := Lib.hid hst
      obtain ⟨nn, v⟩ := f
      simp only at c1 c2 hok
      have A1 := fun W => add_str nn [58, 32] (by simp; omega) W
      have A2 := fun W => add_str (nn ++ [58, 32]) v (by simp; omega) W
      have e58 : bs [58, 32] = ⟨#[58, 32]⟩ := rfl
      rw [e58] at A1
      have HP := Lib.hid (fun W => parse37 (bs (nn ++ [58, 32] ++ v)) (by rw [bs_size]; simp; omega) W)
      rw [bs_list] at HP
      unfold parseV at HP
      have j1 : (j : Int) < m := by omega
      have hcm : m ≤ d3 := by have := HMM.out; omega
      have hbb := hb.out
      have hsz := hbb.size
      have HBA' := Lib.hid (hbb.alloc hsz (.cells #[.string (bs nn), .string (bs v)] 53))
      have RF := Row.new wr 53 #[.string (bs nn), .string (bs v)]
      have eN := self_strP (bs nn)
      have eV := self_strP (bs v)
      cases hp : parseL (nn ++ [58, 32] ++ v) with
      | none =>
        rw [hp] at HP
        unfold fldV at HP
        simp only at HP
        generalize hx2 : bs (nn ++ [58, 32] ++ v) = x2 at *
        generalize hx1 : bs (nn ++ [58, 32]) = x1 at *
        generalize bs nn = N at *
        generalize bs v = V at *
        clear hx1 hx2 hcell hfe hst hp e58 hbk hc
        go_wp2_with fail
        with_reducible refine (HP.out _).mono ?_
        rintro e w5 ⟨rfl, hb5⟩
        have HB5 := Lib.hid ((HBA'.out.trans (hb5.mono HBA'.out.size)).alloc (HBA'.out.trans (hb5.mono HBA'.out.size)).size (.cells #[.string (bs []), .string (bs [])] 53))
        clear hb5 HP
        go_wp2_with fail
        go_ret
        exact ⟨rfl, (LL3.out.trans (HB5.out.mono LL3.out.size))⟩
      | some g =>
        obtain ⟨gn, gv⟩ := g
        rw [hp] at HP
        unfold fldV at HP
        simp only at HP
        have q1 := bs_beq gn nn
        have q2 := bs_beq gv v
        by_cases hg : (gn, gv) = (nn, v)
        · injection hg with hg1 hg2
          subst hg1 hg2
          have HN : Hid (∀ f ∈ FF.take (j + 1), FOk f) := by
            show ∀ f ∈ _, _
            rw [HST.out]
            intro f hf
            rcases List.mem_append.1 hf with h | h
            · exact hall.out f h
            · rw [List.mem_singleton.1 h]; exact hp
          generalize hx2 : bs (gn ++ [58, 32] ++ gv) = x2 at *
          generalize hx1 : bs (gn ++ [58, 32]) = x1 at *
          generalize bs gn = N at *
          generalize bs gv = V at *
          clear hx1 hx2 hcell hfe hst hp e58 hbk hc q1 q2
          go_wp2_with fail
          with_reducible refine (HP.out _).mono ?_
          rintro e w5 ⟨rfl, hb5⟩
          have RF1 := (RF.below hb5).alloc (.cells #[.string N, .string V] 53)
          have hb6 := (HBA'.out.trans (hb5.mono HBA'.out.size)).alloc (HBA'.out.trans (hb5.mono HBA'.out.size)).size (.cells #[.string N, .string V] 53)
          have HB6 := Lib.hid hb6
          have s0 : (w5.alloc (.cells #[.string N, .string V] 53)).cell? ⟨wr.heap.size, 0, none⟩ = some (.string N) := RF1.cell 0
          have s1 : (w5.alloc (.cells #[.string N, .string V] 53)).cell? ⟨wr.heap.size, 1, none⟩ = some (.string V) := RF1.cell 1
          have RG := Row.new w5 53 #[.string N, .string V]
          have s2 : (w5.alloc (.cells #[.string N, .string V] 53)).cell? ⟨w5.heap.size, 0, none⟩ = some (.string N) := RG.cell 0
          have s3 : (w5.alloc (.cells #[.string N, .string V] 53)).cell? ⟨w5.heap.size, 1, none⟩ = some (.string V) := RG.cell 1
          clear hb5 hb6 HP RF RF1 RG
          go_upto_region 12 with fail
          generalize w5.alloc (.cells #[.string N, .string V] 53) = w6 at *
          go_wp2_with fail
          go_roundw
          case rel => exact ⟨j + 1, hlt, by go_num, HN, HB6⟩
          case measure => simp [intOf]; omega
        · have hcase : (decide (gn = nn) = false) ∨ (decide (gn = nn) = true ∧ decide (gv = v) = false) := by
            by_cases h1 : gn = nn
            · exact .inr ⟨decide_eq_true h1, decide_eq_false (fun h2 => hg (by rw [h1, h2]))⟩
            · exact .inl (decide_eq_false h1)
          generalize decide (gn = nn) = b1 at *
          generalize decide (gv = v) = bb2 at *
          generalize hx2 : bs (nn ++ [58, 32] ++ v) = x2 at *
          generalize hx1 : bs (nn ++ [58, 32]) = x1 at *
          generalize bs nn = N at *
          generalize bs v = V at *
          generalize bs gn = GN at *
          generalize bs gv = GV at *
          clear hx1 hx2 hcell hfe hst hp e58 hbk hc hg eN eV
          rcases hcase with rfl | ⟨rfl, rfl⟩
          all_goals
            go_wp2_with fail
            with_reducible refine (HP.out _).mono ?_
            rintro e w5 ⟨rfl, hb5⟩
            have RF1 := (RF.below hb5).alloc (.cells #[.string GN, .string GV] 53)
            have hb6 := (HBA'.out.trans (hb5.mono HBA'.out.size)).alloc (HBA'.out.trans (hb5.mono HBA'.out.size)).size (.cells #[.string GN, .string GV] 53)
            have HB6 := Lib.hid hb6
            have s0 : (w5.alloc (.cells #[.string GN, .string GV] 53)).cell? ⟨wr.heap.size, 0, none⟩ = some (.string N) := RF1.cell 0
            have s1 : (w5.alloc (.cells #[.string GN, .string GV] 53)).cell? ⟨wr.heap.size, 1, none⟩ = some (.string V) := RF1.cell 1
            have RG := Row.new w5 53 #[.string GN, .string GV]
            have s2 : (w5.alloc (.cells #[.string GN, .string GV] 53)).cell? ⟨w5.heap.size, 0, none⟩ = some (.string GN) := RG.cell 0
            have s3 : (w5.alloc (.cells #[.string GN, .string GV] 53)).cell? ⟨w5.heap.size, 1, none⟩ = some (.string GV) := RG.cell 1
            clear hb5 hb6 HP RF RF1 RG
            go_upto_region 12 with fail
            generalize w5.alloc (.cells #[.string GN, .string GV] 53) = w6 at *
            go_wp2_with fail
            go_ret
            exact ⟨rfl, (LL3.out.trans (HB6.out.mono LL3.out.size))⟩
    · obtain rfl : m = j := by omega
      have hall2 := hall.out
      rw [HMM.out, List.take_of_length_le (Nat.le_refl _)] at hall2
      have hse : SentR kc r2.data.toList FF := ⟨(by have := H1.out; omega), H2.out, HQV.out, by rw [← Lib.size_eq]; exact HRZ.out, hall2, HL8.out, HSZ.out⟩
      have hbl : b2.data.toList.length ≤ 60 := by rw [← Lib.size_eq]; exact HBZ.out
      obtain ⟨q, hq⟩ : ∃ q, R.bodR [71, 69, 84] kc = q := ⟨_, rfl⟩
      have eMT : bs [71, 69, 84] = ⟨#[71, 69, 84]⟩ := rfl
      have eNX : bs nextL = ⟨#[110, 101, 120, 116]⟩ := rfl
      have HOW := Lib.hid (fun b d W h => ownR10 kc r2 b2 kk b d FF (by have := HL8.out; omega) FF rfl W h)
      have HRS := Lib.hid (fun b d ha W hW h => rresp29 kc r2 b2 kk [71, 69, 84] false b d FF HSM.out (by have := HBZ.out; omega) ha q hq W hW h)
      rw [eMT] at HRS
      have ebd : respBody q b2 = bs (rbdL q b2.data.toList) := by cases q; rfl; exact (bs_of b2).symm
      have hbdl : (rbdL q b2.data.toList).length ≤ 60 := by unfold rbdL; split; exact hbl; exact Nat.zero_le _
      have hrok := resp_ok q false FF b2.size hse.fl hse.fz
      have hrt := resp_text q false FF b2.size hse.fl hse.fz
      have hhas := resp_has q false FF b2.size
      have htk : (tokF conB (respF q FF b2.size false)).length ≤ 1000000 := by rw [resp_tok]; decide
      have hsu : sumS (allB conB (respF q FF b2.size false)) ≤ 1000000000 := by rw [resp_con]; decide +kernel
      obtain ⟨GS, hGS⟩ : ∃ GS, GS = respF q FF b2.size false := ⟨_, rfl⟩
      have HFD : Hid (∀ (g : Nat) W, R.HeS (fun j => g ≤ j) 114 (R.psR [71, 69, 84] 0 [] 0 0 (.slice none 0 0) false false) W g limM 100 hd0 → Up (fun j => g ≤ j) W → (∀ w', Keep (fun j => g ≤ j) W w' → MaxL w') → (∀ w', Keep (fun j => g ≤ j) W w' → Syn w') → Calls Tryz.prog 31 #[.pointer (some ⟨g, 0, none⟩), .string (bs (stLine (kc, r2.data.toList) ++ textL GS ++ [13, 10] ++ rbdL q b2.data.toList ++ nextL))] W (R.FeedR (fun j => g ≤ j) g limM 100 W [71, 69, 84] kc r2.data.toList (rbdL q b2.data.toList) nextL (stLn kc r2.data.toList) GS (respK q) ((rbdL q b2.data.toList).length : Int))) := fun g W hp hu hM hY =>
        respS_feed [71, 69, 84] kc r2.data.toList b2.data.toList q false hq FF hse hbl GS (by rw [hGS, Lib.size_eq]) (fun j => g ≤ j) g W hp hu hM hY
      rw [← hGS] at HRS hrok hrt hhas htk hsu
      have HTX := Lib.hid (fun b d W hP h => mtext11 kc r2.data.toList (rbdL q b2.data.toList) (respK q) (by omega) (by rw [← Lib.size_eq]; have := HRZ.out; omega) b d GS (by omega) hrok (by omega) W hP h)
      rw [bs_of, ← ebd] at HTX
      have hk3 : (respK q != 3) = true := by cases q <;> rfl
      have HPE := Lib.hid (fun (g : Nat) bv W hM hW => R.persists34 (fun j => g ≤ j) g limM 100 (.done (stLn kc r2.data.toList) GS) [71, 69, 84] kc r2.data.toList (respK q) ((rbdL q b2.data.toList).length : Int) hk3 bv GS rfl (by omega) hrok hsu false hhas htk W hM hW)
      rw [show (!false) = true from rfl] at HPE
      have HMS := Lib.hid (fun (g : Nat) ba bc W hW hO => R.message33 (fun j => g ≤ j) g limM 100 (.done (stLn kc r2.data.toList) GS) [71, 69, 84] kc r2.data.toList (respK q) ((rbdL q b2.data.toList).length : Int) ba bc (rbdL q b2.data.toList) GS rfl (by omega) W hW hO)
      rw [bs_of, ← ebd] at HMS
      have A3 := fun W => add_str (stLine (kc, r2.data.toList) ++ textL GS ++ [13, 10] ++ rbdL q b2.data.toList) nextL (by have h1 : (stLine (kc, r2.data.toList)).length ≤ 2000 := by { have := stLn_len (c := kc) (r := r2.data.toList) (by have := H1.out; omega) H2.out; have h9 := hse.rl; show (stLn kc r2.data.toList ++ [13, 10]).length ≤ 2000; rw [List.length_append]; simp; omega }; have h2 : nextL.length = 4 := rfl; simp only [List.length_append, List.length_cons, List.length_nil]; omega) W
      obtain ⟨BD, hBD⟩ : ∃ BD, BD = respBody q b2 := ⟨_, rfl⟩
      obtain ⟨KR, hKR⟩ : ∃ KR, KR = respK q := ⟨_, rfl⟩
      obtain ⟨mG, hmG⟩ : ∃ mG, mG = GS.length := ⟨_, rfl⟩
      rw [← HMM.out] at HOW HRS
      rw [← hBD, ← hKR] at HRS HMS HTX
      rw [← hKR] at HFD HPE
      rw [← hmG] at HRS HTX HMS
      clear hmG
      rw [eNX] at A3
      have HNX := Lib.hid eNX
      have eBD := self_strP BD
      obtain ⟨X, hX⟩ : ∃ X, X = bs (stLine (kc, r2.data.toList) ++ textL GS ++ [13, 10] ++ rbdL q b2.data.toList) := ⟨_, rfl⟩
      obtain ⟨XN, hXN⟩ : ∃ XN, XN = bs (stLine (kc, r2.data.toList) ++ textL GS ++ [13, 10] ++ rbdL q b2.data.toList ++ nextL) := ⟨_, rfl⟩
      rw [← hX, ← hXN] at A3
      rw [← hX] at HTX
      rw [← hXN] at HFD
      have HWR := Lib.hid (HWW.out.below (LL3.out.trans (hb.out.mono LL3.out.size)))
      have FW := Lib.hid (FF3.out.below hb.out)
      have RAW := RA3.out.below hb.out
      have RTW := Lib.hid (RT3.out.below hb.out)
      have LLW := Lib.hid (LL3.out.trans (hb.out.mono LL3.out.size))
      have t7 := RTW.out.cell 7
      have hltT := RTW.out.lt
      have hltA := RAW.lt
      have r0 := RAW.cell 0
      have r1 := RAW.cell 1
      have r2' := RAW.cell 2
      have r3 := RAW.cell 3
      have r4 := RAW.cell 4
      simp only [List.getElem?_toArray, List.getElem?_cons_zero, List.getElem?_cons_succ] at t7 r0 r1 r2' r3 r4
      have RAW' := Lib.hid RAW
      clear RAW hall hall2 hse hbl hq eMT eNX ebd hbdl hrok hrt hhas htk hsu hGS hk3 hBD hKR hX hXN hlt hj hb a2 RA3 RT3 FF3 LL3 HSM HSZ HRZ HBZ HL8 hl8 HQV hlT
      go_upto_region 15 with fail
      refine region_mixt 8 [some (.agg #[.int .i64 kc, .string r2, .slice b3 m d3, .string b2, .int .i64 kk]), none, some (.string ⟨#[71, 69, 84]⟩), some (.pointer (some ⟨bT, 7, none⟩)), some (.bool false), some (.agg #[.string ⟨#[112, 105, 110, 61, 120]⟩, .bool false]), none, none]
        [[false, false, false, false, false, false, false, false], [true, false, false, false, false, false, false, false], [false, false, false, false, false, false, false, false], [false, false, false, false, false, false, false, false], [false, false, false, true, false, false, false, false], [false, false, false, false, true, false, false, false], [false, true, true, false, false, true, false, false], [false, false, false, false, false, false, false, false]]
        (fun L x w9 => Below wr.heap.size wr w9 ∧ (L 1 = true → ∃ b5 d5, x 1 = .agg #[.int .i64 kc, .string r2, .slice b5 m d5, .string b2, .int .i64 kk] ∧ (b5 = none → d5 = 0 ∧ FF = []) ∧ IsFlds w9 b5 d5 FF) ∧ (L 6 = true → ∃ b6 d6, x 6 = .agg #[.int .i64 kc, .string r2, .slice b6 mG d6, .string BD, .int .i64 KR] ∧ IsFlds w9 b6 d6 GS) ∧ (L 7 = true → ∃ g7, x 7 = .pointer (some ⟨g7, 0, none⟩) ∧ wr.heap.size ≤ g7 ∧ Row w9 g7 33 #[.int .i64 0, .string ⟨#[]⟩, .slice none 0 0, .string ⟨#[]⟩, .int .i64 0]))
        (by kernel_rfl) (by kernel_rfl) (by kernel_rfl) (by kernel_rfl) (by kernel_rfl) (by decide) ?_ ?_ ?_
      · intro _
        exact ⟨⟨rfl, rfl, rfl, Nat.le_refl _, fun _ _ => rfl⟩, (fun h => by cases h), (fun h => by cases h), (fun h => by cases h)⟩
      · simp only [List.take_succ_cons, List.take_zero]
        refine ⟨?_, ?_, ?_, ?_, ?_, ?_, ?_, ?_, trivial⟩
        all_goals
          intro L x w9 hS hl hp K9 hK9
          have hs : Below wr.heap.size wr w9 ∧ (L 1 = true → ∃ b5 d5, x 1 = .agg #[.int .i64 kc, .string r2, .slice b5 m d5, .string b2, .int .i64 kk] ∧ (b5 = none → d5 = 0 ∧ FF = []) ∧ IsFlds w9 b5 d5 FF) ∧ (L 6 = true → ∃ b6 d6, x 6 = .agg #[.int .i64 kc, .string r2, .slice b6 mG d6, .string BD, .int .i64 KR] ∧ IsFlds w9 b6 d6 GS) ∧ (L 7 = true → ∃ g7, x 7 = .pointer (some ⟨g7, 0, none⟩) ∧ wr.heap.size ≤ g7 ∧ Row w9 g7 33 #[.int .i64 0, .string ⟨#[]⟩, .slice none 0 0, .string ⟨#[]⟩, .int .i64 0]) := hS
          clear hS
          replace hK9 := hK9.out
          simp only [actMix, pickV, List.tail_cons, List.headD_cons, Act.put, List.setIfInBounds_toArray, List.set_cons_zero, List.set_cons_succ] at hK9 ⊢
        · have s0 : w9.cell? ⟨bA, 0, none⟩ = some (.int .i64 kc) := by rw [(bcell hs.1).1 _ _ hltA]; exact r0
          have s1 : w9.cell? ⟨bA, 1, none⟩ = some (.string r2) := by rw [(bcell hs.1).1 _ _ hltA]; exact r1
          have s2 : w9.cell? ⟨bA, 2, none⟩ = some (.slice b3 m d3) := by rw [(bcell hs.1).1 _ _ hltA]; exact r2'
          have s3 : w9.cell? ⟨bA, 3, none⟩ = some (.string b2) := by rw [(bcell hs.1).1 _ _ hltA]; exact r3
          have s4 : w9.cell? ⟨bA, 4, none⟩ = some (.int .i64 kk) := by rw [(bcell hs.1).1 _ _ hltA]; exact r4
          clear hp
          go_simp
          with_reducible refine hK9 _ ?_
          exact ⟨hs.1, fun h => by
            obtain ⟨b5, d5, h1, h2, h3⟩ := hs.2.1 (by simpa [setL] using h)
            exact ⟨b5, d5, by simpa [updV] using h1, h2, h3⟩, fun h => by
            obtain ⟨b6, d6, h1, h3⟩ := hs.2.2.1 (by simpa [setL] using h)
            exact ⟨b6, d6, by simpa [updV] using h1, h3⟩, fun h => by
            obtain ⟨g7, h1, h2, h3⟩ := hs.2.2.2 (by simpa [setL] using h)
            exact ⟨g7, by simpa [updV] using h1, h2, h3⟩⟩
        · clear hp
          go_simp
          refine (HOW.out b3 d3 w9 (FW.out.below hs.1)).mono ?_
          rintro e9 w8 ⟨b5, d5, rfl, hbn5, hf8, hb8⟩
          with_reducible refine hK9 _ _ ?_
          exact ⟨hs.1.trans (hb8.mono hs.1.size), fun _ => ⟨b5, d5, by simp [updV], hbn5, hf8⟩, fun h => by
            obtain ⟨b6, d6, h1, h3⟩ := hs.2.2.1 (by simpa [setL] using h)
            exact ⟨b6, d6, by simpa [updV] using h1, h3.below hb8⟩, fun h => by
            obtain ⟨g7, h1, h2, h3⟩ := hs.2.2.2 (by simpa [setL] using h)
            exact ⟨g7, by simpa [updV] using h1, h2, h3.below hb8⟩⟩
        · clear hp
          go_simp
          with_reducible refine hK9 _ ?_
          exact ⟨hs.1, fun h => by
            obtain ⟨b5, d5, h1, h2, h3⟩ := hs.2.1 (by simpa [setL] using h)
            exact ⟨b5, d5, by simpa [updV] using h1, h2, h3⟩, fun h => by
            obtain ⟨b6, d6, h1, h3⟩ := hs.2.2.1 (by simpa [setL] using h)
            exact ⟨b6, d6, by simpa [updV] using h1, h3⟩, fun h => by
            obtain ⟨g7, h1, h2, h3⟩ := hs.2.2.2 (by simpa [setL] using h)
            exact ⟨g7, by simpa [updV] using h1, h2, h3⟩⟩
        · clear hp
          go_simp
          with_reducible refine hK9 _ ?_
          exact ⟨hs.1, fun h => by
            obtain ⟨b5, d5, h1, h2, h3⟩ := hs.2.1 (by simpa [setL] using h)
            exact ⟨b5, d5, by simpa [updV] using h1, h2, h3⟩, fun h => by
            obtain ⟨b6, d6, h1, h3⟩ := hs.2.2.1 (by simpa [setL] using h)
            exact ⟨b6, d6, by simpa [updV] using h1, h3⟩, fun h => by
            obtain ⟨g7, h1, h2, h3⟩ := hs.2.2.2 (by simpa [setL] using h)
            exact ⟨g7, by simpa [updV] using h1, h2, h3⟩⟩
        · have s7 : w9.cell? ⟨bT, 7, none⟩ = some (.bool false) := by rw [(bcell hs.1).1 _ _ hltT]; exact t7
          clear hp
          go_simp
          with_reducible refine hK9 _ ?_
          exact ⟨hs.1, fun h => by
            obtain ⟨b5, d5, h1, h2, h3⟩ := hs.2.1 (by simpa [setL] using h)
            exact ⟨b5, d5, by simpa [updV] using h1, h2, h3⟩, fun h => by
            obtain ⟨b6, d6, h1, h3⟩ := hs.2.2.1 (by simpa [setL] using h)
            exact ⟨b6, d6, by simpa [updV] using h1, h3⟩, fun h => by
            obtain ⟨g7, h1, h2, h3⟩ := hs.2.2.2 (by simpa [setL] using h)
            exact ⟨g7, by simpa [updV] using h1, h2, h3⟩⟩
        · clear hp
          go_simp
          with_reducible refine hK9 _ ?_
          exact ⟨hs.1, fun h => by
            obtain ⟨b5, d5, h1, h2, h3⟩ := hs.2.1 (by simpa [setL] using h)
            exact ⟨b5, d5, by simpa [updV] using h1, h2, h3⟩, fun h => by
            obtain ⟨b6, d6, h1, h3⟩ := hs.2.2.1 (by simpa [setL] using h)
            exact ⟨b6, d6, by simpa [updV] using h1, h3⟩, fun h => by
            obtain ⟨g7, h1, h2, h3⟩ := hs.2.2.2 (by simpa [setL] using h)
            exact ⟨g7, by simpa [updV] using h1, h2, h3⟩⟩
        · have h1' : L 1 = true := allL_mem hp 1 (by decide +kernel)
          obtain ⟨b5, d5, hx1, hbn5, hf5⟩ := hs.2.1 h1'
          clear hp
          rw [hx1] at hK9 ⊢
          go_simp
          refine (HRS.out b5 d5 hbn5 w9 (laidS_R (HWR.out.below hs.1)) hf5).mono ?_
          rintro e9 w8 ⟨b6, d6, rfl, _, hf8, hb8⟩
          with_reducible refine hK9 _ _ ?_
          exact ⟨hs.1.trans (hb8.mono hs.1.size), fun _ => ⟨b5, d5, by simpa [updV] using hx1, hbn5, hf5.below hb8⟩, fun _ => ⟨b6, d6, by simp [updV], hf8⟩, fun h => by
            obtain ⟨g7, h1, h2, h3⟩ := hs.2.2.2 (by simpa [setL] using h)
            exact ⟨g7, by simpa [updV] using h1, h2, h3.below hb8⟩⟩
        · clear hp
          go_simp
          with_reducible refine hK9 _ _ ?_
          have hb8 := below_alloc w9 (.cells #[.int .i64 0, .string ⟨#[]⟩, .slice none 0 0, .string ⟨#[]⟩, .int .i64 0] 33)
          exact ⟨hs.1.trans (hb8.mono hs.1.size), fun h => by
            obtain ⟨b5, d5, h1, h2, h3⟩ := hs.2.1 (by simpa [setL] using h)
            exact ⟨b5, d5, by simpa [updV] using h1, h2, h3.below hb8⟩, fun h => by
            obtain ⟨b6, d6, h1, h3⟩ := hs.2.2.1 (by simpa [setL] using h)
            exact ⟨b6, d6, by simpa [updV] using h1, h3.below hb8⟩, fun _ => ⟨w9.heap.size, by simp [updV], hs.1.size, Row.new w9 33 _⟩⟩
      intro L x w9 hS hL
      have hs : Below wr.heap.size wr w9 ∧ (L 1 = true → ∃ b5 d5, x 1 = .agg #[.int .i64 kc, .string r2, .slice b5 m d5, .string b2, .int .i64 kk] ∧ (b5 = none → d5 = 0 ∧ FF = []) ∧ IsFlds w9 b5 d5 FF) ∧ (L 6 = true → ∃ b6 d6, x 6 = .agg #[.int .i64 kc, .string r2, .slice b6 mG d6, .string BD, .int .i64 KR] ∧ IsFlds w9 b6 d6 GS) ∧ (L 7 = true → ∃ g7, x 7 = .pointer (some ⟨g7, 0, none⟩) ∧ wr.heap.size ≤ g7 ∧ Row w9 g7 33 #[.int .i64 0, .string ⟨#[]⟩, .slice none 0 0, .string ⟨#[]⟩, .int .i64 0]) := hS
      obtain ⟨b6, d6, hx6, hf6⟩ := hs.2.2.1 (hL 6 (by decide))
      obtain ⟨g7, hx7, hg7, hr7⟩ := hs.2.2.2 (hL 7 (by decide))
      have hb9 := hs.1
      clear hS hL hs
      simp only [actMix, pickV, List.tail_cons, List.headD_cons, Act.put, List.setIfInBounds_toArray, List.set_cons_zero, List.set_cons_succ, List.replicate_succ, List.replicate_zero, List.drop_succ_cons, List.drop_zero, List.take_succ_cons, List.take_zero]
      rw [hx6, hx7]
      have LL9 := Lib.hid (LLW.out.trans (hb9.mono LLW.out.size))
      have HG7 : Hid (w.heap.size ≤ g7) := Nat.le_trans LLW.out.size hg7
      have HG7' := Lib.hid hg7
      have z0 := hr7.free 0
      have z1 := hr7.free 1
      have z2 := hr7.free 2
      have z3 := hr7.free 3
      have z4 := hr7.free 4
      have p0 := hr7.cell 0
      have p1 := hr7.cell 1
      have p2 := hr7.cell 2
      have p3 := hr7.cell 3
      have p4 := hr7.cell 4
      simp only [List.getElem?_toArray, List.getElem?_cons_zero, List.getElem?_cons_succ] at p0 p1 p2 p3 p4
      have h5 := own_five g7 _ LL9.out HG7.out (.int .i64 kc) (.string r2) (.slice b6 mG d6) (.string BD) (.int .i64 KR)
      have F5 := Lib.hid (isFlds_msg hr7 hf6 h5.2)
      have LL5 := Lib.hid h5.1
      have Q5 : Hid (Row (((((w9.setCell ⟨g7, 0, none⟩ (.int .i64 kc)).setCell ⟨g7, 1, none⟩ (.string r2)).setCell ⟨g7, 2, none⟩ (.slice b6 mG d6)).setCell ⟨g7, 3, none⟩ (.string BD)).setCell ⟨g7, 4, none⟩ (.int .i64 KR)) g7 33 #[.int .i64 kc, .string r2, .slice b6 mG d6, .string BD, .int .i64 KR]) := ((((hr7.put 0 (.int .i64 kc)).put 1 (.string r2)).put 2 (.slice b6 mG d6)).put 3 (.string BD)).put 4 (.int .i64 KR)
      have hn7A : ¬ bA = g7 := by omega
      have hn7T : ¬ bT = g7 := by omega
      have RA5 : Hid (Row (((((w9.setCell ⟨g7, 0, none⟩ (.int .i64 kc)).setCell ⟨g7, 1, none⟩ (.string r2)).setCell ⟨g7, 2, none⟩ (.slice b6 mG d6)).setCell ⟨g7, 3, none⟩ (.string BD)).setCell ⟨g7, 4, none⟩ (.int .i64 KR)) bA 24 _) := (((((RAW'.out.below hb9).far (p := ⟨g7, 0, none⟩) hn7A (.int .i64 kc)).far (p := ⟨g7, 1, none⟩) hn7A (.string r2)).far (p := ⟨g7, 2, none⟩) hn7A (.slice b6 mG d6)).far (p := ⟨g7, 3, none⟩) hn7A (.string BD)).far (p := ⟨g7, 4, none⟩) hn7A (.int .i64 KR)
      have RT5 : Hid (Row (((((w9.setCell ⟨g7, 0, none⟩ (.int .i64 kc)).setCell ⟨g7, 1, none⟩ (.string r2)).setCell ⟨g7, 2, none⟩ (.slice b6 mG d6)).setCell ⟨g7, 3, none⟩ (.string BD)).setCell ⟨g7, 4, none⟩ (.int .i64 KR)) bT 67 _) := (((((RTW.out.below hb9).far (p := ⟨g7, 0, none⟩) hn7T (.int .i64 kc)).far (p := ⟨g7, 1, none⟩) hn7T (.string r2)).far (p := ⟨g7, 2, none⟩) hn7T (.slice b6 mG d6)).far (p := ⟨g7, 3, none⟩) hn7T (.string BD)).far (p := ⟨g7, 4, none⟩) hn7T (.int .i64 KR)
      clear hx6 hx7 hf6 hg7 hr7 hb9 h5 hn7A hn7T RAW' RTW FW LLW HWR LL9 t7 hltT hltA r0 r1 r2' r3 r4 HOW HRS HG7'
      go_upto_region 16 with fail
      clear z0 z1 z2 z3 z4 p0 p1 p2 p3 p4
      generalize ((((w9.setCell ⟨g7, 0, none⟩ (.int .i64 kc)).setCell ⟨g7, 1, none⟩ (.string r2)).setCell ⟨g7, 2, none⟩ (.slice b6 mG d6)).setCell ⟨g7, 3, none⟩ (.string BD)).setCell ⟨g7, 4, none⟩ (.int .i64 KR) = w5 at *
      have HN := R.new30 500 2000 40 100 [71, 69, 84] w5
      rw [show bs [71, 69, 84] = ⟨#[71, 69, 84]⟩ from rfl] at HN
      have HNEW := Lib.hid HN
      clear HN
      go_wp2_with fail
      with_reducible refine HNEW.out.mono ?_
      rintro e w10 ⟨g, rfl, hg, hr, hb10⟩
      have Q6 := Q5.out.below hb10
      have c0 := Q6.cell 0
      have c1 := Q6.cell 1
      have c2 := Q6.cell 2
      have c3 := Q6.cell 3
      have c4 := Q6.cell 4
      simp only [List.getElem?_toArray, List.getElem?_cons_zero, List.getElem?_cons_succ] at c0 c1 c2 c3 c4
      have LL10 := Lib.hid (LL5.out.trans (hb10.mono LL5.out.size))
      have F10 := Lib.hid (F5.out.below hb10)
      have Q10 := Lib.hid Q6
      have RA10 := Lib.hid (RA5.out.below hb10)
      have RT10 := Lib.hid (RT5.out.below hb10)
      have HR := Lib.hid hr
      have HG : Hid (w.heap.size ≤ g) := Nat.le_trans LL5.out.size hg
      have hgs := hg
      have HGQ : Hid (g7 < g ∧ bA < g ∧ bT < g) := ⟨Nat.lt_of_lt_of_le Q5.out.lt hg, Nat.lt_of_lt_of_le RA5.out.lt hg, Nat.lt_of_lt_of_le RT5.out.lt hg⟩
      clear hr hg hgs hb10 Q6 Q5 F5 RA5 RT5 LL5 HNEW
      go_wp2_with fail
      with_reducible refine (HTX.out b6 d6 w10 (laidS_R (HWW.out.below LL10.out)).p F10.out).mono ?_
      rintro e wT ⟨rfl, hbT⟩
      have LLT := LL10.out.trans (hbT.mono LL10.out.size)
      have HRT := HR.out.below hbT
      have hfd := HFD.out g wT (R.psNew_S 500 2000 40 100 [71, 69, 84] HRT _ (Nat.le_refl _)) (fun k hk => Nat.le_trans (Nat.le_of_lt HRT.lt) hk) (fun w' hk => laidS_M (HWW.out.below (LLT.trans (hk.bel (fun k hk => Nat.le_trans HG.out hk) LLT.size)))) (fun w' hk => laidS_Y (HWW.out.below (LLT.trans (hk.bel (fun k hk => Nat.le_trans HG.out hk) LLT.size))))
      unfold R.FeedR at hfd
      rw [HNX.out] at hfd
      have HFDT := Lib.hid hfd
      have LLTT := Lib.hid LLT
      have QT := Lib.hid (Q10.out.below hbT)
      have RAT := Lib.hid (RA10.out.below hbT)
      have RTT := Lib.hid (RT10.out.below hbT)
      clear hfd LLT HRT HR hbT F10 LL10 Q10 RA10 RT10 HTX HFD c0 c1 c2 c3 c4
      go_wp2_with fail
      with_reducible refine HFDT.out.mono ?_
      rintro e wF ⟨ba, bc, rfl, hd, ho, hk⟩
      have LLF := Lib.hid (LLTT.out.trans (hk.bel (fun k hk => Nat.le_trans HG.out hk) LLTT.out.size))
      have QF := QT.out.keep hk (fun h => by have := HGQ.out.1; omega)
      have RAF := RAT.out.keep hk (fun h => by have := HGQ.out.2.1; omega)
      have RTF := RTT.out.keep hk (fun h => by have := HGQ.out.2.2; omega)
      have hl7 := QF.lt
      have hlA := RAF.lt
      have hlT := RTF.lt
      have c3 := QF.cell 3
      have c0 := RAF.cell 0
      have t7 := RTF.cell 7
      simp only [List.getElem?_toArray, List.getElem?_cons_zero, List.getElem?_cons_succ] at c3 c0 t7
      have DF := Lib.hid hd
      have OF := Lib.hid (own_mono ho (Nat.zero_le _))
      clear hd ho hk QF RAF RTF HFDT QT RAT RTT LLTT HNX HGQ HG
      go_wp2_with fail
      refine region_mixt 35 [some (.int .i64 0), some (.bool true), some (.bool true), some (.string ⟨#[110, 101, 120, 116]⟩), some (.bool true), some (.bool true), some (.bool true), some (.pointer (some ⟨g, 0, none⟩)), some (.bool true), some (.bool true), some (.bool true), some (.pointer (some ⟨g, 0, none⟩)), none, some (.agg #[.int .i64 kc, .string r2]), some (.int .i64 kc), some (.pointer (some ⟨bA, 0, none⟩)), some (.int .i64 kc), some (.bool true), some (.bool true), some (.bool true), some (.pointer (some ⟨g, 0, none⟩)), some (.bool true), some (.pointer (some ⟨bT, 7, none⟩)), some (.bool false), some (.bool true), some (.bool true), some (.bool true), some (.bool true), some (.pointer (some ⟨g, 0, none⟩)), none, some (.string BD), some (.pointer (some ⟨g7, 3, none⟩)), some (.string BD), some (.bool true), some (.bool true)]
        [[false, false, false, false, false, false, false, false, false, false, false, false, false, false, false, false, false, false, false, false, false, false, false, false, false, false, false, false, false, false, false, false, false, false, false], [true, false, false, false, false, false, false, false, false, false, false, false, false, false, false, false, false, false, false, false, false, false, false, false, false, false, false, false, false, false, false, false, false, false, false], [false, true, false, false, false, false, false, false, false, false, false, false, false, false, false, false, false, false, false, false, false, false, false, false, false, false, false, false, false, false, false, false, false, false, false], [false, false, true, false, false, false, false, false, false, false, false, false, false, false, false, false, false, false, false, false, false, false, false, false, false, false, false, false, false, false, false, false, false, false, false], [false, false, true, true, false, false, false, false, false, false, false, false, false, false, false, false, false, false, false, false, false, false, false, false, false, false, false, false, false, false, false, false, false, false, false], [false, false, true, false, true, false, false, false, false, false, false, false, false, false, false, false, false, false, false, false, false, false, false, false, false, false, false, false, false, false, false, false, false, false, false], [false, false, true, false, false, true, false, false, false, false, false, false, false, false, false, false, false, false, false, false, false, false, false, false, false, false, false, false, false, false, false, false, false, false, false], [false, false, false, false, false, false, true, false, false, false, false, false, false, false, false, false, false, false, false, false, false, false, false, false, false, false, false, false, false, false, false, false, false, false, false], [false, false, false, false, false, false, true, true, false, false, false, false, false, false, false, false, false, false, false, false, false, false, false, false, false, false, false, false, false, false, false, false, false, false, false], [false, false, false, false, false, false, true, false, true, false, false, false, false, false, false, false, false, false, false, false, false, false, false, false, false, false, false, false, false, false, false, false, false, false, false], [false, false, false, false, false, false, false, false, true, true, false, false, false, false, false, false, false, false, false, false, false, false, false, false, false, false, false, false, false, false, false, false, false, false, false], [false, false, false, false, false, false, false, false, false, false, true, false, false, false, false, false, false, false, false, false, false, false, false, false, false, false, false, false, false, false, false, false, false, false, false], [false, false, false, false, false, false, false, false, false, false, true, true, false, false, false, false, false, false, false, false, false, false, false, false, false, false, false, false, false, false, false, false, false, false, false], [false, false, false, false, false, false, false, false, false, false, true, false, true, false, false, false, false, false, false, false, false, false, false, false, false, false, false, false, false, false, false, false, false, false, false], [false, false, false, false, false, false, false, false, false, false, true, false, false, true, false, false, false, false, false, false, false, false, false, false, false, false, false, false, false, false, false, false, false, false, false], [false, false, false, false, false, false, false, false, false, false, true, false, false, false, false, false, false, false, false, false, false, false, false, false, false, false, false, false, false, false, false, false, false, false, false], [false, false, false, false, false, false, false, false, false, false, true, false, false, false, false, true, false, false, false, false, false, false, false, false, false, false, false, false, false, false, false, false, false, false, false], [false, false, false, false, false, false, false, false, false, false, true, false, false, false, true, false, true, false, false, false, false, false, false, false, false, false, false, false, false, false, false, false, false, false, false], [false, false, false, false, false, false, false, false, false, false, true, false, false, false, false, false, false, true, false, false, false, false, false, false, false, false, false, false, false, false, false, false, false, false, false], [false, false, false, false, false, false, false, false, false, false, false, false, true, false, false, false, false, false, true, false, false, false, false, false, false, false, false, false, false, false, false, false, false, false, false], [false, false, false, false, false, false, false, false, false, false, false, false, false, false, false, false, false, false, false, true, false, false, false, false, false, false, false, false, false, false, false, false, false, false, false], [false, false, false, false, false, false, false, false, false, false, false, false, false, false, false, false, false, false, false, true, true, false, false, false, false, false, false, false, false, false, false, false, false, false, false], [false, false, false, false, false, false, false, false, false, false, false, false, false, false, false, false, false, false, false, true, false, false, false, false, false, false, false, false, false, false, false, false, false, false, false], [false, false, false, false, false, false, false, false, false, false, false, false, false, false, false, false, false, false, false, true, false, false, true, false, false, false, false, false, false, false, false, false, false, false, false], [false, false, false, false, false, false, false, false, false, false, false, false, false, false, false, false, false, false, false, true, false, false, false, true, false, false, false, false, false, false, false, false, false, false, false], [false, false, false, false, false, false, false, false, false, false, false, false, false, false, false, false, false, false, false, true, false, true, false, false, true, false, false, false, false, false, false, false, false, false, false], [false, false, false, false, false, false, false, false, false, false, false, false, false, false, false, false, false, false, false, true, false, false, false, false, false, true, false, false, false, false, false, false, false, false, false], [false, false, false, false, false, false, false, false, false, false, false, false, false, false, false, false, false, false, false, false, false, true, false, false, false, false, true, false, false, false, false, false, false, false, false], [false, false, false, false, false, false, false, false, false, false, false, false, false, false, false, false, false, false, false, false, false, false, false, false, false, false, false, true, false, false, false, false, false, false, false], [false, false, false, false, false, false, false, false, false, false, false, false, false, false, false, false, false, false, false, false, false, false, false, false, false, false, false, true, true, false, false, false, false, false, false], [false, false, false, false, false, false, false, false, false, false, false, false, false, false, false, false, false, false, false, false, false, false, false, false, false, false, false, true, false, true, false, false, false, false, false], [false, false, false, false, false, false, false, false, false, false, false, false, false, false, false, false, false, false, false, false, false, false, false, false, false, false, false, true, false, false, false, false, false, false, false], [false, false, false, false, false, false, false, false, false, false, false, false, false, false, false, false, false, false, false, false, false, false, false, false, false, false, false, true, false, false, false, true, false, false, false], [false, false, false, false, false, false, false, false, false, false, false, false, false, false, false, false, false, false, false, false, false, false, false, false, false, false, false, true, false, false, true, false, true, false, false], [false, false, false, false, false, false, false, false, false, false, false, false, false, false, false, false, false, false, false, false, false, false, false, false, false, false, false, true, false, false, false, false, false, true, false]]
        (fun L x w9 => Below wF.heap.size wF w9 ∧ (L 12 = true → ∃ a9 c9, x 12 = .agg #[.int .i64 kc, .string r2, .slice a9 mG c9, .string BD, .int .i64 KR]) ∧ (L 29 = true → ∃ a9 c9, x 29 = .agg #[.int .i64 kc, .string r2, .slice a9 mG c9, .string BD, .int .i64 KR]))
        (by kernel_rfl) (by kernel_rfl) (by kernel_rfl) (by kernel_rfl) (by kernel_rfl) (by decide) ?_ ?_ ?_
      · intro _
        exact ⟨⟨rfl, rfl, rfl, Nat.le_refl _, fun _ _ => rfl⟩, (fun h => by cases h), (fun h => by cases h)⟩
      · simp only [List.take_succ_cons, List.take_zero]
        refine ⟨?_, ?_, ?_, ?_, ?_, ?_, ?_, ?_, ?_, ?_, ?_, ?_, ?_, ?_, ?_, ?_, ?_, ?_, ?_, ?_, ?_, ?_, ?_, ?_, ?_, ?_, ?_, ?_, ?_, ?_, ?_, ?_, ?_, ?_, ?_, trivial⟩
        all_goals
          intro L x w9 hS hl hp K9 hK9
          have hs : Below wF.heap.size wF w9 ∧ (L 12 = true → ∃ a9 c9, x 12 = .agg #[.int .i64 kc, .string r2, .slice a9 mG c9, .string BD, .int .i64 KR]) ∧ (L 29 = true → ∃ a9 c9, x 29 = .agg #[.int .i64 kc, .string r2, .slice a9 mG c9, .string BD, .int .i64 KR]) := hS
          clear hS
          replace hK9 := hK9.out
          simp only [actMix, pickV, List.tail_cons, List.headD_cons, Act.put, List.setIfInBounds_toArray, List.set_cons_zero, List.set_cons_succ] at hK9 ⊢
        · clear hp
          go_simp
          with_reducible refine hK9 _ ?_
          exact ⟨hs.1, fun h => by
            obtain ⟨a9, c9, h1⟩ := hs.2.1 (by simpa [setL] using h)
            exact ⟨a9, c9, by simpa [updV] using h1⟩, fun h => by
            obtain ⟨a9, c9, h1⟩ := hs.2.2 (by simpa [setL] using h)
            exact ⟨a9, c9, by simpa [updV] using h1⟩⟩
        · clear hp
          go_simp
          with_reducible refine hK9 _ ?_
          exact ⟨hs.1, fun h => by
            obtain ⟨a9, c9, h1⟩ := hs.2.1 (by simpa [setL] using h)
            exact ⟨a9, c9, by simpa [updV] using h1⟩, fun h => by
            obtain ⟨a9, c9, h1⟩ := hs.2.2 (by simpa [setL] using h)
            exact ⟨a9, c9, by simpa [updV] using h1⟩⟩
        · clear hp
          go_simp
          with_reducible refine hK9 _ ?_
          exact ⟨hs.1, fun h => by
            obtain ⟨a9, c9, h1⟩ := hs.2.1 (by simpa [setL] using h)
            exact ⟨a9, c9, by simpa [updV] using h1⟩, fun h => by
            obtain ⟨a9, c9, h1⟩ := hs.2.2 (by simpa [setL] using h)
            exact ⟨a9, c9, by simpa [updV] using h1⟩⟩
        · clear hp
          go_simp
          with_reducible refine hK9 _ ?_
          exact ⟨hs.1, fun h => by
            obtain ⟨a9, c9, h1⟩ := hs.2.1 (by simpa [setL] using h)
            exact ⟨a9, c9, by simpa [updV] using h1⟩, fun h => by
            obtain ⟨a9, c9, h1⟩ := hs.2.2 (by simpa [setL] using h)
            exact ⟨a9, c9, by simpa [updV] using h1⟩⟩
        · clear hp
          go_simp
          with_reducible refine hK9 _ ?_
          exact ⟨hs.1, fun h => by
            obtain ⟨a9, c9, h1⟩ := hs.2.1 (by simpa [setL] using h)
            exact ⟨a9, c9, by simpa [updV] using h1⟩, fun h => by
            obtain ⟨a9, c9, h1⟩ := hs.2.2 (by simpa [setL] using h)
            exact ⟨a9, c9, by simpa [updV] using h1⟩⟩
        · clear hp
          go_simp
          with_reducible refine hK9 _ ?_
          exact ⟨hs.1, fun h => by
            obtain ⟨a9, c9, h1⟩ := hs.2.1 (by simpa [setL] using h)
            exact ⟨a9, c9, by simpa [updV] using h1⟩, fun h => by
            obtain ⟨a9, c9, h1⟩ := hs.2.2 (by simpa [setL] using h)
            exact ⟨a9, c9, by simpa [updV] using h1⟩⟩
        · clear hp
          go_simp
          with_reducible refine hK9 _ ?_
          exact ⟨hs.1, fun h => by
            obtain ⟨a9, c9, h1⟩ := hs.2.1 (by simpa [setL] using h)
            exact ⟨a9, c9, by simpa [updV] using h1⟩, fun h => by
            obtain ⟨a9, c9, h1⟩ := hs.2.2 (by simpa [setL] using h)
            exact ⟨a9, c9, by simpa [updV] using h1⟩⟩
        · clear hp
          go_simp
          with_reducible refine hK9 _ ?_
          exact ⟨hs.1, fun h => by
            obtain ⟨a9, c9, h1⟩ := hs.2.1 (by simpa [setL] using h)
            exact ⟨a9, c9, by simpa [updV] using h1⟩, fun h => by
            obtain ⟨a9, c9, h1⟩ := hs.2.2 (by simpa [setL] using h)
            exact ⟨a9, c9, by simpa [updV] using h1⟩⟩
        · clear hp
          have HDN := Lib.hid (R.done32 (fun j => g ≤ j) g limM 100 _ [71, 69, 84] kc _ KR _ _ true true w9 (DF.out.below hs.1))
          go_simp
          refine HDN.out.mono ?_
          rintro e9 w8 ⟨rfl, rfl⟩
          with_reducible refine hK9 _ ?_
          exact ⟨hs.1, fun h => by
            obtain ⟨a9, c9, h1⟩ := hs.2.1 (by simpa [setL] using h)
            exact ⟨a9, c9, by simpa [updV] using h1⟩, fun h => by
            obtain ⟨a9, c9, h1⟩ := hs.2.2 (by simpa [setL] using h)
            exact ⟨a9, c9, by simpa [updV] using h1⟩⟩
        · clear hp
          go_simp
          with_reducible refine hK9 _ ?_
          exact ⟨hs.1, fun h => by
            obtain ⟨a9, c9, h1⟩ := hs.2.1 (by simpa [setL] using h)
            exact ⟨a9, c9, by simpa [updV] using h1⟩, fun h => by
            obtain ⟨a9, c9, h1⟩ := hs.2.2 (by simpa [setL] using h)
            exact ⟨a9, c9, by simpa [updV] using h1⟩⟩
        · clear hp
          go_simp
          with_reducible refine hK9 _ ?_
          exact ⟨hs.1, fun h => by
            obtain ⟨a9, c9, h1⟩ := hs.2.1 (by simpa [setL] using h)
            exact ⟨a9, c9, by simpa [updV] using h1⟩, fun h => by
            obtain ⟨a9, c9, h1⟩ := hs.2.2 (by simpa [setL] using h)
            exact ⟨a9, c9, by simpa [updV] using h1⟩⟩
        · clear hp
          go_simp
          with_reducible refine hK9 _ ?_
          exact ⟨hs.1, fun h => by
            obtain ⟨a9, c9, h1⟩ := hs.2.1 (by simpa [setL] using h)
            exact ⟨a9, c9, by simpa [updV] using h1⟩, fun h => by
            obtain ⟨a9, c9, h1⟩ := hs.2.2 (by simpa [setL] using h)
            exact ⟨a9, c9, by simpa [updV] using h1⟩⟩
        · clear hp
          have HMX := Lib.hid (HMS.out g ba bc w9 (DF.out.below hs.1) (own_below OF.out hs.1))
          go_simp
          refine HMX.out.mono ?_
          rintro e9 w8 ⟨a9, c9, rfl, _, _, hb8⟩
          with_reducible refine hK9 _ _ ?_
          exact ⟨hs.1.trans (hb8.mono hs.1.size), fun _ => ⟨a9, c9, by simp [updV]⟩, fun h => by
            obtain ⟨a9, c9, h1⟩ := hs.2.2 (by simpa [setL] using h)
            exact ⟨a9, c9, by simpa [updV] using h1⟩⟩
        · have h12 : L 12 = true := allL_mem hp 12 (by decide +kernel)
          obtain ⟨a9, c9, hx12⟩ := hs.2.1 h12
          clear hp
          rw [hx12] at hK9 ⊢
          have hfd := run_fld0 kc r2 a9 mG c9 BD KR w9
          go_simp
          with_reducible refine hK9 _ ?_
          exact ⟨hs.1, fun h => by
            obtain ⟨a9, c9, h1⟩ := hs.2.1 (by simpa [setL] using h)
            exact ⟨a9, c9, by simpa [updV] using h1⟩, fun h => by
            obtain ⟨a9, c9, h1⟩ := hs.2.2 (by simpa [setL] using h)
            exact ⟨a9, c9, by simpa [updV] using h1⟩⟩
        · clear hp
          have hfd := run_fldS kc r2 w9
          go_simp
          with_reducible refine hK9 _ ?_
          exact ⟨hs.1, fun h => by
            obtain ⟨a9, c9, h1⟩ := hs.2.1 (by simpa [setL] using h)
            exact ⟨a9, c9, by simpa [updV] using h1⟩, fun h => by
            obtain ⟨a9, c9, h1⟩ := hs.2.2 (by simpa [setL] using h)
            exact ⟨a9, c9, by simpa [updV] using h1⟩⟩
        · clear hp
          go_simp
          with_reducible refine hK9 _ ?_
          exact ⟨hs.1, fun h => by
            obtain ⟨a9, c9, h1⟩ := hs.2.1 (by simpa [setL] using h)
            exact ⟨a9, c9, by simpa [updV] using h1⟩, fun h => by
            obtain ⟨a9, c9, h1⟩ := hs.2.2 (by simpa [setL] using h)
            exact ⟨a9, c9, by simpa [updV] using h1⟩⟩
        · have s0 : w9.cell? ⟨bA, 0, none⟩ = some (.int .i64 kc) := by rw [(bcell hs.1).1 _ _ hlA]; exact c0
          clear hp
          go_simp
          with_reducible refine hK9 _ ?_
          exact ⟨hs.1, fun h => by
            obtain ⟨a9, c9, h1⟩ := hs.2.1 (by simpa [setL] using h)
            exact ⟨a9, c9, by simpa [updV] using h1⟩, fun h => by
            obtain ⟨a9, c9, h1⟩ := hs.2.2 (by simpa [setL] using h)
            exact ⟨a9, c9, by simpa [updV] using h1⟩⟩
        · clear hp
          go_simp
          with_reducible refine hK9 _ ?_
          exact ⟨hs.1, fun h => by
            obtain ⟨a9, c9, h1⟩ := hs.2.1 (by simpa [setL] using h)
            exact ⟨a9, c9, by simpa [updV] using h1⟩, fun h => by
            obtain ⟨a9, c9, h1⟩ := hs.2.2 (by simpa [setL] using h)
            exact ⟨a9, c9, by simpa [updV] using h1⟩⟩
        · clear hp
          go_simp
          with_reducible refine hK9 _ ?_
          exact ⟨hs.1, fun h => by
            obtain ⟨a9, c9, h1⟩ := hs.2.1 (by simpa [setL] using h)
            exact ⟨a9, c9, by simpa [updV] using h1⟩, fun h => by
            obtain ⟨a9, c9, h1⟩ := hs.2.2 (by simpa [setL] using h)
            exact ⟨a9, c9, by simpa [updV] using h1⟩⟩
        · clear hp
          go_simp
          with_reducible refine hK9 _ ?_
          exact ⟨hs.1, fun h => by
            obtain ⟨a9, c9, h1⟩ := hs.2.1 (by simpa [setL] using h)
            exact ⟨a9, c9, by simpa [updV] using h1⟩, fun h => by
            obtain ⟨a9, c9, h1⟩ := hs.2.2 (by simpa [setL] using h)
            exact ⟨a9, c9, by simpa [updV] using h1⟩⟩
        · clear hp
          go_simp
          with_reducible refine hK9 _ ?_
          exact ⟨hs.1, fun h => by
            obtain ⟨a9, c9, h1⟩ := hs.2.1 (by simpa [setL] using h)
            exact ⟨a9, c9, by simpa [updV] using h1⟩, fun h => by
            obtain ⟨a9, c9, h1⟩ := hs.2.2 (by simpa [setL] using h)
            exact ⟨a9, c9, by simpa [updV] using h1⟩⟩
        · clear hp
          have HPX := Lib.hid (HPE.out g _ w9 (laidS_M (HWW.out.below (LLF.out.trans (hs.1.mono LLF.out.size)))) (DF.out.below hs.1))
          go_simp
          refine HPX.out.mono ?_
          rintro e9 w8 ⟨rfl, hb8⟩
          with_reducible refine hK9 _ ?_
          exact ⟨hs.1.trans (hb8.mono hs.1.size), fun h => by
            obtain ⟨a9, c9, h1⟩ := hs.2.1 (by simpa [setL] using h)
            exact ⟨a9, c9, by simpa [updV] using h1⟩, fun h => by
            obtain ⟨a9, c9, h1⟩ := hs.2.2 (by simpa [setL] using h)
            exact ⟨a9, c9, by simpa [updV] using h1⟩⟩
        · clear hp
          go_simp
          with_reducible refine hK9 _ ?_
          exact ⟨hs.1, fun h => by
            obtain ⟨a9, c9, h1⟩ := hs.2.1 (by simpa [setL] using h)
            exact ⟨a9, c9, by simpa [updV] using h1⟩, fun h => by
            obtain ⟨a9, c9, h1⟩ := hs.2.2 (by simpa [setL] using h)
            exact ⟨a9, c9, by simpa [updV] using h1⟩⟩
        · have s7 : w9.cell? ⟨bT, 7, none⟩ = some (.bool false) := by rw [(bcell hs.1).1 _ _ hlT]; exact t7
          clear hp
          go_simp
          with_reducible refine hK9 _ ?_
          exact ⟨hs.1, fun h => by
            obtain ⟨a9, c9, h1⟩ := hs.2.1 (by simpa [setL] using h)
            exact ⟨a9, c9, by simpa [updV] using h1⟩, fun h => by
            obtain ⟨a9, c9, h1⟩ := hs.2.2 (by simpa [setL] using h)
            exact ⟨a9, c9, by simpa [updV] using h1⟩⟩
        · clear hp
          go_simp
          with_reducible refine hK9 _ ?_
          exact ⟨hs.1, fun h => by
            obtain ⟨a9, c9, h1⟩ := hs.2.1 (by simpa [setL] using h)
            exact ⟨a9, c9, by simpa [updV] using h1⟩, fun h => by
            obtain ⟨a9, c9, h1⟩ := hs.2.2 (by simpa [setL] using h)
            exact ⟨a9, c9, by simpa [updV] using h1⟩⟩
        · clear hp
          go_simp
          with_reducible refine hK9 _ ?_
          exact ⟨hs.1, fun h => by
            obtain ⟨a9, c9, h1⟩ := hs.2.1 (by simpa [setL] using h)
            exact ⟨a9, c9, by simpa [updV] using h1⟩, fun h => by
            obtain ⟨a9, c9, h1⟩ := hs.2.2 (by simpa [setL] using h)
            exact ⟨a9, c9, by simpa [updV] using h1⟩⟩
        · clear hp
          go_simp
          with_reducible refine hK9 _ ?_
          exact ⟨hs.1, fun h => by
            obtain ⟨a9, c9, h1⟩ := hs.2.1 (by simpa [setL] using h)
            exact ⟨a9, c9, by simpa [updV] using h1⟩, fun h => by
            obtain ⟨a9, c9, h1⟩ := hs.2.2 (by simpa [setL] using h)
            exact ⟨a9, c9, by simpa [updV] using h1⟩⟩
        · clear hp
          go_simp
          with_reducible refine hK9 _ ?_
          exact ⟨hs.1, fun h => by
            obtain ⟨a9, c9, h1⟩ := hs.2.1 (by simpa [setL] using h)
            exact ⟨a9, c9, by simpa [updV] using h1⟩, fun h => by
            obtain ⟨a9, c9, h1⟩ := hs.2.2 (by simpa [setL] using h)
            exact ⟨a9, c9, by simpa [updV] using h1⟩⟩
        · clear hp
          go_simp
          with_reducible refine hK9 _ ?_
          exact ⟨hs.1, fun h => by
            obtain ⟨a9, c9, h1⟩ := hs.2.1 (by simpa [setL] using h)
            exact ⟨a9, c9, by simpa [updV] using h1⟩, fun h => by
            obtain ⟨a9, c9, h1⟩ := hs.2.2 (by simpa [setL] using h)
            exact ⟨a9, c9, by simpa [updV] using h1⟩⟩
        · clear hp
          have HMX := Lib.hid (HMS.out g ba bc w9 (DF.out.below hs.1) (own_below OF.out hs.1))
          go_simp
          refine HMX.out.mono ?_
          rintro e9 w8 ⟨a9, c9, rfl, _, _, hb8⟩
          with_reducible refine hK9 _ _ ?_
          exact ⟨hs.1.trans (hb8.mono hs.1.size), fun h => by
            obtain ⟨a9, c9, h1⟩ := hs.2.1 (by simpa [setL] using h)
            exact ⟨a9, c9, by simpa [updV] using h1⟩, fun _ => ⟨a9, c9, by simp [updV]⟩⟩
        · have h29 : L 29 = true := allL_mem hp 29 (by decide +kernel)
          obtain ⟨a9, c9, hx29⟩ := hs.2.2 h29
          clear hp
          rw [hx29] at hK9 ⊢
          have hfd := run_fldB kc r2 a9 mG c9 BD KR w9
          go_simp
          with_reducible refine hK9 _ ?_
          exact ⟨hs.1, fun h => by
            obtain ⟨a9, c9, h1⟩ := hs.2.1 (by simpa [setL] using h)
            exact ⟨a9, c9, by simpa [updV] using h1⟩, fun h => by
            obtain ⟨a9, c9, h1⟩ := hs.2.2 (by simpa [setL] using h)
            exact ⟨a9, c9, by simpa [updV] using h1⟩⟩
        · clear hp
          go_simp
          with_reducible refine hK9 _ ?_
          exact ⟨hs.1, fun h => by
            obtain ⟨a9, c9, h1⟩ := hs.2.1 (by simpa [setL] using h)
            exact ⟨a9, c9, by simpa [updV] using h1⟩, fun h => by
            obtain ⟨a9, c9, h1⟩ := hs.2.2 (by simpa [setL] using h)
            exact ⟨a9, c9, by simpa [updV] using h1⟩⟩
        · have s3 : w9.cell? ⟨g7, 3, none⟩ = some (.string BD) := by rw [(bcell hs.1).1 _ _ hl7]; exact c3
          clear hp
          go_simp
          with_reducible refine hK9 _ ?_
          exact ⟨hs.1, fun h => by
            obtain ⟨a9, c9, h1⟩ := hs.2.1 (by simpa [setL] using h)
            exact ⟨a9, c9, by simpa [updV] using h1⟩, fun h => by
            obtain ⟨a9, c9, h1⟩ := hs.2.2 (by simpa [setL] using h)
            exact ⟨a9, c9, by simpa [updV] using h1⟩⟩
        · clear hp
          go_simp
          with_reducible refine hK9 _ ?_
          exact ⟨hs.1, fun h => by
            obtain ⟨a9, c9, h1⟩ := hs.2.1 (by simpa [setL] using h)
            exact ⟨a9, c9, by simpa [updV] using h1⟩, fun h => by
            obtain ⟨a9, c9, h1⟩ := hs.2.2 (by simpa [setL] using h)
            exact ⟨a9, c9, by simpa [updV] using h1⟩⟩
        · clear hp
          go_simp
          with_reducible refine hK9 _ ?_
          exact ⟨hs.1, fun h => by
            obtain ⟨a9, c9, h1⟩ := hs.2.1 (by simpa [setL] using h)
            exact ⟨a9, c9, by simpa [updV] using h1⟩, fun h => by
            obtain ⟨a9, c9, h1⟩ := hs.2.2 (by simpa [setL] using h)
            exact ⟨a9, c9, by simpa [updV] using h1⟩⟩
      intro L x w9 hS hL
      have hs : Below wF.heap.size wF w9 ∧ (L 12 = true → ∃ a9 c9, x 12 = .agg #[.int .i64 kc, .string r2, .slice a9 mG c9, .string BD, .int .i64 KR]) ∧ (L 29 = true → ∃ a9 c9, x 29 = .agg #[.int .i64 kc, .string r2, .slice a9 mG c9, .string BD, .int .i64 KR]) := hS
      have hb9 := hs.1
      obtain ⟨a9, c9, hx12⟩ := hs.2.1 (hL 12 (by decide))
      obtain ⟨a8, c8, hx29⟩ := hs.2.2 (hL 29 (by decide))
      clear hS hL hs
      simp only [actMix, pickV, List.tail_cons, List.headD_cons, Act.put, List.setIfInBounds_toArray, List.set_cons_zero, List.set_cons_succ, List.replicate_succ, List.replicate_zero, List.drop_succ_cons, List.drop_zero, List.take_succ_cons, List.take_zero]
      rw [hx12, hx29]
      have LL9 := Lib.hid (LLF.out.trans (hb9.mono LLF.out.size))
      clear hb9 hx12 hx29
      go_wp2_with fail
      go_ret
      exact ⟨rfl, LL9.out⟩
end Go.Proofs.YtbbphklhnngjmaaGreatDoor

