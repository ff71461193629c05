/- Packed: LawRwS, RsI, RsJ, LawRsT, FldsO, MsgO, MsgP. -/
import Derived.Deep.SlicePairs
import Derived.Deep.MidRow
import Derived.WideKeyArgs
import Derived.DataReads
import Derived.KernelRfl
import Derived.Test.YtbbphklhnngjmaaGreatDoorS08
import Derived.Test.YtbbphklhnngjmaaGreatDoorS09
import Derived.Test.YtbbphklhnngjmaaGreatDoorS11
import Derived.Test.YtbbphklhnngjmaaGreatDoorS15
import Derived.Test.YtbbphklhnngjmaaGreatDoorS18
import Derived.Test.YtbbphklhnngjmaaGreatDoorS19
import Derived.Test.YtbbphklhnngjmaaGreatDoorS20
/- The walk of the statement RewriteReads. -/
namespace Go.Proofs.YtbbphklhnngjmaaGreatDoor
open Go.RowKit

theorem laidS_R {w : World} (h : LaidS w) : LaidR w := by
  unfold LaidS at h
  unfold LaidR
  exact ⟨h.1, h.2.2.1, h.2.2.2⟩
theorem laidS_Y {w : World} (h : LaidS w) : Syn w := by
  unfold LaidS at h
  exact h.2.1
theorem laidS_M {w : World} (h : LaidS w) : MaxL w := by
  unfold LaidS at h
  exact h.1
def teF : Fld := ([84, 114, 97, 110, 115, 102, 101, 114, 45, 69, 110, 99, 111, 100, 105, 110, 103], [99, 104, 117, 110, 107, 101, 100])
theorem sent_plain {m t : List UInt8} {FF : List Fld} {b2 : ByteArray} {kk : Int} (h : PlainIsL m t FF b2 kk) (hl : FF.length ≤ 8) (hz : ∀ f ∈ FF, f.1.length ≤ 20 ∧ f.2.length ≤ 40) (hm : m.length ≤ 20) (ht : t.length ≤ 40) (hb : b2.data.toList.length ≤ 60) : SentIs m t b2.data.toList FF kk := by
  obtain ⟨h1, h2, h3, h4, h5⟩ := h
  refine ⟨h1, h2, h3, h4, fun hk => ?_, by omega, hz, hm, ht, hb⟩
  rcases h5 with ⟨_, h6, h7⟩ | h5
  · exact ⟨h6, List.eq_nil_of_length_eq_zero (by rw [← Lib.size_eq]; exact h7)⟩
  · omega
theorem sent_coded {m t : List UInt8} {FF : List Fld} {b2 : ByteArray} {kk : Int} (h : PlainIsL m t FF b2 kk) (hl : FF.length ≤ 8) (hz : ∀ f ∈ FF, f.1.length ≤ 20 ∧ f.2.length ≤ 40) (hm : m.length ≤ 20) (ht : t.length ≤ 40) (hb : b2.data.toList.length ≤ 60) : SentIs m t b2.data.toList (dropR lenR FF ++ [teF]) 2 := by
  obtain ⟨h1, h2, h3, ⟨h0, h4, h4z⟩, _⟩ := h
  refine ⟨fun f hf => ?_, h2, h3, ⟨h0, ?_, h4z⟩, (fun hk => by cases hk), ?_, fun f hf => ?_, hm, ht, hb⟩
  · rcases List.mem_append.1 hf with hf | hf
    · exact h1 f (dropR_mem hf)
    · obtain rfl := List.mem_singleton.1 hf
      exact fok_of (by decide +kernel) (by decide +kernel)
  · rw [← h4, allB_fil, allB_fil, List.filter_append]
    rw [show [teF].filter (isB hostR) = [] by decide +kernel, List.append_nil]
    unfold dropR
    rw [List.filter_filter]
    congr 1
    refine List.filter_congr fun f _ => ?_
    rw [isB_eq, isB_eq]
    by_cases hx : f.1.map lowC = hostR.data.toList.map lowC
    · rw [hx, decide_eq_false (show ¬ hostR.data.toList.map lowC = lenR.data.toList.map lowC by decide +kernel)]; simp
    · rw [decide_eq_false hx]; rfl
  · rw [List.length_append]
    have : (dropR lenR FF).length ≤ FF.length := List.length_filter_le _ _
    simp
    omega
  · rcases List.mem_append.1 hf with hf | hf
    · exact hz f (dropR_mem hf)
    · obtain rfl := List.mem_singleton.1 hf
      decide
theorem reqK_two (K : Int) : (reqK K == 2) = false := by
  unfold reqK
  split <;> rfl
theorem run_fld2 (m t : ByteArray) (b : Option Addr) (n d : Nat) (s : ByteArray) (k : Int) (w : World) : (Instr.field 39 (.agg #[.string m, .string t, .slice b n d, .string s, .int .i64 k]) 2).run Tryz.prog w = .ok (.slice b n d) w := by kernel_rfl
/-- The cells of one message that a row owns. -/
theorem own_msg {w : World} {B : Nat} {v v0 v1 v2 v3 v4 : Value} (h : w.ownsRow B 45 5 v 1 [v0, v1, v2, v3, v4]) : ∃ g cap, v = .slice (some ⟨g, 0, none⟩) 1 cap ∧ 1 ≤ cap ∧ w.cell? ⟨g, 0, none⟩ = some v0 ∧ w.cell? ⟨g, 1, none⟩ = some v1 ∧ w.cell? ⟨g, 2, none⟩ = some v2 ∧ w.cell? ⟨g, 3, none⟩ = some v3 ∧ w.cell? ⟨g, 4, none⟩ = some v4 ∧ g < w.heap.size := by
  have hcell := fun (k : Nat) hk => h.cells (g := k) hk
  have hlt := h.lt
  obtain ⟨_, ⟨h1, h0⟩ | ⟨k, cap, cur, rfl, _, _, hcap, _⟩⟩ := h
  · cases h0
  · have hc : ∀ (j : Nat) u, [v0, v1, v2, v3, v4][j]? = some u → w.cell? ⟨k, j, none⟩ = some u := fun j u hu => by
      have := hcell k rfl j u hu
      rw [Addr.add_mid, Nat.zero_add] at this
      exact this
    exact ⟨k, cap, rfl, hcap, hc 0 _ rfl, hc 1 _ rfl, hc 2 _ rfl, hc 3 _ rfl, hc 4 _ rfl, (hlt k rfl).2⟩
set_option maxRecDepth 100000 in
set_option maxHeartbeats 16000000 in
theorem lawRewriteReads (mm tt bb : ByteArray) (kk : Int) (coded : Bool) (a : Option Addr) (c : Nat) (fs : List Fld) (hfl : fs.length ≤ 9223372036854775807) (w : World) (hw : LaidS w) (hf : IsFlds w a c fs) :
    Calls Tryz.prog 5 #[.agg #[.string mm, .string tt, .slice a fs.length c, .string bb, .int .i64 kk], .bool coded] w fun e w' => e = .returned (.bool true) ∧ Below w.heap.size w w' := by
  obtain ⟨i0, hi, hz0, hz1, hz2⟩ := info_parts infoRef
  have HAW := Lib.hid (fun W h => awake13 W h)
  have HAS := Lib.hid (fun W h => asks14 mm tt bb kk a c fs hfl W h)
  have hfl8 := fewF_length fs 8
  have hfz : ∀ f ∈ fewF fs 8, f.1.length ≤ 20 ∧ f.2.length ≤ 40 := Go.Proofs.YtbbphklhnngjmaaGreatDoor.fewF_small fs 8
  have hmz : (cutS mm 20).data.toList.length ≤ 20 := by have := cutS_size mm 20; rw [← Lib.size_eq]; omega
  have htz : (cutS tt 40).data.toList.length ≤ 40 := by have := cutS_size tt 40; rw [← Lib.size_eq]; omega
  have hbz : (cutS bb 60).data.toList.length ≤ 60 := by have := cutS_size bb 60; rw [← Lib.size_eq]; omega
  obtain ⟨FF, hFF⟩ : ∃ X, X = fewF fs 8 := ⟨_, rfl⟩
  obtain ⟨m2, hm2⟩ : ∃ X, X = cutS mm 20 := ⟨_, rfl⟩
  obtain ⟨t2, ht2⟩ : ∃ X, X = cutS tt 40 := ⟨_, rfl⟩
  obtain ⟨b2, hb2⟩ : ∃ X, X = cutS bb 60 := ⟨_, rfl⟩
  rw [← hFF, ← hm2, ← ht2, ← hb2] at HAS
  rw [← hFF] at hfl8 hfz
  rw [← hm2] at hmz
  rw [← ht2] at htz
  rw [← hb2] at hbz
  have hoF : ∀ f ∈ FF, FldOk f := fun f h => ⟨by have := (hfz f h).1; omega, by have := (hfz f h).2; omega⟩
  have HPL := Lib.hid (fun p q W h => plain17L m2.data.toList t2.data.toList b2 kk (by omega) (by omega) p q FF (by omega) (fun f h => ⟨by have := (hfz f h).1; omega, by have := (hfz f h).2; omega⟩) W h)
  rw [bs_of, bs_of] at HPL
  have HDR := Lib.hid (fun p q W h => drop54 p q FF lenR (by omega) hoF (by decide) W h)
  have HFL8 := Lib.hid hfl8
  have HFZ := Lib.hid hfz
  have HMZ := Lib.hid hmz
  have HTZ := Lib.hid htz
  have HBZ := Lib.hid hbz
  obtain ⟨nF, hnF⟩ : ∃ X, X = FF.length := ⟨_, rfl⟩
  rw [← hnF] at HAS HPL HDR
  have HNF := Lib.hid hnF
  obtain ⟨n, hn⟩ : ∃ n, n = fs.length := ⟨_, rfl⟩
  rw [← hn] at HAS ⊢
  have R0 := Row.new w 39 #[.string mm, .string tt, .slice a n c, .string bb, .int .i64 kk]
  have L0 := below_alloc w (.cells #[.string mm, .string tt, .slice a n c, .string bb, .int .i64 kk] 39)
  have HW := Lib.hid (hw.below L0)
  have HWB := Lib.hid hw
  have HF := Lib.hid (hf.below L0)
  clear hw hf hfl hFF hm2 ht2 hb2 hn hoF hfl8 hfz hmz htz hbz hnF
  go_enter Tryz.func5, Tryz.ntmps5
  go_upto_region 1 with fail
  obtain ⟨b0, hb0⟩ : ∃ b0, b0 = w.heap.size := ⟨_, rfl⟩
  rw [← hb0] at R0 ⊢
  generalize World.alloc w _ = w1 at *
  have LL := Lib.hid L0
  have RR0 := Lib.hid R0
  clear L0 R0 hb0
  go_wp2_with fail
  with_reducible refine (HAW.out w1 (laidS_R HW.out)).mono ?_
  rintro e w2 ⟨rfl, hb2⟩
  have F2 := Lib.hid (HF.out.below hb2)
  have W2 := Lib.hid (HW.out.below hb2)
  have L2 := Lib.hid (LL.out.trans (hb2.mono LL.out.size))
  have R2 := RR0.out.below hb2
  have r0 := R2.cell 0
  have r1 := R2.cell 1
  have r2 := R2.cell 2
  have r3 := R2.cell 3
  have r4 := R2.cell 4
  simp only [List.getElem?_toArray, List.getElem?_cons_zero, List.getElem?_cons_succ] at r0 r1 r2 r3 r4
  clear hb2 HF HW LL RR0 R2 HAW
  go_wp2_with fail
  with_reducible refine (HAS.out w2 F2.out).mono ?_
  rintro e w3 ⟨a2, d2, rfl, hbn, hf3, hb3⟩
  have HBN := Lib.hid hbn
  have R4 := Row.new w3 39 #[.string m2, .string t2, .slice a2 nF d2, .string b2, .int .i64 kk]
  have LA := below_alloc w3 (.cells #[.string m2, .string t2, .slice a2 nF d2, .string b2, .int .i64 kk] 39)
  have F4 := Lib.hid (hf3.below LA)
  have W4 := Lib.hid ((W2.out.below hb3).below LA)
  have L3 := L2.out.trans (hb3.mono L2.out.size)
  have L4 := Lib.hid (L3.trans (LA.mono L3.size))
  have HLE : Hid (w.heap.size ≤ w3.heap.size) := L3.size
  clear hf3 hb3 F2 W2 L2 HAS r0 r1 r2 r3 r4 hbn LA L3
  go_upto_region 4 with fail
  obtain ⟨b5, hb5⟩ : ∃ b5, b5 = w3.heap.size := ⟨_, rfl⟩
  rw [← hb5] at R4 ⊢
  rw [← hb5] at HLE
  generalize World.alloc w3 _ = w4 at *
  have RR4 := Lib.hid R4
  have p0 := R4.cell 0
  have p1 := R4.cell 1
  have p2 := R4.cell 2
  have p3 := R4.cell 3
  have p4 := R4.cell 4
  simp only [List.getElem?_toArray, List.getElem?_cons_zero, List.getElem?_cons_succ] at p0 p1 p2 p3 p4
  clear R4 hb5
  go_wp2_with fail
  with_reducible refine (HPL.out a2 d2 w4 F4.out).mono ?_
  rintro e w5 ⟨q, rfl, hq, hb5⟩
  have HQ := Lib.hid hq
  have F5 := Lib.hid (F4.out.below hb5)
  have W5 := Lib.hid (W4.out.below hb5)
  have L5 := Lib.hid (L4.out.trans (hb5.mono L4.out.size))
  have RR5 := Lib.hid (RR4.out.below hb5)
  clear hq hb5 F4 W4 L4 RR4 HPL p0 p1 p2 p3 p4
  cases q
  · go_wp2_with fail
    go_ret
    exact ⟨rfl, L5.out⟩
  have HPI := Lib.hid (HQ.out rfl)
  clear HQ
  cases coded
  · obtain ⟨FS, hFS⟩ : ∃ X, X = FF := ⟨_, rfl⟩
    obtain ⟨K, hK⟩ : ∃ X : Int, X = kk := ⟨_, rfl⟩
    have hse : SentIs m2.data.toList t2.data.toList b2.data.toList FS K := by rw [hFS, hK]; exact sent_plain HPI.out HFL8.out HFZ.out HMZ.out HTZ.out HBZ.out
    have hsm := hse.smf
    have hbs : b2.size < 9223372036854775808 := by have := hse.bl; rw [Lib.size_eq]; omega
    have hbe : b2.size = b2.data.toList.length := Lib.size_eq b2
    have HOW := Lib.hid (fun b d W h => own17g m2 t2 b2 K b d FS (by have := hsm.1; omega) FS rfl W h)
    have hfg := req_fok hse.fok K b2.data.toList.length hse.bl
    have hxx := hse.text
    have hno1 := req_no FS clientL K b2.size encN (req_gone FS clientL K b2.size encN (by decide +kernel) (by decide +kernel) (by decide +kernel) (by decide +kernel))
    have hno2 := req_no FS clientL K b2.size connB (req_gone FS clientL K b2.size connB (by decide +kernel) (by decide +kernel) (by decide +kernel) (by decide +kernel))
    rw [← hbe] at hfg hxx
    obtain ⟨GS, hGS⟩ : ∃ X, X = reqF FS clientL K b2.size := ⟨_, rfl⟩
    obtain ⟨K', hK'⟩ : ∃ X, X = reqK K := ⟨_, rfl⟩
    have HRQ := Lib.hid (fun b d ha W hW h => rreq16 m2 t2 b2 K clientL b d FS hsm (by decide) hbs ha GS hGS K' hK' W hW h)
    have HRR := Lib.hid (fun b d W h => rrq18 m2 t2 b2 K clientL b d FS hsm (by decide) hbs GS hGS K' hK' W h)
    have HFD : Hid (∀ (g : Nat) w, HeS (fun j => g ≤ j) 108 (paR ⟨#[]⟩ ⟨#[]⟩ (.slice none 0 0) false 0) w g limM 100 hd0 → Up (fun j => g ≤ j) w → (∀ w', Keep (fun j => g ≤ j) w w' → MaxL w') → (∀ w', Keep (fun j => g ≤ j) w w' → Syn w') → Calls Tryz.prog 22 #[.pointer (some ⟨g, 0, none⟩), .string (bs (reqLine (m2.data.toList, t2.data.toList) ++ textL GS ++ [13, 10] ++ b2.data.toList))] w fun x w' => ∃ v a c, x = .returned (.tuple #[v, .int .i64 0]) ∧ w'.ownsRow w.heap.size 45 5 v 1 [.string m2, .string t2, .slice a GS.length c, .string b2, .int .i64 K'] ∧ IsFlds w' a c GS ∧ Keep (fun j => g ≤ j) w w') := fun g w hp hu hM hY => by
      have := sent_feed m2.data.toList t2.data.toList b2.data.toList FS K hse (fun j => g ≤ j) g w hp hu hM hY
      rw [← hbe, ← hGS, ← hK'] at this
      unfold FeedB at this
      rw [bs_of, bs_of, bs_of] at this
      exact this
    rw [show bs clientL = ⟨#[99, 108, 105, 101, 110, 116]⟩ from rfl] at HRQ HRR
    rw [← hGS] at hfg hxx hno1 hno2
    have hok : ∀ f ∈ GS, FldOk f := by
      have hs : SmF GS 1003 20000000 := by
        have hG := hsm.reqG (cl := clientL) (by decide)
        rw [hGS]
        unfold reqF
        split
        · exact hG.more (by decide) (Nat.le_refl _)
        · exact hG.set (by decide) (by have := prtI_short (b2.size : Int); omega)
      exact hs.ok (by decide)
    have hgl : GS.length ≤ 1000 := by have := hxx.2; omega
    have hlow : ∀ f ∈ GS, f.1.length ≤ 1000000000 := fun f hf => by
      have := (fok_parts (hfg f hf)).1
      unfold tokB at this
      rw [Bool.and_eq_true, Bool.and_eq_true] at this
      have := of_decide_eq_true this.1.2
      omega
    have HTX := Lib.hid (fun b d W h => mtext19L m2.data.toList t2.data.toList b2.data.toList K' (by have := hse.bl; omega) (by have := hse.ml; omega) (by have := hse.tl; omega) b d GS (by omega) hok (by have := hxx.1; omega) W h)
    rw [bs_of, bs_of, bs_of] at HTX
    have HIS := Lib.hid (fun b1 d1 b2' d2 W h1 h2 => lawIs45 b1 d1 GS b2' d2 GS true (by simp) (by omega) (by omega) W h1 h2)
    have HN1 := Lib.hid hno1
    have HN2 := Lib.hid hno2
    have HLW := Lib.hid hlow
    have hk2 : (K' == 2) = false := by rw [hK']; exact reqK_two K
    obtain ⟨TXT, hTXT⟩ : ∃ X, X = bs (reqLine (m2.data.toList, t2.data.toList) ++ textL GS ++ [13, 10] ++ b2.data.toList) := ⟨_, rfl⟩
    rw [← hTXT] at HFD HTX
    obtain ⟨nS, hnS⟩ : ∃ X, X = FS.length := ⟨_, rfl⟩
    obtain ⟨nG, hnG⟩ : ∃ X, X = GS.length := ⟨_, rfl⟩
    rw [← hnS] at HOW HRQ HRR
    rw [← hnG] at HRQ HRR HFD HTX HIS
    have HNG := Lib.hid hnG
    have hgl2 : nG ≤ 1000 := by omega
    obtain rfl : nS = nF := by rw [HNF.out, hnS, hFS]
    subst hK
    have HFS := Lib.hid hFS
    have HNS := Lib.hid hnS
    clear hFS hse hsm hbs hbe hfg hxx hno1 hno2 hGS hK' hok hgl hlow hTXT hnS hnG
    have em := self_strP m2
    have et := self_strP t2
    have eb := self_strP b2
    have FX := Lib.hid (show IsFlds w5 a2 d2 FS by rw [HFS.out]; exact F5.out)
    have R5 := RR5.out
    have r0 := R5.cell 0
    have r1 := R5.cell 1
    have r2 := R5.cell 2
    have r3 := R5.cell 3
    have r4 := R5.cell 4
    simp only [List.getElem?_toArray, List.getElem?_cons_zero, List.getElem?_cons_succ] at r0 r1 r2 r3 r4
    clear R5 F5 HDR HPI HFS HNS
    go_wp2_with fail
    with_reducible refine (HOW.out a2 d2 w5 FX.out).mono ?_
    rintro e w6 ⟨b6, d6, rfl, hbn6, hf6, hb6⟩
    have HBN6 := Lib.hid hbn6
    have F6 := Lib.hid hf6
    have X6 := Lib.hid (FX.out.below hb6)
    have W6 := Lib.hid (W5.out.below hb6)
    have L6 := Lib.hid (L5.out.trans (hb6.mono L5.out.size))
    have R6 := Lib.hid (RR5.out.below hb6)
    clear hbn6 hf6 hb6 HOW FX W5 L5 RR5 r0 r1 r2 r3 r4
    go_wp2_with fail
    with_reducible refine (HRQ.out b6 d6 HBN6.out w6 (laidS_R W6.out) F6.out).mono ?_
    rintro e w7 ⟨b7, d7, rfl, hf7, hb7⟩
    have LA := below_alloc w7 (.cells #[.string m2, .string t2, .slice b7 nG d7, .string b2, .int .i64 K'] 45)
    have hb8 := hb7.trans (LA.mono hb7.size)
    have RM := Row.new w7 45 #[.string m2, .string t2, .slice b7 nG d7, .string b2, .int .i64 K']
    have F8 := Lib.hid (hf7.below LA)
    have X8 := Lib.hid (X6.out.below hb8)
    have W8 := Lib.hid (W6.out.below hb8)
    have L8 := Lib.hid (L6.out.trans (hb8.mono L6.out.size))
    have R8 := Lib.hid (R6.out.below hb8)
    clear hf7 hb7 hb8 LA X6 W6 L6 R6 HRQ F6 HBN6
    go_upto_region 9 with fail
    obtain ⟨bo, hbo⟩ : ∃ bo, bo = w7.heap.size := ⟨_, rfl⟩
    rw [← hbo] at RM ⊢
    generalize World.alloc w7 _ = w8 at *
    have RMH := Lib.hid RM
    clear RM hbo
    have HNW := Lib.hid (new21 500 2000 40 100 w8)
    go_wp2_with fail
    with_reducible refine HNW.out.mono ?_
    rintro e w9 ⟨g, rfl, hg9, hrow9, hb9⟩
    have F9 := Lib.hid (F8.out.below hb9)
    have RM9 := RMH.out.below hb9
    have HRW := Lib.hid hrow9
    have HG9 := Lib.hid hg9
    have B9 := Lib.hid hb9
    have r0 := RM9.cell 0
    have r1 := RM9.cell 1
    have r2 := RM9.cell 2
    have r3 := RM9.cell 3
    have r4 := RM9.cell 4
    simp only [List.getElem?_toArray, List.getElem?_cons_zero, List.getElem?_cons_succ] at r0 r1 r2 r3 r4
    clear hrow9 hg9 hb9 RMH RM9 HNW F8
    go_wp2_with fail
    with_reducible refine (HTX.out b7 d7 w9 F9.out).mono ?_
    rintro e wT ⟨rfl, hbT⟩
    have hrT := HRW.out.below hbT
    have BT := Lib.hid (B9.out.trans (hbT.mono B9.out.size))
    have HFDT := Lib.hid (HFD.out g wT (paNew_S _ _ _ 100 hrT _ (Nat.le_refl _)) (fun k hk => Nat.le_trans (Nat.le_of_lt hrT.lt) hk) (fun w' hk => laidS_M (W8.out.below (BT.out.trans (hk.bel (fun k hk => Nat.le_trans HG9.out hk) BT.out.size)))) (fun w' hk => laidS_Y (W8.out.below (BT.out.trans (hk.bel (fun k hk => Nat.le_trans HG9.out hk) BT.out.size)))))
    clear hbT hrT HFD HTX HRW B9 F9 r0 r1 r2 r3 r4
    go_wp2_with fail
    with_reducible refine HFDT.out.mono ?_
    rintro e w10 ⟨v, a', c', rfl, ho, hfG, hk⟩
    obtain ⟨gm, cap, rfl, hcap, q0, q1, q2, q3, q4, hgm⟩ := own_msg ho
    have B10 := BT.out.trans (hk.bel (fun k hk => Nat.le_trans HG9.out hk) BT.out.size)
    have R10 := R8.out.below B10
    have p0 := R10.cell 0
    have p1 := R10.cell 1
    have p2 := R10.cell 2
    have p3 := R10.cell 3
    have p4 := R10.cell 4
    simp only [List.getElem?_toArray, List.getElem?_cons_zero, List.getElem?_cons_succ] at p0 p1 p2 p3 p4
    have FG := Lib.hid hfG
    have X10 := Lib.hid (X8.out.below B10)
    have L10 := Lib.hid (L8.out.trans (B10.mono L8.out.size))
    have RR10 := Lib.hid R10
    have HGM := Lib.hid hgm
    clear ho hk hfG B10 R10 HFDT BT HG9 X8 W8 L8 R8 hgm
    have hcap1 : (1 : Int) ≤ cap := by omega
    go_upto_region 13 with fail
    go_quiet (fail)
    go_upto_region 15 with fail
    obtain ⟨w11, hw11⟩ : ∃ w11, w11 = w10.drewN nq := ⟨_, rfl⟩
    rw [← hw11]
    have B11 : Below w10.heap.size w10 w11 := by rw [hw11]; exact ⟨rfl, rfl, rfl, Nat.le_refl _, fun _ _ => rfl⟩
    have FG11 := Lib.hid (FG.out.below B11)
    have X11 := Lib.hid (X10.out.below B11)
    have L11 := Lib.hid (L10.out.trans (B11.mono L10.out.size))
    have R11 := Lib.hid (RR10.out.below B11)
    have c2 : w11.cell? ⟨gm, 2, none⟩ = some (.slice a' nG c') := by rw [(bcell B11).1 _ _ HGM.out]; exact q2
    have HC2 := Lib.hid c2
    have HG11 : Hid (gm < w11.heap.size) := Nat.lt_of_lt_of_le HGM.out B11.size
    clear hw11 B11 q0 q1 q2 q3 q4 p0 p1 p2 p3 p4 FG X10 L10 RR10 HGM em et eb hk2
    go_wp2_with fail
    clear c2
    go_loopw [90] (fun i wr => ∃ j : Nat, j ≤ nG ∧ i = .int .i64 (j : Int) ∧ Hid (Below w11.heap.size w11 wr)) (fun i _ => nG - (intOf i).toNat)
    case atStart => exact ⟨0, Nat.zero_le _, rfl, Below.refl _ _⟩
    case round =>
      obtain ⟨j, hj, rfl, hb⟩ := hrel
      by_cases hlt : j < nG
      · have hltG : j < GS.length := by rw [← HNG.out]; exact hlt
        obtain h0 | ⟨bk, o, rfl, hbk, hc, hcell⟩ := FG11.out.below hb.out
        · exfalso; rw [h0] at hltG; simp at hltG
        obtain ⟨c1, c2⟩ := hcell j GS[j] (by simp [hltG])
        have hmem := List.getElem_mem hltG
        have hn1 := HN1.out GS[j] hmem
        have hn2 := HN2.out GS[j] hmem
        have hlw := HLW.out GS[j] hmem
        have hcg : nG ≤ c' := by rw [HNG.out]; exact hc
        obtain ⟨f, hfe⟩ : ∃ f, f = GS[j] := ⟨_, rfl⟩
        rw [← hfe] at c1 c2 hn1 hn2 hlw
        have HLO := Lib.hid (fun W => lowR f.1 hlw W)
        have t1 : ((bs (f.1.map lowC)).toList == [116, 114, 97, 110, 115, 102, 101, 114, 45, 101, 110, 99, 111, 100, 105, 110, 103]) = false := str_lit _ _ _ (decide_eq_false hn1)
        have t2' : ((bs (f.1.map lowC)).toList == [99, 111, 110, 110, 101, 99, 116, 105, 111, 110]) = false := str_lit _ _ _ (decide_eq_false hn2)
        generalize bs (f.1.map lowC) = LO at *
        generalize bs f.1 = N at *
        generalize bs f.2 = V at *
        have j1 : (j : Int) < nG := by omega
        have LA := below_alloc wr (.cells #[.string N, .string V] 62)
        have B1 := Lib.hid (hb.out.trans (LA.mono hb.out.size))
        have d1 : (wr.alloc (.cells #[.string N, .string V] 62)).cell? ⟨wr.heap.size, 0, none⟩ = some (.string N) := by simp
        have hza : wr.heap.size < (wr.alloc (.cells #[.string N, .string V] 62)).heap.size := by simp
        clear hcell hfe hmem hn1 hn2 hlw hltG hc hbk LA
        go_wp2_with fail
        obtain ⟨bf, hbf⟩ : ∃ bf, bf = wr.heap.size := ⟨_, rfl⟩
        rw [← hbf] at d1 hza ⊢
        generalize World.alloc wr _ = wa at *
        clear hbf
        with_reducible refine (HLO.out wa).mono ?_
        rintro e wb ⟨rfl, hbb⟩
        have d2 : wb.cell? ⟨bf, 0, none⟩ = some (.string N) := by rw [(bcell hbb).1 _ _ hza]; exact d1
        have B2 := Lib.hid (B1.out.trans (hbb.mono B1.out.size))
        clear hbb d1 hza B1
        go_wp2_with fail
        with_reducible refine (HLO.out wb).mono ?_
        rintro e wc ⟨rfl, hbc⟩
        have B3 := Lib.hid (B2.out.trans (hbc.mono B2.out.size))
        clear hbc d2 B2 HLO
        go_wp2_with fail
        go_roundw
        case rel => exact ⟨j + 1, hlt, by go_num, B3⟩
        case measure => simp [intOf]; omega
      · obtain rfl : nG = j := by omega
        have hbb := hb.out
        have R12 := R11.out.below hbb
        have hlt5 := R12.lt
        have p0 := R12.cell 0
        have p1 := R12.cell 1
        have p2 := R12.cell 2
        have p3 := R12.cell 3
        have p4 := R12.cell 4
        simp only [List.getElem?_toArray, List.getElem?_cons_zero, List.getElem?_cons_succ] at p0 p1 p2 p3 p4
        have s2 : wr.cell? ⟨gm, 2, none⟩ = some (.slice a' nG c') := by rw [(bcell hbb).1 _ _ HG11.out]; exact HC2.out
        have hltg : gm < wr.heap.size := Nat.lt_of_lt_of_le HG11.out hbb.size
        have FG12 := Lib.hid (FG11.out.below hbb)
        have X12 := Lib.hid (X11.out.below hbb)
        have L12 := Lib.hid (L11.out.trans (hbb.mono L11.out.size))
        clear hb hbb R12 HC2 HG11 FG11 X11 L11 R11 HLW HN1 HN2 HNG
        go_upto_region 21 with fail
        refine region_mixt 8 [some (.slice (some ⟨gm, 0, none⟩) 1 cap), some (.pointer (some ⟨gm, 0, none⟩)), some (.pointer (some ⟨gm, 2, none⟩)), some (.slice a' nG c'), some (.agg #[.string m2, .string t2, .slice a2 nS d2, .string b2, .int .i64 K]), none, none, some (.bool true)]
          [[false, false, false, false, false, false, false, false], [true, false, false, false, false, false, false, false], [false, true, false, false, false, false, false, false], [false, false, true, false, false, false, false, false], [false, false, false, false, false, false, false, false], [false, false, false, false, true, false, false, false], [false, false, false, false, false, true, false, false], [false, false, false, true, false, true, true, false]]
          (fun L x w9 => Below wr.heap.size wr w9 ∧ (L 5 = true → ∃ b d, x 5 = .agg #[.string m2, .string t2, .slice b nG d, .string b2, .int .i64 K'] ∧ IsFlds w9 b d GS) ∧ (L 6 = true → ∃ b d, x 6 = .slice b nG d ∧ IsFlds w9 b d GS))
          (by kernel_rfl) (by kernel_rfl) (by kernel_rfl) (by kernel_rfl) (by kernel_rfl) (by decide) ?_ ?_ ?_
        · intro _
          exact ⟨⟨rfl, rfl, rfl, Nat.le_refl _, fun _ _ => rfl⟩, (fun h => by cases h), (fun h => by cases h)⟩
        · simp only [List.take_succ_cons, List.take_zero]
          refine ⟨?_, ?_, ?_, ?_, ?_, ?_, ?_, ?_, trivial⟩
          all_goals
            intro L x w9 hS hl hp K9 hK9
            have hs : Below wr.heap.size wr w9 ∧ (L 5 = true → ∃ b d, x 5 = .agg #[.string m2, .string t2, .slice b nG d, .string b2, .int .i64 K'] ∧ IsFlds w9 b d GS) ∧ (L 6 = true → ∃ b d, x 6 = .slice b nG d ∧ IsFlds w9 b d GS) := hS
            have u2 : w9.cell? ⟨gm, 2, none⟩ = some (.slice a' nG c') := by rw [(bcell hs.1).1 _ _ hltg]; exact s2
            have u0 : w9.cell? ⟨b5, 0, none⟩ = some (.string m2) := by rw [(bcell hs.1).1 _ _ hlt5]; exact p0
            have u1 : w9.cell? ⟨b5, 1, none⟩ = some (.string t2) := by rw [(bcell hs.1).1 _ _ hlt5]; exact p1
            have u3 : w9.cell? ⟨b5, 2, none⟩ = some (.slice a2 nS d2) := by rw [(bcell hs.1).1 _ _ hlt5]; exact p2
            have u4 : w9.cell? ⟨b5, 3, none⟩ = some (.string b2) := by rw [(bcell hs.1).1 _ _ hlt5]; exact p3
            have u5 : w9.cell? ⟨b5, 4, none⟩ = some (.int .i64 K) := by rw [(bcell hs.1).1 _ _ hlt5]; exact p4
            clear hS
            replace hK9 := hK9.out
            simp only [actMix, pickV, List.tail_cons, List.headD_cons, Act.put, List.setIfInBounds_toArray, List.set_cons_zero, List.set_cons_succ] at hK9 ⊢
          iterate 5
            · clear hp
              go_simp
              with_reducible refine hK9 _ ?_
              exact ⟨hs.1, fun h => by
              obtain ⟨b, d, h1, h2⟩ := hs.2.1 (by simpa [setL] using h)
              exact ⟨b, d, by simpa [updV] using h1, h2⟩, fun h => by
              obtain ⟨b, d, h1, h2⟩ := hs.2.2 (by simpa [setL] using h)
              exact ⟨b, d, by simpa [updV] using h1, h2⟩⟩
          · clear hp
            go_simp
            refine (HRR.out a2 d2 w9 (X12.out.below hs.1)).mono ?_
            rintro e9 w8' ⟨b', d', rfl, hf8, hb8⟩
            with_reducible refine hK9 _ _ ?_
            exact ⟨hs.1.trans (hb8.mono hs.1.size), fun _ => ⟨b', d', by simp [updV], hf8⟩, fun h => by
              obtain ⟨b, d, h1, h2⟩ := hs.2.2 (by simpa [setL] using h)
              exact ⟨b, d, by simpa [updV] using h1, h2.below hb8⟩⟩
          · have h5 : L 5 = true := allL_mem hp 5 (by decide +kernel)
            obtain ⟨b', d', hx5, hf5⟩ := hs.2.1 h5
            have hfd := run_fld2 m2 t2 b' nG d' b2 K' w9
            clear hp
            rw [hx5] at hK9 ⊢
            go_simp
            with_reducible refine hK9 _ _ ?_
            exact ⟨hs.1, fun h => by
              obtain ⟨b, d, h1, h2⟩ := hs.2.1 (by simpa [setL] using h)
              exact ⟨b, d, by simpa [updV] using h1, h2⟩, fun _ => ⟨b', d', by simp [updV], hf5⟩⟩
          · have h6 : L 6 = true := allL_mem hp 6 (by decide +kernel)
            obtain ⟨b', d', hx6, hf6⟩ := hs.2.2 h6
            clear hp
            rw [hx6] at hK9 ⊢
            go_simp
            refine (HIS.out a' c' b' d' w9 (FG12.out.below hs.1) hf6).mono ?_
            rintro e9 w8' ⟨rfl, hb8⟩
            with_reducible refine hK9 _ ?_
            exact ⟨hs.1.trans (hb8.mono hs.1.size), fun h => by
              obtain ⟨b, d, h1, h2⟩ := hs.2.1 (by simpa [setL] using h)
              exact ⟨b, d, by simpa [updV] using h1, h2.below hb8⟩, fun h => by
              obtain ⟨b, d, h1, h2⟩ := hs.2.2 (by simpa [setL] using h)
              exact ⟨b, d, by simpa [updV] using h1, h2.below hb8⟩⟩
        intro L x w9 hS hL
        have hs : Below wr.heap.size wr w9 ∧ (L 5 = true → ∃ b d, x 5 = .agg #[.string m2, .string t2, .slice b nG d, .string b2, .int .i64 K'] ∧ IsFlds w9 b d GS) ∧ (L 6 = true → ∃ b d, x 6 = .slice b nG d ∧ IsFlds w9 b d GS) := hS
        have hb9 := hs.1
        clear hS hL hs
        simp only [actMix, pickV, List.tail_cons, List.headD_cons, Act.put, List.setIfInBounds_toArray, List.set_cons_zero, List.set_cons_succ, List.replicate_succ, List.replicate_zero, List.drop_succ_cons, List.drop_zero, List.take_succ_cons, List.take_zero]
        have LX := Lib.hid (L12.out.trans (hb9.mono L12.out.size))
        clear hb9
        go_wp2_with fail
        go_ret
        exact ⟨rfl, LX.out⟩
  · obtain ⟨FS, hFS⟩ : ∃ X, X = dropR lenR FF ++ [teF] := ⟨_, rfl⟩
    obtain ⟨K, hK⟩ : ∃ X : Int, X = 2 := ⟨_, rfl⟩
    have hse : SentIs m2.data.toList t2.data.toList b2.data.toList FS K := by rw [hFS, hK]; exact sent_coded HPI.out HFL8.out HFZ.out HMZ.out HTZ.out HBZ.out
    have hsm := hse.smf
    have hbs : b2.size < 9223372036854775808 := by have := hse.bl; rw [Lib.size_eq]; omega
    have hbe : b2.size = b2.data.toList.length := Lib.size_eq b2
    have HOW := Lib.hid (fun b d W h => own17g m2 t2 b2 K b d FS (by have := hsm.1; omega) FS rfl W h)
    have hfg := req_fok hse.fok K b2.data.toList.length hse.bl
    have hxx := hse.text
    have hno1 := req_no FS clientL K b2.size encN (req_gone FS clientL K b2.size encN (by decide +kernel) (by decide +kernel) (by decide +kernel) (by decide +kernel))
    have hno2 := req_no FS clientL K b2.size connB (req_gone FS clientL K b2.size connB (by decide +kernel) (by decide +kernel) (by decide +kernel) (by decide +kernel))
    rw [← hbe] at hfg hxx
    obtain ⟨GS, hGS⟩ : ∃ X, X = reqF FS clientL K b2.size := ⟨_, rfl⟩
    obtain ⟨K', hK'⟩ : ∃ X, X = reqK K := ⟨_, rfl⟩
    have HRQ := Lib.hid (fun b d ha W hW h => rreq16 m2 t2 b2 K clientL b d FS hsm (by decide) hbs ha GS hGS K' hK' W hW h)
    have HRR := Lib.hid (fun b d W h => rrq18 m2 t2 b2 K clientL b d FS hsm (by decide) hbs GS hGS K' hK' W h)
    have HFD : Hid (∀ (g : Nat) w, HeS (fun j => g ≤ j) 108 (paR ⟨#[]⟩ ⟨#[]⟩ (.slice none 0 0) false 0) w g limM 100 hd0 → Up (fun j => g ≤ j) w → (∀ w', Keep (fun j => g ≤ j) w w' → MaxL w') → (∀ w', Keep (fun j => g ≤ j) w w' → Syn w') → Calls Tryz.prog 22 #[.pointer (some ⟨g, 0, none⟩), .string (bs (reqLine (m2.data.toList, t2.data.toList) ++ textL GS ++ [13, 10] ++ b2.data.toList))] w fun x w' => ∃ v a c, x = .returned (.tuple #[v, .int .i64 0]) ∧ w'.ownsRow w.heap.size 45 5 v 1 [.string m2, .string t2, .slice a GS.length c, .string b2, .int .i64 K'] ∧ IsFlds w' a c GS ∧ Keep (fun j => g ≤ j) w w') := fun g w hp hu hM hY => by
      have := sent_feed m2.data.toList t2.data.toList b2.data.toList FS K hse (fun j => g ≤ j) g w hp hu hM hY
      rw [← hbe, ← hGS, ← hK'] at this
      unfold FeedB at this
      rw [bs_of, bs_of, bs_of] at this
      exact this
    rw [show bs clientL = ⟨#[99, 108, 105, 101, 110, 116]⟩ from rfl] at HRQ HRR
    rw [← hGS] at hfg hxx hno1 hno2
    have hok : ∀ f ∈ GS, FldOk f := by
      have hs : SmF GS 1003 20000000 := by
        have hG := hsm.reqG (cl := clientL) (by decide)
        rw [hGS]
        unfold reqF
        split
        · exact hG.more (by decide) (Nat.le_refl _)
        · exact hG.set (by decide) (by have := prtI_short (b2.size : Int); omega)
      exact hs.ok (by decide)
    have hgl : GS.length ≤ 1000 := by have := hxx.2; omega
    have hlow : ∀ f ∈ GS, f.1.length ≤ 1000000000 := fun f hf => by
      have := (fok_parts (hfg f hf)).1
      unfold tokB at this
      rw [Bool.and_eq_true, Bool.and_eq_true] at this
      have := of_decide_eq_true this.1.2
      omega
    have HTX := Lib.hid (fun b d W h => mtext19L m2.data.toList t2.data.toList b2.data.toList K' (by have := hse.bl; omega) (by have := hse.ml; omega) (by have := hse.tl; omega) b d GS (by omega) hok (by have := hxx.1; omega) W h)
    rw [bs_of, bs_of, bs_of] at HTX
    have HIS := Lib.hid (fun b1 d1 b2' d2 W h1 h2 => lawIs45 b1 d1 GS b2' d2 GS true (by simp) (by omega) (by omega) W h1 h2)
    have HN1 := Lib.hid hno1
    have HN2 := Lib.hid hno2
    have HLW := Lib.hid hlow
    have hk2 : (K' == 2) = false := by rw [hK']; exact reqK_two K
    obtain ⟨TXT, hTXT⟩ : ∃ X, X = bs (reqLine (m2.data.toList, t2.data.toList) ++ textL GS ++ [13, 10] ++ b2.data.toList) := ⟨_, rfl⟩
    rw [← hTXT] at HFD HTX
    obtain ⟨nS, hnS⟩ : ∃ X, X = FS.length := ⟨_, rfl⟩
    obtain ⟨nG, hnG⟩ : ∃ X, X = GS.length := ⟨_, rfl⟩
    rw [← hnS] at HOW HRQ HRR
    rw [← hnG] at HRQ HRR HFD HTX HIS
    have HNG := Lib.hid hnG
    have hgl2 : nG ≤ 1000 := by omega
    subst hK
    have HFS := Lib.hid hFS
    have HNS := Lib.hid hnS
    clear hFS hse hsm hbs hbe hfg hxx hno1 hno2 hGS hK' hok hgl hlow hTXT hnS hnG
    have em := self_strP m2
    have et := self_strP t2
    have eb := self_strP b2
    have HD2 : Hid (∀ p q W, IsFlds W p q FF → Calls Tryz.prog 20 #[.slice p nF q, .string ⟨#[99, 111, 110, 116, 101, 110, 116, 45, 108, 101, 110, 103, 116, 104]⟩] W fun e w' => ∃ u, e = .returned u ∧ w'.ownsRow W.heap.size 53 2 u (dropR lenR FF).length (cellsF (dropR lenR FF)) ∧ Below W.heap.size W w') := HDR.out
    have hdl : (dropR lenR FF).length ≤ FF.length := List.length_filter_le _ _
    have hf8 := HFL8.out
    have hcl : cellsF FS = cellsF (dropR lenR FF) ++ [.string ⟨#[84, 114, 97, 110, 115, 102, 101, 114, 45, 69, 110, 99, 111, 100, 105, 110, 103]⟩, .string ⟨#[99, 104, 117, 110, 107, 101, 100]⟩] := by rw [HFS.out, cellsF_append]; rfl
    have hll : FS.length = (dropR lenR FF).length + 1 := by rw [HFS.out, List.length_append]; rfl
    obtain ⟨DL, hDL⟩ : ∃ X, X = dropR lenR FF := ⟨_, rfl⟩
    rw [← hDL] at HD2 hdl hcl hll
    obtain ⟨nD, hnD⟩ : ∃ X, X = DL.length := ⟨_, rfl⟩
    rw [← hnD] at HD2 hdl hll
    have HCL := Lib.hid hcl
    have HLL := Lib.hid hll
    have hnD8 : nD ≤ 8 := by omega
    have R5 := RR5.out
    have r0 := R5.cell 0
    have r1 := R5.cell 1
    have r2 := R5.cell 2
    have r3 := R5.cell 3
    have r4 := R5.cell 4
    simp only [List.getElem?_toArray, List.getElem?_cons_zero, List.getElem?_cons_succ] at r0 r1 r2 r3 r4
    clear HDR HPI hcl hll hDL hnD hdl hf8 R5
    go_wp2_with fail
    refine (HD2.out a2 d2 w5 F5.out).mono ?_
    rintro e w6 ⟨u, rfl, ho, hb6⟩
    have LC := below_alloc w6 (.cells #[.string ⟨#[84, 114, 97, 110, 115, 102, 101, 114, 45, 69, 110, 99, 111, 100, 105, 110, 103]⟩, .string ⟨#[99, 104, 117, 110, 107, 101, 100]⟩] 53)
    have B3 := hb6.trans (LC.mono hb6.size)
    have HO := Lib.hid (ho.alloc (.cells #[.string ⟨#[84, 114, 97, 110, 115, 102, 101, 114, 45, 69, 110, 99, 111, 100, 105, 110, 103]⟩, .string ⟨#[99, 104, 117, 110, 107, 101, 100]⟩] 53))
    have HNW := Lib.hid (cells_new1 w6 ⟨#[84, 114, 97, 110, 115, 102, 101, 114, 45, 69, 110, 99, 111, 100, 105, 110, 103]⟩ ⟨#[99, 104, 117, 110, 107, 101, 100]⟩ 53)
    have hg2 : w5.heap.size ≤ (w6.alloc (.cells #[.string ⟨#[84, 114, 97, 110, 115, 102, 101, 114, 45, 69, 110, 99, 111, 100, 105, 110, 103]⟩, .string ⟨#[99, 104, 117, 110, 107, 101, 100]⟩] 53)).heap.size := B3.size
    have HB3 := Lib.hid B3
    clear LC hb6 ho B3 HD2 r0 r1 r2 r3 r4
    go_wp2_with (at_builtin; refine wpList_append_own_at _ rfl _ _ 22 rfl w5.heap.size 53 i0 (.agg #[.string ⟨#[]⟩, .string ⟨#[]⟩]) 2 32 Tryz.underlying22 hi hz0 hz1 hz2 rfl (by decide) _ _ _ rfl HO.out ⟨w6.heap.size, 0, none⟩ 1 1 [.string ⟨#[84, 114, 97, 110, 115, 102, 101, 114, 45, 69, 110, 99, 111, 100, 105, 110, 103]⟩, .string ⟨#[99, 104, 117, 110, 107, 101, 100]⟩] rfl rfl HNW.out (by intro u hu; simp at hu; rcases hu with rfl | rfl <;> rfl) (by unfold maxLen; omega) (by omega) hg2 ?_)
    intro v' w7 hown' hgrow _ _
    have hb7 : Below w5.heap.size w5 w7 := HB3.out.grown hgrow hg2 (fun k hk => (HO.out.lt k hk).1)
    rw [← HCL.out, ← HLL.out] at hown'
    obtain ⟨a9, d9, rfl, _, hbn9, hf9, hnw9⟩ := own_isFldsB hown'
    have hlt5 := RR5.out.lt
    have HN5 : ∀ ad, a9 = some ad → ¬ ad.block = b5 := fun ad had => by have := hnw9 ad had; omega
    have Q := RR5.out.below hb7
    have LL7 := L5.out.trans (hb7.mono L5.out.size)
    rw [← HNS.out]
    have L8 := Lib.hid ((LL7.setCell (p := ⟨b5, 2, none⟩) HLE.out (.slice a9 nS d9)).setCell (p := ⟨b5, 4, none⟩) HLE.out (.int .i64 2))
    have KB : ∀ (v : World) (i : Nat) (u : Value), Keep (fun j => j = b5) v (v.setCell ⟨b5, i, none⟩ u) := fun v i u => Keep.setCell (G := fun j => j = b5) v (p := ⟨b5, i, none⟩) rfl u
    have F8 := Lib.hid (isFlds_keepR hf9 ((KB w7 2 (.slice a9 nS d9)).trans (KB _ 4 (.int .i64 2))) HN5)
    have HBN9 := Lib.hid hbn9
    have x2 := Q.cell 2
    have y2 := Q.free 2
    have x4 := Q.cell 4
    have y4 := Q.free 4
    have Q' := (Q.put 2 (.slice a9 nS d9)).put 4 (.int .i64 2)
    have e0 : ((#[.string m2, .string t2, .slice a2 nF d2, .string b2, .int .i64 kk] : Array Value).setIfInBounds 2 (.slice a9 nS d9)).setIfInBounds 4 (.int .i64 2) = #[.string m2, .string t2, .slice a9 nS d9, .string b2, .int .i64 2] := rfl
    rw [e0] at Q'
    have W8 := Lib.hid (HWB.out.below L8.out)
    simp only [List.getElem?_toArray, List.getElem?_cons_zero, List.getElem?_cons_succ] at x2 x4
    clear hown' hgrow hb7 hf9 hnw9 hbn9 hlt5 HN5 Q LL7 KB e0 HO HNW HB3 hg2 RR5 F5 W5 L5 HCL HLL
    go_upto_region 8 with fail
    obtain ⟨wq, hw8⟩ : ∃ w8, w8 = (w7.setCell ⟨b5, 2, none⟩ (.slice a9 nS d9)).setCell ⟨b5, 4, none⟩ (.int .i64 2) := ⟨_, rfl⟩
    rw [← hw8] at L8 F8 Q' W8 ⊢
    clear hw8 x2 y2 x4 y4
    have RRq := Lib.hid Q'
    have Fq := Lib.hid F8.out
    have Wq := Lib.hid W8.out
    have Lq := Lib.hid L8.out
    have r0 := Q'.cell 0
    have r1 := Q'.cell 1
    have r2 := Q'.cell 2
    have r3 := Q'.cell 3
    have r4 := Q'.cell 4
    simp only [List.getElem?_toArray, List.getElem?_cons_zero, List.getElem?_cons_succ] at r0 r1 r2 r3 r4
    clear Q' HFS HNS F8 W8 L8
    go_wp2_with fail
    with_reducible refine (HOW.out a9 d9 wq Fq.out).mono ?_
    rintro e w6 ⟨b6, d6, rfl, hbn6, hf6, hb6⟩
    have HBN6 := Lib.hid hbn6
    have F6 := Lib.hid hf6
    have X6 := Lib.hid (Fq.out.below hb6)
    have W6 := Lib.hid (Wq.out.below hb6)
    have L6 := Lib.hid (Lq.out.trans (hb6.mono Lq.out.size))
    have R6 := Lib.hid (RRq.out.below hb6)
    clear hbn6 hf6 hb6 HOW Fq Wq Lq RRq r0 r1 r2 r3 r4
    go_wp2_with fail
    with_reducible refine (HRQ.out b6 d6 HBN6.out w6 (laidS_R W6.out) F6.out).mono ?_
    rintro e w7 ⟨b7, d7, rfl, hf7, hb7⟩
    have LA := below_alloc w7 (.cells #[.string m2, .string t2, .slice b7 nG d7, .string b2, .int .i64 K'] 45)
    have hb8 := hb7.trans (LA.mono hb7.size)
    have RM := Row.new w7 45 #[.string m2, .string t2, .slice b7 nG d7, .string b2, .int .i64 K']
    have F8 := Lib.hid (hf7.below LA)
    have X8 := Lib.hid (X6.out.below hb8)
    have W8 := Lib.hid (W6.out.below hb8)
    have L8 := Lib.hid (L6.out.trans (hb8.mono L6.out.size))
    have R8 := Lib.hid (R6.out.below hb8)
    clear hf7 hb7 hb8 LA X6 W6 L6 R6 HRQ F6 HBN6
    go_upto_region 9 with fail
    obtain ⟨bo, hbo⟩ : ∃ bo, bo = w7.heap.size := ⟨_, rfl⟩
    rw [← hbo] at RM ⊢
    generalize World.alloc w7 _ = w8 at *
    have RMH := Lib.hid RM
    clear RM hbo
    have HNW := Lib.hid (new21 500 2000 40 100 w8)
    go_wp2_with fail
    with_reducible refine HNW.out.mono ?_
    rintro e w9 ⟨g, rfl, hg9, hrow9, hb9⟩
    have F9 := Lib.hid (F8.out.below hb9)
    have RM9 := RMH.out.below hb9
    have HRW := Lib.hid hrow9
    have HG9 := Lib.hid hg9
    have B9 := Lib.hid hb9
    have r0 := RM9.cell 0
    have r1 := RM9.cell 1
    have r2 := RM9.cell 2
    have r3 := RM9.cell 3
    have r4 := RM9.cell 4
    simp only [List.getElem?_toArray, List.getElem?_cons_zero, List.getElem?_cons_succ] at r0 r1 r2 r3 r4
    clear hrow9 hg9 hb9 RMH RM9 HNW F8
    go_wp2_with fail
    with_reducible refine (HTX.out b7 d7 w9 F9.out).mono ?_
    rintro e wT ⟨rfl, hbT⟩
    have hrT := HRW.out.below hbT
    have BT := Lib.hid (B9.out.trans (hbT.mono B9.out.size))
    have HFDT := Lib.hid (HFD.out g wT (paNew_S _ _ _ 100 hrT _ (Nat.le_refl _)) (fun k hk => Nat.le_trans (Nat.le_of_lt hrT.lt) hk) (fun w' hk => laidS_M (W8.out.below (BT.out.trans (hk.bel (fun k hk => Nat.le_trans HG9.out hk) BT.out.size)))) (fun w' hk => laidS_Y (W8.out.below (BT.out.trans (hk.bel (fun k hk => Nat.le_trans HG9.out hk) BT.out.size)))))
    clear hbT hrT HFD HTX HRW B9 F9 r0 r1 r2 r3 r4
    go_wp2_with fail
    with_reducible refine HFDT.out.mono ?_
    rintro e w10 ⟨v, a', c', rfl, ho, hfG, hk⟩
    obtain ⟨gm, cap, rfl, hcap, q0, q1, q2, q3, q4, hgm⟩ := own_msg ho
    have B10 := BT.out.trans (hk.bel (fun k hk => Nat.le_trans HG9.out hk) BT.out.size)
    have R10 := R8.out.below B10
    have p0 := R10.cell 0
    have p1 := R10.cell 1
    have p2 := R10.cell 2
    have p3 := R10.cell 3
    have p4 := R10.cell 4
    simp only [List.getElem?_toArray, List.getElem?_cons_zero, List.getElem?_cons_succ] at p0 p1 p2 p3 p4
    have FG := Lib.hid hfG
    have X10 := Lib.hid (X8.out.below B10)
    have L10 := Lib.hid (L8.out.trans (B10.mono L8.out.size))
    have RR10 := Lib.hid R10
    have HGM := Lib.hid hgm
    clear ho hk hfG B10 R10 HFDT BT HG9 X8 W8 L8 R8 hgm
    have hcap1 : (1 : Int) ≤ cap := by omega
    go_upto_region 13 with fail
    go_quiet (fail)
    go_upto_region 15 with fail
    obtain ⟨w11, hw11⟩ : ∃ w11, w11 = w10.drewN nq := ⟨_, rfl⟩
    rw [← hw11]
    have B11 : Below w10.heap.size w10 w11 := by rw [hw11]; exact ⟨rfl, rfl, rfl, Nat.le_refl _, fun _ _ => rfl⟩
    have FG11 := Lib.hid (FG.out.below B11)
    have X11 := Lib.hid (X10.out.below B11)
    have L11 := Lib.hid (L10.out.trans (B11.mono L10.out.size))
    have R11 := Lib.hid (RR10.out.below B11)
    have c2 : w11.cell? ⟨gm, 2, none⟩ = some (.slice a' nG c') := by rw [(bcell B11).1 _ _ HGM.out]; exact q2
    have HC2 := Lib.hid c2
    have HG11 : Hid (gm < w11.heap.size) := Nat.lt_of_lt_of_le HGM.out B11.size
    clear hw11 B11 q0 q1 q2 q3 q4 p0 p1 p2 p3 p4 FG X10 L10 RR10 HGM em et eb hk2
    go_wp2_with fail
    clear c2
    go_loopw [90] (fun i wr => ∃ j : Nat, j ≤ nG ∧ i = .int .i64 (j : Int) ∧ Hid (Below w11.heap.size w11 wr)) (fun i _ => nG - (intOf i).toNat)
    case atStart => exact ⟨0, Nat.zero_le _, rfl, Below.refl _ _⟩
    case round =>
      obtain ⟨j, hj, rfl, hb⟩ := hrel
      by_cases hlt : j < nG
      · have hltG : j < GS.length := by rw [← HNG.out]; exact hlt
        obtain h0 | ⟨bk, o, rfl, hbk, hc, hcell⟩ := FG11.out.below hb.out
        · exfalso; rw [h0] at hltG; simp at hltG
        obtain ⟨c1, c2⟩ := hcell j GS[j] (by simp [hltG])
        have hmem := List.getElem_mem hltG
        have hn1 := HN1.out GS[j] hmem
        have hn2 := HN2.out GS[j] hmem
        have hlw := HLW.out GS[j] hmem
        have hcg : nG ≤ c' := by rw [HNG.out]; exact hc
        obtain ⟨f, hfe⟩ : ∃ f, f = GS[j] := ⟨_, rfl⟩
        rw [← hfe] at c1 c2 hn1 hn2 hlw
        have HLO := Lib.hid (fun W => lowR f.1 hlw W)
        have t1 : ((bs (f.1.map lowC)).toList == [116, 114, 97, 110, 115, 102, 101, 114, 45, 101, 110, 99, 111, 100, 105, 110, 103]) = false := str_lit _ _ _ (decide_eq_false hn1)
        have t2' : ((bs (f.1.map lowC)).toList == [99, 111, 110, 110, 101, 99, 116, 105, 111, 110]) = false := str_lit _ _ _ (decide_eq_false hn2)
        generalize bs (f.1.map lowC) = LO at *
        generalize bs f.1 = N at *
        generalize bs f.2 = V at *
        have j1 : (j : Int) < nG := by omega
        have LA := below_alloc wr (.cells #[.string N, .string V] 62)
        have B1 := Lib.hid (hb.out.trans (LA.mono hb.out.size))
        have d1 : (wr.alloc (.cells #[.string N, .string V] 62)).cell? ⟨wr.heap.size, 0, none⟩ = some (.string N) := by simp
        have hza : wr.heap.size < (wr.alloc (.cells #[.string N, .string V] 62)).heap.size := by simp
        clear hcell hfe hmem hn1 hn2 hlw hltG hc hbk LA
        go_wp2_with fail
        obtain ⟨bf, hbf⟩ : ∃ bf, bf = wr.heap.size := ⟨_, rfl⟩
        rw [← hbf] at d1 hza ⊢
        generalize World.alloc wr _ = wa at *
        clear hbf
        with_reducible refine (HLO.out wa).mono ?_
        rintro e wb ⟨rfl, hbb⟩
        have d2 : wb.cell? ⟨bf, 0, none⟩ = some (.string N) := by rw [(bcell hbb).1 _ _ hza]; exact d1
        have B2 := Lib.hid (B1.out.trans (hbb.mono B1.out.size))
        clear hbb d1 hza B1
        go_wp2_with fail
        with_reducible refine (HLO.out wb).mono ?_
        rintro e wc ⟨rfl, hbc⟩
        have B3 := Lib.hid (B2.out.trans (hbc.mono B2.out.size))
        clear hbc d2 B2 HLO
        go_wp2_with fail
        go_roundw
        case rel => exact ⟨j + 1, hlt, by go_num, B3⟩
        case measure => simp [intOf]; omega
      · obtain rfl : nG = j := by omega
        have hbb := hb.out
        have R12 := R11.out.below hbb
        have hlt5 := R12.lt
        have p0 := R12.cell 0
        have p1 := R12.cell 1
        have p2 := R12.cell 2
        have p3 := R12.cell 3
        have p4 := R12.cell 4
        simp only [List.getElem?_toArray, List.getElem?_cons_zero, List.getElem?_cons_succ] at p0 p1 p2 p3 p4
        have s2 : wr.cell? ⟨gm, 2, none⟩ = some (.slice a' nG c') := by rw [(bcell hbb).1 _ _ HG11.out]; exact HC2.out
        have hltg : gm < wr.heap.size := Nat.lt_of_lt_of_le HG11.out hbb.size
        have FG12 := Lib.hid (FG11.out.below hbb)
        have X12 := Lib.hid (X11.out.below hbb)
        have L12 := Lib.hid (L11.out.trans (hbb.mono L11.out.size))
        clear hb hbb R12 HC2 HG11 FG11 X11 L11 R11 HLW HN1 HN2 HNG
        go_upto_region 21 with fail
        refine region_mixt 8 [some (.slice (some ⟨gm, 0, none⟩) 1 cap), some (.pointer (some ⟨gm, 0, none⟩)), some (.pointer (some ⟨gm, 2, none⟩)), some (.slice a' nG c'), some (.agg #[.string m2, .string t2, .slice a9 nS d9, .string b2, .int .i64 2]), none, none, some (.bool true)]
          [[false, false, false, false, false, false, false, false], [true, false, false, false, false, false, false, false], [false, true, false, false, false, false, false, false], [false, false, true, false, false, false, false, false], [false, false, false, false, false, false, false, false], [false, false, false, false, true, false, false, false], [false, false, false, false, false, true, false, false], [false, false, false, true, false, true, true, false]]
          (fun L x w9 => Below wr.heap.size wr w9 ∧ (L 5 = true → ∃ b d, x 5 = .agg #[.string m2, .string t2, .slice b nG d, .string b2, .int .i64 K'] ∧ IsFlds w9 b d GS) ∧ (L 6 = true → ∃ b d, x 6 = .slice b nG d ∧ IsFlds w9 b d GS))
          (by kernel_rfl) (by kernel_rfl) (by kernel_rfl) (by kernel_rfl) (by kernel_rfl) (by decide) ?_ ?_ ?_
        · intro _
          exact ⟨⟨rfl, rfl, rfl, Nat.le_refl _, fun _ _ => rfl⟩, (fun h => by cases h), (fun h => by cases h)⟩
        · simp only [List.take_succ_cons, List.take_zero]
          refine ⟨?_, ?_, ?_, ?_, ?_, ?_, ?_, ?_, trivial⟩
          all_goals
            intro L x w9 hS hl hp K9 hK9
            have hs : Below wr.heap.size wr w9 ∧ (L 5 = true → ∃ b d, x 5 = .agg #[.string m2, .string t2, .slice b nG d, .string b2, .int .i64 K'] ∧ IsFlds w9 b d GS) ∧ (L 6 = true → ∃ b d, x 6 = .slice b nG d ∧ IsFlds w9 b d GS) := hS
            have u2 : w9.cell? ⟨gm, 2, none⟩ = some (.slice a' nG c') := by rw [(bcell hs.1).1 _ _ hltg]; exact s2
            have u0 : w9.cell? ⟨b5, 0, none⟩ = some (.string m2) := by rw [(bcell hs.1).1 _ _ hlt5]; exact p0
            have u1 : w9.cell? ⟨b5, 1, none⟩ = some (.string t2) := by rw [(bcell hs.1).1 _ _ hlt5]; exact p1
            have u3 : w9.cell? ⟨b5, 2, none⟩ = some (.slice a9 nS d9) := by rw [(bcell hs.1).1 _ _ hlt5]; exact p2
            have u4 : w9.cell? ⟨b5, 3, none⟩ = some (.string b2) := by rw [(bcell hs.1).1 _ _ hlt5]; exact p3
            have u5 : w9.cell? ⟨b5, 4, none⟩ = some (.int .i64 2) := by rw [(bcell hs.1).1 _ _ hlt5]; exact p4
            clear hS
            replace hK9 := hK9.out
            simp only [actMix, pickV, List.tail_cons, List.headD_cons, Act.put, List.setIfInBounds_toArray, List.set_cons_zero, List.set_cons_succ] at hK9 ⊢
          iterate 5
            · clear hp
              go_simp
              with_reducible refine hK9 _ ?_
              exact ⟨hs.1, fun h => by
              obtain ⟨b, d, h1, h2⟩ := hs.2.1 (by simpa [setL] using h)
              exact ⟨b, d, by simpa [updV] using h1, h2⟩, fun h => by
              obtain ⟨b, d, h1, h2⟩ := hs.2.2 (by simpa [setL] using h)
              exact ⟨b, d, by simpa [updV] using h1, h2⟩⟩
          · clear hp
            go_simp
            refine (HRR.out a9 d9 w9 (X12.out.below hs.1)).mono ?_
            rintro e9 w8' ⟨b', d', rfl, hf8, hb8⟩
            with_reducible refine hK9 _ _ ?_
            exact ⟨hs.1.trans (hb8.mono hs.1.size), fun _ => ⟨b', d', by simp [updV], hf8⟩, fun h => by
              obtain ⟨b, d, h1, h2⟩ := hs.2.2 (by simpa [setL] using h)
              exact ⟨b, d, by simpa [updV] using h1, h2.below hb8⟩⟩
          · have h5 : L 5 = true := allL_mem hp 5 (by decide +kernel)
            obtain ⟨b', d', hx5, hf5⟩ := hs.2.1 h5
            have hfd := run_fld2 m2 t2 b' nG d' b2 K' w9
            clear hp
            rw [hx5] at hK9 ⊢
            go_simp
            with_reducible refine hK9 _ _ ?_
            exact ⟨hs.1, fun h => by
              obtain ⟨b, d, h1, h2⟩ := hs.2.1 (by simpa [setL] using h)
              exact ⟨b, d, by simpa [updV] using h1, h2⟩, fun _ => ⟨b', d', by simp [updV], hf5⟩⟩
          · have h6 : L 6 = true := allL_mem hp 6 (by decide +kernel)
            obtain ⟨b', d', hx6, hf6⟩ := hs.2.2 h6
            clear hp
            rw [hx6] at hK9 ⊢
            go_simp
            refine (HIS.out a' c' b' d' w9 (FG12.out.below hs.1) hf6).mono ?_
            rintro e9 w8' ⟨rfl, hb8⟩
            with_reducible refine hK9 _ ?_
            exact ⟨hs.1.trans (hb8.mono hs.1.size), fun h => by
              obtain ⟨b, d, h1, h2⟩ := hs.2.1 (by simpa [setL] using h)
              exact ⟨b, d, by simpa [updV] using h1, h2.below hb8⟩, fun h => by
              obtain ⟨b, d, h1, h2⟩ := hs.2.2 (by simpa [setL] using h)
              exact ⟨b, d, by simpa [updV] using h1, h2.below hb8⟩⟩
        intro L x w9 hS hL
        have hs : Below wr.heap.size wr w9 ∧ (L 5 = true → ∃ b d, x 5 = .agg #[.string m2, .string t2, .slice b nG d, .string b2, .int .i64 K'] ∧ IsFlds w9 b d GS) ∧ (L 6 = true → ∃ b d, x 6 = .slice b nG d ∧ IsFlds w9 b d GS) := hS
        have hb9 := hs.1
        clear hS hL hs
        simp only [actMix, pickV, List.tail_cons, List.headD_cons, Act.put, List.setIfInBounds_toArray, List.set_cons_zero, List.set_cons_succ, List.replicate_succ, List.replicate_zero, List.drop_succ_cons, List.drop_zero, List.take_succ_cons, List.take_zero]
        have LX := Lib.hid (L12.out.trans (hb9.mono L12.out.size))
        clear hb9
        go_wp2_with fail
        go_ret
        exact ⟨rfl, LX.out⟩
end Go.Proofs.YtbbphklhnngjmaaGreatDoor

/- response's law: awake (written by hand; the numbers are its text's bytes). -/
namespace Go.Proofs.YtbbphklhnngjmaaGreatDoor
open Go.RowKit

def awT : List UInt8 := [72, 84, 84, 80, 47, 49, 46, 49, 32, 50, 48, 48, 32, 79, 75, 13, 10, 67, 111, 110, 116, 101, 110, 116, 45, 76, 101, 110, 103, 116, 104, 58, 32, 50, 13, 10, 13, 10, 97, 98, 72, 84]
def awM : HdL := ⟨50, 100, 9⟩
def awFs : List Fld := [([67, 111, 110, 116, 101, 110, 116, 45, 76, 101, 110, 103, 116, 104], [50])]
def conB : ByteArray := ⟨#[67, 111, 110, 110, 101, 99, 116, 105, 111, 110]⟩
def cloB : ByteArray := ⟨#[99, 108, 111, 115, 101]⟩
theorem run_fldB (c : Int) (r : ByteArray) (b : Option Addr) (n d : Nat) (s : ByteArray) (k : Int) (w : World) : (Instr.field 33 (.agg #[.int .i64 c, .string r, .slice b n d, .string s, .int .i64 k]) 2).run Tryz.prog w = .ok (.string s) w := by kernel_rfl
set_option maxRecDepth 100000 in
theorem aw_feed (G : Nat → Prop) (g : Nat) (w : World) (hp : R.HeS G 114 (R.psR [71, 69, 84] 0 [] 0 0 (.slice none 0 0) false false) w g awM 9 hd0) (hu : Up G w) (hM : ∀ w', Keep G w w' → MaxL w') (hY : ∀ w', Keep G w w' → Syn w') :
    Calls Tryz.prog 31 #[.pointer (some ⟨g, 0, none⟩), .string (bs awT)] w (R.FeedR G g awM 9 w [71, 69, 84] 200 [79, 75] [97, 98] [72, 84] [72, 84, 84, 80, 47, 49, 46, 49, 32, 50, 48, 48, 32, 79, 75] awFs 1 2) := by
  refine R.feed31 G g awM 9 [71, 69, 84] 200 [79, 75] awT [67, 111, 110, 116, 101, 110, 116, 45, 76, 101, 110, 103, 116, 104, 58, 32, 50, 13, 10, 13, 10, 97, 98, 72, 84] [97, 98] [72, 84] [72, 84, 84, 80, 47, 49, 46, 49, 32, 50, 48, 48, 32, 79, 75] (.line (some [72, 84, 84, 80, 47, 49, 46, 49, 32, 50, 48, 48, 32, 79, 75]) [] 0 [] false) awFs 1 2 ⟨16, by decide +kernel, by decide +kernel, by decide +kernel⟩ (by decide +kernel) (by kernel_rfl) (by kernel_rfl) rfl rfl rfl (by kernel_rfl) (by decide +kernel) (by decide) (by kernel_rfl) (by kernel_rfl) (by decide +kernel) ?_ ?_ rfl w hp hu hM hY
  · intro f hf
    obtain rfl := List.mem_singleton.1 hf
    exact ⟨by decide +kernel, by decide +kernel⟩
  · refine .inr ⟨by decide +kernel, rfl, .inr ⟨rfl, by decide +kernel, bs [50], by decide +kernel, fun W hW => ?_⟩⟩
    have e := dec_any (bs [50]) (by decide +kernel) 9 W hW
    rw [bs_list, show numR 10 10 isDec [50] 9 = (2, 0) by decide +kernel] at e
    exact e
end Go.Proofs.YtbbphklhnngjmaaGreatDoor

/- response's law: awake. -/
namespace Go.Proofs.YtbbphklhnngjmaaGreatDoor
open Go.RowKit

set_option maxRecDepth 100000 in
set_option maxHeartbeats 4000000 in
theorem awakeR7 (w : World) (hw : LaidS w) :
    Calls Tryz.prog 7 #[] w fun e w' => e = .returned (.bool true) ∧ Below w.heap.size w w' := by
  have HNEW := Lib.hid (R.new30 50 100 9 9 [71, 69, 84] w)
  have eg : bs [71, 69, 84] = ⟨#[71, 69, 84]⟩ := rfl
  rw [eg] at HNEW
  have HW := Lib.hid hw
  clear hw eg
  go_enter Tryz.func7, Tryz.ntmps7
  go_wp2_with fail
  with_reducible refine HNEW.out.mono ?_
  rintro e w1 ⟨g, rfl, hg, hr, hb⟩
  have hfd := aw_feed (fun j => g ≤ j) g w1 (R.psNew_S 50 100 9 9 [71, 69, 84] hr _ (Nat.le_refl _)) (fun k hk => Nat.le_trans (Nat.le_of_lt hr.lt) hk) (fun w' hk => laidS_M (HW.out.below (hb.trans (hk.bel (fun k hk => Nat.le_trans hg hk) hb.size)))) (fun w' hk => laidS_Y (HW.out.below (hb.trans (hk.bel (fun k hk => Nat.le_trans hg hk) hb.size))))
  unfold R.FeedR at hfd
  have e1 : bs awT = ⟨#[72, 84, 84, 80, 47, 49, 46, 49, 32, 50, 48, 48, 32, 79, 75, 13, 10, 67, 111, 110, 116, 101, 110, 116, 45, 76, 101, 110, 103, 116, 104, 58, 32, 50, 13, 10, 13, 10, 97, 98, 72, 84]⟩ := rfl
  have e2 : bs [72, 84] = ⟨#[72, 84]⟩ := rfl
  rw [e1, e2] at hfd
  have HFD := Lib.hid hfd
  have HG := Lib.hid hg
  have B1 := Lib.hid hb
  clear hfd e1 e2 hr hg hb HNEW
  go_wp2_with fail
  with_reducible refine HFD.out.mono ?_
  rintro e w2 ⟨ba, bc, rfl, hd, ho, hk⟩
  have B2 := Lib.hid (B1.out.trans (hk.bel (fun k hk => Nat.le_trans HG.out hk) B1.out.size))
  have D2 := Lib.hid hd
  have HDN := Lib.hid (R.done32 (fun j => g ≤ j) g awM 9 _ [71, 69, 84] 200 [79, 75] 1 2 _ true true w2 hd)
  have hms := R.message33 (fun j => g ≤ j) g awM 9 _ [71, 69, 84] 200 [79, 75] 1 2 ba bc [97, 98] awFs rfl (by decide) w2 hd (own_mono ho (Nat.zero_le _))
  have e3 : bs [97, 98] = ⟨#[97, 98]⟩ := rfl
  rw [e3] at hms
  have HMS := Lib.hid hms
  have HPE := Lib.hid (fun W hM hW => R.persists34 (fun j => g ≤ j) g awM 9 (.done [72, 84, 84, 80, 47, 49, 46, 49, 32, 50, 48, 48, 32, 79, 75] awFs) [71, 69, 84] 200 [79, 75] 1 2 rfl (.slice ba 2 bc) awFs rfl (by decide) (by intro f hf; obtain rfl := List.mem_singleton.1 hf; exact ⟨by decide +kernel, by decide +kernel⟩) (by decide +kernel) false (by kernel_rfl) (by decide +kernel) W hM hW)
  clear hd ho hk hms e3 HFD B1
  go_wp2_with fail
  with_reducible refine HDN.out.mono ?_
  rintro e w' ⟨rfl, rfl⟩
  go_wp2_with fail
  with_reducible refine HMS.out.mono ?_
  rintro e w3 ⟨a3, c3, rfl, _, _, hb3⟩
  have B3 := Lib.hid (B2.out.trans (hb3.mono B2.out.size))
  have D3 := Lib.hid (D2.out.below hb3)
  have hfd := run_fldB 200 (bs [79, 75]) a3 awFs.length c3 ⟨#[97, 98]⟩ 1 w3
  have hpe := HPE.out w3 (laidS_M (HW.out.below B3.out)) D3.out
  have HPP := Lib.hid hpe
  clear hb3 HMS HDN HPE hpe B2 D2
  go_wp2_with fail
  with_reducible refine HPP.out.mono ?_
  rintro e w4 ⟨rfl, hb4⟩
  have B4 := Lib.hid (B3.out.trans (hb4.mono B3.out.size))
  have W4 := laidS_R (HW.out.below B4.out)
  have HOW := Lib.hid (rown35 w4 W4.2.1 W4.2.2)
  clear hb4 HPP B3 D3 W4 hfd
  go_wp2_with fail
  with_reducible refine HOW.out.mono ?_
  rintro e w5 ⟨g5, rfl, _, _, hb5⟩
  have B5 := Lib.hid (B4.out.trans (hb5.mono B4.out.size))
  have hfd := run_fldB 503 (bs rea503) (some ⟨g5, 0, none⟩) 2 2 (bs bod503) 1 w5
  have hbz : (bs bod503).size = 24 := by decide +kernel
  clear hb5 HOW B4
  go_wp2_with fail
  go_ret
  exact ⟨rfl, B5.out⟩
end Go.Proofs.YtbbphklhnngjmaaGreatDoor

/- The walk of the statement ResponseTexts (written by genlawrt.py). -/
namespace Go.Proofs.YtbbphklhnngjmaaGreatDoor
open Go.RowKit

theorem fewF_three (fs : List Fld) (n : Nat) (hn : n ≤ 100) : (fewF fs n).length ≤ 100 ∧ (∀ f ∈ fewF fs n, FldOk f) ∧ (textL (fewF fs n)).length ≤ 6400 := by
  have hl := fewF_length fs n
  refine ⟨Nat.le_trans hl hn, fun f hf => ?_, ?_⟩
  · have := fewF_small fs n f hf
    exact ⟨by omega, by omega⟩
  · have := textL_small (fewF fs n) (fewF_small fs n)
    omega
set_option maxRecDepth 100000 in
set_option maxHeartbeats 8000000 in
theorem lawResponseTexts (kc : Int) (rr bb : ByteArray) (kk : Int) (a : Option Addr) (c : Nat) (fs : List Fld) (hfl : fs.length ≤ 9223372036854775807) (w : World) (hw : LaidS w) (hf : IsFlds w a c fs) :
    Calls Tryz.prog 3 #[.agg #[.int .i64 kc, .string rr, .slice a fs.length c, .string bb, .int .i64 kk]] w fun e w' => e = .returned (.bool true) ∧ Below w.heap.size w w' := by
  obtain ⟨hk1, hk2, hk3⟩ := fewF_three fs 6 (by decide)
  have hrz : (cutS rr 30).size ≤ 30 := cutS_size rr 30
  have hbz : (cutS bb 60).size ≤ 60 := cutS_size bb 60
  have HM := Lib.hid (fun W h => few39 a c fs 6 (by decide) hfl W h)
  have HC1 := Lib.hid (fun W => cut11 rr 30 W)
  have HC2 := Lib.hid (fun W => cut11 bb 60 W)
  generalize cutS rr 30 = r2 at *
  generalize cutS bb 60 = b2 at *
  obtain ⟨FF, hFF⟩ : ∃ X, X = fewF fs 6 := ⟨_, rfl⟩
  rw [← hFF] at HM hk1 hk2 hk3
  obtain ⟨m, hm⟩ : ∃ m, m = FF.length := ⟨_, rfl⟩
  obtain ⟨n, hn⟩ : ∃ n, n = fs.length := ⟨_, rfl⟩
  rw [← hn] at HM ⊢
  have HMM := Lib.hid hm
  have HOW := Lib.hid (fun b d W h => ownR10 kc r2 b2 kk b d FF (by omega) FF rfl W h)
  have HTP := Lib.hid (fun b d W hP h => mtext11 kc r2.data.toList b2.data.toList kk (by rw [← Lib.size_eq]; omega) (by rw [← Lib.size_eq]; omega) b d FF (by omega) hk2 (by omega) W hP h)
  have HTR := Lib.hid (fun b d W hP h => rtext12 kc r2.data.toList b2.data.toList kk (by rw [← Lib.size_eq]; omega) (by rw [← Lib.size_eq]; omega) b d FF (by omega) hk2 (by omega) W hP h)
  obtain ⟨X, hX⟩ : ∃ X, X = bs (stLine (kc, r2.data.toList) ++ textL FF ++ [13, 10] ++ b2.data.toList) := ⟨_, rfl⟩
  rw [bs_of, bs_of, ← hX, ← hm] at HTP HTR
  rw [← hm] at HOW
  have eX := self_strP X
  have HAW := Lib.hid (fun W h => awakeR7 W h)
  have R0 := Row.new w 24 #[.int .i64 kc, .string rr, .slice a n c, .string bb, .int .i64 kk]
  have L0 := below_alloc w (.cells #[.int .i64 kc, .string rr, .slice a n c, .string bb, .int .i64 kk] 24)
  have HF := Lib.hid (hf.below L0)
  have HW := Lib.hid (hw.below L0)
  have HWW := Lib.hid hw
  clear hf hw hFF hm hn hfl hk1 hk2 hk3 hrz hbz hX
  go_enter Tryz.func3, Tryz.ntmps3
  go_upto_region 1 with fail
  obtain ⟨bM, hbM⟩ : ∃ bM, bM = w.heap.size := ⟨_, rfl⟩
  have hbM0 : w.heap.size ≤ bM := by omega
  rw [← hbM] at R0 ⊢
  generalize World.alloc w _ = w0 at *
  have HL0 := Lib.hid L0
  have RR0 := Lib.hid R0
  clear L0 R0 hbM
  go_wp2_with fail
  with_reducible refine (HAW.out w0 HW.out).mono ?_
  rintro e w1 ⟨rfl, hb1⟩
  have HL1 := Lib.hid (HL0.out.trans (hb1.mono HL0.out.size))
  have HF1 := Lib.hid (HF.out.below hb1)
  have HW1 := Lib.hid (HW.out.below hb1)
  have R1 := RR0.out.below hb1
  have r0 : w1.cell? ⟨bM, 0, none⟩ = some (.int .i64 kc) := R1.cell 0
  have r1 : w1.cell? ⟨bM, 1, none⟩ = some (.string rr) := R1.cell 1
  have r2' : w1.cell? ⟨bM, 2, none⟩ = some (.slice a n c) := R1.cell 2
  have r3 : w1.cell? ⟨bM, 3, none⟩ = some (.string bb) := R1.cell 3
  have r4 : w1.cell? ⟨bM, 4, none⟩ = some (.int .i64 kk) := R1.cell 4
  have hlt := R1.lt
  have RR1 := Lib.hid R1
  clear hb1 HL0 HF HW RR0 R1 HAW
  go_upto_region 3 with fail
  refine region_mixt 14 [some (.pointer (some ⟨bM, 0, none⟩)), some (.int .i64 kc), some (.pointer (some ⟨bM, 1, none⟩)), some (.string rr), some (.string r2), some (.pointer (some ⟨bM, 2, none⟩)), some (.slice a n c), none, some (.pointer (some ⟨bM, 3, none⟩)), some (.string bb), some (.string b2), some (.pointer (some ⟨bM, 4, none⟩)), some (.int .i64 kk), none]
    [[false, false, false, false, false, false, false, false, false, false, false, false, false, false], [true, false, false, false, false, false, false, false, false, false, false, false, false, false], [false, false, false, false, false, false, false, false, false, false, false, false, false, false], [false, false, true, false, false, false, false, false, false, false, false, false, false, false], [false, false, false, true, false, false, false, false, false, false, false, false, false, false], [false, false, false, false, false, false, false, false, false, false, false, false, false, false], [false, false, false, false, false, true, false, false, false, false, false, false, false, false], [false, false, false, false, true, false, true, false, false, false, false, false, false, false], [false, false, false, false, false, false, false, false, false, false, false, false, false, false], [false, false, false, false, false, false, false, false, true, false, false, false, false, false], [false, false, false, false, false, false, false, true, false, true, false, false, false, false], [false, false, false, false, false, false, false, false, false, false, false, false, false, false], [false, false, false, false, false, false, false, false, false, false, false, true, false, false], [false, true, false, false, true, false, false, true, false, false, true, false, true, false]]
    (fun L x w9 => Below w1.heap.size w1 w9 ∧ (L 7 = true → ∃ b d, x 7 = .slice b m d ∧ IsFlds w9 b d FF ∧ (∀ ad, b = some ad → w1.heap.size ≤ ad.block)) ∧ (L 13 = true → L 7 = true ∧ x 13 = .agg #[.int .i64 kc, .string r2, x 7, .string b2, .int .i64 kk]))
    (by kernel_rfl) (by kernel_rfl) (by kernel_rfl) (by kernel_rfl) (by kernel_rfl) (by decide) ?_ ?_ ?_
  · intro _
    exact ⟨⟨rfl, rfl, rfl, Nat.le_refl _, fun _ _ => rfl⟩, (fun h => by cases h), (fun h => by cases h)⟩
  · simp only [List.take_succ_cons, List.take_zero]
    refine ⟨?_, ?_, ?_, ?_, ?_, ?_, ?_, ?_, ?_, ?_, ?_, ?_, ?_, ?_, trivial⟩
    all_goals
      intro L x w9 hS hl hp K9 hK9
      have hs : Below w1.heap.size w1 w9 ∧ (L 7 = true → ∃ b d, x 7 = .slice b m d ∧ IsFlds w9 b d FF ∧ (∀ ad, b = some ad → w1.heap.size ≤ ad.block)) ∧ (L 13 = true → L 7 = true ∧ x 13 = .agg #[.int .i64 kc, .string r2, x 7, .string b2, .int .i64 kk]) := hS
      clear hS
      replace hK9 := hK9.out
      simp only [actMix, pickV, List.tail_cons, List.headD_cons, Act.put, List.setIfInBounds_toArray, List.set_cons_zero, List.set_cons_succ] at hK9 ⊢
    · clear hp
      go_simp
      with_reducible refine hK9 _ ?_
      exact ⟨hs.1, fun h => by
        obtain ⟨b, d, h1, h3, h4⟩ := hs.2.1 (by simpa [setL] using h)
        exact ⟨b, d, by simpa [updV] using h1, h3, h4⟩, fun h => by
        obtain ⟨h1, h2⟩ := hs.2.2 (by simpa [setL] using h)
        exact ⟨by simpa [setL] using h1, by simpa [updV] using h2⟩⟩
    · have s0 : w9.cell? ⟨bM, 0, none⟩ = some (.int .i64 kc) := by rw [(bcell hs.1).1 _ _ hlt]; exact r0
      clear hp
      go_simp
      with_reducible refine hK9 _ ?_
      exact ⟨hs.1, fun h => by
        obtain ⟨b, d, h1, h3, h4⟩ := hs.2.1 (by simpa [setL] using h)
        exact ⟨b, d, by simpa [updV] using h1, h3, h4⟩, fun h => by
        obtain ⟨h1, h2⟩ := hs.2.2 (by simpa [setL] using h)
        exact ⟨by simpa [setL] using h1, by simpa [updV] using h2⟩⟩
    · clear hp
      go_simp
      with_reducible refine hK9 _ ?_
      exact ⟨hs.1, fun h => by
        obtain ⟨b, d, h1, h3, h4⟩ := hs.2.1 (by simpa [setL] using h)
        exact ⟨b, d, by simpa [updV] using h1, h3, h4⟩, fun h => by
        obtain ⟨h1, h2⟩ := hs.2.2 (by simpa [setL] using h)
        exact ⟨by simpa [setL] using h1, by simpa [updV] using h2⟩⟩
    · have s0 : w9.cell? ⟨bM, 1, none⟩ = some (.string rr) := by rw [(bcell hs.1).1 _ _ hlt]; exact r1
      clear hp
      go_simp
      with_reducible refine hK9 _ ?_
      exact ⟨hs.1, fun h => by
        obtain ⟨b, d, h1, h3, h4⟩ := hs.2.1 (by simpa [setL] using h)
        exact ⟨b, d, by simpa [updV] using h1, h3, h4⟩, fun h => by
        obtain ⟨h1, h2⟩ := hs.2.2 (by simpa [setL] using h)
        exact ⟨by simpa [setL] using h1, by simpa [updV] using h2⟩⟩
    · clear hp
      go_simp
      refine (HC1.out w9).mono ?_
      rintro e9 w8 ⟨rfl, rfl⟩
      with_reducible refine hK9 _ ?_
      exact ⟨hs.1, fun h => by
        obtain ⟨b, d, h1, h3, h4⟩ := hs.2.1 (by simpa [setL] using h)
        exact ⟨b, d, by simpa [updV] using h1, h3, h4⟩, fun h => by
        obtain ⟨h1, h2⟩ := hs.2.2 (by simpa [setL] using h)
        exact ⟨by simpa [setL] using h1, by simpa [updV] using h2⟩⟩
    · clear hp
      go_simp
      with_reducible refine hK9 _ ?_
      exact ⟨hs.1, fun h => by
        obtain ⟨b, d, h1, h3, h4⟩ := hs.2.1 (by simpa [setL] using h)
        exact ⟨b, d, by simpa [updV] using h1, h3, h4⟩, fun h => by
        obtain ⟨h1, h2⟩ := hs.2.2 (by simpa [setL] using h)
        exact ⟨by simpa [setL] using h1, by simpa [updV] using h2⟩⟩
    · have s0 : w9.cell? ⟨bM, 2, none⟩ = some (.slice a n c) := by rw [(bcell hs.1).1 _ _ hlt]; exact r2'
      clear hp
      go_simp
      with_reducible refine hK9 _ ?_
      exact ⟨hs.1, fun h => by
        obtain ⟨b, d, h1, h3, h4⟩ := hs.2.1 (by simpa [setL] using h)
        exact ⟨b, d, by simpa [updV] using h1, h3, h4⟩, fun h => by
        obtain ⟨h1, h2⟩ := hs.2.2 (by simpa [setL] using h)
        exact ⟨by simpa [setL] using h1, by simpa [updV] using h2⟩⟩
    · clear hp
      go_simp
      have h12 : L 13 = false := by
        cases h : L 13 with
        | false => rfl
        | true => have := (hs.2.2 h).1; rw [hl] at this; cases this
      refine (HM.out w9 (HF1.out.below hs.1)).mono ?_
      rintro e9 w8 ⟨u, rfl, ho, hb8⟩
      obtain ⟨b, d, rfl, _, hbn, hf8, hnw⟩ := own_isFldsB ho
      rw [← HMM.out]
      with_reducible refine hK9 _ _ ?_
      exact ⟨hs.1.trans (hb8.mono hs.1.size), fun _ => ⟨b, d, by simp [updV, *], hf8, fun ad had => Nat.le_trans hs.1.size (hnw ad had)⟩, fun h => by simp [setL, h12] at h⟩
    · clear hp
      go_simp
      with_reducible refine hK9 _ ?_
      exact ⟨hs.1, fun h => by
        obtain ⟨b, d, h1, h3, h4⟩ := hs.2.1 (by simpa [setL] using h)
        exact ⟨b, d, by simpa [updV] using h1, h3, h4⟩, fun h => by
        obtain ⟨h1, h2⟩ := hs.2.2 (by simpa [setL] using h)
        exact ⟨by simpa [setL] using h1, by simpa [updV] using h2⟩⟩
    · have s0 : w9.cell? ⟨bM, 3, none⟩ = some (.string bb) := by rw [(bcell hs.1).1 _ _ hlt]; exact r3
      clear hp
      go_simp
      with_reducible refine hK9 _ ?_
      exact ⟨hs.1, fun h => by
        obtain ⟨b, d, h1, h3, h4⟩ := hs.2.1 (by simpa [setL] using h)
        exact ⟨b, d, by simpa [updV] using h1, h3, h4⟩, fun h => by
        obtain ⟨h1, h2⟩ := hs.2.2 (by simpa [setL] using h)
        exact ⟨by simpa [setL] using h1, by simpa [updV] using h2⟩⟩
    · clear hp
      go_simp
      refine (HC2.out w9).mono ?_
      rintro e9 w8 ⟨rfl, rfl⟩
      with_reducible refine hK9 _ ?_
      exact ⟨hs.1, fun h => by
        obtain ⟨b, d, h1, h3, h4⟩ := hs.2.1 (by simpa [setL] using h)
        exact ⟨b, d, by simpa [updV] using h1, h3, h4⟩, fun h => by
        obtain ⟨h1, h2⟩ := hs.2.2 (by simpa [setL] using h)
        exact ⟨by simpa [setL] using h1, by simpa [updV] using h2⟩⟩
    · clear hp
      go_simp
      with_reducible refine hK9 _ ?_
      exact ⟨hs.1, fun h => by
        obtain ⟨b, d, h1, h3, h4⟩ := hs.2.1 (by simpa [setL] using h)
        exact ⟨b, d, by simpa [updV] using h1, h3, h4⟩, fun h => by
        obtain ⟨h1, h2⟩ := hs.2.2 (by simpa [setL] using h)
        exact ⟨by simpa [setL] using h1, by simpa [updV] using h2⟩⟩
    · have s0 : w9.cell? ⟨bM, 4, none⟩ = some (.int .i64 kk) := by rw [(bcell hs.1).1 _ _ hlt]; exact r4
      clear hp
      go_simp
      with_reducible refine hK9 _ ?_
      exact ⟨hs.1, fun h => by
        obtain ⟨b, d, h1, h3, h4⟩ := hs.2.1 (by simpa [setL] using h)
        exact ⟨b, d, by simpa [updV] using h1, h3, h4⟩, fun h => by
        obtain ⟨h1, h2⟩ := hs.2.2 (by simpa [setL] using h)
        exact ⟨by simpa [setL] using h1, by simpa [updV] using h2⟩⟩
    · have h7 : L 7 = true := allL_mem hp 7 (by decide +kernel)
      obtain ⟨b, d, hx7, hf7, hnb7⟩ := hs.2.1 h7
      clear hp
      rw [hx7] at hK9 ⊢
      go_simp
      with_reducible refine hK9 _ _ ?_
      exact ⟨hs.1, fun _ => ⟨b, d, by simpa [updV] using hx7, hf7, hnb7⟩, fun _ => ⟨by simpa [setL] using h7, by simp [updV, hx7]⟩⟩
  intro L x w9 hS hL
  have hs : Below w1.heap.size w1 w9 ∧ (L 7 = true → ∃ b d, x 7 = .slice b m d ∧ IsFlds w9 b d FF ∧ (∀ ad, b = some ad → w1.heap.size ≤ ad.block)) ∧ (L 13 = true → L 7 = true ∧ x 13 = .agg #[.int .i64 kc, .string r2, x 7, .string b2, .int .i64 kk]) := hS
  obtain ⟨b, d, hx7, hf7, hnb7⟩ := hs.2.1 (hL 7 (by decide))
  have hx13 := (hs.2.2 (hL 13 (by decide))).2
  have hb9 := hs.1
  clear hS hL hs
  simp only [actMix, pickV, List.tail_cons, List.headD_cons, Act.put, List.setIfInBounds_toArray, List.set_cons_zero, List.set_cons_succ, List.replicate_succ, List.replicate_zero, List.drop_succ_cons, List.drop_zero, List.take_succ_cons, List.take_zero]
  rw [hx7] at hx13 ⊢
  rw [hx13]
  have Q := RR1.out.below hb9
  have HB9 := Lib.hid (HL1.out.trans (hb9.mono HL1.out.size))
  have HF9 := Lib.hid hf7
  have HW9 := Lib.hid (HW1.out.below hb9)
  have z0 := Q.free 0
  have z1 := Q.free 1
  have z2 := Q.free 2
  have z3 := Q.free 3
  have z4 := Q.free 4
  have p0 : w9.cell? ⟨bM, 0, none⟩ = some (.int .i64 kc) := Q.cell 0
  have p1 : w9.cell? ⟨bM, 1, none⟩ = some (.string rr) := Q.cell 1
  have p2 : w9.cell? ⟨bM, 2, none⟩ = some (.slice a n c) := Q.cell 2
  have p3 : w9.cell? ⟨bM, 3, none⟩ = some (.string bb) := Q.cell 3
  have p4 : w9.cell? ⟨bM, 4, none⟩ = some (.int .i64 kk) := Q.cell 4
  have HNB : Hid (∀ ad, b = some ad → ¬ ad.block = bM) := fun ad had => by have := hnb7 ad had; have := hlt; omega
  have h5 := own_five bM _ HB9.out hbM0 (.int .i64 kc) (.string r2) (.slice b m d) (.string b2) (.int .i64 kk)
  have F5 := isFlds_keepR HF9.out h5.2 HNB.out
  have HB5 := h5.1
  have Q5 : Row (((((w9.setCell ⟨bM, 0, none⟩ (.int .i64 kc)).setCell ⟨bM, 1, none⟩ (.string r2)).setCell ⟨bM, 2, none⟩ (.slice b m d)).setCell ⟨bM, 3, none⟩ (.string b2)).setCell ⟨bM, 4, none⟩ (.int .i64 kk)) bM 24 #[.int .i64 kc, .string r2, .slice b m d, .string b2, .int .i64 kk] := ((((Q.put 0 (.int .i64 kc)).put 1 (.string r2)).put 2 (.slice b m d)).put 3 (.string b2)).put 4 (.int .i64 kk)
  have W5 : LaidS (((((w9.setCell ⟨bM, 0, none⟩ (.int .i64 kc)).setCell ⟨bM, 1, none⟩ (.string r2)).setCell ⟨bM, 2, none⟩ (.slice b m d)).setCell ⟨bM, 3, none⟩ (.string b2)).setCell ⟨bM, 4, none⟩ (.int .i64 kk)) := HWW.out.below HB5
  have HL5 := Lib.hid HB5
  have HF5 := Lib.hid F5
  have RR5 := Lib.hid Q5
  have HW5 := Lib.hid W5
  clear hx7 hx13 hf7 hnb7 hb9 h5 F5 HB5 Q5 W5 Q HF9 HW9 HB9 HNB HL1 HF1 HW1 RR1 r0 r1 r2' r3 r4 hlt HM HC1 HC2
  go_upto_region 4 with fail
  clear z0 z1 z2 z3 z4 p0 p1 p2 p3 p4
  generalize ((((w9.setCell ⟨bM, 0, none⟩ (.int .i64 kc)).setCell ⟨bM, 1, none⟩ (.string r2)).setCell ⟨bM, 2, none⟩ (.slice b m d)).setCell ⟨bM, 3, none⟩ (.string b2)).setCell ⟨bM, 4, none⟩ (.int .i64 kk) = w5 at *
  have hlt5 := RR5.out.lt
  have r0 : w5.cell? ⟨bM, 0, none⟩ = some (.int .i64 kc) := RR5.out.cell 0
  have r1 : w5.cell? ⟨bM, 1, none⟩ = some (.string r2) := RR5.out.cell 1
  have r2' : w5.cell? ⟨bM, 2, none⟩ = some (.slice b m d) := RR5.out.cell 2
  have r3 : w5.cell? ⟨bM, 3, none⟩ = some (.string b2) := RR5.out.cell 3
  have r4 : w5.cell? ⟨bM, 4, none⟩ = some (.int .i64 kk) := RR5.out.cell 4
  refine region_mixt 6 [some (.agg #[.int .i64 kc, .string r2, .slice b m d, .string b2, .int .i64 kk]), none, some (.string X), some (.agg #[.int .i64 kc, .string r2, .slice b m d, .string b2, .int .i64 kk]), some (.string X), some (.bool true)]
    [[false, false, false, false, false, false], [true, false, false, false, false, false], [false, true, false, false, false, false], [false, false, false, false, false, false], [false, false, true, true, false, false], [false, false, true, false, true, false]]
    (fun L x w9 => Below w5.heap.size w5 w9 ∧ (L 1 = true → ∃ b5 d5, x 1 = .agg #[.int .i64 kc, .string r2, .slice b5 m d5, .string b2, .int .i64 kk] ∧ IsFlds w9 b5 d5 FF))
    (by kernel_rfl) (by kernel_rfl) (by kernel_rfl) (by kernel_rfl) (by kernel_rfl) (by decide) ?_ ?_ ?_
  · intro _
    exact ⟨⟨rfl, rfl, rfl, Nat.le_refl _, fun _ _ => rfl⟩, (fun h => by cases h)⟩
  · simp only [List.take_succ_cons, List.take_zero]
    refine ⟨?_, ?_, ?_, ?_, ?_, ?_, trivial⟩
    all_goals
      intro L x w9 hS hl hp K9 hK9
      have hs : Below w5.heap.size w5 w9 ∧ (L 1 = true → ∃ b5 d5, x 1 = .agg #[.int .i64 kc, .string r2, .slice b5 m d5, .string b2, .int .i64 kk] ∧ IsFlds w9 b5 d5 FF) := hS
      clear hS
      have s0 : w9.cell? ⟨bM, 0, none⟩ = some (.int .i64 kc) := by rw [(bcell hs.1).1 _ _ hlt5]; exact r0
      have s1 : w9.cell? ⟨bM, 1, none⟩ = some (.string r2) := by rw [(bcell hs.1).1 _ _ hlt5]; exact r1
      have s2 : w9.cell? ⟨bM, 2, none⟩ = some (.slice b m d) := by rw [(bcell hs.1).1 _ _ hlt5]; exact r2'
      have s3 : w9.cell? ⟨bM, 3, none⟩ = some (.string b2) := by rw [(bcell hs.1).1 _ _ hlt5]; exact r3
      have s4 : w9.cell? ⟨bM, 4, none⟩ = some (.int .i64 kk) := by rw [(bcell hs.1).1 _ _ hlt5]; exact r4
      replace hK9 := hK9.out
      simp only [actMix, pickV, List.tail_cons, List.headD_cons, Act.put, List.setIfInBounds_toArray, List.set_cons_zero, List.set_cons_succ] at hK9 ⊢
    · clear hp
      go_simp
      with_reducible refine hK9 _ ?_
      exact ⟨hs.1, fun h => by
        obtain ⟨b5, d5, h1, h3⟩ := hs.2 (by simpa [setL] using h)
        exact ⟨b5, d5, by simpa [updV] using h1, h3⟩⟩
    · clear hp s0 s1 s2 s3 s4
      go_simp
      refine (HOW.out b d w9 (HF5.out.below hs.1)).mono ?_
      rintro e9 w8 ⟨b5, d5, rfl, _, hf8, hb8⟩
      with_reducible refine hK9 _ _ ?_
      exact ⟨hs.1.trans (hb8.mono hs.1.size), fun _ => ⟨b5, d5, by simp [updV], hf8⟩⟩
    · have h1 : L 1 = true := allL_mem hp 1 (by decide +kernel)
      obtain ⟨b5, d5, hx1, hf1⟩ := hs.2 h1
      clear hp s0 s1 s2 s3 s4
      rw [hx1] at hK9 ⊢
      go_simp
      refine (HTP.out b5 d5 w9 (HW5.out.below hs.1).2.2.1 hf1).mono ?_
      rintro e9 w8 ⟨rfl, hb8⟩
      with_reducible refine hK9 _ ?_
      exact ⟨hs.1.trans (hb8.mono hs.1.size), fun h => by
        obtain ⟨b5, d5, h1, h3⟩ := hs.2 (by simpa [setL] using h)
        exact ⟨b5, d5, by simpa [updV] using h1, h3.below hb8⟩⟩
    · clear hp
      go_simp
      with_reducible refine hK9 _ ?_
      exact ⟨hs.1, fun h => by
        obtain ⟨b5, d5, h1, h3⟩ := hs.2 (by simpa [setL] using h)
        exact ⟨b5, d5, by simpa [updV] using h1, h3⟩⟩
    · clear hp s0 s1 s2 s3 s4
      go_simp
      refine (HTR.out b d w9 (HW5.out.below hs.1).2.2.1 (HF5.out.below hs.1)).mono ?_
      rintro e9 w8 ⟨rfl, hb8⟩
      with_reducible refine hK9 _ ?_
      exact ⟨hs.1.trans (hb8.mono hs.1.size), fun h => by
        obtain ⟨b5, d5, h1, h3⟩ := hs.2 (by simpa [setL] using h)
        exact ⟨b5, d5, by simpa [updV] using h1, h3.below hb8⟩⟩
    · clear hp s0 s1 s2 s3 s4
      go_simp
      with_reducible refine hK9 _ ?_
      exact ⟨hs.1, fun h => by
        obtain ⟨b5, d5, h1, h3⟩ := hs.2 (by simpa [setL] using h)
        exact ⟨b5, d5, by simpa [updV] using h1, h3⟩⟩
  intro L x w9 hS hL
  have hs : Below w5.heap.size w5 w9 ∧ (L 1 = true → ∃ b5 d5, x 1 = .agg #[.int .i64 kc, .string r2, .slice b5 m d5, .string b2, .int .i64 kk] ∧ IsFlds w9 b5 d5 FF) := hS
  have hb9 := hs.1
  clear hS hL hs
  simp only [actMix, pickV, List.tail_cons, List.headD_cons, Act.put, List.setIfInBounds_toArray, List.set_cons_zero, List.set_cons_succ, List.replicate_succ, List.replicate_zero, List.drop_succ_cons, List.drop_zero, List.take_succ_cons, List.take_zero]
  have HB9 := Lib.hid (HL5.out.trans (hb9.mono HL5.out.size))
  clear hb9
  go_wp2_with fail
  go_ret
  exact ⟨rfl, HB9.out⟩
end Go.Proofs.YtbbphklhnngjmaaGreatDoor

/- A slice of fields that is handed in. -/
namespace Go.Proofs.YtbbphklhnngjmaaGreatDoor
open Go.ChangeShapes Go.WideShapes Go.ChangeAt Go.RowKit

/-- A string's bytes. -/
def strL (v : Value) : List UInt8 := match v with
  | .string s => s.data.toList
  | _ => []
theorem strL_bs (s : ByteArray) : Value.string (bs (strL (.string s))) = .string s := by
  cases s; rfl
theorem flds_open {H : Type} {enc : TypeId × Value → H} {P : Program} {t e u : TypeId} {W : World} {base : Nat} {held : Bool} (ht : P.underlying t = some (.slice e)) (hu : (P.underlying e).map fieldsOf = some [(u, 0), (u, 1)]) (hs : P.underlying u = some .string) (hc : P.cellsOf u = 1) (ce : P.cellsOf e = 2)
    {r : Reach} {b0 : Nat} {v : Value} {d : DataW H} {ps : List MemPlace} (hval : Value.okWide P W r b0 t v) (hd : DataW.Trod enc P W base (fun _ => true) held t v d ps) :
    ∃ a c fs, v = .slice a fs.length c ∧ IsFlds W a c fs ∧ fs.length ≤ maxLen := by
  obtain ⟨a, l, c, rfl⟩ := okWide_slice ht hval
  obtain ⟨fuel, hf⟩ := hd
  obtain ⟨fa, hfa, hm⟩ := fieldsOf_struct hu (List.cons_ne_nil _ _)
  obtain ⟨fl, hfl⟩ : ∃ fl, fl = fa.toList := ⟨_, rfl⟩
  rw [← hfl] at hm
  have hl2 : fl.length = 2 := by have := congrArg List.length hm; simpa using this
  match fl, hl2 with
  | [f0, f1], _ =>
    simp only [List.map_cons, List.map_nil, List.cons.injEq, Prod.mk.injEq, and_true] at hm
    obtain ⟨⟨t0, o0⟩, t1, o1⟩ := hm
    have hfa2 : fa = #[f0, f1] := by rw [← Array.toArray_toList (xs := fa), ← hfl]
    rw [hfa2] at hfa
    rcases Go.Deep.open_slice_pairs ht hfa ce o0 o1 (by rw [t0]; exact hc) (by rw [t1]; exact hc) hf with ⟨hcs, _⟩ | ⟨a', l', c', m, n, V0, V1, D0, D1, P0, P1, hcs, _, hl, hmx, hme, _, hcell⟩
    · simp [Value.cells] at hcs
      obtain ⟨rfl, rfl, rfl⟩ := hcs
      exact ⟨none, 0, [], rfl, .inl rfl, by simp⟩
    · simp [Value.cells] at hcs
      obtain ⟨rfl, h1, h2⟩ := hcs
      subst h1 h2
      simp only [if_true] at hme
      subst hme
      obtain ⟨fs, hfs⟩ : ∃ fs : List Fld, fs = (List.range l).map fun i => (strL (V0 i), strL (V1 i)) := ⟨_, rfl⟩
      have hlen : fs.length = l := by rw [hfs]; simp
      refine ⟨some a', m, fs, by rw [hlen], ?_, by rw [hlen]; omega⟩
      by_cases h0 : l = 0
      · left; rw [hfs, h0]; rfl
      · right
        have c0 := (hcell 0 (by omega)).1
        have hs0 := World.cell?_spot c0
        have ha0 : a'.add (0 * 2) = a' := by simp [Addr.add]
        rw [ha0] at hs0 c0
        obtain ⟨bk, o, sp⟩ := a'
        simp only at hs0
        subst hs0
        refine ⟨bk, o, rfl, World.block_lt_of_cell? W _ c0, by rw [hlen]; exact hl, fun j f hj => ?_⟩
        have hjl : j < l := by
          rcases Nat.lt_or_ge j l with h | h
          · exact h
          · rw [List.getElem?_eq_none (by omega)] at hj; cases hj
        obtain ⟨g0, g1, g2, g3⟩ := hcell j (by omega)
        rw [t0] at g2
        rw [t1] at g3
        obtain ⟨s0, e0, _, _⟩ := DataW.trod_string hs g2
        obtain ⟨s1, e1, _, _⟩ := DataW.trod_string hs g3
        simp only [List.cons.injEq, and_true] at e0 e1
        rw [hfs] at hj
        simp only [List.getElem?_map, List.getElem?_range hjl, Option.map_some, Option.some.injEq] at hj
        subst hj
        rw [Addr.add_mid] at g0 g1
        rw [e0] at g0
        rw [e1] at g1
        refine ⟨?_, ?_⟩
        · simp only [e0]
          rw [strL_bs]; exact g0
        · simp only [e1]
          rw [strL_bs, Nat.add_assoc]; exact g1
end Go.Proofs.YtbbphklhnngjmaaGreatDoor

/- A message that is handed in by value: strings, numbers, a slice of fields. -/
namespace Go.Proofs.YtbbphklhnngjmaaGreatDoor
open Go.ChangeShapes Go.WideShapes Go.ChangeAt Go.RowKit

/-- A slice of fields, out of its cell. -/
theorem flds_cell {H : Type} {enc : TypeId × Value → H} {P : Program} {t e u : TypeId} {W : World} {base : Nat} {held : Bool} (ht : P.underlying t = some (.slice e)) (hu : (P.underlying e).map fieldsOf = some [(u, 0), (u, 1)]) (hs : P.underlying u = some .string) (hc : P.cellsOf u = 1) (ce : P.cellsOf e = 2)
    {fuel : Nat} {cl : List Value} {x : DataW H × List MemPlace} (hf : DataW.trod enc P W base (fun _ => true) held fuel t cl = some x) :
    ∃ a c fs, cl = [.slice a fs.length c] ∧ IsFlds W a c fs ∧ fs.length ≤ maxLen := by
  obtain ⟨fa, hfa, hm⟩ := fieldsOf_struct hu (List.cons_ne_nil _ _)
  obtain ⟨fl, hfl⟩ : ∃ fl, fl = fa.toList := ⟨_, rfl⟩
  rw [← hfl] at hm
  have hl2 : fl.length = 2 := by have := congrArg List.length hm; simpa using this
  match fl, hl2 with
  | [f0, f1], _ =>
    simp only [List.map_cons, List.map_nil, List.cons.injEq, Prod.mk.injEq, and_true] at hm
    obtain ⟨⟨t0, o0⟩, t1, o1⟩ := hm
    have hfa2 : fa = #[f0, f1] := by rw [← Array.toArray_toList (xs := fa), ← hfl]
    rw [hfa2] at hfa
    rcases Go.Deep.open_slice_pairs ht hfa ce o0 o1 (by rw [t0]; exact hc) (by rw [t1]; exact hc) hf with ⟨hcs, _⟩ | ⟨a', l', c', m, n, V0, V1, D0, D1, P0, P1, hcs, _, hl, hmx, hme, _, hcell⟩
    · exact ⟨none, 0, [], hcs, .inl rfl, by simp⟩
    · simp only [if_true] at hme
      subst hme
      obtain ⟨fs, hfs⟩ : ∃ fs : List Fld, fs = (List.range l').map fun i => (strL (V0 i), strL (V1 i)) := ⟨_, rfl⟩
      have hlen : fs.length = l' := by rw [hfs]; simp
      refine ⟨some a', m, fs, by rw [hlen]; exact hcs, ?_, by rw [hlen]; omega⟩
      by_cases h0 : l' = 0
      · left; rw [hfs, h0]; rfl
      · right
        have c0 := (hcell 0 (by omega)).1
        have hs0 := World.cell?_spot c0
        have ha0 : a'.add (0 * 2) = a' := by simp [Addr.add]
        rw [ha0] at hs0 c0
        obtain ⟨bk, o, sp⟩ := a'
        simp only at hs0
        subst hs0
        refine ⟨bk, o, rfl, World.block_lt_of_cell? W _ c0, by rw [hlen]; exact hl, fun j f hj => ?_⟩
        have hjl : j < l' := by
          rcases Nat.lt_or_ge j l' with h | h
          · exact h
          · rw [List.getElem?_eq_none (by omega)] at hj; cases hj
        obtain ⟨g0, g1, g2, g3⟩ := hcell j (by omega)
        rw [t0] at g2
        rw [t1] at g3
        obtain ⟨s0, e0, _, _⟩ := DataW.trod_string hs g2
        obtain ⟨s1, e1, _, _⟩ := DataW.trod_string hs g3
        simp only [List.cons.injEq, and_true] at e0 e1
        rw [hfs] at hj
        simp only [List.getElem?_map, List.getElem?_range hjl, Option.map_some, Option.some.injEq] at hj
        subst hj
        rw [Addr.add_mid] at g0 g1
        rw [e0] at g0
        rw [e1] at g1
        refine ⟨?_, ?_⟩
        · simp only [e0]
          rw [strL_bs]; exact g0
        · simp only [e1]
          rw [strL_bs, Nat.add_assoc]; exact g1
theorem refUm : (Tryz.prog.underlying 53).map fieldsOf = some [(9, 0), (9, 1)] := by kernel_rfl
theorem refCm : Tryz.prog.cellsOf 53 = 2 := by kernel_rfl
theorem cellsSm : Tryz.prog.cellsOf 9 = 1 := by kernel_rfl
theorem cellsIm : Tryz.prog.cellsOf 3 = 1 := by kernel_rfl
theorem cellsFm : Tryz.prog.cellsOf 22 = 1 := by kernel_rfl
theorem msgU : (Tryz.prog.underlying 39).map fieldsOf = some [(9, 0), (9, 1), (22, 2), (9, 3), (3, 4)] := by kernel_rfl
theorem msgC : Tryz.prog.cellsOf 39 = 5 := by kernel_rfl
set_option maxRecDepth 100000 in
theorem msg_open {H : Type} {enc : TypeId × Value → H} {W : World} {base : Nat} {held : Bool} {r : Reach} {b0 : Nat} {v : Value} {d : DataW H} {ps : List MemPlace} (hval : Value.okWide Tryz.prog W r b0 39 v) (hd : DataW.Trod enc Tryz.prog W base (fun _ => true) held 39 v d ps) :
    ∃ (m t b : ByteArray) (k : Int) (a : Option Addr) (c : Nat) (fs : List Fld), v = .agg #[.string m, .string t, .slice a fs.length c, .string b, .int .i64 k] ∧ IsFlds W a c fs ∧ fs.length ≤ maxLen := by
  obtain ⟨cs, xs, q, rfl, hc, rfl, rfl, hx, hf⟩ := rec_open msgU (List.cons_ne_nil _ _) hval hd
  rw [msgC] at hc
  have f0 := hf 0 _ _ rfl
  have f1 := hf 1 _ _ rfl
  have f2 := hf 2 _ _ rfl
  have f3 := hf 3 _ _ rfl
  have f4 := hf 4 _ _ rfl
  match xs, hx with
  | [y0, y1, y2, y3, y4], _ =>
    rw [cellsSm] at f0 f1 f3
    rw [cellsIm] at f4
    rw [cellsFm] at f2
    obtain ⟨m, e0, _, _⟩ := DataW.trod_string Tryz.underlying9 f0
    obtain ⟨t, e1, _, _⟩ := DataW.trod_string Tryz.underlying9 f1
    obtain ⟨a, c, fs, e2, hfs, hlen⟩ := flds_cell Tryz.underlying22 refUm Tryz.underlying9 cellsSm refCm f2
    obtain ⟨b, e3, _, _⟩ := DataW.trod_string Tryz.underlying9 f3
    obtain ⟨k, e4, _, _⟩ := DataW.trod_int Tryz.underlying3 f4
    have g0 := one_cellR e0
    have g1 := one_cellR e1
    have g2 := one_cellR e2
    have g3 := one_cellR e3
    have g4 := one_cellR e4
    obtain ⟨l, hl⟩ : ∃ l, l = cs.toList := ⟨_, rfl⟩
    rw [← hl] at hc g0 g1 g2 g3 g4
    match l, hc with
    | [z0, z1, z2, z3, z4], _ =>
      obtain rfl : z0 = _ := Option.some.inj g0
      obtain rfl : z1 = _ := Option.some.inj g1
      obtain rfl : z2 = _ := Option.some.inj g2
      obtain rfl : z3 = _ := Option.some.inj g3
      obtain rfl : z4 = _ := Option.some.inj g4
      refine ⟨m, t, b, k, a, c, fs, ?_, hfs, hlen⟩
      rw [← Array.toArray_toList (xs := cs), ← hl]
end Go.Proofs.YtbbphklhnngjmaaGreatDoor

/- A response that is handed in by value. -/
namespace Go.Proofs.YtbbphklhnngjmaaGreatDoor
open Go.ChangeShapes Go.WideShapes Go.ChangeAt Go.RowKit

theorem msgRU : (Tryz.prog.underlying 24).map fieldsOf = some [(3, 0), (9, 1), (22, 2), (9, 3), (3, 4)] := by kernel_rfl
theorem msgRC : Tryz.prog.cellsOf 24 = 5 := by kernel_rfl
set_option maxRecDepth 100000 in
theorem msgR_open {H : Type} {enc : TypeId × Value → H} {W : World} {base : Nat} {held : Bool} {r : Reach} {b0 : Nat} {v : Value} {d : DataW H} {ps : List MemPlace} (hval : Value.okWide Tryz.prog W r b0 24 v) (hd : DataW.Trod enc Tryz.prog W base (fun _ => true) held 24 v d ps) :
    ∃ (m : Int) (t b : ByteArray) (k : Int) (a : Option Addr) (c : Nat) (fs : List Fld), v = .agg #[.int .i64 m, .string t, .slice a fs.length c, .string b, .int .i64 k] ∧ IsFlds W a c fs ∧ fs.length ≤ maxLen := by
  obtain ⟨cs, xs, q, rfl, hc, rfl, rfl, hx, hf⟩ := rec_open msgRU (List.cons_ne_nil _ _) hval hd
  rw [msgRC] at hc
  have f0 := hf 0 _ _ rfl
  have f1 := hf 1 _ _ rfl
  have f2 := hf 2 _ _ rfl
  have f3 := hf 3 _ _ rfl
  have f4 := hf 4 _ _ rfl
  match xs, hx with
  | [y0, y1, y2, y3, y4], _ =>
    rw [cellsSm] at f1 f3
    rw [cellsIm] at f0 f4
    rw [cellsFm] at f2
    obtain ⟨m, e0, _, _⟩ := DataW.trod_int Tryz.underlying3 f0
    obtain ⟨t, e1, _, _⟩ := DataW.trod_string Tryz.underlying9 f1
    obtain ⟨a, c, fs, e2, hfs, hlen⟩ := flds_cell Tryz.underlying22 refUm Tryz.underlying9 cellsSm refCm f2
    obtain ⟨b, e3, _, _⟩ := DataW.trod_string Tryz.underlying9 f3
    obtain ⟨k, e4, _, _⟩ := DataW.trod_int Tryz.underlying3 f4
    have g0 := one_cellR e0
    have g1 := one_cellR e1
    have g2 := one_cellR e2
    have g3 := one_cellR e3
    have g4 := one_cellR e4
    obtain ⟨l, hl⟩ : ∃ l, l = cs.toList := ⟨_, rfl⟩
    rw [← hl] at hc g0 g1 g2 g3 g4
    match l, hc with
    | [z0, z1, z2, z3, z4], _ =>
      obtain rfl : z0 = _ := Option.some.inj g0
      obtain rfl : z1 = _ := Option.some.inj g1
      obtain rfl : z2 = _ := Option.some.inj g2
      obtain rfl : z3 = _ := Option.some.inj g3
      obtain rfl : z4 = _ := Option.some.inj g4
      refine ⟨m, t, b, k, a, c, fs, ?_, hfs, hlen⟩
      rw [← Array.toArray_toList (xs := cs), ← hl]
end Go.Proofs.YtbbphklhnngjmaaGreatDoor

