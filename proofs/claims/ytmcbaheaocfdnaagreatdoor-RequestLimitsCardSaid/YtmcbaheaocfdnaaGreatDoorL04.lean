/- Packed: LawRl, FldsO. -/
import Derived.Deep.SlicePairs
import Derived.Deep.MidRow
import Derived.WideKeyArgs
import Derived.DataReads
import Derived.Test.YtmcbaheaocfdnaaGreatDoorL03
import Derived.Test.YtmcbaheaocfdnaaGreatDoorQ05
import Derived.Test.YtmcbaheaocfdnaaGreatDoorQ11
import Derived.Test.YtmcbaheaocfdnaaGreatDoorQ15
/- The walk of the statement RequestLimits. -/
namespace Go.Proofs.YtmcbaheaocfdnaaGreatDoor
open Go.RowKit

/-- append of a slice that may be nil. -/
theorem wpList_append_mix {P : Program} {w : World} {ops : Array Oper} {rest : List Oper} {o : Oper} {a : Act} {Q : Exit → Act → World → Prop} (hgd : o.guard = none) (s x : Operand) (t : TypeId)
    (ho : o.op = .call { callee := .builtin .append, args := #[s, x], argTypes := #[t, t] })
    (base : Nat) (e : TypeId) (i : TypeInfo) (z : Value) (size bytes : Nat) (ht : P.underlying t = some (.slice e)) (hi : P.info? e = some i) (hz : i.zero = some z)
    (hsize : i.size = size) (hby : i.bytes = bytes) (hzs : z.cells.size = size) (hsz : 0 < size)
    (v : Value) (n : Nat) (xs : List Value) (hs : a.eval s = v) (hown : w.ownsRow base e size v n xs)
    (ua : Option Addr) (m c B2 : Nat) (news : List Value) (hx : a.eval x = .slice ua m c) (hsrc : w.ownsRow B2 e size (.slice ua m c) m news) (h1 : ∀ u ∈ news, u.oneCell' = true)
    (h63 : n + m ≤ maxLen) (hbytes : (n + m) * bytes ≤ 140737488355328) (hbase : base ≤ w.heap.size)
    (h : ∀ v' w', w'.ownsRow base e size v' (n + m) (xs ++ news) → w.grownBy w' v.ownBlock → wpList P ops Q rest (a.put o.dst v') w') :
    wpList P ops Q (o :: rest) a w := by
  cases ua with
  | none =>
    obtain ⟨rfl, rfl⟩ := own_nilF hsrc rfl
    have hl := hsrc.1
    rw [Nat.zero_mul] at hl
    obtain rfl : news = [] := List.eq_nil_of_length_eq_zero hl
    exact wpList_append_own_none hgd s x t ho base e i size ht hi v n xs hs hown hx (h v w (by rw [List.append_nil, Nat.add_zero]; exact hown) (grown_refl _ _))
  | some ad =>
    exact wpList_append_own_at w hgd s x t ho base e i z size bytes ht hi hz hsize hby hzs hsz v n xs hs hown ad m c news hx hsrc.1 (own_src hsrc (Below.refl _ _)) h1 h63 hbytes hbase (fun v' w' h2 h3 _ _ => h v' w' h2 h3)
theorem and3 (x : Int) : bits .and .i64 x 3 = 0 ∨ bits .and .i64 x 3 = 1 ∨ bits .and .i64 x 3 = 2 ∨ bits .and .i64 x 3 = 3 := by
  have h : (BitVec.ofInt 64 x &&& BitVec.ofInt 64 3).toNat ≤ 3 := by
    rw [BitVec.toNat_and]
    exact Nat.le_trans Nat.and_le_right (by decide)
  have e : bits .and .i64 x 3 = (((BitVec.ofInt 64 x &&& BitVec.ofInt 64 3).toNat : Nat) : Int) := by
    show IntKind.i64.wrap (((BitVec.ofInt 64 x &&& BitVec.ofInt 64 3).toNat : Nat) : Int) = _
    exact IntWalk.i64_in _ (by omega)
  rw [e]
  omega
theorem textL_bound : ∀ (fs : List Fld), (∀ f ∈ fs, f.1.length ≤ 20 ∧ f.2.length ≤ 40) → (textL fs).length ≤ fs.length * 64
  | [], _ => Nat.zero_le _
  | f :: r, h => by
    have h1 := textL_bound r (fun g hg => h g (List.mem_cons_of_mem _ hg))
    have h2 := h f (List.mem_cons_self ..)
    have h3 := textL_len f r
    simp only [List.length_append, List.length_cons, List.length_nil] at h3 ⊢
    omega
theorem fewF_small {fs : List Fld} {n : Nat} {f : Fld} (h : f ∈ fewF fs n) : f.1.length ≤ 20 ∧ f.2.length ≤ 40 := by
  unfold fewF at h
  obtain ⟨g, _, rfl⟩ := List.mem_map.1 h
  simp
  omega
theorem nobody_of {m t : List UInt8} {fs : List Fld} (h : PlainIs m t fs) (hl : fs.length ≤ 1000000) (hok : ∀ f ∈ fs, FldOk f) : NoBody fs := by
  obtain ⟨_, _, _, ⟨h0, e1, e2⟩, e3, e4⟩ := h
  refine ⟨h0, ?_, e2, ?_, ?_, hl, hok⟩
  · rw [← e1]; exact allB_case (by decide +kernel) fs
  · rw [← e3]; exact allB_case (by decide +kernel) fs
  · rw [← e4]; exact allB_case (by decide +kernel) fs
theorem rq_text (m t : List UInt8) (fs : List Fld) : reqLine (m, t) ++ textL fs ++ [13, 10] = rqL m t fs := by
  rw [reqLine_ln]
  unfold rqL
  simp
def getL : List UInt8 := [71, 69, 84]
def hostF : Fld := ([72, 111, 115, 116], [97])
theorem ln_len (t : List UInt8) : (lnL getL t).length = 13 + t.length := by
  unfold lnL getL
  simp only [List.length_append, List.length_cons, List.length_nil, show sfxL.length = 9 from rfl]
  omega
theorem rq_len (t : List UInt8) (fs : List Fld) : (rqL getL t fs).length = 17 + t.length + (textL fs).length := by
  unfold rqL
  simp only [List.length_append, List.length_cons, List.length_nil, ln_len]
  omega
theorem textL_pos {fs : List Fld} (h : fs ≠ []) : 1 ≤ (textL fs).length := by
  cases fs with
  | nil => exact absurd rfl h
  | cons f r => have := textL_len f r; omega
/-- What the law comes to once the parser has been fed. -/
theorem fed_slice {G : Nat → Prop} {g : Nat} {M : HdL} {b : Int} {p : PaP} {acc : List Rq} {w w' : World} {x : Ending} (h : FeedsTo G g M b p acc w x w') : ∃ va vc, x = .returned (.tuple #[.slice va acc.length vc, .int .i64 p.errOf]) ∧ Keep G w w' := by
  obtain ⟨v, cs, G', rfl, _, hin, hk⟩ := h
  obtain ⟨va, vc, rfl⟩ := own_slice hin.own
  exact ⟨va, vc, rfl, hk⟩
set_option maxRecDepth 100000 in
set_option maxHeartbeats 16000000 in
theorem lawRequestLimits (target : ByteArray) (a : Option Addr) (c : Nat) (xs0 : List Fld) (hlx : xs0.length ≤ 9223372036854775807) (over : Int) (w : World) (hw : MaxL w) (hx : IsFlds w a c xs0) :
    Calls Tryz.prog 4 #[.string target, .slice a xs0.length c, .int .i64 over] w fun e w' => e = .returned (.bool true) ∧ Below w.heap.size w w' := by
  obtain ⟨i0, hi, hz0, hz1, hz2⟩ := info_parts infoRf
  have HW := Lib.hid hw
  have HX := Lib.hid hx
  clear hw hx
  go_enter Tryz.func4, Tryz.ntmps4
  go_wp2_with fail
  with_reducible refine (rqawake5 w HW.out).mono ?_
  rintro e w1 ⟨rfl, hb1⟩
  have B1 := Lib.hid hb1
  have X1 := Lib.hid (HX.out.below hb1)
  clear hb1 HX
  go_wp2_with fail
  refine (cut11 target 40 w1).mono ?_
  rintro e w' ⟨rfl, rfl⟩
  obtain ⟨T0, hT0⟩ : ∃ T0, T0 = cutS target 40 := ⟨_, rfl⟩
  have hT0z : T0.size ≤ 40 := by rw [hT0]; exact cutS_size _ _
  rw [← hT0]
  obtain ⟨tl, htl⟩ : ∃ tl, tl = 47 :: T0.data.toList := ⟨_, rfl⟩
  have htlz : tl.length ≤ 41 := by rw [htl, List.length_cons, ← Lib.size_eq]; omega
  have A0 := fun W => add_str [47] T0.data.toList (by rw [← Lib.size_eq]; simp; omega) W
  rw [show bs [47] = ⟨#[47]⟩ from rfl, bs_of, show [47] ++ T0.data.toList = tl by rw [htl]; rfl] at A0
  obtain ⟨tt, htt⟩ : ∃ tt, tt = bs tl := ⟨_, rfl⟩
  have httz : tt.size = tl.length := by rw [htt, bs_size]
  rw [← htt] at A0
  have HTT := Lib.hid htt
  have HTTZ := Lib.hid httz
  clear hT0 htl htt httz
  obtain ⟨fl, hfl⟩ : ∃ fl, fl = fewF xs0 5 := ⟨_, rfl⟩
  have hflz : fl.length ≤ 5 := by rw [hfl]; exact fewF_length _ _
  have HFS : Hid (∀ f ∈ fl, f.1.length ≤ 20 ∧ f.2.length ≤ 40) := by
    show ∀ f ∈ _, _
    rw [hfl]; exact fun f hf => fewF_small hf
  have HFE : Hid (∀ W, IsFlds W a c xs0 → Calls Tryz.prog 16 #[.slice a xs0.length c, .int .i64 5] W fun e w' => ∃ u, e = .returned u ∧ w'.ownsRow W.heap.size 46 2 u (fewF xs0 5).length (cellsF (fewF xs0 5)) ∧ Below W.heap.size W w') := fun W h => few39 a c xs0 5 (by decide) hlx W h
  rw [← hfl] at HFE
  have O0 : Hid ((w1.alloc (.cells #[.string ⟨#[72, 111, 115, 116]⟩, .string ⟨#[97]⟩] 46)).ownsRow w1.heap.size 46 2 (.slice (some ⟨w1.heap.size, 0, none⟩) 1 1) 1 [.string ⟨#[72, 111, 115, 116]⟩, .string ⟨#[97]⟩]) := World.ownsRow_lit w1 #[.string ⟨#[72, 111, 115, 116]⟩, .string ⟨#[97]⟩] 1 (Nat.le_refl _) (by decide) (by simp)
  have LA := Lib.hid (below_alloc w1 (.cells #[.string ⟨#[72, 111, 115, 116]⟩, .string ⟨#[97]⟩] 46))
  clear hfl
  go_wp2_with fail
  with_reducible refine (HFE.out _ (X1.out.below LA.out)).mono ?_
  rintro e w2 ⟨u, rfl, hou, hb2⟩
  obtain ⟨ua, uc, rfl⟩ := own_slice hou
  have O2 := Lib.hid (own_below O0.out hb2)
  have B2 := Lib.hid (B1.out.trans ((LA.out.trans (hb2.mono LA.out.size)).mono B1.out.size))
  have HOU := Lib.hid hou
  have hs1 := B1.out.size
  have hs2 : w1.heap.size ≤ w2.heap.size := (LA.out.trans (hb2.mono LA.out.size)).size
  obtain ⟨FL, hFL⟩ : ∃ FL, FL = hostF :: fl := ⟨_, rfl⟩
  have hFLz : FL.length ≤ 6 := by rw [hFL, List.length_cons]; omega
  have HFL : Hid (∀ f ∈ FL, f.1.length ≤ 20 ∧ f.2.length ≤ 40) := by
    show ∀ f ∈ _, _
    rw [hFL]
    intro f hf
    rcases List.mem_cons.1 hf with rfl | h
    · exact ⟨by decide, by decide⟩
    · exact HFS.out f h
  have HNE : Hid (FL ≠ []) := by show _ ≠ _; rw [hFL]; simp
  have hcc : [.string ⟨#[72, 111, 115, 116]⟩, .string ⟨#[97]⟩] ++ cellsF fl = cellsF FL := by rw [hFL]; rfl
  have hll : 1 + fl.length = FL.length := by rw [hFL, List.length_cons]; omega
  have HCC := Lib.hid hcc
  have HLL := Lib.hid hll
  clear hou hb2 HFE X1 O0 LA hFL hcc hll B1 HFS
  go_wp2_with (at_builtin; refine wpList_append_mix rfl _ _ 35 rfl w1.heap.size 46 i0 (.agg #[.string ⟨#[]⟩, .string ⟨#[]⟩]) 2 32 Tryz.underlying35 hi hz0 hz1 hz2 rfl (by decide) _ _ _ rfl O2.out ua fl.length uc _ (cellsF fl) rfl HOU.out (cellsF_one fl) (by unfold maxLen; omega) (by omega) hs2 ?_)
  intro v' w3 hown' hgrow
  have hown3 : w3.ownsRow w1.heap.size 46 2 v' (1 + fl.length) (cellsF FL) := by rw [← HCC.out]; exact hown'
  have hown2 := own_len hown3 HLL.out
  obtain ⟨fa, fc, rfl, _, hfl3⟩ := own_isFldsT hown2
  have B3 := Lib.hid (B2.out.grown hgrow B2.out.size (fun k hk => Nat.le_trans hs1 (O2.out.lt k hk).1))
  have F3 := Lib.hid hfl3
  have HOK : Hid (∀ f ∈ FL, FldOk f) := fun f hf => ⟨by have := (HFL.out f hf).1; omega, by have := (HFL.out f hf).2; omega⟩
  have HPL := Lib.hid (fun W h => plain17 getL tl (by decide) (by omega) fa fc FL (by omega) (fun f hf => ⟨by have := (HFL.out f hf).1; omega, by have := (HFL.out f hf).2; omega⟩) W h)
  rw [show bs getL = ⟨#[71, 69, 84]⟩ from rfl, ← HTT.out] at HPL
  have RX := Row.new w3 49 #[.string ⟨#[71, 69, 84]⟩, .string tt, .slice fa FL.length fc, .string ⟨#[]⟩, .int .i64 0]
  have LX := below_alloc w3 (.cells #[.string ⟨#[71, 69, 84]⟩, .string tt, .slice fa FL.length fc, .string ⟨#[]⟩, .int .i64 0] 49)
  clear hown' hown2 hown3 hgrow hfl3 O2 HOU B2
  go_upto_region 4 with fail
  obtain ⟨bX, hbX⟩ : ∃ bX, bX = w3.heap.size := ⟨_, rfl⟩
  rw [← hbX] at RX ⊢
  generalize w3.alloc (.cells #[.string ⟨#[71, 69, 84]⟩, .string tt, .slice fa FL.length fc, .string ⟨#[]⟩, .int .i64 0] 49) = w4 at *
  have F4 := Lib.hid (F3.out.below LX)
  have B4 := Lib.hid (B3.out.trans (LX.mono B3.out.size))
  have RX4 := Lib.hid RX
  have r0 : w4.cell? ⟨bX, 0, none⟩ = some (.string ⟨#[71, 69, 84]⟩) := RX.cell 0
  have r1 : w4.cell? ⟨bX, 1, none⟩ = some (.string tt) := RX.cell 1
  have r2 : w4.cell? ⟨bX, 2, none⟩ = some (.slice fa FL.length fc) := RX.cell 2
  have r3 : w4.cell? ⟨bX, 3, none⟩ = some (.string ⟨#[]⟩) := RX.cell 3
  have r4 : w4.cell? ⟨bX, 4, none⟩ = some (.int .i64 0) := RX.cell 4
  clear hbX RX LX F3 B3
  go_wp2_with fail
  with_reducible refine (HPL.out w4 F4.out).mono ?_
  rintro e w5 ⟨q, rfl, hq, hb5⟩
  have B5 := Lib.hid (B4.out.trans (hb5.mono B4.out.size))
  cases q
  · go_wp2_with fail
    go_ret
    exact ⟨rfl, B5.out⟩
  have HPI := Lib.hid (hq rfl)
  have F5 := Lib.hid (F4.out.below hb5)
  have RX5 := Lib.hid (RX4.out.below hb5)
  clear hq hb5 HPL F4 B4 RX4 r0 r1 r2 r3 r4
  have r0 : w5.cell? ⟨bX, 0, none⟩ = some (.string ⟨#[71, 69, 84]⟩) := RX5.out.cell 0
  have r1 : w5.cell? ⟨bX, 1, none⟩ = some (.string tt) := RX5.out.cell 1
  have r2 : w5.cell? ⟨bX, 2, none⟩ = some (.slice fa FL.length fc) := RX5.out.cell 2
  have r3 : w5.cell? ⟨bX, 3, none⟩ = some (.string ⟨#[]⟩) := RX5.out.cell 3
  have r4 : w5.cell? ⟨bX, 4, none⟩ = some (.int .i64 0) := RX5.out.cell 4
  have htb := textL_bound FL HFL.out
  go_wp2_with fail
  with_reducible refine (lown18 ⟨#[71, 69, 84]⟩ tt fa fc FL (by omega) w5 F5.out).mono ?_
  rintro e w6 ⟨ob, od, rfl, hf6, hb6⟩
  have HTX := Lib.hid (mtext19 getL tl (by decide) (by omega) ob od FL (by omega) HOK.out (by omega) w6 hf6)
  rw [show bs getL = ⟨#[71, 69, 84]⟩ from rfl, ← HTT.out, rq_text] at HTX
  obtain ⟨S, hS⟩ : ∃ S, S = bs (rqL getL tl FL) := ⟨_, rfl⟩
  rw [← hS] at HTX
  have HS := Lib.hid hS
  have B6 := Lib.hid (B5.out.trans (hb6.mono B5.out.size))
  have F6 := Lib.hid (F5.out.below hb6)
  have RX6 := Lib.hid (RX5.out.below hb6)
  clear hf6 hb6 hS F5 B5 RX5 r0 r1 r2 r3 r4
  go_wp2_with fail
  with_reducible refine HTX.out.mono ?_
  rintro e w7 ⟨rfl, hb7⟩
  have B7 := Lib.hid (B6.out.trans (hb7.mono B6.out.size))
  have F7 := Lib.hid (F6.out.below hb7)
  have RX7 := Lib.hid (RX6.out.below hb7)
  have r2 : w7.cell? ⟨bX, 2, none⟩ = some (.slice fa FL.length fc) := RX7.out.cell 2
  have HRT := Lib.hid (rtext50 fa fc FL (by omega) HOK.out (by omega) w7 F7.out)
  obtain ⟨X0, hX0⟩ : ∃ X0, X0 = bs (textL FL) := ⟨_, rfl⟩
  rw [← hX0] at HRT
  have hX0z : X0.size = (textL FL).length := by rw [hX0, bs_size]
  have HX0 := Lib.hid hX0z
  have hX0b : X0.size ≤ 1000 := by omega
  clear hb7 HTX B6 F6 RX6 hX0 hX0z
  go_wp2_with fail
  with_reducible refine HRT.out.mono ?_
  rintro e w8 ⟨rfl, hb8⟩
  have B8 := Lib.hid (B7.out.trans (hb8.mono B7.out.size))
  have RX8 := RX7.out.below hb8
  have r1 : w8.cell? ⟨bX, 1, none⟩ = some (.string tt) := RX8.cell 1
  have r2 : w8.cell? ⟨bX, 2, none⟩ = some (.slice fa FL.length fc) := RX8.cell 2
  have httb : tt.size ≤ 41 := by rw [HTTZ.out]; exact htlz
  obtain ⟨Ln, hLn⟩ : ∃ Ln, Ln = 13 + tt.size := ⟨_, rfl⟩
  have hln : (13 : Int) + (tt.size : Int) = (Ln : Int) := by omega
  have hLnb : Ln ≤ 100 := by omega
  have HLN : Hid ((lnL getL tl).length = Ln) := (ln_len tl).trans (by rw [hLn, HTTZ.out])
  have HLN0 : Hid (13 ≤ Ln) := by show _ ≤ _; omega
  have hRZ : (rqL getL tl FL).length ≤ 100000 := by rw [rq_len]; omega
  have HRZ := Lib.hid hRZ
  have HX00 : Hid (1 ≤ X0.size) := by show _ ≤ _; rw [HX0.out]; exact textL_pos HNE.out
  have HFL0 : Hid (1 ≤ FL.length) := by show _ ≤ _; exact List.length_pos_iff.2 HNE.out
  have HBA : Hid (∀ o, Below w.heap.size w (w8.alloc o)) := fun o => B8.out.alloc B8.out.size o
  have HSZ : Hid (∀ o, w.heap.size ≤ (w8.alloc o).heap.size) := fun o => (HBA.out o).size
  have HNB := Lib.hid (nobody_of HPI.out (by omega) HOK.out)
  clear hb8 HRT B7 F7 RX7 RX8 hLn htb hRZ
  go_upto_region 9 with fail
  clear r1 r2
  rcases and3 over with hk | hk | hk | hk
  · skip
    go_wp2_with fail
    with_reducible refine (new21 (Ln : Int) (X0.size : Int) (FL.length : Int) _ _).mono ?_
    rintro e w9 ⟨g, rfl, hg, hr, hb9⟩
    have B9 := (HBA.out _).trans (hb9.mono (HSZ.out _))
    have hg0 : w.heap.size ≤ g := Nat.le_trans (HSZ.out _) hg
    have hfl9 : Floor (fun j => g ≤ j) w.heap.size := fun k hk => Nat.le_trans hg0 hk
    have PR : PRun ⟨(Ln : Int), (X0.size : Int), (FL.length : Int)⟩ (.on hd0 [] []) (rqL getL tl FL) ([(getL, tl, FL.length)]) (.on hd0 [] []) := prun_good _ getL tl FL HPI.out.2.1 HPI.out.2.2.1 (by have := HRZ.out; omega) HPI.out.1 (by have := HLN.out; show _ ≤ max 0 (Ln : Int); omega) (by have := HX0.out; show _ ≤ max 0 (X0.size : Int); omega) (by show _ ≤ max 0 (FL.length : Int); omega) HNB.out
    have HFD := Lib.hid (pfeed22 (fun j => g ≤ j) g ⟨(Ln : Int), (X0.size : Int), (FL.length : Int)⟩ 0 _ _ (rqL getL tl FL) (by have := HRZ.out; omega) _ PR w9 ⟨false, paNew_S _ _ _ 0 hr _ (Nat.le_refl _)⟩ (fun k hk => Nat.le_trans (Nat.le_of_lt hr.lt) hk) (fun w' hk => HW.out.below (B9.trans (hk.bel hfl9 B9.size))))
    rw [← HS.out] at HFD
    have HB9 := Lib.hid B9
    have HFL9 := Lib.hid hfl9
    clear hr hb9 B9 hfl9 PR hg hg0
    go_wp2_with fail
    with_reducible refine HFD.out.mono ?_
    rintro e wA hfd
    obtain ⟨va, vc, rfl, hkA⟩ := fed_slice hfd
    have BA := Lib.hid (HB9.out.trans (hkA.bel HFL9.out HB9.out.size))
    clear hfd hkA HFD
    simp only [PaP.errOf, List.length_cons, List.length_nil, Nat.reduceAdd]
    go_wp2_with fail
    go_ret
    exact ⟨rfl, BA.out⟩
  · skip
    go_wp2_with fail
    with_reducible refine (new21 ((Ln : Int) - 1) (X0.size : Int) (FL.length : Int) _ _).mono ?_
    rintro e w9 ⟨g, rfl, hg, hr, hb9⟩
    have B9 := (HBA.out _).trans (hb9.mono (HSZ.out _))
    have hg0 : w.heap.size ≤ g := Nat.le_trans (HSZ.out _) hg
    have hfl9 : Floor (fun j => g ≤ j) w.heap.size := fun k hk => Nat.le_trans hg0 hk
    have PR : PRun ⟨((Ln : Int) - 1), (X0.size : Int), (FL.length : Int)⟩ (.on hd0 [] []) (rqL getL tl FL) ([]) (.err 4) := prun_long _ getL tl FL HPI.out.2.1 HPI.out.2.2.1 (by have := HRZ.out; omega) (by have := HLN.out; have := HLN0.out; show ¬ _ ≤ max 0 ((Ln : Int) - 1); omega)
    have HFD := Lib.hid (pfeed22 (fun j => g ≤ j) g ⟨((Ln : Int) - 1), (X0.size : Int), (FL.length : Int)⟩ 0 _ _ (rqL getL tl FL) (by have := HRZ.out; omega) _ PR w9 ⟨false, paNew_S _ _ _ 0 hr _ (Nat.le_refl _)⟩ (fun k hk => Nat.le_trans (Nat.le_of_lt hr.lt) hk) (fun w' hk => HW.out.below (B9.trans (hk.bel hfl9 B9.size))))
    rw [← HS.out] at HFD
    have HB9 := Lib.hid B9
    have HFL9 := Lib.hid hfl9
    clear hr hb9 B9 hfl9 PR hg hg0
    go_wp2_with fail
    with_reducible refine HFD.out.mono ?_
    rintro e wA hfd
    obtain ⟨va, vc, rfl, hkA⟩ := fed_slice hfd
    have BA := Lib.hid (HB9.out.trans (hkA.bel HFL9.out HB9.out.size))
    clear hfd hkA HFD
    simp only [PaP.errOf, List.length_nil]
    go_wp2_with fail
    go_ret
    exact ⟨rfl, BA.out⟩
  · skip
    go_wp2_with fail
    with_reducible refine (new21 (Ln : Int) ((X0.size : Int) - 1) (FL.length : Int) _ _).mono ?_
    rintro e w9 ⟨g, rfl, hg, hr, hb9⟩
    have B9 := (HBA.out _).trans (hb9.mono (HSZ.out _))
    have hg0 : w.heap.size ≤ g := Nat.le_trans (HSZ.out _) hg
    have hfl9 : Floor (fun j => g ≤ j) w.heap.size := fun k hk => Nat.le_trans hg0 hk
    have PR : PRun ⟨(Ln : Int), ((X0.size : Int) - 1), (FL.length : Int)⟩ (.on hd0 [] []) (rqL getL tl FL) ([]) (.err 4) := prun_flds _ getL tl FL HPI.out.2.1 HPI.out.2.2.1 (by have := HRZ.out; omega) HPI.out.1 (by have := HLN.out; show _ ≤ max 0 (Ln : Int); omega) HNE.out (by rintro ⟨h1, _⟩; have h2 : ((textL FL).length : Int) ≤ max 0 ((X0.size : Int) - 1) := h1; have := HX0.out; have := HX00.out; omega)
    have HFD := Lib.hid (pfeed22 (fun j => g ≤ j) g ⟨(Ln : Int), ((X0.size : Int) - 1), (FL.length : Int)⟩ 0 _ _ (rqL getL tl FL) (by have := HRZ.out; omega) _ PR w9 ⟨false, paNew_S _ _ _ 0 hr _ (Nat.le_refl _)⟩ (fun k hk => Nat.le_trans (Nat.le_of_lt hr.lt) hk) (fun w' hk => HW.out.below (B9.trans (hk.bel hfl9 B9.size))))
    rw [← HS.out] at HFD
    have HB9 := Lib.hid B9
    have HFL9 := Lib.hid hfl9
    clear hr hb9 B9 hfl9 PR hg hg0
    go_wp2_with fail
    with_reducible refine HFD.out.mono ?_
    rintro e wA hfd
    obtain ⟨va, vc, rfl, hkA⟩ := fed_slice hfd
    have BA := Lib.hid (HB9.out.trans (hkA.bel HFL9.out HB9.out.size))
    clear hfd hkA HFD
    simp only [PaP.errOf, List.length_nil]
    go_wp2_with fail
    go_ret
    exact ⟨rfl, BA.out⟩
  · skip
    go_wp2_with fail
    with_reducible refine (new21 (Ln : Int) (X0.size : Int) ((FL.length : Int) - 1) _ _).mono ?_
    rintro e w9 ⟨g, rfl, hg, hr, hb9⟩
    have B9 := (HBA.out _).trans (hb9.mono (HSZ.out _))
    have hg0 : w.heap.size ≤ g := Nat.le_trans (HSZ.out _) hg
    have hfl9 : Floor (fun j => g ≤ j) w.heap.size := fun k hk => Nat.le_trans hg0 hk
    have PR : PRun ⟨(Ln : Int), (X0.size : Int), ((FL.length : Int) - 1)⟩ (.on hd0 [] []) (rqL getL tl FL) ([]) (.err 4) := prun_flds _ getL tl FL HPI.out.2.1 HPI.out.2.2.1 (by have := HRZ.out; omega) HPI.out.1 (by have := HLN.out; show _ ≤ max 0 (Ln : Int); omega) HNE.out (by rintro ⟨_, h1⟩; have h2 : (FL.length : Int) ≤ max 0 ((FL.length : Int) - 1) := h1; have := HFL0.out; omega)
    have HFD := Lib.hid (pfeed22 (fun j => g ≤ j) g ⟨(Ln : Int), (X0.size : Int), ((FL.length : Int) - 1)⟩ 0 _ _ (rqL getL tl FL) (by have := HRZ.out; omega) _ PR w9 ⟨false, paNew_S _ _ _ 0 hr _ (Nat.le_refl _)⟩ (fun k hk => Nat.le_trans (Nat.le_of_lt hr.lt) hk) (fun w' hk => HW.out.below (B9.trans (hk.bel hfl9 B9.size))))
    rw [← HS.out] at HFD
    have HB9 := Lib.hid B9
    have HFL9 := Lib.hid hfl9
    clear hr hb9 B9 hfl9 PR hg hg0
    go_wp2_with fail
    with_reducible refine HFD.out.mono ?_
    rintro e wA hfd
    obtain ⟨va, vc, rfl, hkA⟩ := fed_slice hfd
    have BA := Lib.hid (HB9.out.trans (hkA.bel HFL9.out HB9.out.size))
    clear hfd hkA HFD
    simp only [PaP.errOf, List.length_nil]
    go_wp2_with fail
    go_ret
    exact ⟨rfl, BA.out⟩
end Go.Proofs.YtmcbaheaocfdnaaGreatDoor

/- A slice of fields that is handed in. -/
namespace Go.Proofs.YtmcbaheaocfdnaaGreatDoor
open Go.ChangeShapes Go.WideShapes Go.ChangeAt Go.RowKit

/-- A string's bytes. -/
def strL (v : Value) : List UInt8 := match v with
  | .string s => s.data.toList
  | _ => []
theorem strL_bs (s : ByteArray) : Value.string (bs (strL (.string s))) = .string s := by
  cases s; rfl
theorem flds_open {H : Type} {enc : TypeId × Value → H} {P : Program} {t e u : TypeId} {W : World} {base : Nat} {held : Bool} (ht : P.underlying t = some (.slice e)) (hu : (P.underlying e).map fieldsOf = some [(u, 0), (u, 1)]) (hs : P.underlying u = some .string) (hc : P.cellsOf u = 1) (ce : P.cellsOf e = 2)
    {r : Reach} {b0 : Nat} {v : Value} {d : DataW H} {ps : List MemPlace} (hval : Value.okWide P W r b0 t v) (hd : DataW.Trod enc P W base (fun _ => true) held t v d ps) :
    ∃ a c fs, v = .slice a fs.length c ∧ IsFlds W a c fs ∧ fs.length ≤ maxLen := by
  obtain ⟨a, l, c, rfl⟩ := okWide_slice ht hval
  obtain ⟨fuel, hf⟩ := hd
  obtain ⟨fa, hfa, hm⟩ := fieldsOf_struct hu (List.cons_ne_nil _ _)
  obtain ⟨fl, hfl⟩ : ∃ fl, fl = fa.toList := ⟨_, rfl⟩
  rw [← hfl] at hm
  have hl2 : fl.length = 2 := by have := congrArg List.length hm; simpa using this
  match fl, hl2 with
  | [f0, f1], _ =>
    simp only [List.map_cons, List.map_nil, List.cons.injEq, Prod.mk.injEq, and_true] at hm
    obtain ⟨⟨t0, o0⟩, t1, o1⟩ := hm
    have hfa2 : fa = #[f0, f1] := by rw [← Array.toArray_toList (xs := fa), ← hfl]
    rw [hfa2] at hfa
    rcases Go.Deep.open_slice_pairs ht hfa ce o0 o1 (by rw [t0]; exact hc) (by rw [t1]; exact hc) hf with ⟨hcs, _⟩ | ⟨a', l', c', m, n, V0, V1, D0, D1, P0, P1, hcs, _, hl, hmx, hme, _, hcell⟩
    · simp [Value.cells] at hcs
      obtain ⟨rfl, rfl, rfl⟩ := hcs
      exact ⟨none, 0, [], rfl, .inl rfl, by simp⟩
    · simp [Value.cells] at hcs
      obtain ⟨rfl, h1, h2⟩ := hcs
      subst h1 h2
      simp only [if_true] at hme
      subst hme
      obtain ⟨fs, hfs⟩ : ∃ fs : List Fld, fs = (List.range l).map fun i => (strL (V0 i), strL (V1 i)) := ⟨_, rfl⟩
      have hlen : fs.length = l := by rw [hfs]; simp
      refine ⟨some a', m, fs, by rw [hlen], ?_, by rw [hlen]; omega⟩
      by_cases h0 : l = 0
      · left; rw [hfs, h0]; rfl
      · right
        have c0 := (hcell 0 (by omega)).1
        have hs0 := World.cell?_spot c0
        have ha0 : a'.add (0 * 2) = a' := by simp [Addr.add]
        rw [ha0] at hs0 c0
        obtain ⟨bk, o, sp⟩ := a'
        simp only at hs0
        subst hs0
        refine ⟨bk, o, rfl, World.block_lt_of_cell? W _ c0, by rw [hlen]; exact hl, fun j f hj => ?_⟩
        have hjl : j < l := by
          rcases Nat.lt_or_ge j l with h | h
          · exact h
          · rw [List.getElem?_eq_none (by omega)] at hj; cases hj
        obtain ⟨g0, g1, g2, g3⟩ := hcell j (by omega)
        rw [t0] at g2
        rw [t1] at g3
        obtain ⟨s0, e0, _, _⟩ := DataW.trod_string hs g2
        obtain ⟨s1, e1, _, _⟩ := DataW.trod_string hs g3
        simp only [List.cons.injEq, and_true] at e0 e1
        rw [hfs] at hj
        simp only [List.getElem?_map, List.getElem?_range hjl, Option.map_some, Option.some.injEq] at hj
        subst hj
        rw [Addr.add_mid] at g0 g1
        rw [e0] at g0
        rw [e1] at g1
        refine ⟨?_, ?_⟩
        · simp only [e0]
          rw [strL_bs]; exact g0
        · simp only [e1]
          rw [strL_bs, Nat.add_assoc]; exact g1
end Go.Proofs.YtmcbaheaocfdnaaGreatDoor

