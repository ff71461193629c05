/- Packed: PaB, PaC, PaD, PaF. -/
import Derived.StillTailTactics
import Derived.Deep.MidRow
import Derived.Test.YtmcbaheaocfdnaaGreatDoorQ09
/- request: a parser in memory; Head.Fields, framing.Request of neither field, beginBody, finish. -/
namespace Go.Proofs.YtmcbaheaocfdnaaGreatDoor
open Go.RowKit

theorem own_nilF {w : World} {e : TypeId} {n m base : Nat} {a : Option Addr} {c k : Nat} {xs : List Value} (h : w.ownsRow base e n (.slice a k c) m xs) (ha : a = none) : c = 0 ∧ m = 0 := by
  obtain ⟨_, ⟨h1, h0⟩ | ⟨g, cap, cur, h1, _⟩⟩ := h
  · injection h1 with _ _ h2
    exact ⟨h2, h0⟩
  · injection h1 with h2
    rw [ha] at h2
    cases h2
set_option maxRecDepth 100000 in
set_option maxHeartbeats 2000000 in
/-- Head's Fields. -/
theorem hfields15 (G : Nat → Prop) (T : TypeId) (rest : List Value) (g : Nat) (M : HdL) (b : Int) (σ : HdS) (hl : σ.fldsOf.length ≤ 1000000000) (w : World) (h : HeS G T rest w g M b σ) :
    Calls Tryz.prog 15 #[.pointer (some ⟨g, 0, none⟩)] w fun x w' => ∃ a c, x = .returned (.slice a σ.fldsOf.length c) ∧ IsFlds w' a c σ.fldsOf ∧ Below w.heap.size w w' := by
  obtain ⟨L, H, C, b', st, f, fs, sz, cur, cr, e, hr, rv, ln, hd⟩ := h
  have he := he_flds hr
  rw [← he] at hl ⊢
  have c6 := hd.c.2.2.2.2.2.2.1
  obtain ⟨a0, c0, hv, hf⟩ := own_isFlds hd.ro
  have hro := hd.ro
  subst hv
  have HX := Lib.hid (clone77 a0 c0 fs hl (fun ha => ⟨(own_nilF hro ha).1, List.eq_nil_of_length_eq_zero (own_nilF hro ha).2⟩) w hf)
  clear hd hr he hf hro
  go_enter Tryz.func15, Tryz.ntmps15
  go_wp2_with fail
  with_reducible refine HX.out.mono ?_
  rintro e9 w1 ⟨v, rfl, ho, hb⟩
  obtain ⟨a1, c1, rfl, hf1⟩ := own_isFlds ho
  have HF := Lib.hid hf1
  have HB := Lib.hid hb
  clear ho hf1 hb HX c6
  go_wp2_with fail
  go_ret
  exact ⟨a1, c1, rfl, HF.out, HB.out⟩
def hostN : ByteArray := ⟨#[72, 111, 115, 116]⟩
def encN : ByteArray := ⟨#[84, 114, 97, 110, 115, 102, 101, 114, 45, 69, 110, 99, 111, 100, 105, 110, 103]⟩
def lenN : ByteArray := ⟨#[67, 111, 110, 116, 101, 110, 116, 45, 76, 101, 110, 103, 116, 104]⟩
theorem own_len0 {w : World} {base : Nat} {e : TypeId} {n : Nat} {v : Value} {xs : List Value} (h : w.ownsRow base e n v 0 xs) : ∃ a c, v = .slice a 0 c := own_slice h
set_option maxRecDepth 100000 in
set_option maxHeartbeats 2000000 in
/-- Neither a Transfer-Encoding nor a Content-Length. -/
theorem frame76 (a : Option Addr) (c : Nat) (fs : List Fld) (most : Int) (hfl : fs.length ≤ 1000000) (hok : ∀ f ∈ fs, FldOk f) (hte : allB encN fs = []) (hcl : allB lenN fs = []) (w : World) (hf : IsFlds w a c fs) :
    Calls Tryz.prog 76 #[.slice a fs.length c, .int .i64 most] w fun x w' => x = .returned (.tuple #[.int .i64 0, .int .i64 0, .int .i64 0]) ∧ Below w.heap.size w w' := by
  have HA := Lib.hid (fun W h => all44 a c fs encN hfl hok W h)
  have HC := Lib.hid (fun W h => all44 a c fs lenN hfl hok W h)
  rw [hte] at HA
  rw [hcl] at HC
  unfold encN at HA
  unfold lenN at HC
  have HF := Lib.hid hf
  clear hf hte hcl hok
  go_enter Tryz.func76, Tryz.ntmps76
  go_wp2_with fail
  with_reducible refine (HA.out w HF.out).mono ?_
  rintro e w1 ⟨u1, rfl, ho1, hb1⟩
  obtain ⟨a1, c1, rfl⟩ := own_len0 ho1
  have F1 := Lib.hid (HF.out.below hb1)
  have B1 := Lib.hid hb1
  clear ho1 hb1 HA HF
  go_wp2_with fail
  with_reducible refine (HC.out w1 F1.out).mono ?_
  rintro e w2 ⟨u2, rfl, ho2, hb2⟩
  obtain ⟨a2, c2, rfl⟩ := own_len0 ho2
  have B2 := Lib.hid (B1.out.trans (hb2.mono B1.out.size))
  clear ho2 hb2 HC F1 B1
  go_wp2_with fail
  refine bodyPost_ret (v := .tuple #[.int .i64 0, .int .i64 0, .int .i64 0]) (by simp [results, Tryz.results76, go_sem]) rfl ⟨rfl, B2.out⟩
set_option maxRecDepth 100000 in
set_option maxHeartbeats 4000000 in
theorem begin67 (G : Nat → Prop) (g : Nat) (M : HdL) (b : Int) (σ : HdS) (m t : ByteArray) (wt : Bool) (a : Option Addr) (c : Nat) (fs : List Fld) (h0 : ByteArray) (hfl : fs.length ≤ 1000000) (hok : ∀ f ∈ fs, FldOk f) (hh : allB hostN fs = [h0]) (hne : 0 < h0.size) (hte : allB encN fs = []) (hcl : allB lenN fs = [])
    (w : World) (h : HeS G 84 (paR m t (.slice none 0 0) wt 0) w g M b σ) (hf : IsFlds w a c fs) :
    Calls Tryz.prog 67 #[.pointer (some ⟨g, 0, none⟩), .slice a fs.length c] w fun x w' => x = .returned (.int .i64 0) ∧ HeS G 84 (paR m t (.slice a fs.length c) wt 0) w' g M b σ ∧ Keep G w w' := by
  have HA := Lib.hid (all44 a c fs hostN hfl hok w hf)
  rw [hh] at HA
  unfold hostN at HA
  have HFR := Lib.hid (fun W most h => frame76 a c fs most hfl hok hte hcl W h)
  have HF := Lib.hid hf
  have HD := Lib.hid h
  have HG := Lib.hid h.gG
  have e1 := emp_false h0 hne
  clear hf h hh hne hte hcl hok
  go_enter Tryz.func67, Tryz.ntmps67
  go_wp2_with fail
  with_reducible refine HA.out.mono ?_
  rintro e w1 ⟨u1, rfl, ho1, hb1⟩
  obtain ⟨a1, c1, rfl⟩ := own_slice ho1
  have hs := isStrs_of_row ho1 rfl
  obtain hs0 | ⟨bk, o, rfl, hbk, hcc, hcell⟩ := hs
  · cases hs0
  have cj : w1.cell? ⟨bk, o, none⟩ = some (.string h0) := hcell 0 h0 rfl
  have F1 := Lib.hid (HF.out.below hb1)
  have D1 := Lib.hid (HD.out.below hb1)
  have B1 := Lib.hid hb1
  have hcc2 : 1 ≤ c1 := by simpa using hcc
  clear ho1 hb1 HA HF hcell hbk hcc HD
  obtain ⟨L, H, C, b', st, f, fs', sz, cur, cr, e', hr, rv, ln, hd⟩ := D1.out
  have c3 := hd.c.2.2.2.1
  clear hd hr
  go_wp2_with fail
  with_reducible refine (HFR.out w1 b' F1.out).mono ?_
  rintro e w2 ⟨rfl, hb2⟩
  have D2 := Lib.hid (D1.out.below hb2)
  have B2 := Lib.hid (B1.out.trans (hb2.mono B1.out.size))
  have f13 := D2.out.free 13
  have f15 := D2.out.free 15
  have f16 := D2.out.free 16
  have k13 := D2.out.cellR 2
  have k15 := D2.out.cellR 4
  have k16 := D2.out.cellR 5
  simp only [paR, List.getElem?_cons_zero, List.getElem?_cons_succ, Nat.reduceAdd] at k13 k15 k16
  have HR : Hid (HeS G 84 (paR m t (.slice a fs.length c) wt 0) (((w2.setCell ⟨g, 13, none⟩ (.slice a fs.length c)).setCell ⟨g, 15, none⟩ (.int .i64 0)).setCell ⟨g, 16, none⟩ (.int .i64 0)) g M b σ) :=
    ((D2.out.setR 2 (.slice a fs.length c)).setR 4 (.int .i64 0)).setR 5 (.int .i64 0)
  have K : ∀ (v : World) (i : Nat) (u : Value), Keep G v (v.setCell ⟨g, i, none⟩ u) := fun v i u => Keep.setCell v (p := ⟨g, i, none⟩) HG.out u
  have HK : Hid (Keep G w (((w2.setCell ⟨g, 13, none⟩ (.slice a fs.length c)).setCell ⟨g, 15, none⟩ (.int .i64 0)).setCell ⟨g, 16, none⟩ (.int .i64 0))) :=
    (((Keep.of_below B2.out).trans (K _ _ _)).trans (K _ _ _)).trans (K _ _ _)
  clear hb2 B1 F1 D1 c3 K cj e1 D2 B2 HFR
  go_wp2_with fail
  go_ret
  exact ⟨rfl, HR.out, HK.out⟩
end Go.Proofs.YtmcbaheaocfdnaaGreatDoor

/- request: a parser in memory; feedLine. -/
namespace Go.Proofs.YtmcbaheaocfdnaaGreatDoor
open Go.RowKit

/-- How many bytes there are up to a byte 10, with it; or all. -/
def nlAt (l : List UInt8) : Nat := if Lib.indexByte l 10 = -1 then l.length else (Lib.indexByte l 10).toNat + 1
theorem ib_cases (l : List UInt8) (c : UInt8) : Lib.indexByte l c = -1 ∨ ∃ k : Nat, k < l.length ∧ Lib.indexByte l c = (k : Int) := by
  have h := Lib.indexByte_ge l c
  by_cases h0 : Lib.indexByte l c = -1
  · exact .inl h0
  · right
    have e : Lib.indexByte l c = ((Lib.indexByte l c).toNat : Int) := by omega
    have hs := (Lib.indexByte_some e).1
    exact ⟨_, (List.getElem?_eq_some_iff.1 hs).1, e⟩
theorem nlAt_le (l : List UInt8) : nlAt l ≤ l.length := by
  unfold nlAt
  rcases ib_cases l 10 with h | ⟨k, hk, h⟩
  · rw [if_pos h]; exact Nat.le_refl _
  · rw [if_neg (by omega), h]; omega
theorem ext_bs0 (l : List UInt8) (n : Nat) : (bs l).extract 0 n = bs (l.take n) := by
  rw [← bs_of ((bs l).extract 0 n), extractL, bs_list, List.drop_zero, Nat.sub_zero]
theorem ext_bs1 (l : List UInt8) (n : Nat) : (bs l).extract n (bs l).size = bs (l.drop n) := by
  rw [← bs_of ((bs l).extract n (bs l).size), extractL, bs_list, List.take_of_length_le (by rw [List.length_drop, bs_size]; exact Nat.le_refl _)]
set_option maxRecDepth 100000 in
set_option maxHeartbeats 4000000 in
theorem fline56 (G : Nat → Prop) (g : Nat) (M : HdL) (b : Int) (σ σ1 : HdS) (m0 t0 m1 t1 : List UInt8) (wt : Bool) (l : List UInt8) (hbd : σ.wt + 4 * l.length ≤ 1000000000) (h1 : hRun M σ (l.take (nlAt l)) = σ1) (q : Bool) (hq : σ1.begun = q) (E : Int) (hfz : σ1.firstOf.length ≤ 4000000000)
    (hE : (q = false ∧ E = σ1.errOf ∧ m1 = m0 ∧ t1 = t0) ∨ (q = true ∧ reqO (reqP σ1.firstOf) = .tuple #[fldV (m1, t1), .int .i64 E]))
    (w : World) (h : HeS G 84 (paR (bs m0) (bs t0) (.slice none 0 0) wt 0) w g M b σ) (hu : Up G w) (hM : ∀ w', Keep G w w' → MaxL w') :
    Calls Tryz.prog 56 #[.pointer (some ⟨g, 0, none⟩), .string (bs l)] w fun x w' => x = .returned (.tuple #[.string (bs (l.drop (nlAt l))), .int .i64 E]) ∧ HeS G 84 (paR (bs m1) (bs t1) (.slice none 0 0) wt 0) w' g M b σ1 ∧ Keep G w w' := by
  have hnl := nlAt_le l
  have hlz := bs_size l
  have HIB := Lib.hid (fun W => calls_flop (Tryz.strings_IndexByte (bs l) 10 W))
  have hic := ib_cases l 10
  have hnv : nlAt l = if Lib.indexByte l 10 = -1 then l.length else (Lib.indexByte l 10).toNat + 1 := rfl
  obtain ⟨n, hn⟩ : ∃ n, n = nlAt l := ⟨_, rfl⟩
  rw [← hn] at h1 hnl hnv ⊢
  have HF := Lib.hid (fun W hw hu hM => hfeed10 G 84 (paR (bs m0) (bs t0) (.slice none 0 0) wt 0) g M b σ (l.take n) (by rw [List.length_take]; omega) W hw hu hM)
  unfold HFeedTo at HF
  rw [h1] at HF
  obtain ⟨z, hz⟩ : ∃ z, z = bs (if σ1.errOf = 0 then hLeft M σ (l.take n) else []) := ⟨_, rfl⟩
  rw [← hz] at HF
  obtain ⟨E0, hE0⟩ : ∃ E0, E0 = σ1.errOf := ⟨_, rfl⟩
  rw [← hE0] at HF hE
  have HG := Lib.hid h.gG
  have HD := Lib.hid h
  have HM := Lib.hid hM
  obtain ⟨s, hs⟩ : ∃ s, s = bs l := ⟨_, rfl⟩
  have x0 : s.extract 0 n = bs (l.take n) := by rw [hs]; exact ext_bs0 l n
  have x1 : s.extract n s.size = bs (l.drop n) := by rw [hs]; exact ext_bs1 l n
  rw [← hs] at HIB hlz ⊢
  rw [show s.data.toList = l by rw [hs, bs_list], show (10 : Int).toNat.toUInt8 = 10 from rfl] at HIB
  obtain ⟨y0, hy0⟩ : ∃ y0, y0 = bs (l.take n) := ⟨_, rfl⟩
  obtain ⟨y1, hy1⟩ : ∃ y1, y1 = bs (l.drop n) := ⟨_, rfl⟩
  rw [← hy0] at x0 HF
  rw [← hy1] at x1 ⊢
  have hn1 : n ≤ s.size := by omega
  have hn2 : s.size ≤ 1000000000 := by omega
  have HBG := Lib.hid (fun W hw => hbegunS G 84 (paR (bs m0) (bs t0) (.slice none 0 0) wt 0) g M b σ1 W hw)
  have HFI := Lib.hid (fun W hw => hfirstS G 84 (paR (bs m0) (bs t0) (.slice none 0 0) wt 0) g M b σ1 W hw)
  rw [hq] at HBG
  have DN : ∀ k, Below w.heap.size w (w.drewN k) := fun k => ⟨rfl, rfl, rfl, Nat.le_refl _, fun _ _ => rfl⟩
  have HDR : Hid (HeS G 84 (paR (bs m0) (bs t0) (.slice none 0 0) wt 0) w.drew g M b σ) := h.below (DN 1)
  have KDR : Hid (Keep G w w.drew) := Keep.drew w
  have HU : Hid (Up G w.drew) := hu.keep KDR
  have HPR := Lib.hid (fun W hw => preq9 (bs σ1.firstOf) (by rw [bs_size]; exact hfz) W hw)
  rw [bs_list] at HPR
  clear h hu hM hn h1 hz hE0 hs hy0 hy1 hq DN hfz hbd
  have hcase : (Lib.indexByte l 10 = -1 ∧ n = s.size) ∨ ∃ k : Nat, Lib.indexByte l 10 = (k : Int) ∧ n = k + 1 := by
    rcases hic with h | ⟨k, hk, h⟩
    · rw [if_pos h] at hnv; exact .inl ⟨h, by omega⟩
    · rw [if_neg (by omega), h] at hnv; exact .inr ⟨k, h, by omega⟩
  clear hic hnv hnl hlz
  rcases hcase with ⟨hi, hnn⟩ | ⟨k, hi, hnn⟩
  · rw [hi] at HIB
    subst hnn
    have hy : y1 = ByteArray.empty := by rw [← x1]; simp
    subst hy
    rcases hE with ⟨rfl, rfl, rfl, rfl⟩ | ⟨rfl, hrq⟩
    · skip
      go_enter Tryz.func56, Tryz.ntmps56
      go_wp2_with fail
      refine (HIB.out w).mono ?_
      rintro e w' ⟨rfl, rfl⟩
      go_wp2_with fail
      refine region_mixt 11 [some (.pointer (some ⟨g, 0, none⟩)), some (.pointer (some ⟨g, 0, none⟩)), some (.pointer (some ⟨g, 0, none⟩)), some (.string s), some (.int .i64 (s.size : Int)), some (.string y0), some (.tuple #[.string z, .int .i64 E]), some (.tuple #[.string z, .int .i64 E]), some (.string z), some (.int .i64 E), some (.string z)]
        [[false, false, false, false, false, false, false, false, false, false, false], [true, false, false, false, false, false, false, false, false, false, false], [false, true, false, false, false, false, false, false, false, false, false], [false, false, false, false, false, false, false, false, false, false, false], [false, false, false, false, false, false, false, false, false, false, false], [false, false, false, true, true, false, false, false, false, false, false], [false, false, true, false, false, true, false, false, false, false, false], [false, false, false, false, false, false, true, false, false, false, false], [false, false, false, false, false, false, false, true, false, false, false], [false, false, false, false, false, false, false, true, false, false, false], [true, true, true, true, true, true, true, true, true, false, false]]
        (fun L x w1 => (L 6 = false ∧ w1 = w.drew) ∨ (L 6 = true ∧ HeS G 84 (paR (bs m1) (bs t1) (.slice none 0 0) wt 0) w1 g M b σ1 ∧ Keep G w w1))
        (by kernel_rfl) (by kernel_rfl) (by kernel_rfl) (by kernel_rfl) (by kernel_rfl) (by decide) ?_ ?_ ?_
      · intro _
        exact .inl ⟨rfl, rfl⟩
      · simp only [List.take_succ_cons, List.take_zero]
        refine ⟨?_, ?_, ?_, ?_, ?_, ?_, ?_, ?_, ?_, ?_, ?_, trivial⟩
        all_goals
          intro L x w9 hS hl hp K9 hK9
          have hs : (L 6 = false ∧ w9 = w.drew) ∨ (L 6 = true ∧ HeS G 84 (paR (bs m1) (bs t1) (.slice none 0 0) wt 0) w9 g M b σ1 ∧ Keep G w w9) := hS
          clear hS
          replace hK9 := hK9.out
          simp only [actMix, pickV, List.tail_cons, List.headD_cons, Act.put, List.setIfInBounds_toArray, List.set_cons_zero, List.set_cons_succ] at hK9 ⊢
        · go_simp
          with_reducible refine hK9 _ ?_
          have e6 : setL L 0 6 = L 6 := by simp [setL]
          rcases hs with ⟨h, h2⟩ | ⟨h, h2⟩
          · exact .inl ⟨e6.trans h, h2⟩
          · exact .inr ⟨e6.trans h, h2⟩
        · go_simp
          with_reducible refine hK9 _ ?_
          have e6 : setL L 1 6 = L 6 := by simp [setL]
          rcases hs with ⟨h, h2⟩ | ⟨h, h2⟩
          · exact .inl ⟨e6.trans h, h2⟩
          · exact .inr ⟨e6.trans h, h2⟩
        · go_simp
          with_reducible refine hK9 _ ?_
          have e6 : setL L 2 6 = L 6 := by simp [setL]
          rcases hs with ⟨h, h2⟩ | ⟨h, h2⟩
          · exact .inl ⟨e6.trans h, h2⟩
          · exact .inr ⟨e6.trans h, h2⟩
        · go_simp
          with_reducible refine hK9 _ ?_
          have e6 : setL L 3 6 = L 6 := by simp [setL]
          rcases hs with ⟨h, h2⟩ | ⟨h, h2⟩
          · exact .inl ⟨e6.trans h, h2⟩
          · exact .inr ⟨e6.trans h, h2⟩
        · go_simp
          with_reducible refine hK9 _ ?_
          have e6 : setL L 4 6 = L 6 := by simp [setL]
          rcases hs with ⟨h, h2⟩ | ⟨h, h2⟩
          · exact .inl ⟨e6.trans h, h2⟩
          · exact .inr ⟨e6.trans h, h2⟩
        · go_simp
          with_reducible refine hK9 _ ?_
          have e6 : setL L 5 6 = L 6 := by simp [setL]
          rcases hs with ⟨h, h2⟩ | ⟨h, h2⟩
          · exact .inl ⟨e6.trans h, h2⟩
          · exact .inr ⟨e6.trans h, h2⟩
        · go_simp
          obtain ⟨_, rfl⟩ : L 6 = false ∧ w9 = w.drew := by
            rcases hs with h | ⟨h, _⟩
            · exact h
            · rw [h] at hl; cases hl
          with_reducible refine (HF.out _ HDR.out HU.out (fun w' hk => HM.out w' (KDR.out.trans hk))).mono ?_
          rintro e9 w8 ⟨rfl, hd8, hk8⟩
          with_reducible refine hK9 _ ?_
          exact .inr ⟨by simp [setL], hd8, KDR.out.trans hk8⟩
        · go_simp
          with_reducible refine hK9 _ ?_
          have e6 : setL L 7 6 = L 6 := by simp [setL]
          rcases hs with ⟨h, h2⟩ | ⟨h, h2⟩
          · exact .inl ⟨e6.trans h, h2⟩
          · exact .inr ⟨e6.trans h, h2⟩
        · go_simp
          with_reducible refine hK9 _ ?_
          have e6 : setL L 8 6 = L 6 := by simp [setL]
          rcases hs with ⟨h, h2⟩ | ⟨h, h2⟩
          · exact .inl ⟨e6.trans h, h2⟩
          · exact .inr ⟨e6.trans h, h2⟩
        · go_simp
          with_reducible refine hK9 _ ?_
          have e6 : setL L 9 6 = L 6 := by simp [setL]
          rcases hs with ⟨h, h2⟩ | ⟨h, h2⟩
          · exact .inl ⟨e6.trans h, h2⟩
          · exact .inr ⟨e6.trans h, h2⟩
        · go_simp
          with_reducible refine hK9 _ ?_
          have e6 : setL L 10 6 = L 6 := by simp [setL]
          rcases hs with ⟨h, h2⟩ | ⟨h, h2⟩
          · exact .inl ⟨e6.trans h, h2⟩
          · exact .inr ⟨e6.trans h, h2⟩
      intro L x w1 hS hL
      obtain ⟨hd1, hk1⟩ : HeS G 84 (paR (bs m1) (bs t1) (.slice none 0 0) wt 0) w1 g M b σ1 ∧ Keep G w w1 := by
        have hs : (L 6 = false ∧ w1 = w.drew) ∨ (L 6 = true ∧ HeS G 84 (paR (bs m1) (bs t1) (.slice none 0 0) wt 0) w1 g M b σ1 ∧ Keep G w w1) := hS
        rcases hs with ⟨h, _⟩ | ⟨_, h⟩
        · rw [hL 6 (by decide)] at h; cases h
        · exact h
      clear hS hL
      simp only [actMix, pickV, List.tail_cons, List.headD_cons, Act.put, List.setIfInBounds_toArray, List.set_cons_zero, List.set_cons_succ, List.replicate_succ, List.replicate_zero, List.drop_succ_cons, List.drop_zero, List.take_succ_cons, List.take_zero]
      have D1 := Lib.hid hd1
      have K1 := Lib.hid hk1
      have M1 := Lib.hid (HM.out _ K1.out)
      clear hd1 hk1 HF HDR KDR HU HM
      go_wp2_with fail
      with_reducible refine (HBG.out w1 D1.out).mono ?_
      rintro e w' ⟨rfl, rfl⟩
      go_wp2_with fail
      go_ret2
      exact ⟨rfl, D1.out, K1.out⟩
    · skip
      go_enter Tryz.func56, Tryz.ntmps56
      go_wp2_with fail
      refine (HIB.out w).mono ?_
      rintro e w' ⟨rfl, rfl⟩
      go_wp2_with fail
      refine region_mixt 11 [some (.pointer (some ⟨g, 0, none⟩)), some (.pointer (some ⟨g, 0, none⟩)), some (.pointer (some ⟨g, 0, none⟩)), some (.string s), some (.int .i64 (s.size : Int)), some (.string y0), some (.tuple #[.string z, .int .i64 E0]), some (.tuple #[.string z, .int .i64 E0]), some (.string z), some (.int .i64 E0), some (.string z)]
        [[false, false, false, false, false, false, false, false, false, false, false], [true, false, false, false, false, false, false, false, false, false, false], [false, true, false, false, false, false, false, false, false, false, false], [false, false, false, false, false, false, false, false, false, false, false], [false, false, false, false, false, false, false, false, false, false, false], [false, false, false, true, true, false, false, false, false, false, false], [false, false, true, false, false, true, false, false, false, false, false], [false, false, false, false, false, false, true, false, false, false, false], [false, false, false, false, false, false, false, true, false, false, false], [false, false, false, false, false, false, false, true, false, false, false], [true, true, true, true, true, true, true, true, true, false, false]]
        (fun L x w1 => (L 6 = false ∧ w1 = w.drew) ∨ (L 6 = true ∧ HeS G 84 (paR (bs m0) (bs t0) (.slice none 0 0) wt 0) w1 g M b σ1 ∧ Keep G w w1))
        (by kernel_rfl) (by kernel_rfl) (by kernel_rfl) (by kernel_rfl) (by kernel_rfl) (by decide) ?_ ?_ ?_
      · intro _
        exact .inl ⟨rfl, rfl⟩
      · simp only [List.take_succ_cons, List.take_zero]
        refine ⟨?_, ?_, ?_, ?_, ?_, ?_, ?_, ?_, ?_, ?_, ?_, trivial⟩
        all_goals
          intro L x w9 hS hl hp K9 hK9
          have hs : (L 6 = false ∧ w9 = w.drew) ∨ (L 6 = true ∧ HeS G 84 (paR (bs m0) (bs t0) (.slice none 0 0) wt 0) w9 g M b σ1 ∧ Keep G w w9) := hS
          clear hS
          replace hK9 := hK9.out
          simp only [actMix, pickV, List.tail_cons, List.headD_cons, Act.put, List.setIfInBounds_toArray, List.set_cons_zero, List.set_cons_succ] at hK9 ⊢
        · go_simp
          with_reducible refine hK9 _ ?_
          have e6 : setL L 0 6 = L 6 := by simp [setL]
          rcases hs with ⟨h, h2⟩ | ⟨h, h2⟩
          · exact .inl ⟨e6.trans h, h2⟩
          · exact .inr ⟨e6.trans h, h2⟩
        · go_simp
          with_reducible refine hK9 _ ?_
          have e6 : setL L 1 6 = L 6 := by simp [setL]
          rcases hs with ⟨h, h2⟩ | ⟨h, h2⟩
          · exact .inl ⟨e6.trans h, h2⟩
          · exact .inr ⟨e6.trans h, h2⟩
        · go_simp
          with_reducible refine hK9 _ ?_
          have e6 : setL L 2 6 = L 6 := by simp [setL]
          rcases hs with ⟨h, h2⟩ | ⟨h, h2⟩
          · exact .inl ⟨e6.trans h, h2⟩
          · exact .inr ⟨e6.trans h, h2⟩
        · go_simp
          with_reducible refine hK9 _ ?_
          have e6 : setL L 3 6 = L 6 := by simp [setL]
          rcases hs with ⟨h, h2⟩ | ⟨h, h2⟩
          · exact .inl ⟨e6.trans h, h2⟩
          · exact .inr ⟨e6.trans h, h2⟩
        · go_simp
          with_reducible refine hK9 _ ?_
          have e6 : setL L 4 6 = L 6 := by simp [setL]
          rcases hs with ⟨h, h2⟩ | ⟨h, h2⟩
          · exact .inl ⟨e6.trans h, h2⟩
          · exact .inr ⟨e6.trans h, h2⟩
        · go_simp
          with_reducible refine hK9 _ ?_
          have e6 : setL L 5 6 = L 6 := by simp [setL]
          rcases hs with ⟨h, h2⟩ | ⟨h, h2⟩
          · exact .inl ⟨e6.trans h, h2⟩
          · exact .inr ⟨e6.trans h, h2⟩
        · go_simp
          obtain ⟨_, rfl⟩ : L 6 = false ∧ w9 = w.drew := by
            rcases hs with h | ⟨h, _⟩
            · exact h
            · rw [h] at hl; cases hl
          with_reducible refine (HF.out _ HDR.out HU.out (fun w' hk => HM.out w' (KDR.out.trans hk))).mono ?_
          rintro e9 w8 ⟨rfl, hd8, hk8⟩
          with_reducible refine hK9 _ ?_
          exact .inr ⟨by simp [setL], hd8, KDR.out.trans hk8⟩
        · go_simp
          with_reducible refine hK9 _ ?_
          have e6 : setL L 7 6 = L 6 := by simp [setL]
          rcases hs with ⟨h, h2⟩ | ⟨h, h2⟩
          · exact .inl ⟨e6.trans h, h2⟩
          · exact .inr ⟨e6.trans h, h2⟩
        · go_simp
          with_reducible refine hK9 _ ?_
          have e6 : setL L 8 6 = L 6 := by simp [setL]
          rcases hs with ⟨h, h2⟩ | ⟨h, h2⟩
          · exact .inl ⟨e6.trans h, h2⟩
          · exact .inr ⟨e6.trans h, h2⟩
        · go_simp
          with_reducible refine hK9 _ ?_
          have e6 : setL L 9 6 = L 6 := by simp [setL]
          rcases hs with ⟨h, h2⟩ | ⟨h, h2⟩
          · exact .inl ⟨e6.trans h, h2⟩
          · exact .inr ⟨e6.trans h, h2⟩
        · go_simp
          with_reducible refine hK9 _ ?_
          have e6 : setL L 10 6 = L 6 := by simp [setL]
          rcases hs with ⟨h, h2⟩ | ⟨h, h2⟩
          · exact .inl ⟨e6.trans h, h2⟩
          · exact .inr ⟨e6.trans h, h2⟩
      intro L x w1 hS hL
      obtain ⟨hd1, hk1⟩ : HeS G 84 (paR (bs m0) (bs t0) (.slice none 0 0) wt 0) w1 g M b σ1 ∧ Keep G w w1 := by
        have hs : (L 6 = false ∧ w1 = w.drew) ∨ (L 6 = true ∧ HeS G 84 (paR (bs m0) (bs t0) (.slice none 0 0) wt 0) w1 g M b σ1 ∧ Keep G w w1) := hS
        rcases hs with ⟨h, _⟩ | ⟨_, h⟩
        · rw [hL 6 (by decide)] at h; cases h
        · exact h
      clear hS hL
      simp only [actMix, pickV, List.tail_cons, List.headD_cons, Act.put, List.setIfInBounds_toArray, List.set_cons_zero, List.set_cons_succ, List.replicate_succ, List.replicate_zero, List.drop_succ_cons, List.drop_zero, List.take_succ_cons, List.take_zero]
      have D1 := Lib.hid hd1
      have K1 := Lib.hid hk1
      have M1 := Lib.hid (HM.out _ K1.out)
      clear hd1 hk1 HF HDR KDR HU HM
      go_wp2_with fail
      with_reducible refine (HBG.out w1 D1.out).mono ?_
      rintro e w' ⟨rfl, rfl⟩
      go_wp2_with fail
      with_reducible refine (HFI.out w1 D1.out).mono ?_
      rintro e w' ⟨rfl, rfl⟩
      go_wp2_with fail
      with_reducible refine (HPR.out w1 M1.out).mono ?_
      rintro e w2 ⟨rfl, hb2⟩
      have D2 := Lib.hid (D1.out.below hb2)
      have K2 := Lib.hid (K1.out.trans (.of_below hb2))
      have f11 := D2.out.free 11
      have f12 := D2.out.free 12
      have k11 := D2.out.cellR 0
      have k12 := D2.out.cellR 1
      simp only [paR, List.getElem?_cons_zero, List.getElem?_cons_succ, Nat.reduceAdd] at k11 k12
      have HR : Hid (HeS G 84 (paR (bs m1) (bs t1) (.slice none 0 0) wt 0) ((w2.setCell ⟨g, 11, none⟩ (.string (bs m1))).setCell ⟨g, 12, none⟩ (.string (bs t1))) g M b σ1) :=
        (D2.out.setR 0 (.string (bs m1))).setR 1 (.string (bs t1))
      have KK : ∀ (v : World) (i : Nat) (u : Value), Keep G v (v.setCell ⟨g, i, none⟩ u) := fun v i u => Keep.setCell v (p := ⟨g, i, none⟩) HG.out u
      have HK : Hid (Keep G w ((w2.setCell ⟨g, 11, none⟩ (.string (bs m1))).setCell ⟨g, 12, none⟩ (.string (bs t1)))) := (K2.out.trans (KK _ _ _)).trans (KK _ _ _)
      clear hb2 D1 K1 M1 D2 K2 KK HFI HPR
      rw [hrq]
      unfold fldV
      simp only
      go_wp2_with fail
      go_ret2
      exact ⟨rfl, HR.out, HK.out⟩
  · rw [hi] at HIB
    have hkn : (k : Int) + 1 = (n : Int) := by omega
    have hk2 : ((n : Int) == 0) = false := beq_eq_false_iff_ne.2 (by omega)
    have hk3 : (n : Int) ≤ s.size := by omega
    have hk4 : (n : Int) ≠ 0 := by omega
    have hk5 : k ≤ 1000000000 := by omega
    clear hnn
    rcases hE with ⟨rfl, rfl, rfl, rfl⟩ | ⟨rfl, hrq⟩
    · skip
      go_enter Tryz.func56, Tryz.ntmps56
      go_wp2_with fail
      refine (HIB.out w).mono ?_
      rintro e w' ⟨rfl, rfl⟩
      go_wp2_with fail
      refine region_mixt 11 [some (.pointer (some ⟨g, 0, none⟩)), some (.pointer (some ⟨g, 0, none⟩)), some (.pointer (some ⟨g, 0, none⟩)), some (.string s), some (.int .i64 (n : Int)), some (.string y0), some (.tuple #[.string z, .int .i64 E]), some (.tuple #[.string z, .int .i64 E]), some (.string z), some (.int .i64 E), some (.string z)]
        [[false, false, false, false, false, false, false, false, false, false, false], [true, false, false, false, false, false, false, false, false, false, false], [false, true, false, false, false, false, false, false, false, false, false], [false, false, false, false, false, false, false, false, false, false, false], [false, false, false, false, false, false, false, false, false, false, false], [false, false, false, true, true, false, false, false, false, false, false], [false, false, true, false, false, true, false, false, false, false, false], [false, false, false, false, false, false, true, false, false, false, false], [false, false, false, false, false, false, false, true, false, false, false], [false, false, false, false, false, false, false, true, false, false, false], [true, true, true, true, true, true, true, true, true, false, false]]
        (fun L x w1 => (L 6 = false ∧ w1 = w.drew) ∨ (L 6 = true ∧ HeS G 84 (paR (bs m1) (bs t1) (.slice none 0 0) wt 0) w1 g M b σ1 ∧ Keep G w w1))
        (by kernel_rfl) (by kernel_rfl) (by kernel_rfl) (by kernel_rfl) (by kernel_rfl) (by decide) ?_ ?_ ?_
      · intro _
        exact .inl ⟨rfl, rfl⟩
      · simp only [List.take_succ_cons, List.take_zero]
        refine ⟨?_, ?_, ?_, ?_, ?_, ?_, ?_, ?_, ?_, ?_, ?_, trivial⟩
        all_goals
          intro L x w9 hS hl hp K9 hK9
          have hs : (L 6 = false ∧ w9 = w.drew) ∨ (L 6 = true ∧ HeS G 84 (paR (bs m1) (bs t1) (.slice none 0 0) wt 0) w9 g M b σ1 ∧ Keep G w w9) := hS
          clear hS
          replace hK9 := hK9.out
          simp only [actMix, pickV, List.tail_cons, List.headD_cons, Act.put, List.setIfInBounds_toArray, List.set_cons_zero, List.set_cons_succ] at hK9 ⊢
        · go_simp
          with_reducible refine hK9 _ ?_
          have e6 : setL L 0 6 = L 6 := by simp [setL]
          rcases hs with ⟨h, h2⟩ | ⟨h, h2⟩
          · exact .inl ⟨e6.trans h, h2⟩
          · exact .inr ⟨e6.trans h, h2⟩
        · go_simp
          with_reducible refine hK9 _ ?_
          have e6 : setL L 1 6 = L 6 := by simp [setL]
          rcases hs with ⟨h, h2⟩ | ⟨h, h2⟩
          · exact .inl ⟨e6.trans h, h2⟩
          · exact .inr ⟨e6.trans h, h2⟩
        · go_simp
          with_reducible refine hK9 _ ?_
          have e6 : setL L 2 6 = L 6 := by simp [setL]
          rcases hs with ⟨h, h2⟩ | ⟨h, h2⟩
          · exact .inl ⟨e6.trans h, h2⟩
          · exact .inr ⟨e6.trans h, h2⟩
        · go_simp
          with_reducible refine hK9 _ ?_
          have e6 : setL L 3 6 = L 6 := by simp [setL]
          rcases hs with ⟨h, h2⟩ | ⟨h, h2⟩
          · exact .inl ⟨e6.trans h, h2⟩
          · exact .inr ⟨e6.trans h, h2⟩
        · go_simp
          with_reducible refine hK9 _ ?_
          have e6 : setL L 4 6 = L 6 := by simp [setL]
          rcases hs with ⟨h, h2⟩ | ⟨h, h2⟩
          · exact .inl ⟨e6.trans h, h2⟩
          · exact .inr ⟨e6.trans h, h2⟩
        · go_simp
          with_reducible refine hK9 _ ?_
          have e6 : setL L 5 6 = L 6 := by simp [setL]
          rcases hs with ⟨h, h2⟩ | ⟨h, h2⟩
          · exact .inl ⟨e6.trans h, h2⟩
          · exact .inr ⟨e6.trans h, h2⟩
        · go_simp
          obtain ⟨_, rfl⟩ : L 6 = false ∧ w9 = w.drew := by
            rcases hs with h | ⟨h, _⟩
            · exact h
            · rw [h] at hl; cases hl
          with_reducible refine (HF.out _ HDR.out HU.out (fun w' hk => HM.out w' (KDR.out.trans hk))).mono ?_
          rintro e9 w8 ⟨rfl, hd8, hk8⟩
          with_reducible refine hK9 _ ?_
          exact .inr ⟨by simp [setL], hd8, KDR.out.trans hk8⟩
        · go_simp
          with_reducible refine hK9 _ ?_
          have e6 : setL L 7 6 = L 6 := by simp [setL]
          rcases hs with ⟨h, h2⟩ | ⟨h, h2⟩
          · exact .inl ⟨e6.trans h, h2⟩
          · exact .inr ⟨e6.trans h, h2⟩
        · go_simp
          with_reducible refine hK9 _ ?_
          have e6 : setL L 8 6 = L 6 := by simp [setL]
          rcases hs with ⟨h, h2⟩ | ⟨h, h2⟩
          · exact .inl ⟨e6.trans h, h2⟩
          · exact .inr ⟨e6.trans h, h2⟩
        · go_simp
          with_reducible refine hK9 _ ?_
          have e6 : setL L 9 6 = L 6 := by simp [setL]
          rcases hs with ⟨h, h2⟩ | ⟨h, h2⟩
          · exact .inl ⟨e6.trans h, h2⟩
          · exact .inr ⟨e6.trans h, h2⟩
        · go_simp
          with_reducible refine hK9 _ ?_
          have e6 : setL L 10 6 = L 6 := by simp [setL]
          rcases hs with ⟨h, h2⟩ | ⟨h, h2⟩
          · exact .inl ⟨e6.trans h, h2⟩
          · exact .inr ⟨e6.trans h, h2⟩
      intro L x w1 hS hL
      obtain ⟨hd1, hk1⟩ : HeS G 84 (paR (bs m1) (bs t1) (.slice none 0 0) wt 0) w1 g M b σ1 ∧ Keep G w w1 := by
        have hs : (L 6 = false ∧ w1 = w.drew) ∨ (L 6 = true ∧ HeS G 84 (paR (bs m1) (bs t1) (.slice none 0 0) wt 0) w1 g M b σ1 ∧ Keep G w w1) := hS
        rcases hs with ⟨h, _⟩ | ⟨_, h⟩
        · rw [hL 6 (by decide)] at h; cases h
        · exact h
      clear hS hL
      simp only [actMix, pickV, List.tail_cons, List.headD_cons, Act.put, List.setIfInBounds_toArray, List.set_cons_zero, List.set_cons_succ, List.replicate_succ, List.replicate_zero, List.drop_succ_cons, List.drop_zero, List.take_succ_cons, List.take_zero]
      have D1 := Lib.hid hd1
      have K1 := Lib.hid hk1
      have M1 := Lib.hid (HM.out _ K1.out)
      clear hd1 hk1 HF HDR KDR HU HM
      go_wp2_with fail
      with_reducible refine (HBG.out w1 D1.out).mono ?_
      rintro e w' ⟨rfl, rfl⟩
      go_wp2_with fail
      go_ret2
      exact ⟨rfl, D1.out, K1.out⟩
    · skip
      go_enter Tryz.func56, Tryz.ntmps56
      go_wp2_with fail
      refine (HIB.out w).mono ?_
      rintro e w' ⟨rfl, rfl⟩
      go_wp2_with fail
      refine region_mixt 11 [some (.pointer (some ⟨g, 0, none⟩)), some (.pointer (some ⟨g, 0, none⟩)), some (.pointer (some ⟨g, 0, none⟩)), some (.string s), some (.int .i64 (n : Int)), some (.string y0), some (.tuple #[.string z, .int .i64 E0]), some (.tuple #[.string z, .int .i64 E0]), some (.string z), some (.int .i64 E0), some (.string z)]
        [[false, false, false, false, false, false, false, false, false, false, false], [true, false, false, false, false, false, false, false, false, false, false], [false, true, false, false, false, false, false, false, false, false, false], [false, false, false, false, false, false, false, false, false, false, false], [false, false, false, false, false, false, false, false, false, false, false], [false, false, false, true, true, false, false, false, false, false, false], [false, false, true, false, false, true, false, false, false, false, false], [false, false, false, false, false, false, true, false, false, false, false], [false, false, false, false, false, false, false, true, false, false, false], [false, false, false, false, false, false, false, true, false, false, false], [true, true, true, true, true, true, true, true, true, false, false]]
        (fun L x w1 => (L 6 = false ∧ w1 = w.drew) ∨ (L 6 = true ∧ HeS G 84 (paR (bs m0) (bs t0) (.slice none 0 0) wt 0) w1 g M b σ1 ∧ Keep G w w1))
        (by kernel_rfl) (by kernel_rfl) (by kernel_rfl) (by kernel_rfl) (by kernel_rfl) (by decide) ?_ ?_ ?_
      · intro _
        exact .inl ⟨rfl, rfl⟩
      · simp only [List.take_succ_cons, List.take_zero]
        refine ⟨?_, ?_, ?_, ?_, ?_, ?_, ?_, ?_, ?_, ?_, ?_, trivial⟩
        all_goals
          intro L x w9 hS hl hp K9 hK9
          have hs : (L 6 = false ∧ w9 = w.drew) ∨ (L 6 = true ∧ HeS G 84 (paR (bs m0) (bs t0) (.slice none 0 0) wt 0) w9 g M b σ1 ∧ Keep G w w9) := hS
          clear hS
          replace hK9 := hK9.out
          simp only [actMix, pickV, List.tail_cons, List.headD_cons, Act.put, List.setIfInBounds_toArray, List.set_cons_zero, List.set_cons_succ] at hK9 ⊢
        · go_simp
          with_reducible refine hK9 _ ?_
          have e6 : setL L 0 6 = L 6 := by simp [setL]
          rcases hs with ⟨h, h2⟩ | ⟨h, h2⟩
          · exact .inl ⟨e6.trans h, h2⟩
          · exact .inr ⟨e6.trans h, h2⟩
        · go_simp
          with_reducible refine hK9 _ ?_
          have e6 : setL L 1 6 = L 6 := by simp [setL]
          rcases hs with ⟨h, h2⟩ | ⟨h, h2⟩
          · exact .inl ⟨e6.trans h, h2⟩
          · exact .inr ⟨e6.trans h, h2⟩
        · go_simp
          with_reducible refine hK9 _ ?_
          have e6 : setL L 2 6 = L 6 := by simp [setL]
          rcases hs with ⟨h, h2⟩ | ⟨h, h2⟩
          · exact .inl ⟨e6.trans h, h2⟩
          · exact .inr ⟨e6.trans h, h2⟩
        · go_simp
          with_reducible refine hK9 _ ?_
          have e6 : setL L 3 6 = L 6 := by simp [setL]
          rcases hs with ⟨h, h2⟩ | ⟨h, h2⟩
          · exact .inl ⟨e6.trans h, h2⟩
          · exact .inr ⟨e6.trans h, h2⟩
        · go_simp
          with_reducible refine hK9 _ ?_
          have e6 : setL L 4 6 = L 6 := by simp [setL]
          rcases hs with ⟨h, h2⟩ | ⟨h, h2⟩
          · exact .inl ⟨e6.trans h, h2⟩
          · exact .inr ⟨e6.trans h, h2⟩
        · go_simp
          with_reducible refine hK9 _ ?_
          have e6 : setL L 5 6 = L 6 := by simp [setL]
          rcases hs with ⟨h, h2⟩ | ⟨h, h2⟩
          · exact .inl ⟨e6.trans h, h2⟩
          · exact .inr ⟨e6.trans h, h2⟩
        · go_simp
          obtain ⟨_, rfl⟩ : L 6 = false ∧ w9 = w.drew := by
            rcases hs with h | ⟨h, _⟩
            · exact h
            · rw [h] at hl; cases hl
          with_reducible refine (HF.out _ HDR.out HU.out (fun w' hk => HM.out w' (KDR.out.trans hk))).mono ?_
          rintro e9 w8 ⟨rfl, hd8, hk8⟩
          with_reducible refine hK9 _ ?_
          exact .inr ⟨by simp [setL], hd8, KDR.out.trans hk8⟩
        · go_simp
          with_reducible refine hK9 _ ?_
          have e6 : setL L 7 6 = L 6 := by simp [setL]
          rcases hs with ⟨h, h2⟩ | ⟨h, h2⟩
          · exact .inl ⟨e6.trans h, h2⟩
          · exact .inr ⟨e6.trans h, h2⟩
        · go_simp
          with_reducible refine hK9 _ ?_
          have e6 : setL L 8 6 = L 6 := by simp [setL]
          rcases hs with ⟨h, h2⟩ | ⟨h, h2⟩
          · exact .inl ⟨e6.trans h, h2⟩
          · exact .inr ⟨e6.trans h, h2⟩
        · go_simp
          with_reducible refine hK9 _ ?_
          have e6 : setL L 9 6 = L 6 := by simp [setL]
          rcases hs with ⟨h, h2⟩ | ⟨h, h2⟩
          · exact .inl ⟨e6.trans h, h2⟩
          · exact .inr ⟨e6.trans h, h2⟩
        · go_simp
          with_reducible refine hK9 _ ?_
          have e6 : setL L 10 6 = L 6 := by simp [setL]
          rcases hs with ⟨h, h2⟩ | ⟨h, h2⟩
          · exact .inl ⟨e6.trans h, h2⟩
          · exact .inr ⟨e6.trans h, h2⟩
      intro L x w1 hS hL
      obtain ⟨hd1, hk1⟩ : HeS G 84 (paR (bs m0) (bs t0) (.slice none 0 0) wt 0) w1 g M b σ1 ∧ Keep G w w1 := by
        have hs : (L 6 = false ∧ w1 = w.drew) ∨ (L 6 = true ∧ HeS G 84 (paR (bs m0) (bs t0) (.slice none 0 0) wt 0) w1 g M b σ1 ∧ Keep G w w1) := hS
        rcases hs with ⟨h, _⟩ | ⟨_, h⟩
        · rw [hL 6 (by decide)] at h; cases h
        · exact h
      clear hS hL
      simp only [actMix, pickV, List.tail_cons, List.headD_cons, Act.put, List.setIfInBounds_toArray, List.set_cons_zero, List.set_cons_succ, List.replicate_succ, List.replicate_zero, List.drop_succ_cons, List.drop_zero, List.take_succ_cons, List.take_zero]
      have D1 := Lib.hid hd1
      have K1 := Lib.hid hk1
      have M1 := Lib.hid (HM.out _ K1.out)
      clear hd1 hk1 HF HDR KDR HU HM
      go_wp2_with fail
      with_reducible refine (HBG.out w1 D1.out).mono ?_
      rintro e w' ⟨rfl, rfl⟩
      go_wp2_with fail
      with_reducible refine (HFI.out w1 D1.out).mono ?_
      rintro e w' ⟨rfl, rfl⟩
      go_wp2_with fail
      with_reducible refine (HPR.out w1 M1.out).mono ?_
      rintro e w2 ⟨rfl, hb2⟩
      have D2 := Lib.hid (D1.out.below hb2)
      have K2 := Lib.hid (K1.out.trans (.of_below hb2))
      have f11 := D2.out.free 11
      have f12 := D2.out.free 12
      have k11 := D2.out.cellR 0
      have k12 := D2.out.cellR 1
      simp only [paR, List.getElem?_cons_zero, List.getElem?_cons_succ, Nat.reduceAdd] at k11 k12
      have HR : Hid (HeS G 84 (paR (bs m1) (bs t1) (.slice none 0 0) wt 0) ((w2.setCell ⟨g, 11, none⟩ (.string (bs m1))).setCell ⟨g, 12, none⟩ (.string (bs t1))) g M b σ1) :=
        (D2.out.setR 0 (.string (bs m1))).setR 1 (.string (bs t1))
      have KK : ∀ (v : World) (i : Nat) (u : Value), Keep G v (v.setCell ⟨g, i, none⟩ u) := fun v i u => Keep.setCell v (p := ⟨g, i, none⟩) HG.out u
      have HK : Hid (Keep G w ((w2.setCell ⟨g, 11, none⟩ (.string (bs m1))).setCell ⟨g, 12, none⟩ (.string (bs t1)))) := (K2.out.trans (KK _ _ _)).trans (KK _ _ _)
      clear hb2 D1 K1 M1 D2 K2 KK HFI HPR
      rw [hrq]
      unfold fldV
      simp only
      go_wp2_with fail
      go_ret2
      exact ⟨rfl, HR.out, HK.out⟩
end Go.Proofs.YtmcbaheaocfdnaaGreatDoor

/- request: a parser in memory; feedFields, step. -/
namespace Go.Proofs.YtmcbaheaocfdnaaGreatDoor
open Go.RowKit

section
variable (G : Nat → Prop) (g : Nat) (M : HdL) (b : Int) (σ σ1 : HdS) (m t : ByteArray) (wt : Bool)
set_option maxRecDepth 100000 in
set_option maxHeartbeats 2000000 in
theorem fflds57 (l : List UInt8) (hbd : σ.wt + 4 * l.length ≤ 1000000000) (h1 : hRun M σ l = σ1) (hnf : σ1.fin = false) (w : World) (h : HeS G 84 (paR m t (.slice none 0 0) wt 0) w g M b σ) (hu : Up G w) (hM : ∀ w', Keep G w w' → MaxL w') :
    Calls Tryz.prog 57 #[.pointer (some ⟨g, 0, none⟩), .string (bs l)] w fun x w' => x = .returned (.tuple #[.string (bs (if σ1.errOf = 0 then hLeft M σ l else [])), .int .i64 σ1.errOf]) ∧ HeS G 84 (paR m t (.slice none 0 0) wt 0) w' g M b σ1 ∧ Keep G w w' := by
  have HF := Lib.hid (hfeed10 G 84 (paR m t (.slice none 0 0) wt 0) g M b σ l hbd w h hu hM)
  unfold HFeedTo at HF
  rw [h1] at HF
  obtain ⟨z, hz⟩ : ∃ z, z = bs (if σ1.errOf = 0 then hLeft M σ l else []) := ⟨_, rfl⟩
  obtain ⟨s, hs⟩ : ∃ s, s = bs l := ⟨_, rfl⟩
  rw [← hz, ← hs] at HF
  rw [← hz, ← hs]
  obtain ⟨E0, hE0⟩ : ∃ E0, E0 = σ1.errOf := ⟨_, rfl⟩
  rw [← hE0] at HF ⊢
  have HD := Lib.hid (fun W hw => hdoneS G 84 (paR m t (.slice none 0 0) wt 0) g M b σ1 W hw)
  rw [hnf] at HD
  clear h hu hM hbd h1 hnf hz hs hE0
  go_enter Tryz.func57, Tryz.ntmps57
  go_wp2_with fail
  with_reducible refine HF.out.mono ?_
  rintro e w1 ⟨rfl, hd1, hk1⟩
  have D1 := Lib.hid hd1
  have K1 := Lib.hid hk1
  clear hd1 hk1 HF
  go_wp2_with fail
  with_reducible refine (HD.out w1 D1.out).mono ?_
  rintro e w' ⟨rfl, rfl⟩
  go_wp2_with fail
  go_ret2
  exact ⟨rfl, D1.out, K1.out⟩
set_option maxRecDepth 100000 in
set_option maxHeartbeats 2000000 in
theorem fflds57d (l : List UInt8) (hbd : σ.wt + 4 * l.length ≤ 1000000000) (fl : List UInt8) (fs : List Fld) (h1 : hRun M σ l = .done fl fs) (h0 : ByteArray) (hfl : fs.length ≤ 1000000) (hok : ∀ f ∈ fs, FldOk f) (hh : allB hostN fs = [h0]) (hne : 0 < h0.size) (hte : allB encN fs = []) (hcl : allB lenN fs = [])
    (w : World) (h : HeS G 84 (paR m t (.slice none 0 0) wt 0) w g M b σ) (hu : Up G w) (hM : ∀ w', Keep G w w' → MaxL w') :
    Calls Tryz.prog 57 #[.pointer (some ⟨g, 0, none⟩), .string (bs l)] w fun x w' => ∃ a c, x = .returned (.tuple #[.string (bs (hLeft M σ l)), .int .i64 0]) ∧ HeS G 84 (paR m t (.slice a fs.length c) wt 0) w' g M b (.done fl fs) ∧ Keep G w w' := by
  have HF := Lib.hid (hfeed10 G 84 (paR m t (.slice none 0 0) wt 0) g M b σ l hbd w h hu hM)
  unfold HFeedTo at HF
  rw [h1, show (HdS.done fl fs).errOf = 0 from rfl, if_pos rfl] at HF
  obtain ⟨z, hz⟩ : ∃ z, z = bs (hLeft M σ l) := ⟨_, rfl⟩
  obtain ⟨s, hs⟩ : ∃ s, s = bs l := ⟨_, rfl⟩
  rw [← hz, ← hs] at HF
  rw [← hz, ← hs]
  have HD := Lib.hid (fun W hw => hdoneS G 84 (paR m t (.slice none 0 0) wt 0) g M b (.done fl fs) W hw)
  rw [show (HdS.done fl fs).fin = true from rfl] at HD
  have HFL := Lib.hid (fun W hw => hfields15 G 84 (paR m t (.slice none 0 0) wt 0) g M b (.done fl fs) (by show fs.length ≤ _; omega) W hw)
  rw [show (HdS.done fl fs).fldsOf = fs from rfl] at HFL
  have HBG := Lib.hid (fun W a c hw hf => begin67 G g M b (.done fl fs) m t wt a c fs h0 hfl hok hh hne hte hcl W hw hf)
  clear h hu hM hbd h1 hz hs hok hh hne hte hcl
  go_enter Tryz.func57, Tryz.ntmps57
  go_wp2_with fail
  with_reducible refine HF.out.mono ?_
  rintro e w1 ⟨rfl, hd1, hk1⟩
  have D1 := Lib.hid hd1
  have K1 := Lib.hid hk1
  clear hd1 hk1 HF
  go_wp2_with fail
  with_reducible refine (HD.out w1 D1.out).mono ?_
  rintro e w' ⟨rfl, rfl⟩
  go_wp2_with fail
  with_reducible refine (HFL.out w1 D1.out).mono ?_
  rintro e w2 ⟨a, c, rfl, hf2, hb2⟩
  have D2 := Lib.hid (D1.out.below hb2)
  have K2 := Lib.hid (K1.out.trans (.of_below hb2))
  have F2 := Lib.hid hf2
  clear hf2 hb2 D1 K1 HFL HD
  go_wp2_with fail
  with_reducible refine (HBG.out w2 a c D2.out F2.out).mono ?_
  rintro e w3 ⟨rfl, hd3, hk3⟩
  have D3 := Lib.hid hd3
  have K3 := Lib.hid (K2.out.trans hk3)
  clear hd3 hk3 D2 K2 F2 HBG
  go_wp2_with fail
  go_ret2
  exact ⟨a, c, rfl, D3.out, K3.out⟩
variable (rest : List Value)
set_option maxHeartbeats 1000000 in
theorem step37a (P : World → Prop) (s y : ByteArray) (E : Int) (hb : σ.begun = false) (w : World) (h : HeS G 84 rest w g M b σ)
    (hc : Calls Tryz.prog 56 #[.pointer (some ⟨g, 0, none⟩), .string s] w fun x w' => x = .returned (.tuple #[.string y, .int .i64 E]) ∧ P w') :
    Calls Tryz.prog 37 #[.pointer (some ⟨g, 0, none⟩), .string s] w fun x w' => x = .returned (.tuple #[.string y, .int .i64 E]) ∧ P w' := by
  have HB := Lib.hid (hbegunS G 84 rest g M b σ w h)
  rw [hb] at HB
  have HC := Lib.hid hc
  clear h hb hc
  go_enter Tryz.func37, Tryz.ntmps37
  go_wp2_with fail
  with_reducible refine HB.out.mono ?_
  rintro e w' ⟨rfl, rfl⟩
  go_wp2_with fail
  with_reducible refine HC.out.mono ?_
  rintro e w1 ⟨rfl, hp⟩
  have HP := Lib.hid hp
  clear hp HB HC
  go_wp2_with fail
  go_ret2
  exact ⟨rfl, HP.out⟩
set_option maxHeartbeats 1000000 in
theorem step37b (P : World → Prop) (s y : ByteArray) (E : Int) (hb : σ.begun = true) (hf : σ.fin = false) (w : World) (h : HeS G 84 rest w g M b σ)
    (hc : Calls Tryz.prog 57 #[.pointer (some ⟨g, 0, none⟩), .string s] w fun x w' => x = .returned (.tuple #[.string y, .int .i64 E]) ∧ P w') :
    Calls Tryz.prog 37 #[.pointer (some ⟨g, 0, none⟩), .string s] w fun x w' => x = .returned (.tuple #[.string y, .int .i64 E]) ∧ P w' := by
  have HB := Lib.hid (hbegunS G 84 rest g M b σ w h)
  rw [hb] at HB
  have HD := Lib.hid (hdoneS G 84 rest g M b σ w h)
  rw [hf] at HD
  have HC := Lib.hid hc
  clear h hb hc hf
  go_enter Tryz.func37, Tryz.ntmps37
  go_wp2_with fail
  with_reducible refine HB.out.mono ?_
  rintro e w' ⟨rfl, rfl⟩
  go_wp2_with fail
  with_reducible refine HD.out.mono ?_
  rintro e w' ⟨rfl, rfl⟩
  go_wp2_with fail
  with_reducible refine HC.out.mono ?_
  rintro e w1 ⟨rfl, hp⟩
  have HP := Lib.hid hp
  clear hp HB HC HD
  go_wp2_with fail
  go_ret2
  exact ⟨rfl, HP.out⟩
end
end Go.Proofs.YtmcbaheaocfdnaaGreatDoor

/- request: a parser in memory; finish, and the store of an error. -/
namespace Go.Proofs.YtmcbaheaocfdnaaGreatDoor
open Go.RowKit

theorem own_keepB {w w' : World} {G : Nat → Prop} {B : Nat} {e : TypeId} {n m : Nat} {v : Value} {xs : List Value} (h : w.ownsRow B e n v m xs) (hk : Keep G w w') (hg : ∀ k, v.ownBlock = some k → ¬ G k) : w'.ownsRow B e n v m xs := by
  obtain ⟨hl, h0 | ⟨g, cap, cur, rfl, hb, hc, r⟩⟩ := h
  · exact ⟨hl, .inl h0⟩
  · exact ⟨hl, .inr ⟨g, cap, cur, rfl, hb, (hk.block g (Array.getElem?_eq_some_iff.1 hc).1 (hg g rfl)).trans hc, r⟩⟩
theorem max00 (a : Int) : max (max 0 a) 0 = max 0 a := by omega
/-- The cells of a parser that has received nothing, or failed. -/
def paL (l h c b x : Int) : List Value := heL l h c b 0 ⟨#[]⟩ (.slice none 0 0) 0 (.slice none 0 0) false 0 (paR ⟨#[]⟩ ⟨#[]⟩ (.slice none 0 0) false x)
theorem paL_len (l h c b x : Int) : (paL l h c b x).length = 21 := rfl
theorem paNew_fix (l h c b : Int) : paNew (max 0 l) (max 0 h) (max 0 c) b = (paL (max 0 l) (max 0 h) (max 0 c) b 0).toArray := by
  unfold paNew
  rw [max00, max00, max00]
  rfl
theorem paL_one (l h c b x : Int) : (paL l h c b x).toArray.all (·.oneCell') = true := by
  unfold paL heL paR
  simp [Value.oneCell']
theorem infoPa : (Tryz.prog.info? 84).map (·.size) = some 21 := by kernel_rfl
theorem Row.over {w : World} {g : Nat} {T : TypeId} {cs cs' : Array Value} (h : Row w g T cs) : Row (w.setRow g cs') g T cs' := setRow_heap w g cs cs' T (0, 0) h
theorem keep_setRow {G : Nat → Prop} {g : Nat} (hg : G g) (w : World) (cs : Array Value) : Keep G w (w.setRow g cs) :=
  ⟨rfl, rfl, rfl, by simp, fun k _ hn => setRow_other w g k cs (fun e => hn (e ▸ hg))⟩
theorem HeS.row {G : Nat → Prop} {T : TypeId} {rest : List Value} {w : World} {g : Nat} {M : HdL} {b : Int} {σ : HdS} (h : HeS G T rest w g M b σ) : ∃ cs : List Value, Row w g T cs.toArray ∧ cs.length = 11 + rest.length := by
  obtain ⟨L, H, C, b', st, f, fs, sz, cur, cr, e, hr, rv, ln, hd⟩ := h
  exact ⟨_, hd.row, by simp [heL]; omega⟩
/-- A fresh parser, or an error, laid over a parser. -/
theorem HeS.over {G : Nat → Prop} {T : TypeId} {rest : List Value} {w : World} {g : Nat} {b0 : Int} {M0 : HdL} {σ : HdS} (h : HeS G T rest w g M0 b0 σ) (M : HdL) (b x : Int) :
    HeS G T (paR ⟨#[]⟩ ⟨#[]⟩ (.slice none 0 0) false x) (w.setRow g (paL (max 0 M.line) (max 0 M.head) (max 0 M.count) b x).toArray) g M b hd0
    ∧ Keep G w (w.setRow g (paL (max 0 M.line) (max 0 M.head) (max 0 M.count) b x).toArray) := by
  have hg := h.gG
  obtain ⟨L, H, C, b', st, f, fs, sz, cur, cr, e, hr, rv, ln, hd⟩ := h
  have r : Row (w.setRow g (paL (max 0 M.line) (max 0 M.head) (max 0 M.count) b x).toArray) g T (paL (max 0 M.line) (max 0 M.head) (max 0 M.count) b x).toArray := hd.row.over
  exact ⟨⟨_, _, _, _, _, _, _, _, _, _, _, .line0 [] false, .slice none 0 0, .slice none 0 0, r, hd.t1, hd.t2, hd.gG, nil_flds _, nil_byt _, (fun j h => by cases h), (fun j h => by cases h)⟩, keep_setRow hg _ _⟩
set_option maxRecDepth 100000 in
set_option maxHeartbeats 4000000 in
theorem finish39 (G : Nat → Prop) (g : Nat) (M : HdL) (b : Int) (σ : HdS) (m t : ByteArray) (fa : Option Addr) (fn fc : Nat) (wt : Bool) (hne : ∀ e, σ ≠ .err e) (w : World) (h : HeS G 84 (paR m t (.slice fa fn fc) wt 0) w g M b σ) (hu : Up G w) :
    Calls Tryz.prog 39 #[.pointer (some ⟨g, 0, none⟩)] w fun x w' => x = .returned (.agg #[.string m, .string t, .slice fa fn fc, .string ⟨#[]⟩, .int .i64 0]) ∧ HeS G 84 (paR ⟨#[]⟩ ⟨#[]⟩ (.slice none 0 0) false 0) w' g M b hd0 ∧ Keep G w w' := by
  have k11 := h.cellR 0
  have k12 := h.cellR 1
  have k13 := h.cellR 2
  have k14 := h.cellR 3
  have k15 := h.cellR 4
  have k17 := h.cellR 6
  have k18 := h.cellR 7
  simp only [paR, List.getElem?_cons_zero, List.getElem?_cons_succ, Nat.reduceAdd] at k11 k12 k13 k14 k15 k17 k18
  have hlt := h.lt
  have hcv := fun W : World => own_string W 0 _ _ (nil_byt W)
  have HD := Lib.hid h.less
  have HG := Lib.hid h.gG
  obtain ⟨L, H, C, b', st, f, fs, sz, cur, cr, e, hr, rv, ln, hd⟩ := h
  obtain ⟨rfl, rfl, rfl, rfl⟩ := he_lim hr hne
  obtain ⟨c0, c1, c2, c3, _⟩ := hd.c
  have HU := Lib.hid hu
  clear hd hu hr
  go_enter Tryz.func39, Tryz.ntmps39
  go_upto_region 5 with fail
  clear k11 k12 k13 k14 k15 k17 k18 c0 c1 c2 c3 hcv
  have R0 := (Row.new w 54 #[.string ⟨#[]⟩, .string ⟨#[]⟩, .slice none 0 0, .string ⟨#[]⟩, .int .i64 0]).alloc (.cells #[.string m, .string t, .slice fa fn fc, .string ⟨#[]⟩, .int .i64 0] 54)
  have R1 := Row.new (w.alloc (.cells #[.string ⟨#[]⟩, .string ⟨#[]⟩, .slice none 0 0, .string ⟨#[]⟩, .int .i64 0] 54)) 54 #[.string m, .string t, .slice fa fn fc, .string ⟨#[]⟩, .int .i64 0]
  rw [show (w.alloc (.cells #[.string ⟨#[]⟩, .string ⟨#[]⟩, .slice none 0 0, .string ⟨#[]⟩, .int .i64 0] 54)).heap.size = w.heap.size + 1 by simp] at R1
  have L1 := (below_alloc w (.cells #[.string ⟨#[]⟩, .string ⟨#[]⟩, .slice none 0 0, .string ⟨#[]⟩, .int .i64 0] 54)).alloc (by simp) (.cells #[.string m, .string t, .slice fa fn fc, .string ⟨#[]⟩, .int .i64 0] 54)
  generalize (w.alloc (.cells #[.string ⟨#[]⟩, .string ⟨#[]⟩, .slice none 0 0, .string ⟨#[]⟩, .int .i64 0] 54)).alloc (.cells #[.string m, .string t, .slice fa fn fc, .string ⟨#[]⟩, .int .i64 0] 54) = w1 at *
  have D1 := Lib.hid (HD.out.below L1)
  have B1 := Lib.hid L1
  obtain ⟨b0, hb0⟩ : ∃ b0, b0 = w.heap.size := ⟨_, rfl⟩
  obtain ⟨b1, hb1⟩ : ∃ b1, b1 = w.heap.size + 1 := ⟨_, rfl⟩
  rw [← hb0] at R0
  rw [← hb1] at R1
  have n0 : ¬ b0 = g := by omega
  have n1 : ¬ b1 = g := by omega
  have hu0 : G b0 := HU.out _ (by omega)
  have HB0 : Hid (w.heap.size ≤ b0) := Nat.le_of_eq hb0.symm
  rw [← hb1, ← hb0]
  have RR0 := Lib.hid R0
  have RR1 := Lib.hid R1
  have HU0 := Lib.hid hu0
  clear L1 HD hb0 hb1 hlt R0 R1 hu0
  obtain ⟨L9, H9, C9, B9, st9, f9, fs9, sz9, cur9, cr9, e9, hr9, rv9, ln9, hd9⟩ := D1.out
  obtain ⟨rfl, rfl, rfl, rfl⟩ := he_lim hr9 hne
  obtain ⟨c0, c1, c2, c3, _⟩ := hd9.c
  clear hd9 hr9
  have HN := Lib.hid (new21 (max 0 M.line) (max 0 M.head) (max 0 M.count) B9 w1)
  rw [paNew_fix] at HN
  go_wp2_with fail
  with_reducible refine HN.out.mono ?_
  rintro e w2 ⟨g2, rfl, hg2, hr2, hb2⟩
  have D2 := Lib.hid (D1.out.below hb2)
  have B2 := Lib.hid (B1.out.trans (hb2.mono B1.out.size))
  have RR0' := Lib.hid (RR0.out.below hb2)
  have RR1' := Lib.hid (RR1.out.below hb2)
  obtain ⟨pl, hpl⟩ : ∃ pl, pl = paL (max 0 M.line) (max 0 M.head) (max 0 M.count) B9 0 := ⟨_, rfl⟩
  have HPL := Lib.hid hpl
  rw [← hpl] at hr2
  have hpz : (Tryz.prog.info? 84).map (·.size) = some pl.length := by rw [hpl, paL_len]; exact infoPa
  have hpz2 : (Tryz.prog.info? 84).map (·.size) = some pl.toArray.size := by rw [List.size_toArray]; exact hpz
  have hp1 : pl.toArray.all (·.oneCell') = true := by rw [hpl]; exact paL_one ..
  have hrg : w2.rangeAt g2 0 pl := fun j v hv => by rw [Nat.zero_add, hr2.cell j, List.getElem?_toArray]; exact hv
  obtain ⟨old, hold, holz⟩ := D2.out.row
  have hplz : pl.length = 21 := by rw [hpl]; rfl
  have hoz : old.toArray.size = pl.toArray.size := by rw [List.size_toArray, List.size_toArray, holz, hplz]; rfl
  have HOLD := Lib.hid hold
  clear hpl hplz holz c0 c1 c2 c3 D1 B1 RR0 RR1 HN hr2 hb2 hg2 hold
  go_upto_region 6 with (first
    | (refine wpList_load_mid rfl 84 _ rfl g2 0 rfl pl _ hrg Tryz.underlying84 rfl hpz ?_)
    | (refine wpList_store_row rfl 84 _ _ rfl g pl.toArray rfl rfl 84 old.toArray HOLD.out hpz2 hoz hp1 ?_))
  have hov := D2.out.over M B9 0
  unfold HdL.line HdL.head HdL.count at HPL
  rw [← HPL.out] at hov
  have Q0 : Row (w2.setRow g pl.toArray) b0 54 #[.string ⟨#[]⟩, .string ⟨#[]⟩, .slice none 0 0, .string ⟨#[]⟩, .int .i64 0] := (setRow_other w2 g b0 _ n0).trans RR0'.out
  have Q1 : Row (w2.setRow g pl.toArray) b1 54 #[.string m, .string t, .slice fa fn fc, .string ⟨#[]⟩, .int .i64 0] := (setRow_other w2 g b1 _ n1).trans RR1'.out
  clear hpz hpz2 hp1 hrg hoz HOLD
  generalize w2.setRow g pl.toArray = w3 at *
  have DD3 := Lib.hid hov.1
  have KK3 := Lib.hid hov.2
  have z0 := Q0.free 0
  have z1 := Q0.free 1
  have z2 := Q0.free 2
  have z3 := Q0.free 3
  have z4 := Q0.free 4
  have p0 : w3.cell? ⟨b0, 0, none⟩ = some (.string ⟨#[]⟩) := Q0.cell 0
  have p1 : w3.cell? ⟨b0, 1, none⟩ = some (.string ⟨#[]⟩) := Q0.cell 1
  have p2 : w3.cell? ⟨b0, 2, none⟩ = some (.slice none 0 0) := Q0.cell 2
  have p3 : w3.cell? ⟨b0, 3, none⟩ = some (.string ⟨#[]⟩) := Q0.cell 3
  have p4 : w3.cell? ⟨b0, 4, none⟩ = some (.int .i64 0) := Q0.cell 4
  have q0 : w3.cell? ⟨b1, 0, none⟩ = some (.string m) := Q1.cell 0
  have q1 : w3.cell? ⟨b1, 1, none⟩ = some (.string t) := Q1.cell 1
  have q2 : w3.cell? ⟨b1, 2, none⟩ = some (.slice fa fn fc) := Q1.cell 2
  have q3 : w3.cell? ⟨b1, 3, none⟩ = some (.string ⟨#[]⟩) := Q1.cell 3
  have q4 : w3.cell? ⟨b1, 4, none⟩ = some (.int .i64 0) := Q1.cell 4
  clear hov Q0 Q1 RR0' RR1' HPL
  go_wp2_with fail
  refine bodyPost_ret (v := .agg #[.string m, .string t, .slice fa fn fc, .string ⟨#[]⟩, .int .i64 0]) (by simp [results, Tryz.results39, go_sem, p0, p1, p2, p3, p4]) rfl ⟨rfl, ?_⟩
  have KB : ∀ (v : World) (i : Nat) (u : Value), Keep (fun j => j = b0) v (v.setCell ⟨b0, i, none⟩ u) := fun v i u => Keep.setCell (G := fun j => j = b0) v (p := ⟨b0, i, none⟩) rfl u
  have KC := (((((KB w3 0 (.string m)).trans (KB _ 1 (.string t))).trans (KB _ 2 (.slice fa fn fc))).trans (KB _ 3 (.string ⟨#[]⟩))).trans (KB _ 4 (.int .i64 0)))
  refine ⟨(DD3.out.keep KC ?_).more (fun j _ hj => hj.1), ((Keep.of_below B2.out).trans (KK3.out.more (fun j _ hj => hj.1))).trans (KC.more (fun j _ hj => by rw [hj]; exact HU0.out))⟩
  rintro j ⟨_, hj⟩ rfl
  have := HB0.out
  omega
end Go.Proofs.YtmcbaheaocfdnaaGreatDoor

