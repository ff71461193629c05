/- Idle connections: Put. -/
import Derived.Test.YtcdgmhglpcokdaaIdG
namespace Go.Proofs.Ytcdgmhglpcokdaa
open Go.RowKit Go.Maps

/-- What others have, and a new slice. -/
def XV (X : Nat → Prop) (v : Value) : Nat → Prop := fun k => X k ∨ v.ownBlock = some k
/-- What is closed, behind one more. -/
def putR (a : Int) (L : List Cn) (nm : ByteArray) : List Cn × List Int :=
  if ((ofI L nm).length : Int) ≤ a then (L, []) else match ofI L nm with
    | [] => (L, [])
    | h :: _ => (dropI L h, [h])
theorem ofI_len_add (L : List Cn) (e : Cn) (nm : ByteArray) : (ofI (L ++ [e]) nm).length ≤ (ofI L nm).length + 1 := by
  rw [ofI_add, List.length_append]
  split <;> simp
theorem ofI_len_drop (L : List Cn) (c : Int) (nm : ByteArray) : (ofI (dropI L c) nm).length ≤ (ofI L nm).length := by
  rw [ofI_drop]; exact List.length_filter_le _ _
theorem dropI_le (L : List Cn) (c : Int) : (dropI L c).length ≤ L.length := List.length_filter_le _ _
/-- Behind one that is closed no more are to be. -/
theorem put_once {a : Int} {L : List Cn} {nm : ByteArray} {h : Int} {r : List Int} (hc : ((ofI L nm).length : Int) ≤ a + 1) (ho : ofI L nm = h :: r) : ((ofI (dropI L h) nm).length : Int) ≤ a := by
  rw [ofI_drop, ho, List.filter_cons, if_neg (by simp)]
  rw [ho, List.length_cons] at hc
  have : (r.filter fun x => !decide (x = h)).length ≤ r.length := List.length_filter_le _ _
  omega
theorem IdS.moreN {W w : World} {X : Nat → Prop} {ab N N' : Nat} {a b sets : Int} {LA L : List Cn} (h : IdS W X ab a b N sets LA L w) (hN : N ≤ N') : IdS W X ab a b N' sets LA L w := by
  obtain ⟨wmv, bmv, F, G, h1, h2, h3⟩ := h.ex
  exact ⟨wmv, bmv, F, G, h1.moreNI hN, h2.moreN hN, h3⟩
/-- The times are set. -/
theorem iset (W : World) (X : Nat → Prop) (ab : Nat) (a b : Int) (N : Nat) (sets : Int) (L : List Cn) (w : World) (c ti : Int) (nm : ByteArray) (h : IdS W X ab a b N sets L (L ++ [Cn.mk nm c (clampA ti) (sets + 1)]) w) (hl : L.length ≤ 800) (hN : N ≤ 100000) (hs0 : 0 ≤ sets) (hs1 : sets ≤ 1000000) (hc : ∀ e ∈ L, e.cn ≠ c) (hcw : KN.ok c) :
    Calls Try.prog 24 #[.pointer (some ⟨ab, 4, none⟩), .int .i64 c, .int .i64 ti] w fun o w' => o = .returned (.tuple #[]) ∧ IdS W X ab a b (N + 1) (sets + 1) (L ++ [Cn.mk nm c (clampA ti) (sets + 1)]) (L ++ [Cn.mk nm c (clampA ti) (sets + 1)]) w' ∧ Keep (fun k => ¬ X k) w w' := by
  obtain ⟨wmv, bmv, F, G, ho, hm, hown⟩ := h.ex
  refine (osetNa (pl := plI a b wmv bmv) W w ab L.length N sets (CI L) (OI X wmv bmv G) ho (by omega) hN hs0 hs1 c hcw ti (fun x hx => by
    obtain ⟨e, he, rfl⟩ := hx
    intro e2
    injection e2 with _ e2
    exact hc e he e2)).mono ?_
  rintro o w' ⟨rfl, h1, h2⟩
  refine ⟨rfl, ⟨wmv, bmv, F, G, ?_, (hm.keep h2 (fun k hk hn => hn (.inr hk))).moreN (Nat.le_succ N), hown⟩, h2.more (fun k _ hn hx => hn (.inl hx))⟩
  rw [List.length_append]
  exact h1.mono (CI.add L (Cn.mk nm c (clampA ti) (sets + 1)))
theorem IdS.most {W w : World} {X : Nat → Prop} {ab N : Nat} {a b sets : Int} {LA L : List Cn} (h : IdS W X ab a b N sets LA L w) : w.cell? ⟨ab, 0, none⟩ = some (.int .i64 a) ∧ w.cell? ⟨ab, 1, none⟩ = some (.int .i64 b) := by
  obtain ⟨wmv, bmv, F, G, ho, _⟩ := h.ex
  exact ⟨(ho.preCell 0 (by show 0 < 4; omega)).1, (ho.preCell 1 (by show 1 < 4; omega)).1⟩
/-- The slice of a backend, as the program reads it. -/
theorem IdS.slice {W w : World} {X : Nat → Prop} {ab N : Nat} {a b sets : Int} {LA L : List Cn} (h : IdS W X ab a b N sets LA L w) {nm : ByteArray} (hn : KS.ok nm) : ∃ wmv sa sc, w.cell? ⟨ab, 2, none⟩ = some wmv ∧ (Instr.lookup 61 wmv (.string nm) false).run Try.prog w = .ok (.slice sa (ofI L nm).length sc) w ∧ ∀ x r, ofI L nm = x :: r → ∃ g, sa = some ⟨g, 0, none⟩ ∧ (ofI L nm).length ≤ sc ∧ w.cell? ⟨g, 0, none⟩ = some (.int .i64 x) := by
  obtain ⟨wmv, bmv, F, G, ho, hm, hown⟩ := h.ex
  have c2 : w.cell? ⟨ab, 2, none⟩ = some wmv := (ho.preCell 2 (by show 2 < 4; omega)).1
  obtain ⟨z, lz, hz⟩ := hm.look (nm := nm) hn
  rcases hz with ⟨rfl, h9⟩ | ⟨b1, c1, cs1, rfl, hG1, q0, q1, q2, q3, q4⟩
  · exact ⟨wmv, none, 0, c2, by rw [h9]; exact lz, fun x r e => by rw [h9] at e; cases e⟩
  · refine ⟨wmv, some ⟨b1, 0, none⟩, c1, c2, lz, fun x r e => ⟨b1, rfl, by have := q4.len; omega, ?_⟩⟩
    rw [q1.cell]
    exact q4 0 x (by rw [e]; rfl)
theorem ownI_base {W : World} {base base' : Nat} {e : TypeId} {size : Nat} {v : Value} {k : Nat} {xs : List Value} (h : W.ownsRow base e size v k xs) (hb : base' ≤ base) : W.ownsRow base' e size v k xs :=
  ⟨h.1, h.2.imp id fun ⟨g, cap, cur, h1, h2, h3⟩ => ⟨g, cap, cur, h1, Nat.le_trans hb h2, h3⟩⟩
/-- What Put leaves. -/
def PutP (W : World) (X : Nat → Prop) (ab : Nat) (a b : Int) (N : Nat) (sets : Int) (R : List Cn × List Int) (w : World) (o : Ending) (w' : World) : Prop :=
  ∃ v, o = .returned v ∧ w'.ownsRow w.heap.size 3 1 v R.2.length (R.2.map (Value.int .i64)) ∧ IdS W (XV X v) ab a b N sets R.1 R.1 w' ∧ Keep (fun k => ¬ X k) w w'
/-- Nothing is closed yet, or one is. -/
def phV : Value → Nat
  | .slice none _ _ => 1
  | _ => 0
set_option maxHeartbeats 4000000 in
set_option maxRecDepth 100000 in
theorem iput (W : World) (X : Nat → Prop) (ab : Nat) (a b : Int) (N : Nat) (sets : Int) (L : List Cn) (w : World) (h : IdS W X ab a b N sets L L w) (hg : GoodI sets L) (hl : L.length ≤ 700) (hN : N ≤ 90000) (hs0 : 0 ≤ sets) (hs1 : sets ≤ 900000) (ha0 : 0 ≤ a) (ha1 : a ≤ 1024) (hb0 : 1 ≤ b) (hb1 : b ≤ 1048576) (hcap : ∀ x, ((ofI L x).length : Int) ≤ a) (nm : ByteArray) (hnm : KS.ok nm) (c : Int) (hcw : KN.ok c) (now : Int) :
    Calls Try.prog 8 #[.pointer (some ⟨ab, 0, none⟩), .string nm, .int .i64 c, .int .i64 now] w (PutP W X ab a b (N + 4) (sets + 1) (putR a (dropI L c ++ [Cn.mk nm c (clampA (clampA now + b)) (sets + 1)]) nm) w) := by
  have HDR := Lib.hid (idrop W X ab a b N sets L w h hg (by omega) (by omega) c hcw)
  have hd1 : (dropI L c).length ≤ 700 := Nat.le_trans (dropI_le L c) hl
  have hcc : ∀ e ∈ dropI L c, e.cn ≠ c := fun e he => (mem_dropI.1 he).2
  have hg1 : GoodI (sets + 1) (dropI L c ++ [Cn.mk nm c (clampA (clampA now + b)) (sets + 1)]) := (hg.drop c).add hcc hnm hcw
  have hca : ((ofI (dropI L c ++ [Cn.mk nm c (clampA (clampA now + b)) (sets + 1)]) nm).length : Int) ≤ a + 1 := by
    have h1 := ofI_len_add (dropI L c) (Cn.mk nm c (clampA (clampA now + b)) (sets + 1)) nm
    have h2 := ofI_len_drop L c nm
    have h3 := hcap nm
    omega
  have hLl : (dropI L c ++ [Cn.mk nm c (clampA (clampA now + b)) (sets + 1)]).length ≤ 701 := by rw [List.length_append]; simp; omega
  obtain ⟨LD, hLD⟩ : ∃ LD, dropI L c = LD := ⟨_, rfl⟩
  obtain ⟨ti, hti⟩ : ∃ ti, clampA now + b = ti := ⟨_, rfl⟩
  obtain ⟨L1, hL1⟩ : ∃ L1, LD ++ [Cn.mk nm c (clampA ti) (sets + 1)] = L1 := ⟨_, rfl⟩
  rw [hLD] at HDR hd1 hcc hg1 hca hLl ⊢
  rw [hti] at hg1 hca hLl ⊢
  rw [hL1] at hg1 hca hLl ⊢
  have HIN : Hid (∀ w1, IdS W X ab a b (N + 1) sets LD LD w1 → Calls Try.prog 23 #[.pointer (some ⟨ab, 0, none⟩), .string nm, .int .i64 c] w1 fun o w' => o = .returned (.tuple #[]) ∧ IdS W X ab a b (N + 1 + 1) sets LD L1 w' ∧ Keep (fun k => ¬ X k) w1 w') := fun w1 h1 => by
    rw [← hL1]
    exact iinsert W X ab a b (N + 1) sets LD LD w1 h1 (by omega) (by omega) c (clampA ti) (sets + 1) nm hcc hcw hnm
  have HST : Hid (∀ w1, IdS W X ab a b (N + 2) sets LD L1 w1 → Calls Try.prog 24 #[.pointer (some ⟨ab, 4, none⟩), .int .i64 c, .int .i64 ti] w1 fun o w' => o = .returned (.tuple #[]) ∧ IdS W X ab a b (N + 2 + 1) (sets + 1) L1 L1 w' ∧ Keep (fun k => ¬ X k) w1 w') := fun w1 h1 => by
    rw [← hL1] at h1 ⊢
    exact iset W X ab a b (N + 2) sets LD w1 c ti nm h1 (by omega) (by omega) hs0 (by omega) hcc hcw
  obtain ⟨cl, hcl⟩ : ∃ cl, clampA now = cl := ⟨_, rfl⟩
  have hclr := clampA_r now
  rw [hcl] at hclr
  have e1 : min (max now 0) 1099511627776 = cl := by rw [← hcl]; unfold clampA; split <;> (try split) <;> omega
  have e2 : IntKind.i64.wrap (cl + b) = ti := by rw [hcl] at hti; rw [← hti]; exact IntWalk.i64_in _ (by omega)
  have HG1 := Lib.hid hg1
  have HCA := Lib.hid hca
  have HNM : Hid (KS.ok nm) := hnm
  have HL1 : Hid (L1.length ≤ 701) := hLl
  have HSS : Hid (0 ≤ sets ∧ sets ≤ 900000) := ⟨hs0, hs1⟩
  clear h hg hcap hnm hcw hd1 hcc hg1 hca hLl hLD hti hL1 hcl hclr hb0 hb1 hs0 hs1
  go_enter Try.func8, Try.ntmps8
  go_wp2_with fail
  refine HDR.out.mono ?_
  rintro o w1 ⟨rfl, h1, k1⟩
  have HI1 := Lib.hid (HIN.out w1 h1)
  have HK1 := Lib.hid k1
  clear h1 k1 HIN HDR
  go_wp2_with fail
  refine HI1.out.mono ?_
  rintro o w2 ⟨rfl, h2, k2⟩
  have h2d : IdS W X ab a b (N + 2) sets LD L1 w2.drew := h2.below ⟨rfl, rfl, rfl, Nat.le_refl _, fun _ _ => rfl⟩
  have HS2 := Lib.hid (HST.out w2.drew h2d)
  have c1 : w2.cell? ⟨ab, 1, none⟩ = some (.int .i64 b) := h2.most.2
  have HK2 := Lib.hid ((HK1.out.trans k2).trans (Keep.drew w2))
  clear h2 k2 HST HI1 h2d
  go_wp2_with fail
  refine region_tail 12 (by kernel_rfl) (by kernel_rfl) ?_
  simp only [List.take_succ_cons, List.take_zero, List.drop_succ_cons, List.drop_zero]
  repeat still_step
  refine still_tail_nil ?_
  go_wp2_with fail
  refine HS2.out.mono ?_
  rintro o w3 ⟨rfl, h3, k3⟩
  have HS3 : Hid (IdS W (XV X (.slice none 0 0)) ab a b (N + 3) (sets + 1) L1 L1 w3) := h3.belowX (Below.refl _ _) (fun k hk => by
    rcases hk with hk | hk
    · exact ⟨h3.oth k hk, .inl hk⟩
    · cases hk)
  have HK3 := Lib.hid (HK2.out.trans k3)
  obtain ⟨i0, hi, hz0, hz1, hz2⟩ := info_parts infoInt
  clear h3 k3 HS2 HK2 c1 e1 e2
  go_wp2_with fail
  go_loopw [9, 10] (fun cv old wr => ∃ (ph : Bool) (Lc : List Cn) (Nn : Nat) (cs : List Int), Nn ≤ N + 4 ∧ Hid (IdS W (XV X cv) ab a b Nn (sets + 1) Lc Lc wr) ∧ Hid (wr.ownsRow w.heap.size 3 1 cv cs.length (cs.map (Value.int .i64))) ∧ Hid (Keep (fun k => ¬ X k) w wr) ∧ Hid (if ph then putR a L1 nm = (Lc, cs) ∧ ((ofI Lc nm).length : Int) ≤ a else Lc = L1 ∧ cs = [] ∧ cv = .slice none 0 0 ∧ Nn = N + 3)) (fun cv _ _ => phV cv)
  case atStart => exact ⟨false, L1, N + 3, [], by omega, HS3, World.ownsRow_nil _ _ _ _, HK3, rfl, rfl, rfl, rfl⟩
  case round =>
    obtain ⟨ph, Lc, Nn, cs, hNn, hS, hown, hK, hph⟩ := hrel
    clear HS3 HK3
    by_cases hx : ((ofI Lc nm).length : Int) ≤ a
    · have HPR : Hid (putR a L1 nm = (Lc, cs)) := by
        cases ph with
        | false =>
          obtain ⟨rfl, rfl, _, _⟩ := hph.out
          exact if_pos hx
        | true => exact hph.out.1
      have hd : IdS W (XV X u9) ab a b Nn (sets + 1) Lc Lc wr.drew := hS.out.below ⟨rfl, rfl, rfl, Nat.le_refl _, fun _ _ => rfl⟩
      obtain ⟨wmv, sa, sc, c2', lk2, -⟩ := hd.slice HNM.out
      have c2 : wr.cell? ⟨ab, 2, none⟩ = some wmv := c2'
      have c0 := hS.out.most.1
      have HD := Lib.hid hd
      obtain ⟨n, hn⟩ : ∃ n, (ofI Lc nm).length = n := ⟨_, rfl⟩
      rw [hn] at hx lk2
      have hd0 : decide (a < (n : Int)) = false := decide_eq_false (by omega)
      have HNN : Hid (Nn ≤ N + 4) := hNn
      clear hn hph hd c2' hx
      obtain ⟨ua, uc, hu⟩ := own_slice hown.out
      subst hu
      go_wp2_with fail
      refine region_tail 11 (by kernel_rfl) (by kernel_rfl) ?_
      simp only [List.take_succ_cons, List.take_zero, List.drop_succ_cons, List.drop_zero]
      repeat still_step
      refine still_tail_nil ?_
      go_wp2_with fail
      go_ret
      refine ⟨_, rfl, ?_, ?_, hK.out.trans (Keep.drew _)⟩
      · rw [HPR.out]; exact hown.out.drew
      · rw [HPR.out]; exact HD.out.moreN HNN.out
    · obtain rfl : ph = false := by
        cases ph with
        | false => rfl
        | true => exact absurd hph.out.2 hx
      obtain ⟨rfl, rfl, rfl, rfl⟩ := hph.out
      clear hph
      cases hof : ofI Lc nm with
      | nil => rw [hof] at hx; simp at hx; omega
      | cons h r =>
        have hd : IdS W X ab a b (N + 3) (sets + 1) Lc Lc wr.drew := hS.out.belowX ⟨rfl, rfl, rfl, Nat.le_refl _, fun _ _ => rfl⟩ (fun k hk => ⟨hS.out.oth k (.inl hk), .inl (.inl hk)⟩)
        obtain ⟨wmv, sa, sc, c2', lk2, hfx⟩ := hd.slice HNM.out
        obtain ⟨g, rfl, hsc, cg⟩ := hfx h r hof
        have c2 : wr.cell? ⟨ab, 2, none⟩ = some wmv := c2'
        have c0 := hS.out.most.1
        have hwt : waits Lc h = true := by
          obtain ⟨e, he, _, h2⟩ := mem_ofI.1 (show h ∈ ofI Lc nm by rw [hof]; simp)
          exact waits_iff.2 ⟨e, he, h2⟩
        have hhw : KN.ok h := by
          obtain ⟨e, he, _, h2⟩ := mem_ofI.1 (show h ∈ ofI Lc nm by rw [hof]; simp)
          rw [← h2]; exact HG1.out.cok e he
        have hdr := idrop W X ab a b (N + 3) (sets + 1) Lc wr.drew hd HG1.out (by have := HL1.out; omega) (by omega) h hhw
        rw [hwt] at hdr
        have HDR := Lib.hid hdr
        have HPO : Hid (putR a Lc nm = (dropI Lc h, [h]) ∧ ((ofI (dropI Lc h) nm).length : Int) ≤ a) := ⟨by unfold putR; rw [if_neg hx, hof], put_once HCA.out hof⟩
        have hlw : (ofI Lc nm).length ≤ 701 := by
          have h1 : (ofI Lc nm).length ≤ Lc.length := by unfold ofI; rw [List.length_map]; exact List.length_filter_le _ _
          have := HL1.out
          omega
        have hlp : 0 < (ofI Lc nm).length := by rw [hof]; simp
        obtain ⟨n, hn⟩ : ∃ n, (ofI Lc nm).length = n := ⟨_, rfl⟩
        rw [hn] at hx lk2 hsc hlw hlp
        have hd0 : decide (a < (n : Int)) = true := decide_eq_true (by omega)
        have hnp : (0 : Int) < (n : Int) := by omega
        have cg2 : wr.cell? ⟨g, 0, none⟩ = some (.int .i64 h) := cg
        have HKD := Lib.hid (hK.out.trans (Keep.drew (G := fun k => ¬ X k) wr))
        clear hn hd c2' hx cg hof hwt hhw hdr hown
        go_wp2_with fail
        refine region_tail 11 (by kernel_rfl) (by kernel_rfl) ?_
        simp only [List.take_succ_cons, List.take_zero, List.drop_succ_cons, List.drop_zero]
        repeat still_step
        refine still_tail_nil ?_
        go_wp2_with fail
        refine HDR.out.mono ?_
        rintro o w5 ⟨rfl, h5, k5⟩
        have H5 := Lib.hid h5
        have HK5 := Lib.hid (HKD.out.trans k5)
        have HOA : Hid ((w5.alloc (.cells #[.int .i64 h] 3)).ownsRow w5.heap.size 3 1 (.slice none 0 0) 0 []) := World.ownsRow_nil _ _ _ _
        have HCA2 : Hid (∀ (k : Nat) u, [Value.int .i64 h][k]? = some u → (w5.alloc (.cells #[.int .i64 h] 3)).cell? ((⟨w5.heap.size, 0, none⟩ : Addr).add k) = some u) := fun k u hu => by
          rw [Addr.add_mid, Nat.zero_add, (Row.new w5 3 #[.int .i64 h]).cell]
          simpa using hu
        have HON : Hid (∀ u ∈ [Value.int .i64 h], u.oneCell' = true) := by intro u hu; simp at hu; subst hu; rfl
        have HBA : Hid (Below w5.heap.size w5 (w5.alloc (.cells #[.int .i64 h] 3))) := below_alloc _ _
        clear h5 k5 HDR lk2 cg2
        go_wp2_with (at_builtin; refine wpList_append_lies _ rfl _ _ 30 rfl w5.heap.size 3 i0 (.int .i64 0) 1 8 Try.underlying30 hi hz0 hz1 hz2 rfl (by decide) _ _ _ rfl HOA.out ⟨w5.heap.size, 0, none⟩ 1 1 [.int .i64 h] rfl rfl HCA2.out HON.out (by decide) (by decide) (by decide) HBA.out.size _ rfl ?_; intro g6 k6 w6 hown6 hgrow6 hwh6 hlt6)
        have hb6 : Below w5.heap.size w5 w6 := HBA.out.grown hgrow6 HBA.out.size (fun k hk => by cases hk)
        have hg6 : w5.heap.size ≤ g6 := (hown6.lt g6 rfl).1
        go_roundw
        case rel =>
          refine ⟨true, dropI Lc h, N + 4, [h], Nat.le_refl _, ?_, ?_, HK5.out.trans (Keep.of_below hb6), HPO.out⟩
          · exact H5.out.belowX hb6 (fun k hk => by
              rcases hk with hk | hk
              · exact ⟨Nat.lt_of_lt_of_le (H5.out.oth k hk) hb6.size, .inl hk⟩
              · have : g6 = k := by injection hk
                subst this
                exact ⟨hlt6, .inr hg6⟩)
          · exact ownI_base hown6 HK5.out.size
        case measure => exact Nat.zero_lt_one
end Go.Proofs.Ytcdgmhglpcokdaa
