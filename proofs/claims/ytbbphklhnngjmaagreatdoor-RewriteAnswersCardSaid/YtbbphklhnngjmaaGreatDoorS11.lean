/- Packed: HeF, FldO, FldP, LawFldS, FldQ, FewO, FldR, PaA, PaB, PbA. -/
import Derived.BigQuiet
import Derived.OwnWalk
import Derived.Deep.MidRow
import Derived.Laws.AppendOwn
import Derived.Test.YtbbphklhnngjmaaGreatDoorS02
import Derived.Test.YtbbphklhnngjmaaGreatDoorS05
import Derived.Test.YtbbphklhnngjmaaGreatDoorS07
import Derived.Test.YtbbphklhnngjmaaGreatDoorS10
/- request: Head's Feed, Done, Begun, First, Fields at a machine's place. -/
namespace Go.Proofs.YtbbphklhnngjmaaGreatDoor
open Go.RowKit

section
variable {M : HdL} {b : Int} {σ : HdS} {L H C b' st : Int} {f : ByteArray} {fs : List Fld} {sz : Nat} {cur : List UInt8} {cr : Bool} {e : Int}
def HdS.errOf : HdS → Int
  | .err e => e
  | _ => 0
def HdS.begun : HdS → Bool
  | .line (some _) _ _ _ _ => true
  | .done _ _ => true
  | _ => false
def HdS.firstOf : HdS → List UInt8
  | .line (some s) _ _ _ _ => s
  | .done s _ => s
  | _ => []
def HdS.fldsOf : HdS → List Fld
  | .line (some _) fs _ _ _ => fs
  | .done _ fs => fs
  | _ => []
theorem he_done (h : HeRep M b σ L H C b' st f fs sz cur cr e) : (st == 2) = σ.fin := by cases h <;> rfl
theorem he_begun (h : HeRep M b σ L H C b' st f fs sz cur cr e) : ((st == 1) || (st == 2)) = σ.begun := by cases h <;> rfl
theorem he_first (h : HeRep M b σ L H C b' st f fs sz cur cr e) : f = bs σ.firstOf := by cases h <;> rfl
theorem he_flds (h : HeRep M b σ L H C b' st f fs sz cur cr e) : fs = σ.fldsOf := by cases h <;> rfl
theorem he_fin {s : List UInt8} {fl : List Fld} (h : HeRep M b (.done s fl) L H C b' st f fs sz cur cr e) : st = 2 := by cases h; rfl
theorem he_err {e0 : Int} (h : HeRep M b (.err e0) L H C b' st f fs sz cur cr e) : st = 3 ∧ e = e0 := by cases h; exact ⟨rfl, rfl⟩
theorem he_on (h : HeRep M b σ L H C b' st f fs sz cur cr e) (hh : σ.halt = false) : (st != 2) = true ∧ (st != 3) = true ∧ (st == 3) = false := by
  cases h with
  | done s fs sz => cases hh
  | err e h0 => cases hh
  | _ => exact ⟨rfl, rfl, rfl⟩
end
theorem he_three (σ : HdS) : (∃ s fl, σ = .done s fl) ∨ (∃ e, σ = .err e) ∨ σ.halt = false := by
  cases σ with
  | done s fl => exact .inl ⟨s, fl, rfl⟩
  | err e => exact .inr (.inl ⟨e, rfl⟩)
  | line a b c d e => exact .inr (.inr rfl)
theorem halt_fin {σ : HdS} (h : σ.halt = false) : σ.fin = false := by cases σ <;> first | rfl | cases h
theorem halt_err {σ : HdS} (h : σ.halt = false) : σ.errOf = 0 := by cases σ <;> first | rfl | cases h
abbrev hRun (M : HdL) (σ : HdS) (l : List UInt8) : HdS := hdRun M anyFirst σ l
abbrev hLeft (M : HdL) (σ : HdS) (l : List UInt8) : List UInt8 := hdLeft M anyFirst σ l
def strOfH : Value → ByteArray
  | .string s => s
  | _ => ⟨#[]⟩
section
variable (G : Nat → Prop) (T : TypeId) (rest : List Value) (g : Nat) (M : HdL) (b : Int) (σ : HdS)
theorem hdoneS (w : World) (h : HeS G T rest w g M b σ) :
    Calls Tryz.prog 92 #[.pointer (some ⟨g, 0, none⟩)] w fun x w' => x = .returned (.bool σ.fin) ∧ w = w' := by
  obtain ⟨L, H, C, b', st, f, fs, sz, cur, cr, e, hr, hd⟩ := h
  exact hdone9 G T rest g _ _ _ _ _ _ _ _ _ _ _ _ (he_done hr) w hd
theorem hbegunS (w : World) (h : HeS G T rest w g M b σ) :
    Calls Tryz.prog 90 #[.pointer (some ⟨g, 0, none⟩)] w fun x w' => x = .returned (.bool σ.begun) ∧ w = w' := by
  obtain ⟨L, H, C, b', st, f, fs, sz, cur, cr, e, hr, hd⟩ := h
  rw [← he_begun hr]
  exact hbegun12 G T rest g _ _ _ _ _ _ _ _ _ _ _ _ _ rfl rfl w hd
theorem hfirstS (w : World) (h : HeS G T rest w g M b σ) :
    Calls Tryz.prog 114 #[.pointer (some ⟨g, 0, none⟩)] w fun x w' => x = .returned (.string (bs σ.firstOf)) ∧ w = w' := by
  obtain ⟨L, H, C, b', st, f, fs, sz, cur, cr, e, hr, hd⟩ := h
  rw [← he_first hr]
  exact hfirst13 G T rest g _ _ _ _ _ _ _ _ _ _ _ w hd
/-- What Feed comes to. -/
def HFeedTo (w : World) (l : List UInt8) (r : Ending) (w' : World) : Prop :=
  r = .returned (.tuple #[.string (bs (if (hRun M σ l).errOf = 0 then hLeft M σ l else [])), .int .i64 (hRun M σ l).errOf]) ∧ HeS G T rest w' g M b (hRun M σ l) ∧ Keep G w w'
end
theorem rep_errNe {M : HdL} {b : Int} {e0 : Int} {L H C b' st : Int} {f : ByteArray} {fs : List Fld} {sz : Nat} {cur : List UInt8} {cr : Bool} {e : Int} (h : HeRep M b (.err e0) L H C b' st f fs sz cur cr e) : e0 ≠ 0 := by cases h; assumption
set_option maxRecDepth 100000 in
set_option maxHeartbeats 4000000 in
theorem hfeed10 (G : Nat → Prop) (T : TypeId) (rest : List Value) (g : Nat) (M : HdL) (b : Int) (σ : HdS) (l : List UInt8) (hbd : σ.wt + 4 * l.length ≤ 1000000000) (w : World) (h : HeS G T rest w g M b σ) (hu : Up G w) (hM : ∀ w', Keep G w w' → MaxL w') :
    Calls Tryz.prog 112 #[.pointer (some ⟨g, 0, none⟩), .string (bs l)] w (HFeedTo G T rest g M b σ w l) := by
  have H0 := Lib.hid h
  have HU := Lib.hid hu
  have HY := Lib.hid hM
  have HBD := Lib.hid hbd
  have HK0 := Lib.hid (Keep.refl G w)
  clear h hu hM hbd
  obtain ⟨S, hS⟩ : ∃ S, S = bs l := ⟨_, rfl⟩
  rw [← hS]
  have HS := Lib.hid hS
  clear hS
  go_enter Tryz.func112, Tryz.ntmps112
  go_wp2_with fail
  go_loopw [1] (fun sv wr => ∃ (s : ByteArray) (σ' : HdS), sv = .string s ∧ Hid (HeS G T rest wr g M b σ') ∧ Hid (Keep G w wr) ∧ Hid (hRun M σ l = hRun M σ' s.data.toList ∧ ((hRun M σ l).errOf = 0 → hLeft M σ l = hLeft M σ' s.data.toList) ∧ σ'.wt + 4 * s.data.toList.length ≤ 1000000000)) (fun sv _ => (strOfH sv).size)
  case atStart => exact ⟨S, σ, rfl, H0, HK0, by rw [HS.out]; exact ⟨rfl, fun _ => rfl, HBD.out⟩⟩
  case round =>
    clear H0 HK0 HBD
    obtain ⟨s, σ', rfl, HD, HK, HR⟩ := hrel
    obtain ⟨L, H, C, b', st, f, fs, sz, cur, cr, e, hr, hdc⟩ := HD.out
    obtain ⟨rv, ln, hda⟩ := hdc
    have c4 := hda.c.2.2.2.2.1
    have c10 := hda.c.2.2.2.2.2.2.2.2.2.2
    have HREP := Lib.hid hr
    clear hda
    have FT : ∀ (v : ByteArray) (q : Int), (v = bs (if (hRun M σ' s.data.toList).errOf = 0 then hLeft M σ' s.data.toList else [])) → q = (hRun M σ' s.data.toList).errOf → ∀ wz, HeS G T rest wz g M b (hRun M σ' s.data.toList) → Keep G wr wz → HFeedTo G T rest g M b σ w l (.returned (.tuple #[.string v, .int .i64 q])) wz := by
      rintro v q rfl rfl wz h hk
      obtain ⟨r1, r2, _⟩ := HR.out
      unfold HFeedTo
      rw [r1]
      rw [r1] at r2
      refine ⟨?_, h, HK.out.trans hk⟩
      by_cases he : (hRun M σ' s.data.toList).errOf = 0
      · rw [if_pos he, if_pos he, r2 he]
      · rw [if_neg he, if_neg he]
    have HFT := Lib.hid FT
    clear FT
    have DN : ∀ k, Below wr.heap.size wr (wr.drewN k) := fun k => ⟨rfl, rfl, rfl, Nat.le_refl _, fun _ _ => rfl⟩
    have HDN := Lib.hid DN
    clear DN
    rcases he_three σ' with ⟨s0, fl, rfl⟩ | ⟨e0, rfl⟩ | hh
    · obtain rfl := he_fin hr
      clear hr
      have hrun : hRun M (.done s0 fl) s.data.toList = .done s0 fl := mRun_fin _ _ (hd_fin M anyFirst) _ rfl _
      have FX := Lib.hid (HFT.out s 0 (by rw [hrun]; show _ = bs (if (0 : Int) = 0 then _ else _); rw [if_pos rfl]; show _ = bs (mLeft _ _ _ _); rw [mLeft_fin _ _ _ _ rfl, bs_of]) (by rw [hrun]; rfl) wr (by rw [hrun]; exact HD.out) (Keep.refl G wr))
      clear HFT hrun
      by_cases hne : 0 < s.size
      · have e1 := emp_false s hne
        go_wp2_with fail
        go_ret2
        exact FX.out
      · obtain rfl := empty_of s hne
        go_wp2_with fail
        go_ret2
        exact FX.out
    · have hne0 := rep_errNe hr
      obtain ⟨rfl, rfl⟩ := he_err hr
      clear hr
      have FX := Lib.hid (fun k => HFT.out ⟨#[]⟩ e (by rw [show hRun M (.err e) s.data.toList = .err e from hdRun_err M anyFirst e _]; show _ = bs (if e = 0 then _ else _); rw [if_neg hne0]; rfl) (by rw [show hRun M (.err e) s.data.toList = .err e from hdRun_err M anyFirst e _]; rfl) (wr.drewN k) (by rw [show hRun M (.err e) s.data.toList = .err e from hdRun_err M anyFirst e _]; exact HD.out.below (HDN.out k)) (.of_below (HDN.out k)))
      clear HFT hne0
      by_cases hne : 0 < s.size
      · have e1 := emp_false s hne
        go_wp2_with fail
        go_quiet (fail)
        go_wp2_with fail
        go_ret2
        exact FX.out _
      · obtain rfl := empty_of s hne
        go_wp2_with fail
        go_quiet (fail)
        go_wp2_with fail
        go_ret2
        exact FX.out _
    · obtain ⟨t5, t6, t6'⟩ := he_on hr hh
      by_cases hne : 0 < s.size
      · have e1 := emp_false s hne
        have hcons := list_cons s hne
        obtain ⟨x, hx⟩ : ∃ x, x = s[0] := ⟨_, rfl⟩
        rw [← hx] at hcons
        obtain ⟨s9, hs9⟩ : ∃ s9, s9 = s.extract 1 s.size := ⟨_, rfl⟩
        have hex : s.extract 1 s.size = s9 := hs9.symm
        rw [hex] at hcons
        have hz9 : s9.size + 1 = s.size := by rw [Lib.size_eq, Lib.size_eq s, hcons]; rfl
        obtain ⟨r1, r2, r3⟩ := HR.out
        rw [hcons, List.length_cons] at r3
        have hsx : (s[0].toNat : Int) = x.toNat := by rw [hx]
        have HST := Lib.hid (htake_s G T rest g M b σ' hh (by omega) x wr HD.out (HU.out.keep HK.out) (fun w' hk => HY.out w' (HK.out.trans hk)))
        have HN : Hid (hRun M σ l = hRun M (M.step anyFirst σ' x) s9.data.toList ∧ ((hRun M σ l).errOf = 0 → hLeft M σ l = hLeft M (M.step anyFirst σ' x) s9.data.toList) ∧ (M.step anyFirst σ' x).wt + 4 * s9.data.toList.length ≤ 1000000000) := by
          have hw := wt_step M σ' x
          refine ⟨?_, ?_, by omega⟩
          · rw [r1, hcons]; exact mRun_cons ..
          · intro h0
            rw [r2 h0, hcons]
            exact mLeft_cons _ _ _ _ _ (halt_fin hh)
        clear hr hh hcons hx hs9 r1 r2 r3 HFT t6' HD HREP
        go_wp2_with fail
        refine HST.out.mono ?_
        rintro r9 w9 ⟨rfl, hd9, hk9⟩
        have HD9 := Lib.hid hd9
        have HK9 := Lib.hid (HK.out.trans hk9)
        clear hd9 hk9 HST
        go_wp2_with fail
        go_roundw
        case rel => exact ⟨s9, _, rfl, HD9, HK9, HN⟩
        case measure => show s9.size < s.size; omega
      · obtain rfl := empty_of s hne
        have hrun : hRun M σ' (⟨#[]⟩ : ByteArray).data.toList = σ' := rfl
        have FX := Lib.hid (fun k => HFT.out ⟨#[]⟩ 0 (by rw [hrun, halt_err hh]; show _ = bs (if (0 : Int) = 0 then _ else _); rw [if_pos rfl]; rfl) (by rw [hrun, halt_err hh]) (wr.drewN k) (by rw [hrun]; exact HD.out.below (HDN.out k)) (.of_below (HDN.out k)))
        have FX0 := Lib.hid (HFT.out ⟨#[]⟩ 0 (by rw [hrun, halt_err hh]; show _ = bs (if (0 : Int) = 0 then _ else _); rw [if_pos rfl]; rfl) (by rw [hrun, halt_err hh]) wr (by rw [hrun]; exact HD.out) (Keep.refl G wr))
        clear HFT hr hh hrun
        go_wp2_with fail
        go_ret2
        first | exact FX0.out | exact FX.out _
end Go.Proofs.YtbbphklhnngjmaaGreatDoor

/- stewardlaw06.Few. -/
namespace Go.Proofs.YtbbphklhnngjmaaGreatDoor
open Go.RowKit

theorem infoRef : (Tryz.prog.info? 53).map (fun i => (i.zero, i.size, i.bytes)) = some (some (.agg #[.string ⟨#[]⟩, .string ⟨#[]⟩]), 2, 32) := by kernel_rfl
/-- The first few fields, cut. -/
def fewF (fs : List Fld) (n : Nat) : List Fld := (fs.take n).map fun f => (f.1.take 20, f.2.take 40)
theorem fewF_step {fs : List Fld} {j : Nat} (hj : j < fs.length) : cellsF (fewF fs (j + 1)) = cellsF (fewF fs j) ++ [.string (bs (fs[j].1.take 20)), .string (bs (fs[j].2.take 40))] := by
  unfold fewF
  rw [List.take_add_one, List.getElem?_eq_getElem hj, Option.toList_some, List.map_append, cellsF_append]
  rfl
/-- What holds while the region runs. -/
structure FewS (w0 : World) (v5 : Value) (k : Nat) (xs : List Value) (N V : ByteArray) (L : Nat → Bool) (x : Nat → Value) (w : World) : Prop where
  bel : Below w0.heap.size w0 w
  own : L 15 = false → w.ownsRow w0.heap.size 53 2 v5 k xs
  p14 : L 14 = true → L 15 = false → ∃ b, x 14 = .slice (some ⟨b, 0, none⟩) 1 1 ∧ ∀ (k : Nat) u, [Value.string N, .string V][k]? = some u → w.cell? ((⟨b, 0, none⟩ : Addr).add k) = some u
  p15 : L 15 = true → L 14 = true ∧ w.ownsRow w0.heap.size 53 2 (x 15) (k + 1) (xs ++ [.string N, .string V])
theorem FewS.keep {w0 : World} {v5 : Value} {k : Nat} {xs : List Value} {N V : ByteArray} {L : Nat → Bool} {x : Nat → Value} {w : World} (h : FewS w0 v5 k xs N V L x w) (i : Nat) (u : Value) (h14 : i ≠ 14) (h15 : i ≠ 15) : FewS w0 v5 k xs N V (setL L i) (updV x i u) w := by
  refine ⟨h.bel, fun e => h.own ?_, fun e e2 => ?_, fun e => ?_⟩
  · simpa only [setL, if_neg (Ne.symm h15)] using e
  · simp only [setL, if_neg (Ne.symm h14)] at e; simp only [setL, if_neg (Ne.symm h15)] at e2; simp only [updV, if_neg (Ne.symm h14)]; exact h.p14 e e2
  · simp only [setL, if_neg (Ne.symm h15)] at e; simp only [updV, if_neg (Ne.symm h15)]; exact ⟨by simp only [setL]; split; rfl; exact (h.p15 e).1, (h.p15 e).2⟩
set_option maxHeartbeats 4000000 in
set_option maxRecDepth 100000 in
theorem few39 (a : Option Addr) (c : Nat) (fs : List Fld) (n : Nat) (hn : n ≤ 1000) (hfl : fs.length ≤ 9223372036854775807) (w : World) (hf : IsFlds w a c fs) :
    Calls Tryz.prog 9 #[.slice a fs.length c, .int .i64 n] w fun e w' => ∃ u, e = .returned u ∧ w'.ownsRow w.heap.size 53 2 u (fewF fs n).length (cellsF (fewF fs n)) ∧ Below w.heap.size w w' := by
  obtain ⟨i0, hi, hz0, hz1, hz2⟩ := info_parts infoRef
  have HFF := Lib.hid hf
  clear hf
  have hdone : ∀ j, j ≤ n → j ≤ fs.length → (¬ j < n ∨ ¬ j < fs.length) → fewF fs j = fewF fs n := fun j h1 h2 h3 => by
    unfold fewF
    rcases h3 with h | h
    · rw [show j = n by omega]
    · rw [List.take_of_length_le (by omega), List.take_of_length_le (by omega)]
  have HDN := Lib.hid hdone
  clear hdone
  go_enter Tryz.func9, Tryz.ntmps9
  go_wp2_with fail
  go_loopw [5, 6] (fun v i wr => ∃ j : Nat, j ≤ n ∧ j ≤ fs.length ∧ i = .int .i64 (j : Int) ∧ Hid ((fewF fs j).length = j) ∧ Hid (wr.ownsRow w.heap.size 53 2 v j (cellsF (fewF fs j))) ∧ Hid (Below w.heap.size w wr)) (fun _ i _ => n - (intOf i).toNat)
  case atStart => exact ⟨0, Nat.zero_le _, Nat.zero_le _, rfl, by simp [Hid, fewF], World.ownsRow_nil _ _ _ _, Below.refl _ _⟩
  case round =>
    obtain ⟨j, hjn, hj, rfl, hlen, ho, hb⟩ := hrel
    by_cases hlt : j < fs.length
    · have j1 : (j : Int) < fs.length := by omega
      by_cases hnt : j < n
      · have j2 : (j : Int) < n := by omega
        obtain h0 | ⟨bk, o, rfl, hbk, hc, hcell⟩ := HFF.out
        · subst h0; simp at hlt
        obtain ⟨c1, c2⟩ := hcell j fs[j] (by simp [hlt])
        have hst := Lib.hid (fewF_step hlt)
        have hln : Hid ((fewF fs (j + 1)).length = j + 1) := by show _ = _; unfold fewF; simp; omega
        obtain ⟨f, hfe⟩ : ∃ f, f = fs[j] := ⟨_, rfl⟩
        rw [← hfe] at c1 c2 hst
        clear hcell hfe
        have HCX : Hid (∀ W, Calls Tryz.prog 8 #[.string (bs f.1), .int .i64 20] W fun e w' => e = .returned (.string (bs (f.1.take 20))) ∧ W = w') := fun W => cut11 (bs f.1) 20 W
        have HCY : Hid (∀ W, Calls Tryz.prog 8 #[.string (bs f.2), .int .i64 40] W fun e w' => e = .returned (.string (bs (f.2.take 40))) ∧ W = w') := fun W => cut11 (bs f.2) 40 W
        generalize bs (f.1.take 20) = N at *
        generalize bs (f.2.take 40) = V at *
        generalize bs f.1 = X at *
        generalize bs f.2 = Y at *
        generalize cellsF (fewF fs j) = xs at *
        go_wp2_with fail
        refine region_mixt 16 [some (u5), some (.slice (some ⟨bk, o, none⟩) fs.length c), some (.int .i64 (j : Int)), some (.pointer (some ⟨bk, o + j * 2, none⟩)), some (.pointer (some ⟨bk, o + j * 2, none⟩)), some (.string X), some (.string N), some (.slice (some ⟨bk, o, none⟩) fs.length c), some (.int .i64 (j : Int)), some (.pointer (some ⟨bk, o + j * 2, none⟩)), some (.pointer (some ⟨bk, o + j * 2 + 1, none⟩)), some (.string Y), some (.string V), some (.agg #[.string N, .string V]), none, none]
          [[false, false, false, false, false, false, false, false, false, false, false, false, false, false, false, false], [false, false, false, false, false, false, false, false, false, false, false, false, false, false, false, false], [false, false, false, false, false, false, false, false, false, false, false, false, false, false, false, false], [false, true, true, false, false, false, false, false, false, false, false, false, false, false, false, false], [false, false, false, true, false, false, false, false, false, false, false, false, false, false, false, false], [false, false, false, false, true, false, false, false, false, false, false, false, false, false, false, false], [false, false, false, false, false, true, false, false, false, false, false, false, false, false, false, false], [false, false, false, false, false, false, false, false, false, false, false, false, false, false, false, false], [false, false, false, false, false, false, false, false, false, false, false, false, false, false, false, false], [false, false, false, false, false, false, false, true, true, false, false, false, false, false, false, false], [false, false, false, false, false, false, false, false, false, true, false, false, false, false, false, false], [false, false, false, false, false, false, false, false, false, false, true, false, false, false, false, false], [false, false, false, false, false, false, true, false, false, false, false, true, false, false, false, false], [false, false, false, false, false, false, true, false, false, false, false, false, true, false, false, false], [false, false, false, false, false, false, false, false, false, false, false, false, false, true, false, false], [true, false, false, false, false, false, false, false, false, false, false, false, true, false, true, false]]
          (fun L x w1 => FewS w u5 j xs N V L x w1)
          (by kernel_rfl) (by kernel_rfl) (by kernel_rfl) (by kernel_rfl) (by kernel_rfl) (by decide) ?_ ?_ ?_
        · intro _
          exact ⟨hb.out.drew, fun _ => ho.out.drew, fun h => (by cases h), fun h => (by cases h)⟩
        · simp only [List.take_succ_cons, List.take_zero]
          refine ⟨?_, ?_, ?_, ?_, ?_, ?_, ?_, ?_, ?_, ?_, ?_, ?_, ?_, ?_, ?_, ?_, trivial⟩
          all_goals
            intro L x w9 hS hl hp K hK
            have hs : FewS w u5 j xs N V L x w9 := hS
            clear hS ho hb
            have r1 : w9.cell? ⟨bk, o + j * 2, none⟩ = some (.string X) := by rw [(bcell hs.bel).1 _ _ hbk]; exact c1
            have r2 : w9.cell? ⟨bk, o + j * 2 + 1, none⟩ = some (.string Y) := by rw [(bcell hs.bel).1 _ _ hbk]; exact c2
            replace hK := hK.out
            simp only [actMix, pickV, List.tail_cons, List.headD_cons, Act.put, List.setIfInBounds_toArray, List.set_cons_zero, List.set_cons_succ] at hK ⊢
          iterate 6
            · clear hp
              go_simp
              with_reducible refine hK _ ?_
              exact hs.keep _ _ (by decide) (by decide)
          · clear hp
            go_simp
            refine (HCX.out _).mono ?_
            rintro e w' ⟨rfl, rfl⟩
            with_reducible refine hK _ ?_
            exact hs.keep _ _ (by decide) (by decide)
          iterate 5
            · clear hp
              go_simp
              with_reducible refine hK _ ?_
              exact hs.keep _ _ (by decide) (by decide)
          · clear hp
            go_simp
            refine (HCY.out _).mono ?_
            rintro e w' ⟨rfl, rfl⟩
            with_reducible refine hK _ ?_
            exact hs.keep _ _ (by decide) (by decide)
          · clear hp
            go_simp
            with_reducible refine hK _ ?_
            exact hs.keep _ _ (by decide) (by decide)
          · have h15 : L 15 = false := by
              cases h : L 15 with
              | false => rfl
              | true => have := (hs.p15 h).1; rw [hl] at this; cases this
            clear hp
            go_simp
            with_reducible refine hK _ _ ?_
            have hs9 := hs.bel.size
            refine ⟨hs.bel.alloc hs9 _, fun e => (hs.own h15).alloc _, fun _ _ => ⟨w9.heap.size, by simp [updV], cells_new1 w9 N V _⟩, fun h => ?_⟩
            simp [setL, h15] at h
          · have h14 : L 14 = true := allL_mem hp 14 (by decide +kernel)
            obtain ⟨b9, hx9, hc9⟩ := hs.p14 h14 hl
            have ho9 := hs.own hl
            have hs9 := hs.bel.size
            clear hp
            rw [hx9] at hK ⊢
            rw [if_pos (by rfl)]
            refine wp_append_own _ _ _ 22 rfl w.heap.size 53 i0 (.agg #[.string ⟨#[]⟩, .string ⟨#[]⟩]) 2 32 Tryz.underlying22 hi hz0 hz1 hz2 rfl (by decide) _ _ _ rfl ho9 ⟨b9, 0, none⟩ 1 1 [.string N, .string V] rfl rfl hc9 (by intro u hu; simp at hu; rcases hu with rfl | rfl <;> rfl) (by unfold maxLen; omega) (by omega) hs9 ?_
            intro v' w1 hown1 hgrow _
            have hb1 : Below w.heap.size w w1 := hs.bel.grown hgrow hs9 (fun k hk => (ho9.lt k hk).1)
            simp only [Act.put, List.setIfInBounds_toArray, List.set_cons_zero, List.set_cons_succ]
            with_reducible refine hK _ _ ?_
            refine ⟨hb1, fun h => ?_, fun _ h => ?_, fun _ => ⟨by simp [setL, h14], by simpa [updV] using hown1⟩⟩
            · simp [setL] at h
            · simp [setL] at h
        intro L x w9 hS hL
        have hs : FewS w u5 j xs N V L x w9 := hS
        have ho9 := (hs.p15 (hL 15 (by decide))).2
        rw [← hst.out] at ho9
        have HO9 := Lib.hid ho9
        have HB9 := Lib.hid hs.bel
        clear hS hL hs ho9 ho hb
        simp only [actMix, pickV, List.tail_cons, List.headD_cons, Act.put, List.setIfInBounds_toArray, List.set_cons_zero, List.set_cons_succ, List.replicate_succ, List.replicate_zero, List.drop_succ_cons, List.drop_zero, List.take_succ_cons, List.take_zero]
        generalize x 15 = v6 at *
        go_wp2_with fail
        go_roundw
        case rel => exact ⟨j + 1, by omega, by omega, by go_num, hln, HO9, HB9⟩
        case measure => simp [intOf]; omega
      · have hd := HDN.out j hjn hj (.inl hnt)
        rw [hd] at ho hlen
        have hle := hlen.out
        have hne : ¬ ((j : Int) < n) := by omega
        go_wp2_with fail
        go_ret
        exact ⟨_, rfl, ho.out, hb.out⟩
    · have hd := HDN.out j hjn hj (.inr hlt)
      rw [hd] at ho hlen
      have hle := hlen.out
      have hne : ¬ ((j : Int) < fs.length) := by omega
      go_wp2_with fail
      go_ret
      exact ⟨_, rfl, ho.out, hb.out⟩
end Go.Proofs.YtbbphklhnngjmaaGreatDoor

/- fields: slices.Equal, Same. -/
namespace Go.Proofs.YtbbphklhnngjmaaGreatDoor
open Go.RowKit

theorem self_strP (T : ByteArray) : (T.toList == T.toList) = true := by simp
theorem bs_inj {a b : List UInt8} (h : bs a = bs b) : a = b := by rw [← bs_list a, h, bs_list]
theorem bs_beq (a b : List UInt8) : ((bs a).toList == (bs b).toList) = decide (a = b) := by
  rw [str_beq]
  by_cases h : a = b
  · subst h; simp
  · rw [decide_eq_false h, decide_eq_false (fun e => h (bs_inj e))]
theorem takeF_step (xs ys : List Fld) (j : Nat) (hx : j < xs.length) (hy : j < ys.length) (h : xs.take j = ys.take j) (he : xs[j] = ys[j]) : xs.take (j + 1) = ys.take (j + 1) := by
  rw [List.take_add_one, List.take_add_one, h, List.getElem?_eq_getElem hx, List.getElem?_eq_getElem hy, he]
end Go.Proofs.YtbbphklhnngjmaaGreatDoor

/- The walk of the statement FieldsSame. -/
namespace Go.Proofs.YtbbphklhnngjmaaGreatDoor
open Go.RowKit

theorem own_isFldsT {w : World} {base : Nat} {T : TypeId} {v : Value} {fs : List Fld} (h : w.ownsRow base T 2 v fs.length (cellsF fs)) : ∃ a c, v = .slice a fs.length c ∧ (a = none → c = 0 ∧ fs = []) ∧ IsFlds w a c fs := by
  obtain ⟨_, ⟨rfl, h0⟩ | ⟨g, cap, cur, rfl, _, hg, hcap, _, hcs, htk⟩⟩ := h
  · obtain rfl : fs = [] := List.eq_nil_of_length_eq_zero h0
    exact ⟨none, 0, rfl, fun _ => ⟨rfl, rfl⟩, .inl rfl⟩
  · refine ⟨some ⟨g, 0, none⟩, cap, rfl, (fun h => by cases h), .inr ⟨g, 0, rfl, (Array.getElem?_eq_some_iff.1 hg).1, hcap, fun j f hf => ?_⟩⟩
    obtain ⟨g1, g2⟩ := cellsF_at fs j f hf
    have hj := (List.getElem?_eq_some_iff.1 hf).1
    rw [← htk, List.getElem?_take, if_pos (by omega)] at g1 g2
    rw [Nat.zero_add]
    simp only [Array.getElem?_toList] at g1 g2
    exact ⟨by simp [World.cell?, hg, g1], by simp [World.cell?, hg, g2]⟩
theorem fewF_length (fs : List Fld) (n : Nat) : (fewF fs n).length ≤ n := by
  unfold fewF; simp; omega
theorem few39s (a : Option Addr) (c : Nat) (fs : List Fld) (n : Nat) (hn : n ≤ 1000) (hfl : fs.length ≤ 9223372036854775807) (w : World) (hf : IsFlds w a c fs) :
    Calls Tryz.prog 9 #[.slice a fs.length c, .int .i64 n] w fun e w' => ∃ b d, e = .returned (.slice b (fewF fs n).length d) ∧ (b = none → d = 0 ∧ fewF fs n = []) ∧ IsFlds w' b d (fewF fs n) ∧ Below w.heap.size w w' := by
  refine (few39 a c fs n hn hfl w hf).mono ?_
  rintro e w' ⟨u, rfl, ho, hb⟩
  obtain ⟨b, d, rfl, h1, h2⟩ := own_isFldsT ho
  exact ⟨b, d, rfl, h1, h2, hb⟩
theorem own40s (a : Option Addr) (c : Nat) (fs : List Fld) (hfl : fs.length ≤ 1000000) (w : World) (hf : IsFlds w a c fs) :
    Calls Tryz.prog 36 #[.slice a fs.length c] w fun e w' => ∃ b d, e = .returned (.slice b fs.length d) ∧ IsFlds w' b d fs ∧ Below w.heap.size w w' := by
  refine (own40 a c fs hfl w hf).mono ?_
  rintro e w' ⟨u, rfl, ho, hb⟩
  obtain ⟨b, d, rfl, _, h2⟩ := own_isFldsT ho
  exact ⟨b, d, rfl, h2, hb⟩
end Go.Proofs.YtbbphklhnngjmaaGreatDoor

/- The reference's Is and Drop; the law's Is. -/
namespace Go.Proofs.YtbbphklhnngjmaaGreatDoor
open Go.RowKit

/-- Has the field this name? -/
def isB (x : ByteArray) (f : Fld) : Bool := decide (f.1.map lowC = x.data.toList.map lowC)
set_option maxRecDepth 100000 in
set_option maxHeartbeats 2000000 in
theorem is70 (f : Fld) (x : ByteArray) (h1 : f.1.length ≤ 4000000000) (hx : x.size ≤ 4000000000) (q : Bool) (hq : q = isB x f) (w : World) :
    Calls Tryz.prog 56 #[.agg #[.string (bs f.1), .string (bs f.2)], .string x] w fun e w' => e = .returned (.bool q) ∧ Below w.heap.size w w' := by
  have HL1 := Lib.hid (fun W => lower21 (bs f.1) (by rw [bs_size]; omega) W)
  have HL2 := Lib.hid (fun W => lower21 x (by omega) W)
  have hcmp : ((⟨((bs f.1).data.toList.map lowC).toArray⟩ : ByteArray).toList == (⟨(x.data.toList.map lowC).toArray⟩ : ByteArray).toList) = q := by
    rw [hq]
    exact bs_beq (f.1.map lowC) (x.data.toList.map lowC)
  have L0 := below_alloc w (.cells #[.string (bs f.1), .string (bs f.2)] 53)
  have c0 : (w.alloc (.cells #[.string (bs f.1), .string (bs f.2)] 53)).cell? ⟨w.heap.size, 0, none⟩ = some (.string (bs f.1)) := by simp
  clear hq
  generalize (⟨((bs f.1).data.toList.map lowC).toArray⟩ : ByteArray) = P at *
  generalize (⟨(x.data.toList.map lowC).toArray⟩ : ByteArray) = Q at *
  generalize bs f.1 = N at *
  generalize bs f.2 = V at *
  go_enter Tryz.func56, Tryz.ntmps56
  go_wp2_with fail
  generalize World.alloc w _ = w0 at *
  refine (HL1.out w0).mono ?_
  rintro e w1 ⟨rfl, hb1⟩
  have b1 := L0.trans (hb1.mono L0.size)
  go_wp2_with fail
  refine (HL2.out w1).mono ?_
  rintro e w2 ⟨rfl, hb2⟩
  have b2 := b1.trans (hb2.mono b1.size)
  go_wp2_with fail
  go_ret
  exact ⟨rfl, b2⟩
def dropR (x : ByteArray) (fs : List Fld) : List Fld := fs.filter fun f => !isB x f
theorem dropR_step {x : ByteArray} {fs : List Fld} {j : Nat} (hj : j < fs.length) : dropR x (fs.take (j + 1)) = dropR x (fs.take j) ++ if isB x fs[j] = true then [] else [fs[j]] := by
  unfold dropR
  rw [List.take_add_one, List.getElem?_eq_getElem hj, Option.toList_some, List.filter_append]
  congr 1
  cases h : isB x fs[j] <;> simp [h]
theorem dropR_len (x : ByteArray) (fs : List Fld) : (dropR x fs).length ≤ fs.length := List.length_filter_le _ _
set_option maxHeartbeats 4000000 in
set_option maxRecDepth 100000 in
theorem drop54 (a : Option Addr) (c : Nat) (fs : List Fld) (x : ByteArray) (hfl : fs.length ≤ 1000000) (hok : ∀ f ∈ fs, FldOk f) (hx : x.size ≤ 4000000000) (w : World) (hf : IsFlds w a c fs) :
    Calls Tryz.prog 20 #[.slice a fs.length c, .string x] w fun e w' => ∃ u, e = .returned u ∧ w'.ownsRow w.heap.size 53 2 u (dropR x fs).length (cellsF (dropR x fs)) ∧ Below w.heap.size w w' := by
  obtain ⟨i0, hi, hz0, hz1, hz2⟩ := info_parts infoRef
  have HFF := Lib.hid hf
  have HOK := Lib.hid hok
  clear hf hok
  have L0 := Lib.hid (below_alloc w (.cells #[] 53))
  have O0 : Hid ((w.alloc (.cells #[] 53)).ownsRow w.heap.size 53 2 (.slice (some ⟨w.heap.size, 0, none⟩) 0 0) (dropR x (fs.take 0)).length (cellsF (dropR x (fs.take 0)))) := World.ownsRow_lit w #[] 0 (Nat.le_refl _) (by decide) (by simp)
  go_enter Tryz.func20, Tryz.ntmps20
  go_wp2_with fail
  go_loopw [5, 11] (fun v i wr => ∃ j : Nat, j ≤ fs.length ∧ i = .int .i64 (j : Int) ∧ Hid (wr.ownsRow w.heap.size 53 2 v (dropR x (fs.take j)).length (cellsF (dropR x (fs.take j)))) ∧ Hid (Below w.heap.size w wr)) (fun _ i _ => fs.length - (intOf i).toNat)
  case atStart => exact ⟨0, Nat.zero_le _, rfl, O0, L0⟩
  case round =>
    clear O0 L0
    obtain ⟨j, hj, rfl, ho, hb⟩ := hrel
    by_cases hlt : j < fs.length
    · obtain h0 | ⟨bk, o, rfl, hbk, hc, hcell⟩ := HFF.out.below hb.out
      · subst h0; simp at hlt
      obtain ⟨c1, c2⟩ := hcell j fs[j] (by simp [hlt])
      have hst := dropR_step (x := x) hlt
      have hok := HOK.out fs[j] (List.getElem_mem hlt)
      have hdl := dropR_len x (fs.take j)
      rw [List.length_take] at hdl
      obtain ⟨q, hq⟩ : ∃ q, q = isB x fs[j] := ⟨_, rfl⟩
      have HI := Lib.hid (fun W => is70 fs[j] x hok.1 hx q hq W)
      rw [← hq] at hst
      obtain ⟨f, hfe⟩ : ∃ f, f = fs[j] := ⟨_, rfl⟩
      rw [← hfe] at c1 c2 hst HI
      have HST := Lib.hid hst
      clear hcell hfe hq hst hok
      have j1 : (j : Int) < fs.length := by omega
      have hce : cellsF [f] = [.string (bs f.1), .string (bs f.2)] := rfl
      have HCE := Lib.hid hce
      clear hce
      generalize bs f.1 = N at *
      generalize bs f.2 = V at *
      have hgr := hb.out.size
      have hsz : (wr.alloc (.cells #[.string N, .string V] 53)).heap.size = wr.heap.size + 1 := World.size_alloc _ _
      have B1 := Lib.hid (hb.out.alloc hgr (.cells #[.string N, .string V] 53))
      have O1 := Lib.hid (ho.out.alloc (.cells #[.string N, .string V] 53))
      have d1 : (wr.alloc (.cells #[.string N, .string V] 53)).cell? ⟨wr.heap.size, 0, none⟩ = some (.string N) := by simp
      have d2 : (wr.alloc (.cells #[.string N, .string V] 53)).cell? ⟨wr.heap.size, 1, none⟩ = some (.string V) := by simp
      clear ho hb
      go_wp2_with fail
      generalize World.alloc wr _ = wa at *
      refine (HI.out wa).mono ?_
      rintro e wb ⟨rfl, hbb⟩
      have hlta : wr.heap.size < wa.heap.size := by omega
      have e1 : wb.cell? ⟨wr.heap.size, 0, none⟩ = some (.string N) := by rw [(bcell hbb).1 _ _ hlta]; exact d1
      have e2 : wb.cell? ⟨wr.heap.size, 1, none⟩ = some (.string V) := by rw [(bcell hbb).1 _ _ hlta]; exact d2
      have B2 := Lib.hid (B1.out.trans (hbb.mono B1.out.size))
      have O2 := Lib.hid (own_below O1.out hbb)
      clear hbb B1 O1 d1 d2 c1 c2
      cases q
      · have hst2 := HST.out
        rw [if_neg (by simp)] at hst2
        have HO2 : Hid ((wb.alloc (.cells #[.string N, .string V] 53)).ownsRow w.heap.size 53 2 _ (dropR x (fs.take j)).length (cellsF (dropR x (fs.take j)))) := O2.out.alloc _
        have hb2 : Hid (Below w.heap.size w (wb.alloc (.cells #[.string N, .string V] 53))) := B2.out.alloc B2.out.size _
        have HNW := Lib.hid (cells_new1 wb N V 53)
        have hbz := B2.out.size
        have hcc : cellsF (dropR x (fs.take (j + 1))) = cellsF (dropR x (fs.take j)) ++ [.string N, .string V] := by
          rw [hst2, cellsF_append, HCE.out]
        have hll : (dropR x (fs.take (j + 1))).length = (dropR x (fs.take j)).length + 1 := by rw [hst2]; simp
        have HCC := Lib.hid hcc
        have HLL := Lib.hid hll
        clear hst2 hcc hll O2 B2
        obtain ⟨k, hk⟩ : ∃ k, k = (dropR x (fs.take j)).length := ⟨_, rfl⟩
        rw [← hk] at HO2 HLL hdl
        have HKK := Lib.hid hk
        clear hk
        go_wp2_with (at_builtin; refine wpList_append_own _ rfl _ _ 22 rfl w.heap.size 53 i0 (.agg #[.string ⟨#[]⟩, .string ⟨#[]⟩]) 2 32 Tryz.underlying22 hi hz0 hz1 hz2 rfl (by decide) _ _ _ rfl HO2.out ⟨wb.heap.size, 0, none⟩ 1 1 [.string N, .string V] rfl rfl HNW.out (by intro u hu; simp at hu; rcases hu with rfl | rfl <;> rfl) (by unfold maxLen; omega) (by omega) (by simp; omega) ?_)
        intro v' w2 hown' hgrow _
        have hb3 : Hid (Below w.heap.size w w2) := hb2.out.grown hgrow hb2.out.size (fun k hk => (HO2.out.lt k hk).1)
        rw [← HCC.out] at hown'
        have hown2 : w2.ownsRow w.heap.size 53 2 v' (dropR x (fs.take (j + 1))).length (cellsF (dropR x (fs.take (j + 1)))) := by rw [HLL.out]; exact hown'
        have HO3 := Lib.hid hown2
        clear hown' hown2 hgrow hb2 HO2 HNW HCC HLL
        go_wp2_with fail
        go_roundw
        case rel => exact ⟨j + 1, hlt, by go_num, HO3, hb3⟩
        case measure => simp [intOf]; omega
      · have hst2 := HST.out
        rw [if_pos rfl, List.append_nil] at hst2
        have HO3 := O2.out
        rw [← hst2] at HO3
        have HO4 := Lib.hid HO3
        clear hst2 HO3 O2
        go_wp2_with fail
        go_roundw
        case rel => exact ⟨j + 1, hlt, by go_num, HO4, B2⟩
        case measure => simp [intOf]; omega
    · obtain rfl : j = fs.length := by omega
      have ho2 := ho.out
      rw [List.take_of_length_le (Nat.le_refl _)] at ho2
      have HO := Lib.hid ho2
      clear ho ho2
      go_wp2_with fail
      go_ret
      exact ⟨_, rfl, HO.out, hb.out⟩
set_option maxRecDepth 100000 in
set_option maxHeartbeats 2000000 in
theorem lawIs45 (a : Option Addr) (c : Nat) (xs : List Fld) (b : Option Addr) (d : Nat) (ys : List Fld) (R : Bool) (hR : R = decide (xs = ys)) (hlx : xs.length ≤ 1000000000) (hly : ys.length ≤ 1000000000) (w : World) (hx : IsFlds w a c xs) (hy : IsFlds w b d ys) :
    Calls Tryz.prog 25 #[.slice a xs.length c, .slice b ys.length d] w fun e w' => e = .returned (.bool R) ∧ Below w.heap.size w w' := by
  by_cases hsz : xs.length = ys.length
  · have HR := Lib.hid hR
    have hne : ((xs.length : Int) != (ys.length : Int)) = false := by simp [hsz]
    have HS := Lib.hid hsz
    have HX := Lib.hid hx
    have HY := Lib.hid hy
    clear hR hsz hx hy
    go_enter Tryz.func25, Tryz.ntmps25
    go_wp2_with fail
    clear hne
    go_loopw [13] (fun i wr => ∃ j : Nat, j ≤ ys.length ∧ i = .int .i64 (j : Int) ∧ Hid (xs.take j = ys.take j) ∧ Below w.heap.size w wr) (fun i _ => ys.length - (intOf i).toNat)
    case atStart => exact ⟨0, Nat.zero_le _, rfl, rfl, Below.refl _ _⟩
    case round =>
      obtain ⟨j, hj, rfl, hr, hbl⟩ := hrel
      by_cases hlt2 : j < ys.length
      · have hlt : j < xs.length := by have := HS.out; omega
        obtain h0 | ⟨bk, o, rfl, hbk, hc, hcell⟩ := HX.out.below hbl
        · subst h0; simp at hlt
        obtain h0 | ⟨bk2, o2, rfl, hbk2, hc2, hcell2⟩ := HY.out.below hbl
        · subst h0; simp at hlt2
        obtain ⟨cj, cj2⟩ := hcell j xs[j] (by simp [hlt])
        obtain ⟨dj, dj2⟩ := hcell2 j ys[j] (by simp [hlt2])
        have j1 : (j : Int) < xs.length := by omega
        have j2 : (j : Int) < ys.length := by omega
        have hbn : ∀ n, Below w.heap.size w (wr.drewN n) := fun n => hbl.trans ⟨rfl, rfl, rfl, Nat.le_refl _, fun _ _ => rfl⟩
        clear hcell hcell2
        by_cases he : xs[j] = ys[j]
        · have hst := Lib.hid (takeF_step xs ys j hlt hlt2 hr.out he)
          rw [← he] at dj dj2
          generalize bs (xs[j]).1 = N at cj dj
          generalize bs (xs[j]).2 = V at cj2 dj2
          have eN := self_strP N
          have eV := self_strP V
          clear he
          go_wp2_with fail
          go_quiet (fail)
          go_wp2_with fail
          go_roundw
          case rel => exact ⟨j + 1, hlt2, by go_num, hst, hbn _⟩
          case measure => simp [intOf]; omega
        · have hno : Hid (¬ xs = ys) := fun e => he (by subst e; rfl)
          have e1 := bs_beq (xs[j]).1 (ys[j]).1
          have e2 := bs_beq (xs[j]).2 (ys[j]).2
          obtain ⟨f, hf⟩ : ∃ f, f = xs[j] := ⟨_, rfl⟩
          obtain ⟨g, hg⟩ : ∃ g, g = ys[j] := ⟨_, rfl⟩
          rw [← hf, ← hg] at e1 e2 he
          rw [← hf] at cj cj2
          rw [← hg] at dj dj2
          clear hf hg
          obtain ⟨n1, v1⟩ := f
          obtain ⟨n2, v2⟩ := g
          simp only at e1 e2 cj cj2 dj dj2
          have hcase : (decide (n1 = n2) = false) ∨ (decide (n1 = n2) = true ∧ decide (v1 = v2) = false) := by
            by_cases h1 : n1 = n2
            · exact .inr ⟨decide_eq_true h1, decide_eq_false (fun h2 => he (by rw [h1, h2]))⟩
            · exact .inl (decide_eq_false h1)
          generalize decide (n1 = n2) = q1 at *
          generalize decide (v1 = v2) = q2 at *
          generalize bs n1 = N1 at *
          generalize bs n2 = N2 at *
          generalize bs v1 = V1 at *
          generalize bs v2 = V2 at *
          clear he
          rcases hcase with rfl | ⟨rfl, rfl⟩
          · go_wp2_with fail
            go_quiet (fail)
            go_wp2_with fail
            go_ret
            exact ⟨by rw [HR.out, decide_eq_false hno.out]; rfl, hbn _⟩
          · go_wp2_with fail
            go_quiet (fail)
            go_wp2_with fail
            go_ret
            exact ⟨by rw [HR.out, decide_eq_false hno.out]; rfl, hbn _⟩
      · obtain rfl : j = ys.length := by omega
        have h1 := hr.out
        have hs2 := HS.out
        rw [List.take_of_length_le (by omega), List.take_of_length_le (by omega)] at h1
        have H1 := Lib.hid h1
        clear h1 hs2
        go_wp2_with fail
        go_ret
        exact ⟨by rw [HR.out, decide_eq_true H1.out]; rfl, hbl⟩
  · have hno : R = false := by rw [hR]; exact decide_eq_false (fun e => hsz (by rw [e]))
    subst hno
    have hne : ((xs.length : Int) != (ys.length : Int)) = true := by simp; omega
    clear hR hsz hx hy
    go_enter Tryz.func25, Tryz.ntmps25
    go_wp2_with fail
    go_ret
    exact ⟨rfl, Below.refl _ _⟩
end Go.Proofs.YtbbphklhnngjmaaGreatDoor

/- stewardlaw01.Few. -/
namespace Go.Proofs.YtbbphklhnngjmaaGreatDoor
open Go.RowKit

theorem info9 : (Tryz.prog.info? 9).map (fun i => (i.zero, i.size, i.bytes)) = some (some (.string ⟨#[]⟩), 1, 16) := by kernel_rfl

/-- The first few, cut. -/
def fewS (xs : List ByteArray) (n m : Nat) : List ByteArray := (xs.take n).map fun s => cutS s m
/-- What has been collected. -/
def rowOf (xs : List ByteArray) (m j : Nat) : List Value := ((xs.take j).map fun s => cutS s m).map Value.string
theorem rowOf_succ (xs : List ByteArray) (m j : Nat) (h : j < xs.length) : rowOf xs m j ++ [.string (cutS xs[j] m)] = rowOf xs m (j + 1) := by
  unfold rowOf
  rw [List.take_succ_eq_append_getElem h, List.map_append, List.map_append]
  rfl
theorem isStrs_of_row {w : World} {B : Nat} {a : Option Addr} {k c : Nat} {ys : List ByteArray} (h : w.ownsRow B 9 1 (.slice a k c) k (ys.map Value.string)) (hk : ys.length = k) : IsStrs w a c ys := by
  obtain ⟨hl, h | ⟨g, cap, cur, he, hB, hg, hn, _, hs, ht⟩⟩ := h
  · left
    exact List.eq_nil_of_length_eq_zero (by omega)
  · right
    obtain ⟨rfl, _, rfl⟩ : a = some ⟨g, 0, none⟩ ∧ k = k ∧ c = cap := by simpa using he
    have hlt : g < w.heap.size := by
      rcases Nat.lt_or_ge g w.heap.size with h | h
      · exact h
      · rw [Array.getElem?_eq_none h] at hg; cases hg
    refine ⟨g, 0, rfl, hlt, by omega, fun j x hx => ?_⟩
    have h1 : (ys.map Value.string)[j]? = some (.string x) := by rw [List.getElem?_map, hx]; rfl
    have h2 := World.ownsRow.cells (w := w) (base := B) (e := 9) (size := 1) (v := .slice (some ⟨g, 0, none⟩) k c) (n := k) (xs := ys.map Value.string) ⟨hl, .inr ⟨g, c, cur, rfl, hB, hg, hn, by assumption, hs, ht⟩⟩ rfl j _ h1
    rwa [Addr.add_mid] at h2

def FewPostN (w : World) (ys : List ByteArray) (e : Ending) (w' : World) : Prop :=
  ∃ a c, e = .returned (.slice a ys.length c) ∧ IsStrs w' a c ys ∧ (a = none → c = 0) ∧ Below w.heap.size w w'

end Go.Proofs.YtbbphklhnngjmaaGreatDoor

/- fields' Get, Has, Size, All; the reference's All. -/
namespace Go.Proofs.YtbbphklhnngjmaaGreatDoor
open Go.RowKit

theorem has_is (x : ByteArray) (f : Fld) : hasB [x] f = isB x f := by
  unfold hasB isB
  rw [List.any_cons, List.any_nil, Bool.or_false]
  exact decide_eq_decide.2 ⟨fun h => h.symm, fun h => h.symm⟩
/-- All values of a name. -/
def allB (x : ByteArray) (fs : List Fld) : List ByteArray := (fs.filter (isB x)).map fun f => bs f.2
theorem allB_step {x : ByteArray} {fs : List Fld} {j : Nat} (hj : j < fs.length) : allB x (fs.take (j + 1)) = allB x (fs.take j) ++ if isB x fs[j] = true then [bs fs[j].2] else [] := by
  unfold allB
  rw [List.take_add_one, List.getElem?_eq_getElem hj, Option.toList_some, List.filter_append, List.map_append]
  congr 1
  cases h : isB x fs[j] <;> simp [h]
theorem allB_len (x : ByteArray) (fs : List Fld) : (allB x fs).length ≤ fs.length := by
  unfold allB
  rw [List.length_map]
  exact List.length_filter_le _ _
theorem allB_nil {x : ByteArray} {fs : List Fld} (h : ∀ f ∈ fs, hasB [x] f = false) : allB x fs = [] := by
  unfold allB
  rw [List.filter_eq_nil_iff.2 (fun f hf => by rw [← has_is, h f hf]; simp)]
  rfl
theorem allB_first {x : ByteArray} {fs : List Fld} {i : Nat} (hi : i < fs.length) (h : ∀ f ∈ fs.take i, hasB [x] f = false) (hy : hasB [x] fs[i] = true) : ∃ r, allB x fs = bs fs[i].2 :: r := by
  have e : fs = fs.take i ++ fs[i] :: fs.drop (i + 1) := by
    rw [List.getElem_cons_drop, List.take_append_drop]
  refine ⟨allB x (fs.drop (i + 1)), ?_⟩
  conv => lhs; rw [e]
  unfold allB
  rw [List.filter_append, List.filter_eq_nil_iff.2 (fun f hf => by rw [← has_is, h f hf]; simp), List.nil_append, List.filter_cons_of_pos (by rw [← has_is]; exact hy)]
  rfl
/-- The first value; is there one? -/
def getV (l : List ByteArray) : Value := match l with
  | [] => .tuple #[.string ⟨#[]⟩, .bool false]
  | v :: _ => .tuple #[.string v, .bool true]
set_option maxHeartbeats 4000000 in
set_option maxRecDepth 100000 in
theorem rall41 (a : Option Addr) (c : Nat) (fs : List Fld) (x : ByteArray) (hfl : fs.length ≤ 1000000) (hok : ∀ f ∈ fs, FldOk f) (hx : x.size ≤ 4000000000) (w : World) (hf : IsFlds w a c fs) :
    Calls Tryz.prog 49 #[.slice a fs.length c, .string x] w fun e w' => ∃ u, e = .returned u ∧ w'.ownsRow w.heap.size 9 1 u (allB x fs).length ((allB x fs).map Value.string) ∧ Below w.heap.size w w' := by
  obtain ⟨i0, hi, hz0, hz1, hz2⟩ := info_parts info9
  have HFF := Lib.hid hf
  have HOK := Lib.hid hok
  clear hf hok
  have L0 := Lib.hid (below_alloc w (.cells #[] 9))
  have O0 : Hid ((w.alloc (.cells #[] 9)).ownsRow w.heap.size 9 1 (.slice (some ⟨w.heap.size, 0, none⟩) 0 0) (allB x (fs.take 0)).length ((allB x (fs.take 0)).map Value.string)) := World.ownsRow_lit w #[] 0 (Nat.le_refl _) (by decide) (by simp)
  go_enter Tryz.func49, Tryz.ntmps49
  go_wp2_with fail
  go_loopw [5, 11] (fun v i wr => ∃ j : Nat, j ≤ fs.length ∧ i = .int .i64 (j : Int) ∧ Hid (wr.ownsRow w.heap.size 9 1 v (allB x (fs.take j)).length ((allB x (fs.take j)).map Value.string)) ∧ Hid (Below w.heap.size w wr)) (fun _ i _ => fs.length - (intOf i).toNat)
  case atStart => exact ⟨0, Nat.zero_le _, rfl, O0, L0⟩
  case round =>
    clear O0 L0
    obtain ⟨j, hj, rfl, ho, hb⟩ := hrel
    by_cases hlt : j < fs.length
    · have hbw := hb
      obtain h0 | ⟨bk, o, rfl, hbk, hc, hcell⟩ := HFF.out.below hbw.out
      · subst h0; simp at hlt
      obtain ⟨c1, c2⟩ := hcell j fs[j] (by simp [hlt])
      have hst := allB_step (x := x) hlt
      have hok := HOK.out fs[j] (List.getElem_mem hlt)
      have hdl := allB_len x (fs.take j)
      rw [List.length_take] at hdl
      obtain ⟨q, hq⟩ : ∃ q, q = isB x fs[j] := ⟨_, rfl⟩
      have HI := Lib.hid (fun W (_ : True) => is70 fs[j] x hok.1 hx q hq W)
      rw [← hq] at hst
      obtain ⟨f, hfe⟩ : ∃ f, f = fs[j] := ⟨_, rfl⟩
      rw [← hfe] at c1 c2 hst HI
      have HST := Lib.hid hst
      clear hcell hfe hq hst hok
      have j1 : (j : Int) < fs.length := by omega
      generalize bs f.1 = N at *
      generalize bs f.2 = V at *
      have hgr := hb.out.size
      have hsz : (wr.alloc (.cells #[.string N, .string V] 53)).heap.size = wr.heap.size + 1 := World.size_alloc _ _
      have B1 := Lib.hid (hb.out.alloc hgr (.cells #[.string N, .string V] 53))
      have O1 := Lib.hid (ho.out.alloc (.cells #[.string N, .string V] 53))
      have d1 : (wr.alloc (.cells #[.string N, .string V] 53)).cell? ⟨wr.heap.size, 0, none⟩ = some (.string N) := by simp
      have d2 : (wr.alloc (.cells #[.string N, .string V] 53)).cell? ⟨wr.heap.size, 1, none⟩ = some (.string V) := by simp
      clear ho hb
      go_wp2_with fail
      generalize World.alloc wr _ = wa at *
      refine (HI.out wa trivial).mono ?_
      rintro e wb ⟨rfl, hbb⟩
      have hlta : wr.heap.size < wa.heap.size := by omega
      have e1 : wb.cell? ⟨wr.heap.size, 0, none⟩ = some (.string N) := by rw [(bcell hbb).1 _ _ hlta]; exact d1
      have e2 : wb.cell? ⟨wr.heap.size, 1, none⟩ = some (.string V) := by rw [(bcell hbb).1 _ _ hlta]; exact d2
      have B2 := Lib.hid (B1.out.trans (hbb.mono B1.out.size))
      have O2 := Lib.hid (own_below O1.out hbb)
      clear hbb B1 O1 d1 d2 c1 c2
      cases q
      · have hst2 := HST.out
        rw [if_neg (by simp), List.append_nil] at hst2
        have HO3 := O2.out
        rw [← hst2] at HO3
        have HO4 := Lib.hid HO3
        clear hst2 HO3 O2
        go_wp2_with fail
        go_roundw
        case rel => exact ⟨j + 1, hlt, by go_num, HO4, B2⟩
        case measure => simp [intOf]; omega
      · have hst2 := HST.out
        rw [if_pos rfl] at hst2
        have HO2 : Hid ((wb.alloc (.cells #[.string V] 9)).ownsRow w.heap.size 9 1 _ (allB x (fs.take j)).length ((allB x (fs.take j)).map Value.string)) := O2.out.alloc _
        have hb2 : Hid (Below w.heap.size w (wb.alloc (.cells #[.string V] 9))) := B2.out.alloc B2.out.size _
        have hbz := B2.out.size
        have hcc : (allB x (fs.take (j + 1))).map Value.string = (allB x (fs.take j)).map Value.string ++ [.string V] := by
          rw [hst2, List.map_append]; rfl
        have hll : (allB x (fs.take (j + 1))).length = (allB x (fs.take j)).length + 1 := by rw [hst2]; simp
        have HCC := Lib.hid hcc
        have HLL := Lib.hid hll
        clear hst2 hcc hll O2 B2
        obtain ⟨k, hk⟩ : ∃ k, k = (allB x (fs.take j)).length := ⟨_, rfl⟩
        rw [← hk] at HO2 HLL hdl
        clear hk
        go_wp2_with (at_builtin; refine wpList_append_own _ rfl _ _ 88 rfl w.heap.size 9 i0 (.string ⟨#[]⟩) 1 16 Tryz.underlying88 hi hz0 hz1 hz2 rfl (by decide) _ _ _ rfl HO2.out ⟨wb.heap.size, 0, none⟩ 1 1 [.string V] rfl rfl ?c1 ?c2 ?c3 ?c4 ?c5 ?_)
        case c1 => intro i u hu; match i, hu with
          | 0, hu => obtain rfl : Value.string V = u := Option.some.inj hu; rw [Addr.add_mid]; simp
          | i + 1, hu => simp at hu
        case c2 => intro u hu; simp at hu; subst hu; rfl
        case c3 => unfold maxLen; omega
        case c4 => omega
        case c5 => simp; omega
        intro v' w2 hown' hgrow _
        have hb3 : Hid (Below w.heap.size w w2) := hb2.out.grown hgrow hb2.out.size (fun k hk => (HO2.out.lt k hk).1)
        rw [← HCC.out] at hown'
        have hown2 : w2.ownsRow w.heap.size 9 1 v' (allB x (fs.take (j + 1))).length ((allB x (fs.take (j + 1))).map Value.string) := by rw [HLL.out]; exact hown'
        have HO3 := Lib.hid hown2
        clear hown' hown2 hgrow hb2 HO2 HCC HLL
        go_wp2_with fail
        go_roundw
        case rel => exact ⟨j + 1, hlt, by go_num, HO3, hb3⟩
        case measure => simp [intOf]; omega
    · obtain rfl : j = fs.length := by omega
      have ho2 := ho.out
      rw [List.take_of_length_le (Nat.le_refl _)] at ho2
      have HO := Lib.hid ho2
      clear ho ho2
      go_wp2_with fail
      go_ret
      exact ⟨_, rfl, HO.out, hb.out⟩
set_option maxHeartbeats 4000000 in
set_option maxRecDepth 100000 in
theorem all44 (a : Option Addr) (c : Nat) (fs : List Fld) (x : ByteArray) (hfl : fs.length ≤ 1000000) (hok : ∀ f ∈ fs, FldOk f) (w : World) (hf : IsFlds w a c fs) :
    Calls Tryz.prog 43 #[.slice a fs.length c, .string x] w fun e w' => ∃ u, e = .returned u ∧ w'.ownsRow w.heap.size 9 1 u (allB x fs).length ((allB x fs).map Value.string) ∧ Below w.heap.size w w' := by
  obtain ⟨i0, hi, hz0, hz1, hz2⟩ := info_parts info9
  have L0 := Lib.hid (below_alloc w (.cells #[.string x] 9))
  have HFF := Lib.hid (hf.below L0.out)
  have HOK := Lib.hid hok
  have HNM := Lib.hid (isStrs_new1 w x 9)
  have hzz : (w.alloc (.cells #[.string x] 9)).heap.size = w.heap.size + 1 := World.size_alloc _ _
  clear hf hok
  go_enter Tryz.func43, Tryz.ntmps43
  go_wp2_with fail
  obtain ⟨w0, hw0⟩ : ∃ w0, w0 = w.alloc (.cells #[.string x] 9) := ⟨_, rfl⟩
  rw [← hw0] at L0 HFF HNM hzz ⊢
  have HZZ := Lib.hid hzz
  clear hw0 hzz
  go_loopw [6, 14] (fun v i wr => ∃ j : Nat, j ≤ fs.length ∧ i = .int .i64 (j : Int) ∧ Hid (wr.ownsRow w0.heap.size 9 1 v (allB x (fs.take j)).length ((allB x (fs.take j)).map Value.string)) ∧ Hid (Below w0.heap.size w0 wr)) (fun _ i _ => fs.length - (intOf i).toNat)
  case atStart => exact ⟨0, Nat.zero_le _, rfl, World.ownsRow_nil _ _ _ _, Below.refl _ _⟩
  case round =>
    obtain ⟨j, hj, rfl, ho, hb⟩ := hrel
    by_cases hlt : j < fs.length
    · have hbw := hb
      obtain h0 | ⟨bk, o, rfl, hbk, hc, hcell⟩ := HFF.out.below hbw.out
      · subst h0; simp at hlt
      obtain ⟨c1, c2⟩ := hcell j fs[j] (by simp [hlt])
      have hst := allB_step (x := x) hlt
      have hok := HOK.out fs[j] (List.getElem_mem hlt)
      have hdl := allB_len x (fs.take j)
      rw [List.length_take] at hdl
      obtain ⟨q, hq⟩ : ∃ q, q = isB x fs[j] := ⟨_, rfl⟩
      have HI := Lib.hid (fun W h => has72 (some ⟨w.heap.size, 0, none⟩) 1 [x] fs[j] (by simp) hok.1 q (by rw [hq]; exact (has_is x fs[j]).symm) W h)
      unfold fldV at HI
      rw [← hq] at hst
      obtain ⟨f, hfe⟩ : ∃ f, f = fs[j] := ⟨_, rfl⟩
      rw [← hfe] at c1 c2 hst HI
      have HST := Lib.hid hst
      clear hcell hfe hq hst hok
      have j1 : (j : Int) < fs.length := by omega
      generalize bs f.1 = N at *
      generalize bs f.2 = V at *
      have hgr := hb.out.size
      have hsz : (wr.alloc (.cells #[.string N, .string V] 62)).heap.size = wr.heap.size + 1 := World.size_alloc _ _
      have B1 := Lib.hid (hb.out.alloc hgr (.cells #[.string N, .string V] 62))
      have O1 := Lib.hid (ho.out.alloc (.cells #[.string N, .string V] 62))
      have d1 : (wr.alloc (.cells #[.string N, .string V] 62)).cell? ⟨wr.heap.size, 0, none⟩ = some (.string N) := by simp
      have d2 : (wr.alloc (.cells #[.string N, .string V] 62)).cell? ⟨wr.heap.size, 1, none⟩ = some (.string V) := by simp
      clear ho hb
      go_wp2_with fail
      generalize World.alloc wr _ = wa at *
      refine (HI.out wa (HNM.out.below B1.out)).mono ?_
      rintro e wb ⟨rfl, hbb⟩
      have hlta : wr.heap.size < wa.heap.size := by omega
      have e1 : wb.cell? ⟨wr.heap.size, 0, none⟩ = some (.string N) := by rw [(bcell hbb).1 _ _ hlta]; exact d1
      have e2 : wb.cell? ⟨wr.heap.size, 1, none⟩ = some (.string V) := by rw [(bcell hbb).1 _ _ hlta]; exact d2
      have B2 := Lib.hid (B1.out.trans (hbb.mono B1.out.size))
      have O2 := Lib.hid (own_below O1.out hbb)
      clear hbb B1 O1 d1 d2 c1 c2
      cases q
      · have hst2 := HST.out
        rw [if_neg (by simp), List.append_nil] at hst2
        have HO3 := O2.out
        rw [← hst2] at HO3
        have HO4 := Lib.hid HO3
        clear hst2 HO3 O2
        go_wp2_with fail
        go_roundw
        case rel => exact ⟨j + 1, hlt, by go_num, HO4, B2⟩
        case measure => simp [intOf]; omega
      · have hst2 := HST.out
        rw [if_pos rfl] at hst2
        have HO2 : Hid ((wb.alloc (.cells #[.string V] 9)).ownsRow w0.heap.size 9 1 _ (allB x (fs.take j)).length ((allB x (fs.take j)).map Value.string)) := O2.out.alloc _
        have hb2 : Hid (Below w0.heap.size w0 (wb.alloc (.cells #[.string V] 9))) := B2.out.alloc B2.out.size _
        have hbz := B2.out.size
        have hcc : (allB x (fs.take (j + 1))).map Value.string = (allB x (fs.take j)).map Value.string ++ [.string V] := by
          rw [hst2, List.map_append]; rfl
        have hll : (allB x (fs.take (j + 1))).length = (allB x (fs.take j)).length + 1 := by rw [hst2]; simp
        have HCC := Lib.hid hcc
        have HLL := Lib.hid hll
        clear hst2 hcc hll O2 B2
        obtain ⟨k, hk⟩ : ∃ k, k = (allB x (fs.take j)).length := ⟨_, rfl⟩
        rw [← hk] at HO2 HLL hdl
        clear hk
        go_wp2_with (at_builtin; refine wpList_append_own _ rfl _ _ 88 rfl w0.heap.size 9 i0 (.string ⟨#[]⟩) 1 16 Tryz.underlying88 hi hz0 hz1 hz2 rfl (by decide) _ _ _ rfl HO2.out ⟨wb.heap.size, 0, none⟩ 1 1 [.string V] rfl rfl ?c1 ?c2 ?c3 ?c4 ?c5 ?_)
        case c1 => intro i u hu; match i, hu with
          | 0, hu => obtain rfl : Value.string V = u := Option.some.inj hu; rw [Addr.add_mid]; simp
          | i + 1, hu => simp at hu
        case c2 => intro u hu; simp at hu; subst hu; rfl
        case c3 => unfold maxLen; omega
        case c4 => omega
        case c5 => simp; omega
        intro v' w2 hown' hgrow _
        have hb3 : Hid (Below w0.heap.size w0 w2) := hb2.out.grown hgrow hb2.out.size (fun k hk => (HO2.out.lt k hk).1)
        rw [← HCC.out] at hown'
        have hown2 : w2.ownsRow w0.heap.size 9 1 v' (allB x (fs.take (j + 1))).length ((allB x (fs.take (j + 1))).map Value.string) := by rw [HLL.out]; exact hown'
        have HO3 := Lib.hid hown2
        clear hown' hown2 hgrow hb2 HO2 HCC HLL
        go_wp2_with fail
        go_roundw
        case rel => exact ⟨j + 1, hlt, by go_num, HO3, hb3⟩
        case measure => simp [intOf]; omega
    · obtain rfl : j = fs.length := by omega
      have ho2 := ho.out
      rw [List.take_of_length_le (Nat.le_refl _)] at ho2
      have HO := Lib.hid ho2
      clear ho ho2
      go_wp2_with fail
      go_ret
      exact ⟨_, rfl, own_mono HO.out (by have := HZZ.out; omega), L0.out.trans (hb.out.mono L0.out.size)⟩
end Go.Proofs.YtbbphklhnngjmaaGreatDoor

/- request: a parser in memory; New, Waits, complete. -/
namespace Go.Proofs.YtbbphklhnngjmaaGreatDoor
open Go.RowKit

/-- A parser's cells behind its head's: method, target, fields, body, kind, length, body's row, chunks, waits, the error. -/
def paR (m t : ByteArray) (fv : Value) (wt : Bool) (e : Int) : List Value := [.string m, .string t, fv, .string ⟨#[]⟩, .int .i64 0, .int .i64 0, .slice none 0 0, .pointer none, .bool wt, .int .i64 e]
section
variable {G : Nat → Prop} {T : TypeId} {rest : List Value} {w w' : World} {g : Nat} {L H C B st : Int} {f : ByteArray} {fs : List Fld} {sz : Nat} {cur : List UInt8} {cr : Bool} {e : Int} {rv ln : Value} {M : HdL} {b : Int} {σ : HdS}
theorem HeAt.setR (h : HeAt G T rest w g L H C B st f fs sz cur cr e rv ln) (i : Nat) (u : Value) : HeAt G T (rest.set i u) (w.setCell ⟨g, i + 11, none⟩ u) g L H C B st f fs sz cur cr e rv ln :=
  ⟨h.put (i + 11) _, h.t1, h.t2, h.gG, own_set h.ro h.row h.t2 _, own_set h.lo h.row h.t1 _, h.rG, h.lG⟩
theorem HeS.setR (h : HeS G T rest w g M b σ) (i : Nat) (u : Value) : HeS G T (rest.set i u) (w.setCell ⟨g, i + 11, none⟩ u) g M b σ := by
  obtain ⟨L, H, C, b', st, f, fs, sz, cur, cr, e, hr, rv, ln, hd⟩ := h
  exact ⟨L, H, C, b', st, f, fs, sz, cur, cr, e, hr, rv, ln, hd.setR i u⟩
theorem HeS.cellR (h : HeS G T rest w g M b σ) (i : Nat) : w.cell? ⟨g, i + 11, none⟩ = rest[i]? := by
  obtain ⟨L, H, C, b', st, f, fs, sz, cur, cr, e, hr, rv, ln, hd⟩ := h
  exact hd.cell (i + 11)
theorem HeS.free (h : HeS G T rest w g M b σ) (i : Nat) : w.frozen? ⟨g, i, none⟩ = false := by
  obtain ⟨L, H, C, b', st, f, fs, sz, cur, cr, e, hr, rv, ln, hd⟩ := h
  exact hd.row.free i
theorem HeS.lt (h : HeS G T rest w g M b σ) : g < w.heap.size := by
  obtain ⟨L, H, C, b', st, f, fs, sz, cur, cr, e, hr, rv, ln, hd⟩ := h
  exact hd.row.lt
theorem HeS.gG (h : HeS G T rest w g M b σ) : G g := by
  obtain ⟨L, H, C, b', st, f, fs, sz, cur, cr, e, hr, rv, ln, hd⟩ := h
  exact hd.gG
theorem HeS.keep {K : Nat → Prop} (h : HeS G T rest w g M b σ) (hk : Keep K w w') (hn : ∀ j, G j → ¬ K j) : HeS G T rest w' g M b σ := by
  obtain ⟨L, H, C, b', st, f, fs, sz, cur, cr, e, hr, rv, ln, hd⟩ := h
  exact ⟨L, H, C, b', st, f, fs, sz, cur, cr, e, hr, rv, ln, hd.row.keep hk (hn _ hd.gG), hd.t1, hd.t2, hd.gG, own_keep hd.ro hk (fun j hj => hn j (hd.rG j hj)), own_keep hd.lo hk (fun j hj => hn j (hd.lG j hj)), hd.rG, hd.lG⟩
theorem he_lim (h : HeRep M b σ L H C B st f fs sz cur cr e) (hne : ∀ e, σ ≠ .err e) : L = max 0 M.line ∧ H = max 0 M.head ∧ C = max 0 M.count ∧ B = b := by
  cases h with
  | err e h0 => exact absurd rfl (hne e)
  | _ => exact ⟨rfl, rfl, rfl, rfl⟩
end
set_option maxRecDepth 100000 in
set_option maxHeartbeats 2000000 in
theorem newhead7x (l h c b : Int) (w : World) :
    Calls Tryz.prog 57 #[.agg #[.int .i64 l, .int .i64 h, .int .i64 c, .int .i64 b]] w fun x w' => ∃ g, x = .returned (.pointer (some ⟨g, 0, none⟩)) ∧ w.heap.size ≤ g ∧ Row w' g 103 (heCells (max l 0) (max h 0) (max c 0) b 0 ⟨#[]⟩ (.slice none 0 0) 0 (.slice none 0 0) false 0 []) ∧ Below w.heap.size w w' := by
  go_enter Tryz.func57, Tryz.ntmps57
  go_wp2_with fail
  go_ret
  refine ⟨w.heap.size + 1, rfl, Nat.le_succ _, ?_, ((below_alloc w _).alloc (by simp) _)⟩
  have hr := Row.new (w.alloc (.cells #[.int .i64 (max l 0), .int .i64 (max h 0), .int .i64 (max c 0), .int .i64 b] 57)) 103 #[.int .i64 (max l 0), .int .i64 (max h 0), .int .i64 (max c 0), .int .i64 b, .int .i64 0, .string ⟨#[]⟩, .slice none 0 0, .int .i64 0, .slice none 0 0, .bool false, .int .i64 0]
  have hz : (w.alloc (.cells #[.int .i64 (max l 0), .int .i64 (max h 0), .int .i64 (max c 0), .int .i64 b] 57)).heap.size = w.heap.size + 1 := by simp
  rw [hz] at hr
  exact hr
/-- A new parser's cells. -/
def paNew (l h c b : Int) : Array Value := heCells (max l 0) (max h 0) (max c 0) b 0 ⟨#[]⟩ (.slice none 0 0) 0 (.slice none 0 0) false 0 (paR ⟨#[]⟩ ⟨#[]⟩ (.slice none 0 0) false 0)
set_option maxRecDepth 100000 in
set_option maxHeartbeats 2000000 in
theorem new21 (l h c b : Int) (w : World) :
    Calls Tryz.prog 21 #[.agg #[.int .i64 l, .int .i64 h, .int .i64 c, .int .i64 b]] w fun x w' => ∃ g, x = .returned (.pointer (some ⟨g, 0, none⟩)) ∧ w.heap.size ≤ g ∧ Row w' g 108 (paNew l h c b) ∧ Below w.heap.size w w' := by
  have L0 := below_alloc w (.cells #[.int .i64 l, .int .i64 h, .int .i64 c, .int .i64 b] 57)
  have HL0 := Lib.hid L0
  clear L0
  go_enter Tryz.func21, Tryz.ntmps21
  go_wp2_with fail
  with_reducible refine (newhead7x l h c b _).mono ?_
  rintro e w1 ⟨g1, rfl, hg1, hr, hb⟩
  have hc : ∀ i, w1.cell? ⟨g1, i, none⟩ = (heL (max l 0) (max h 0) (max c 0) b 0 ⟨#[]⟩ (.slice none 0 0) 0 (.slice none 0 0) false 0 [])[i]? := fun i => by
    rw [hr.cell i]; unfold heCells; rw [List.getElem?_toArray]
  have c0 := hc 0
  have c1 := hc 1
  have c2 := hc 2
  have c3 := hc 3
  have c4 := hc 4
  have c5 := hc 5
  have c6 := hc 6
  have c7 := hc 7
  have c8 := hc 8
  have c9 := hc 9
  have c10 := hc 10
  simp only [heL, List.getElem?_cons_zero, List.getElem?_cons_succ] at c0 c1 c2 c3 c4 c5 c6 c7 c8 c9 c10
  have hb2 := HL0.out.trans (hb.mono HL0.out.size)
  have HB := Lib.hid hb2
  clear hc hr hb hb2 hg1
  go_wp2_with fail
  go_ret
  exact ⟨w1.heap.size, rfl, HB.out.size, Row.new w1 108 _, HB.out.alloc HB.out.size _⟩
/-- A new parser stands at the machine's begin. -/
theorem paNew_S {w : World} {g : Nat} (l h c b : Int) (hr : Row w g 108 (paNew l h c b)) (G : Nat → Prop) (hg : G g) : HeS G 108 (paR ⟨#[]⟩ ⟨#[]⟩ (.slice none 0 0) false 0) w g ⟨l, h, c⟩ b hd0 := by
  unfold paNew at hr
  rw [Int.max_comm l, Int.max_comm h, Int.max_comm c] at hr
  exact ⟨_, _, _, _, _, _, _, _, _, _, _, .line0 [] false, .slice none 0 0, .slice none 0 0, hr, by decide, by decide, hg, nil_flds _, nil_byt _, (fun j h => by cases h), (fun j h => by cases h)⟩
section
variable (G : Nat → Prop) (g : Nat) (M : HdL) (b : Int) (σ : HdS) (m t : ByteArray) (fv : Value) (wt : Bool) (e : Int)
set_option maxHeartbeats 2000000 in
theorem complete38 (q : Bool) (hq : σ.fin = q) (w : World) (h : HeS G 108 (paR m t fv wt e) w g M b σ) :
    Calls Tryz.prog 59 #[.pointer (some ⟨g, 0, none⟩)] w fun x w' => x = .returned (.bool q) ∧ ∃ n, w' = w.drewN n := by
  have c18 := h.cellR 7
  have c17 := h.cellR 6
  have c16 := h.cellR 5
  simp only [paR, List.getElem?_cons_zero, List.getElem?_cons_succ, Nat.reduceAdd] at c18 c17 c16
  have DN : ∀ k, Below w.heap.size w (w.drewN k) := fun k => ⟨rfl, rfl, rfl, Nat.le_refl _, fun _ _ => rfl⟩
  have HX := Lib.hid (fun k => hdoneS G 108 (paR m t fv wt e) g M b σ (w.drewN k) (h.below (DN k)))
  rw [hq] at HX
  clear h DN hq
  cases q
  · go_enter Tryz.func59, Tryz.ntmps59
    go_wp2_with fail
    go_quiet ((go_at_call 92; exact Calls.quiet_of_same (calls_flip (HX.out _))))
    go_wp2_with fail
    go_ret
    exact ⟨rfl, _, rfl⟩
  · go_enter Tryz.func59, Tryz.ntmps59
    go_wp2_with fail
    go_quiet ((go_at_call 92; exact Calls.quiet_of_same (calls_flip (HX.out _))))
    go_wp2_with fail
    go_ret
    exact ⟨rfl, _, rfl⟩
end
end Go.Proofs.YtbbphklhnngjmaaGreatDoor

/- request: a parser in memory; Head.Fields, framing.Request of neither field, beginBody, finish. -/
namespace Go.Proofs.YtbbphklhnngjmaaGreatDoor
open Go.RowKit

theorem own_nilF {w : World} {e : TypeId} {n m base : Nat} {a : Option Addr} {c k : Nat} {xs : List Value} (h : w.ownsRow base e n (.slice a k c) m xs) (ha : a = none) : c = 0 ∧ m = 0 := by
  obtain ⟨_, ⟨h1, h0⟩ | ⟨g, cap, cur, h1, _⟩⟩ := h
  · injection h1 with _ _ h2
    exact ⟨h2, h0⟩
  · injection h1 with h2
    rw [ha] at h2
    cases h2
set_option maxRecDepth 100000 in
set_option maxHeartbeats 2000000 in
/-- Head's Fields. -/
theorem hfields15 (G : Nat → Prop) (T : TypeId) (rest : List Value) (g : Nat) (M : HdL) (b : Int) (σ : HdS) (hl : σ.fldsOf.length ≤ 1000000000) (w : World) (h : HeS G T rest w g M b σ) :
    Calls Tryz.prog 69 #[.pointer (some ⟨g, 0, none⟩)] w fun x w' => ∃ a c, x = .returned (.slice a σ.fldsOf.length c) ∧ IsFlds w' a c σ.fldsOf ∧ Below w.heap.size w w' := by
  obtain ⟨L, H, C, b', st, f, fs, sz, cur, cr, e, hr, rv, ln, hd⟩ := h
  have he := he_flds hr
  rw [← he] at hl ⊢
  have c6 := hd.c.2.2.2.2.2.2.1
  obtain ⟨a0, c0, hv, hf⟩ := own_isFlds hd.ro
  have hro := hd.ro
  subst hv
  have HX := Lib.hid (clone77 a0 c0 fs hl (fun ha => ⟨(own_nilF hro ha).1, List.eq_nil_of_length_eq_zero (own_nilF hro ha).2⟩) w hf)
  clear hd hr he hf hro
  go_enter Tryz.func69, Tryz.ntmps69
  go_wp2_with fail
  with_reducible refine HX.out.mono ?_
  rintro e9 w1 ⟨v, rfl, ho, hb⟩
  obtain ⟨a1, c1, rfl, hf1⟩ := own_isFlds ho
  have HF := Lib.hid hf1
  have HB := Lib.hid hb
  clear ho hf1 hb HX c6
  go_wp2_with fail
  go_ret
  exact ⟨a1, c1, rfl, HF.out, HB.out⟩
def hostN : ByteArray := ⟨#[72, 111, 115, 116]⟩
def encN : ByteArray := ⟨#[84, 114, 97, 110, 115, 102, 101, 114, 45, 69, 110, 99, 111, 100, 105, 110, 103]⟩
def lenN : ByteArray := ⟨#[67, 111, 110, 116, 101, 110, 116, 45, 76, 101, 110, 103, 116, 104]⟩
theorem own_len0 {w : World} {base : Nat} {e : TypeId} {n : Nat} {v : Value} {xs : List Value} (h : w.ownsRow base e n v 0 xs) : ∃ a c, v = .slice a 0 c := own_slice h
set_option maxRecDepth 100000 in
set_option maxHeartbeats 2000000 in
/-- Neither a Transfer-Encoding nor a Content-Length. -/
theorem frame76 (a : Option Addr) (c : Nat) (fs : List Fld) (most : Int) (hfl : fs.length ≤ 1000000) (hok : ∀ f ∈ fs, FldOk f) (hte : allB encN fs = []) (hcl : allB lenN fs = []) (w : World) (hf : IsFlds w a c fs) :
    Calls Tryz.prog 132 #[.slice a fs.length c, .int .i64 most] w fun x w' => x = .returned (.tuple #[.int .i64 0, .int .i64 0, .int .i64 0]) ∧ Below w.heap.size w w' := by
  have HA := Lib.hid (fun W h => all44 a c fs encN hfl hok W h)
  have HC := Lib.hid (fun W h => all44 a c fs lenN hfl hok W h)
  rw [hte] at HA
  rw [hcl] at HC
  unfold encN at HA
  unfold lenN at HC
  have HF := Lib.hid hf
  clear hf hte hcl hok
  go_enter Tryz.func132, Tryz.ntmps132
  go_wp2_with fail
  with_reducible refine (HA.out w HF.out).mono ?_
  rintro e w1 ⟨u1, rfl, ho1, hb1⟩
  obtain ⟨a1, c1, rfl⟩ := own_len0 ho1
  have F1 := Lib.hid (HF.out.below hb1)
  have B1 := Lib.hid hb1
  clear ho1 hb1 HA HF
  go_wp2_with fail
  with_reducible refine (HC.out w1 F1.out).mono ?_
  rintro e w2 ⟨u2, rfl, ho2, hb2⟩
  obtain ⟨a2, c2, rfl⟩ := own_len0 ho2
  have B2 := Lib.hid (B1.out.trans (hb2.mono B1.out.size))
  clear ho2 hb2 HC F1 B1
  go_wp2_with fail
  refine bodyPost_ret (v := .tuple #[.int .i64 0, .int .i64 0, .int .i64 0]) (by simp [results, Tryz.results132, go_sem]) rfl ⟨rfl, B2.out⟩
set_option maxRecDepth 100000 in
set_option maxHeartbeats 4000000 in
theorem begin67 (G : Nat → Prop) (g : Nat) (M : HdL) (b : Int) (σ : HdS) (m t : ByteArray) (wt : Bool) (a : Option Addr) (c : Nat) (fs : List Fld) (h0 : ByteArray) (hfl : fs.length ≤ 1000000) (hok : ∀ f ∈ fs, FldOk f) (hh : allB hostN fs = [h0]) (hne : 0 < h0.size) (hte : allB encN fs = []) (hcl : allB lenN fs = [])
    (w : World) (h : HeS G 108 (paR m t (.slice none 0 0) wt 0) w g M b σ) (hf : IsFlds w a c fs) :
    Calls Tryz.prog 115 #[.pointer (some ⟨g, 0, none⟩), .slice a fs.length c] w fun x w' => x = .returned (.int .i64 0) ∧ HeS G 108 (paR m t (.slice a fs.length c) wt 0) w' g M b σ ∧ Keep G w w' := by
  have HA := Lib.hid (all44 a c fs hostN hfl hok w hf)
  rw [hh] at HA
  unfold hostN at HA
  have HFR := Lib.hid (fun W most h => frame76 a c fs most hfl hok hte hcl W h)
  have HF := Lib.hid hf
  have HD := Lib.hid h
  have HG := Lib.hid h.gG
  have e1 := emp_false h0 hne
  clear hf h hh hne hte hcl hok
  go_enter Tryz.func115, Tryz.ntmps115
  go_wp2_with fail
  with_reducible refine HA.out.mono ?_
  rintro e w1 ⟨u1, rfl, ho1, hb1⟩
  obtain ⟨a1, c1, rfl⟩ := own_slice ho1
  have hs := isStrs_of_row ho1 rfl
  obtain hs0 | ⟨bk, o, rfl, hbk, hcc, hcell⟩ := hs
  · cases hs0
  have cj : w1.cell? ⟨bk, o, none⟩ = some (.string h0) := hcell 0 h0 rfl
  have F1 := Lib.hid (HF.out.below hb1)
  have D1 := Lib.hid (HD.out.below hb1)
  have B1 := Lib.hid hb1
  have hcc2 : 1 ≤ c1 := by simpa using hcc
  clear ho1 hb1 HA HF hcell hbk hcc HD
  obtain ⟨L, H, C, b', st, f, fs', sz, cur, cr, e', hr, rv, ln, hd⟩ := D1.out
  have c3 := hd.c.2.2.2.1
  clear hd hr
  go_wp2_with fail
  with_reducible refine (HFR.out w1 b' F1.out).mono ?_
  rintro e w2 ⟨rfl, hb2⟩
  have D2 := Lib.hid (D1.out.below hb2)
  have B2 := Lib.hid (B1.out.trans (hb2.mono B1.out.size))
  have f13 := D2.out.free 13
  have f15 := D2.out.free 15
  have f16 := D2.out.free 16
  have k13 := D2.out.cellR 2
  have k15 := D2.out.cellR 4
  have k16 := D2.out.cellR 5
  simp only [paR, List.getElem?_cons_zero, List.getElem?_cons_succ, Nat.reduceAdd] at k13 k15 k16
  have HR : Hid (HeS G 108 (paR m t (.slice a fs.length c) wt 0) (((w2.setCell ⟨g, 13, none⟩ (.slice a fs.length c)).setCell ⟨g, 15, none⟩ (.int .i64 0)).setCell ⟨g, 16, none⟩ (.int .i64 0)) g M b σ) :=
    ((D2.out.setR 2 (.slice a fs.length c)).setR 4 (.int .i64 0)).setR 5 (.int .i64 0)
  have K : ∀ (v : World) (i : Nat) (u : Value), Keep G v (v.setCell ⟨g, i, none⟩ u) := fun v i u => Keep.setCell v (p := ⟨g, i, none⟩) HG.out u
  have HK : Hid (Keep G w (((w2.setCell ⟨g, 13, none⟩ (.slice a fs.length c)).setCell ⟨g, 15, none⟩ (.int .i64 0)).setCell ⟨g, 16, none⟩ (.int .i64 0))) :=
    (((Keep.of_below B2.out).trans (K _ _ _)).trans (K _ _ _)).trans (K _ _ _)
  clear hb2 B1 F1 D1 c3 K cj e1 D2 B2 HFR
  go_wp2_with fail
  go_ret
  exact ⟨rfl, HR.out, HK.out⟩
end Go.Proofs.YtbbphklhnngjmaaGreatDoor

/- framing: a single Content-Length. -/
namespace Go.Proofs.YtbbphklhnngjmaaGreatDoor
open Go.RowKit

set_option maxHeartbeats 2000000 in
theorem differs170 (x : ByteArray) (g bk o n c : Nat) (hn : 1 ≤ n) (w : World) (hg : w.cell? ⟨g, 0, none⟩ = some (.slice (some ⟨bk, o, none⟩) n c)) (hx : w.cell? ⟨bk, o, none⟩ = some (.string x)) :
    Calls Tryz.prog 170 #[.string x, .pointer (some ⟨g, 0, none⟩)] w fun e w' => e = .returned (.bool false) ∧ w = w' := by
  have ex : (x.toList == x.toList) = true := by simp
  have hn1 : (0 : Int) < n := by omega
  go_enter Tryz.func170, Tryz.ntmps170
  go_wp2_with fail
  go_ret
  exact ⟨rfl, rfl⟩
/-- The function value. -/
def diffV (g : Nat) : Value := .func (.func 170) #[] #[.pointer (some ⟨g, 0, none⟩)]
set_option maxRecDepth 100000 in
set_option maxHeartbeats 2000000 in
theorem index125L (x : ByteArray) (g bk o c : Nat) (w : World) (hg : w.cell? ⟨g, 0, none⟩ = some (.slice (some ⟨bk, o, none⟩) 1 c)) (hx : w.cell? ⟨bk, o, none⟩ = some (.string x)) :
    Calls Tryz.prog 125 #[.slice (some ⟨bk, o, none⟩) 1 c, diffV g] w fun e w' => e = .returned (.int .i64 (-1)) ∧ w = w' := by
  have HD := Lib.hid (differs170 x g bk o 1 c (Nat.le_refl _) w hg hx)
  unfold diffV
  clear hg
  go_enter Tryz.func125, Tryz.ntmps125
  go_wp2_with fail
  go_loopw [8] (fun i wr => ∃ j : Nat, j ≤ 1 ∧ i = .int .i64 (j : Int) ∧ w = wr) (fun i _ => 1 - (intOf i).toNat)
  case atStart => exact ⟨0, Nat.zero_le _, rfl, rfl⟩
  case round =>
    obtain ⟨j, hj, rfl, rfl⟩ := hrel
    by_cases hlt : j = 0
    · subst hlt
      go_wp2_with fail
      with_reducible refine HD.out.mono ?_
      rintro e w2 ⟨rfl, rfl⟩
      go_wp2_with fail
      go_roundw
      case rel => exact ⟨1, Nat.le_refl _, by go_num, trivial⟩
      case measure => simp [intOf]
    · obtain rfl : j = 1 := by omega
      go_wp2_with fail
      go_ret
      exact ⟨rfl, rfl⟩
theorem contains171L (x : ByteArray) (g bk o c : Nat) (w : World) (hg : w.cell? ⟨g, 0, none⟩ = some (.slice (some ⟨bk, o, none⟩) 1 c)) (hx : w.cell? ⟨bk, o, none⟩ = some (.string x)) :
    Calls Tryz.prog 171 #[.slice (some ⟨bk, o, none⟩) 1 c, diffV g] w fun e w' => e = .returned (.bool false) ∧ w = w' := by
  have HI := Lib.hid (index125L x g bk o c w hg hx)
  generalize diffV g = V at *
  clear hg hx
  go_enter Tryz.func171, Tryz.ntmps171
  go_wp2_with fail
  with_reducible refine HI.out.mono ?_
  rintro e w2 ⟨rfl, rfl⟩
  go_wp2_with fail
  go_ret
  exact ⟨rfl, rfl⟩
set_option maxRecDepth 100000 in
set_option maxHeartbeats 2000000 in
/-- One length that is a number. -/
theorem length154L (x : ByteArray) (bk o c : Nat) (most n : Int) (w : World) (hbk : bk < w.heap.size) (hx : w.cell? ⟨bk, o, none⟩ = some (.string x)) (hS : Syn w)
    (hD : ∀ W, Syn W → Calls Tryz.prog 136 #[.string x, .int .i64 most] W fun e w' => e = .returned (.tuple #[.int .i64 n, .int .i64 0]) ∧ Below W.heap.size W w') :
    Calls Tryz.prog 154 #[.slice (some ⟨bk, o, none⟩) 1 c, .int .i64 most] w fun e w' => e = .returned (.tuple #[.int .i64 1, .int .i64 n, .int .i64 0]) ∧ Below w.heap.size w w' := by
  have L0 := below_alloc w (.cells #[.slice (some ⟨bk, o, none⟩) 1 c] 88)
  have c0 : (w.alloc (.cells #[.slice (some ⟨bk, o, none⟩) 1 c] 88)).cell? ⟨w.heap.size, 0, none⟩ = some (.slice (some ⟨bk, o, none⟩) 1 c) := by simp
  have x0 : (w.alloc (.cells #[.slice (some ⟨bk, o, none⟩) 1 c] 88)).cell? ⟨bk, o, none⟩ = some (.string x) := by rw [(bcell L0).1 _ _ hbk]; exact hx
  have S0 := Lib.hid (hS.below L0)
  have LL := Lib.hid L0
  have HD := Lib.hid hD
  clear hS hD hx L0
  go_enter Tryz.func154, Tryz.ntmps154
  go_upto_region 1 with fail
  obtain ⟨b0, hb0⟩ : ∃ b0, b0 = w.heap.size := ⟨_, rfl⟩
  rw [← hb0] at c0 ⊢
  generalize World.alloc w _ = w0 at *
  have HC := Lib.hid (contains171L x b0 bk o c w0 c0 x0)
  unfold diffV at HC
  clear hb0
  go_wp2_with fail
  with_reducible refine HC.out.mono ?_
  rintro e w1 ⟨rfl, rfl⟩
  go_wp2_with fail
  with_reducible refine (HD.out w0 S0.out).mono ?_
  rintro e w2 ⟨rfl, hb2⟩
  have L2 := Lib.hid (LL.out.trans (hb2.mono LL.out.size))
  clear hb2 LL HC HD S0
  go_wp2_with fail
  refine bodyPost_ret (v := .tuple #[.int .i64 1, .int .i64 n, .int .i64 0]) (by simp [results, Tryz.results154, go_sem]) rfl ⟨rfl, L2.out⟩
set_option maxRecDepth 100000 in
set_option maxHeartbeats 4000000 in
/-- No Transfer-Encoding, one Content-Length. -/
theorem frame76L (a : Option Addr) (c : Nat) (fs : List Fld) (most n : Int) (x : ByteArray) (hfl : fs.length ≤ 1000000) (hok : ∀ f ∈ fs, FldOk f) (hte : allB encN fs = []) (hcl : allB lenN fs = [x]) (w : World) (hS : Syn w) (hf : IsFlds w a c fs)
    (hD : ∀ W, Syn W → Calls Tryz.prog 136 #[.string x, .int .i64 most] W fun e w' => e = .returned (.tuple #[.int .i64 n, .int .i64 0]) ∧ Below W.heap.size W w') :
    Calls Tryz.prog 132 #[.slice a fs.length c, .int .i64 most] w fun x w' => x = .returned (.tuple #[.int .i64 1, .int .i64 n, .int .i64 0]) ∧ Below w.heap.size w w' := by
  have HA := Lib.hid (fun W h => all44 a c fs encN hfl hok W h)
  have HC := Lib.hid (fun W h => all44 a c fs lenN hfl hok W h)
  rw [hte] at HA
  rw [hcl] at HC
  unfold encN at HA
  unfold lenN at HC
  have HF := Lib.hid hf
  have HD := Lib.hid hD
  have HS := Lib.hid hS
  clear hf hte hcl hok hD hS
  go_enter Tryz.func132, Tryz.ntmps132
  go_wp2_with fail
  with_reducible refine (HA.out w HF.out).mono ?_
  rintro e w1 ⟨u1, rfl, ho1, hb1⟩
  obtain ⟨a1, c1, rfl⟩ := own_len0 ho1
  have F1 := Lib.hid (HF.out.below hb1)
  have S1 := Lib.hid (HS.out.below hb1)
  have B1 := Lib.hid hb1
  clear ho1 hb1 HA HF HS
  go_wp2_with fail
  with_reducible refine (HC.out w1 F1.out).mono ?_
  rintro e w2 ⟨u2, rfl, ho2, hb2⟩
  obtain ⟨a2, c2, rfl⟩ := own_slice ho2
  have hs := isStrs_of_row ho2 rfl
  obtain hs0 | ⟨bk, o, rfl, hbk, hcc, hcell⟩ := hs
  · cases hs0
  have cj : w2.cell? ⟨bk, o, none⟩ = some (.string x) := hcell 0 x rfl
  have S2 := Lib.hid (S1.out.below hb2)
  have B2 := Lib.hid (B1.out.trans (hb2.mono B1.out.size))
  have HL := Lib.hid (length154L x bk o c2 most n w2 hbk cj S2.out HD.out)
  clear ho2 hb2 HC F1 B1 S1 hcell hbk hcc cj HD S2
  go_wp2_with fail
  with_reducible refine HL.out.mono ?_
  rintro e w3 ⟨rfl, hb3⟩
  have B3 := Lib.hid (B2.out.trans (hb3.mono B2.out.size))
  clear hb3 HL B2
  go_wp2_with fail
  refine bodyPost_ret (v := .tuple #[.int .i64 1, .int .i64 n, .int .i64 0]) (by simp [results, Tryz.results132, go_sem]) rfl ⟨rfl, B3.out⟩
end Go.Proofs.YtbbphklhnngjmaaGreatDoor

