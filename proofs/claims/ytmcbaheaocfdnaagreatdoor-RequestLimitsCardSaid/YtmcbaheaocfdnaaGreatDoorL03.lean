/- Packed: LawFldS, PrM, NumR, PrN, PrO, FldT, PrP. -/
import Derived.Test.YtmcbaheaocfdnaaGreatDoorQ05
import Derived.Test.YtmcbaheaocfdnaaGreatDoorQ08
import Derived.Test.YtmcbaheaocfdnaaGreatDoorQ09
import Derived.Test.YtmcbaheaocfdnaaGreatDoorQ11
import Derived.Test.YtmcbaheaocfdnaaGreatDoorQ12
/- The walk of the statement FieldsSame. -/
namespace Go.Proofs.YtmcbaheaocfdnaaGreatDoor
open Go.RowKit

theorem own_isFldsT {w : World} {base : Nat} {T : TypeId} {v : Value} {fs : List Fld} (h : w.ownsRow base T 2 v fs.length (cellsF fs)) : ∃ a c, v = .slice a fs.length c ∧ (a = none → c = 0 ∧ fs = []) ∧ IsFlds w a c fs := by
  obtain ⟨_, ⟨rfl, h0⟩ | ⟨g, cap, cur, rfl, _, hg, hcap, _, hcs, htk⟩⟩ := h
  · obtain rfl : fs = [] := List.eq_nil_of_length_eq_zero h0
    exact ⟨none, 0, rfl, fun _ => ⟨rfl, rfl⟩, .inl rfl⟩
  · refine ⟨some ⟨g, 0, none⟩, cap, rfl, (fun h => by cases h), .inr ⟨g, 0, rfl, (Array.getElem?_eq_some_iff.1 hg).1, hcap, fun j f hf => ?_⟩⟩
    obtain ⟨g1, g2⟩ := cellsF_at fs j f hf
    have hj := (List.getElem?_eq_some_iff.1 hf).1
    rw [← htk, List.getElem?_take, if_pos (by omega)] at g1 g2
    rw [Nat.zero_add]
    simp only [Array.getElem?_toList] at g1 g2
    exact ⟨by simp [World.cell?, hg, g1], by simp [World.cell?, hg, g2]⟩
theorem fewF_length (fs : List Fld) (n : Nat) : (fewF fs n).length ≤ n := by
  unfold fewF; simp; omega
theorem few39s (a : Option Addr) (c : Nat) (fs : List Fld) (n : Nat) (hn : n ≤ 1000) (hfl : fs.length ≤ 9223372036854775807) (w : World) (hf : IsFlds w a c fs) :
    Calls Tryz.prog 16 #[.slice a fs.length c, .int .i64 n] w fun e w' => ∃ b d, e = .returned (.slice b (fewF fs n).length d) ∧ (b = none → d = 0 ∧ fewF fs n = []) ∧ IsFlds w' b d (fewF fs n) ∧ Below w.heap.size w w' := by
  refine (few39 a c fs n hn hfl w hf).mono ?_
  rintro e w' ⟨u, rfl, ho, hb⟩
  obtain ⟨b, d, rfl, h1, h2⟩ := own_isFldsT ho
  exact ⟨b, d, rfl, h1, h2, hb⟩
theorem own40s (a : Option Addr) (c : Nat) (fs : List Fld) (hfl : fs.length ≤ 1000000) (w : World) (hf : IsFlds w a c fs) :
    Calls Tryz.prog 34 #[.slice a fs.length c] w fun e w' => ∃ b d, e = .returned (.slice b fs.length d) ∧ IsFlds w' b d fs ∧ Below w.heap.size w w' := by
  refine (own40 a c fs hfl w hf).mono ?_
  rintro e w' ⟨u, rfl, ho, hb⟩
  obtain ⟨b, d, rfl, _, h2⟩ := own_isFldsT ho
  exact ⟨b, d, rfl, h2, hb⟩
end Go.Proofs.YtmcbaheaocfdnaaGreatDoor

/- request: what a parser comes to over a request's text (lists). -/
namespace Go.Proofs.YtmcbaheaocfdnaaGreatDoor
open Go.RowKit

def Clean (s : List UInt8) : Prop := (10 : UInt8) ∉ s ∧ (13 : UInt8) ∉ s
instance (s : List UInt8) : Decidable (Clean s) := inferInstanceAs (Decidable ((10 : UInt8) ∉ s ∧ (13 : UInt8) ∉ s))
theorem Clean.app {a b : List UInt8} (h : Clean a) (k : Clean b) : Clean (a ++ b) :=
  ⟨fun m => (List.mem_append.1 m).elim h.1 k.1, fun m => (List.mem_append.1 m).elim h.2 k.2⟩
theorem rl_clean (most : Int) (t : List UInt8) : ∀ (s cur : List UInt8), Clean s → rlGo most cur (s ++ 13 :: 10 :: t) = if s = [] ∨ ((cur.length + s.length : Nat) : Int) ≤ most then .whole (cur ++ s) else .err 4
  | [], cur, _ => by
    rw [if_pos (.inl rfl), List.nil_append, rl_crlf, List.append_nil]
  | c :: r, cur, h => by
    have h10 : c ≠ 10 := fun e => h.1 (by rw [e]; exact List.mem_cons_self ..)
    have h13 : c ≠ 13 := fun e => h.2 (by rw [e]; exact List.mem_cons_self ..)
    have hr : Clean r := ⟨fun m => h.1 (List.mem_cons_of_mem _ m), fun m => h.2 (List.mem_cons_of_mem _ m)⟩
    rw [List.cons_append]
    by_cases hm : most ≤ (cur.length : Int)
    · rw [rl_long _ _ _ _ h10 h13 hm, if_neg]
      rintro (e | e)
      · cases e
      · rw [List.length_cons] at e; omega
    · rw [rl_go _ _ _ _ h10 h13 hm, rl_clean most t r (cur ++ [c]) hr]
      have hl : (cur ++ [c]).length = cur.length + 1 := by simp
      have hl2 : (c :: r).length = r.length + 1 := rfl
      by_cases hc : ((cur.length + (c :: r).length : Nat) : Int) ≤ most
      · rw [if_pos (.inr (by rw [hl]; omega)), if_pos (.inr hc)]
        simp
      · rw [if_neg, if_neg]
        · rintro (e | e)
          · cases e
          · exact hc e
        · rintro (e | e)
          · subst e; exact hc (by rw [hl2]; simp; omega)
          · exact hc (by rw [hl] at e; rw [hl2]; omega)
theorem run_clean (M : HdL) (fo : Option (List UInt8)) (fs : List Fld) (sz : Nat) (s t : List UInt8) (hc : Clean s) : hRun M (.line fo fs sz [] false) (s ++ 13 :: 10 :: t) = if s = [] ∨ (s.length : Int) ≤ M.room fo sz then hRun M (M.close anyFirst fo fs sz s) t else .err 4 := by
  have h := rl_clean (M.room fo sz) t s [] hc
  rw [List.nil_append, List.length_nil, Nat.zero_add] at h
  by_cases hq : s = [] ∨ (s.length : Int) ≤ M.room fo sz
  · rw [if_pos hq]
    rw [if_pos hq] at h
    obtain ⟨t', e, h1, _⟩ := run_whole (may := anyFirst) (fs := fs) h
    have e2 : t = t' := by simpa using e
    rw [e2] at h1 ⊢
    exact h1
  · rw [if_neg hq]
    rw [if_neg hq] at h
    exact (run_line M anyFirst fo fs sz _ []).2.1 4 h
/-- A field that is read from how it is written. -/
def FOk (f : Fld) : Prop := parseL (f.1 ++ [58, 32] ++ f.2) = some f
theorem val10 : isVal 10 = false := by decide +kernel
theorem val13 : isVal 13 = false := by decide +kernel
theorem tok10 : isTok 10 = false := by decide +kernel
theorem tok13 : isTok 13 = false := by decide +kernel
theorem vis10 : isVis 10 = false := by decide +kernel
theorem vis13 : isVis 13 = false := by decide +kernel
theorem val_no {c : UInt8} (hc : isVal c = false) {n : List UInt8} (h : valB n = true) : c ∉ n := by
  intro hm
  unfold valB at h
  rw [Bool.and_eq_true] at h
  have := List.all_eq_true.1 h.2 c hm
  rw [hc] at this
  cases this
theorem fok_parts {f : Fld} (h : FOk f) : tokB f.1 = true ∧ valB f.2 = true := by
  unfold FOk parseL at h
  simp only at h
  split at h
  · rename_i hc
    injection h with h
    have e1 := congrArg Prod.fst h
    have e2 := congrArg Prod.snd h
    simp only at e1 e2
    rw [e1, e2] at hc
    exact hc.2
  · cases h
theorem fok_clean {f : Fld} (h : FOk f) : Clean (f.1 ++ [58, 32] ++ f.2) ∧ f.1 ++ [58, 32] ++ f.2 ≠ [] := by
  obtain ⟨h1, h2⟩ := fok_parts h
  refine ⟨Clean.app (Clean.app ⟨tok_no tok10 h1, tok_no tok13 h1⟩ (by decide)) ⟨val_no val10 h2, val_no val13 h2⟩, ?_⟩
  simp
theorem textL_cons (f : Fld) (r : List Fld) (t : List UInt8) : textL (f :: r) ++ t = (f.1 ++ [58, 32] ++ f.2) ++ 13 :: 10 :: (textL r ++ t) := by
  simp [textL, lineL]
theorem textL_len (f : Fld) (r : List Fld) : (textL (f :: r)).length = (f.1 ++ [58, 32] ++ f.2).length + 2 + (textL r).length := by
  have := congrArg List.length (textL_cons f r [])
  simp only [List.append_nil, List.length_append, List.length_cons, List.length_nil] at this ⊢
  omega
theorem hRun_err (M : HdL) (e : Int) (l : List UInt8) : hRun M (.err e) l = .err e := hdRun_err M anyFirst e l
theorem close_ok (M : HdL) (s : List UInt8) (gs : List Fld) (sz : Nat) (f : Fld) (hf : FOk f) (h1 : ((sz + (f.1 ++ [58, 32] ++ f.2).length + 2 : Nat) : Int) ≤ max 0 M.head) (h2 : ((gs.length + 1 : Nat) : Int) ≤ max 0 M.count) :
    M.close anyFirst (some s) gs sz (f.1 ++ [58, 32] ++ f.2) = .line (some s) (gs ++ [f]) (sz + (f.1 ++ [58, 32] ++ f.2).length + 2) [] false := by
  have hp : parseL (f.1 ++ [58, 32] ++ f.2) = some f := hf
  have hne := (fok_clean hf).2
  generalize f.1 ++ [58, 32] ++ f.2 = b at *
  simp only [HdL.close]
  rw [if_neg hne, if_neg (by rintro (h | h) <;> omega), hp]
theorem close_bad (M : HdL) (s : List UInt8) (gs : List Fld) (sz : Nat) (b : List UInt8) (hne : b ≠ []) (h : ¬ (((sz + b.length + 2 : Nat) : Int) ≤ max 0 M.head ∧ ((gs.length + 1 : Nat) : Int) ≤ max 0 M.count)) :
    M.close anyFirst (some s) gs sz b = .err 4 := by
  simp only [HdL.close]
  rw [if_neg hne, if_pos]
  by_cases h1 : ((sz + b.length + 2 : Nat) : Int) ≤ max 0 M.head
  · right
    have h2 : ¬ ((gs.length + 1 : Nat) : Int) ≤ max 0 M.count := fun k => h ⟨h1, k⟩
    omega
  · left; omega
theorem run_flds_ok (M : HdL) (s : List UInt8) : ∀ (FL gs : List Fld) (sz : Nat) (t : List UInt8), (∀ f ∈ FL, FOk f) → ((sz + (textL FL).length : Nat) : Int) ≤ max 0 M.head → ((gs.length + FL.length : Nat) : Int) ≤ max 0 M.count →
    hRun M (.line (some s) gs sz [] false) (textL FL ++ t) = hRun M (.line (some s) (gs ++ FL) (sz + (textL FL).length) [] false) t
  | [], gs, sz, t, _, _, _ => by
    have e : textL [] = [] := rfl
    rw [e, List.nil_append, List.append_nil]
    rfl
  | f :: r, gs, sz, t, hf, h1, h2 => by
    have hf0 := hf f (List.mem_cons_self ..)
    have hl := textL_len f r
    rw [List.length_cons] at h2
    rw [hl] at h1
    have hcl := close_ok M s gs sz f hf0 (by omega) (by omega)
    rw [textL_cons, run_clean _ _ _ _ _ _ (fok_clean hf0).1, if_pos (.inr (by show _ ≤ max 0 M.head - (sz : Int); omega)), hcl,
      run_flds_ok M s r (gs ++ [f]) _ t (fun g hg => hf g (List.mem_cons_of_mem _ hg)) (by omega) (by rw [List.length_append, List.length_singleton]; omega)]
    have e1 : gs ++ [f] ++ r = gs ++ f :: r := by simp
    have e2 : sz + (f.1 ++ [58, 32] ++ f.2).length + 2 + (textL r).length = sz + (textL (f :: r)).length := by omega
    rw [e1, e2]
theorem run_flds_bad (M : HdL) (s : List UInt8) : ∀ (FL gs : List Fld) (sz : Nat) (t : List UInt8), (∀ f ∈ FL, FOk f) → FL ≠ [] → ¬ (((sz + (textL FL).length : Nat) : Int) ≤ max 0 M.head ∧ ((gs.length + FL.length : Nat) : Int) ≤ max 0 M.count) →
    hRun M (.line (some s) gs sz [] false) (textL FL ++ t) = .err 4
  | [], _, _, _, _, hne, _ => absurd rfl hne
  | f :: r, gs, sz, t, hf, _, h => by
    have hf0 := hf f (List.mem_cons_self ..)
    have hl := textL_len f r
    rw [List.length_cons, hl] at h
    rw [textL_cons, run_clean _ _ _ _ _ _ (fok_clean hf0).1]
    by_cases hroom : ((f.1 ++ [58, 32] ++ f.2).length : Int) ≤ M.room (some s) sz
    · rw [if_pos (.inr hroom)]
      by_cases hfit : ((sz + (f.1 ++ [58, 32] ++ f.2).length + 2 : Nat) : Int) ≤ max 0 M.head ∧ ((gs.length + 1 : Nat) : Int) ≤ max 0 M.count
      · rw [close_ok M s gs sz f hf0 hfit.1 hfit.2]
        by_cases hr : r = []
        · subst hr
          have e : (textL ([] : List Fld)).length = 0 := rfl
          rw [e] at h
          exact absurd ⟨by have := hfit.1; omega, by have := hfit.2; simp; omega⟩ h
        · exact run_flds_bad M s r (gs ++ [f]) _ t (fun g hg => hf g (List.mem_cons_of_mem _ hg)) hr (fun k => h ⟨by have := k.1; omega, by have := k.2; rw [List.length_append, List.length_singleton] at this; omega⟩)
      · rw [close_bad M s gs sz _ (fok_clean hf0).2 hfit, hRun_err]
    · rw [if_neg]
      rintro (e | e)
      · exact (fok_clean hf0).2 e
      · exact hroom e
section
variable (M : HdL) (m t : List UInt8) (FL : List Fld)
def lnL : List UInt8 := m ++ 32 :: (t ++ sfxL)
theorem reqLine_ln : reqLine (m, t) = lnL m t ++ [13, 10] := by
  unfold reqLine lnL
  have : sfxL = 32 :: verL := rfl
  rw [this]
  simp
theorem ln_clean (hm : tokB m = true) (ht : tgtB t = true) : Clean (lnL m t) := by
  have h1 : Clean m := ⟨tok_no tok10 hm, tok_no tok13 hm⟩
  have h2 : Clean t := ⟨tgt_no vis10 ht, tgt_no vis13 ht⟩
  have h3 : Clean sfxL := by decide
  exact Clean.app h1 (Clean.app (a := [32]) (by decide) (Clean.app h2 h3))
theorem ln_nl (hc : Clean (lnL m t)) (r : List UInt8) : nlAt (lnL m t ++ 13 :: 10 :: r) = (lnL m t).length + 2 := by
  have h : Lib.indexByte (lnL m t ++ 13 :: 10 :: r) 10 = (((lnL m t).length + 1 : Nat) : Int) := by
    refine ib_at 10 _ _ ?_ ?_
    · have e : (lnL m t ++ 13 :: 10 :: r).take ((lnL m t).length + 1) = lnL m t ++ [13] := by
        have e2 : lnL m t ++ 13 :: 10 :: r = (lnL m t ++ [13]) ++ 10 :: r := by simp
        have e3 : (lnL m t).length + 1 = (lnL m t ++ [13]).length := by simp
        rw [e2, e3, List.take_left' rfl]
      rw [e]
      intro hm
      rcases List.mem_append.1 hm with h | h
      · exact hc.1 h
      · exact absurd h (by decide)
    · have e2 : lnL m t ++ 13 :: 10 :: r = (lnL m t ++ [13]) ++ 10 :: r := by simp
      have e3 : (lnL m t).length + 1 = (lnL m t ++ [13]).length := by simp
      rw [e2, e3, List.getElem?_append_right (Nat.le_refl _), Nat.sub_self]
      rfl
  unfold nlAt
  rw [if_neg (by rw [h]; omega), h]
  omega
/-- A request's text. -/
def rqL : List UInt8 := lnL m t ++ 13 :: 10 :: (textL FL ++ [13, 10])
theorem take_ln (r : List UInt8) : (lnL m t ++ 13 :: 10 :: r).take ((lnL m t).length + 2) = lnL m t ++ 13 :: 10 :: [] := by
  have e2 : lnL m t ++ 13 :: 10 :: r = (lnL m t ++ [13, 10]) ++ r := by simp
  have e3 : (lnL m t).length + 2 = (lnL m t ++ [13, 10]).length := by simp
  rw [e2, e3, List.take_left' rfl]
theorem drop_ln (r : List UInt8) : (lnL m t ++ 13 :: 10 :: r).drop ((lnL m t).length + 2) = r := by
  have e2 : lnL m t ++ 13 :: 10 :: r = (lnL m t ++ [13, 10]) ++ r := by simp
  have e3 : (lnL m t).length + 2 = (lnL m t ++ [13, 10]).length := by simp
  rw [e2, e3, List.drop_left' rfl]
theorem ln_ne : lnL m t ≠ [] := by
  intro h
  have := congrArg List.length h
  simp [lnL] at this
theorem ln_run (hc : Clean (lnL m t)) : hRun M hd0 (lnL m t ++ 13 :: 10 :: []) = if ((lnL m t).length : Int) ≤ max 0 M.line then .line (some (lnL m t)) [] 0 [] false else .err 4 := by
  have h := run_clean M none [] 0 (lnL m t) [] hc
  show hRun M (.line none [] 0 [] false) _ = _
  rw [h]
  by_cases hq : ((lnL m t).length : Int) ≤ max 0 M.line
  · rw [if_pos hq, if_pos (.inr hq)]
    rfl
  · rw [if_neg hq, if_neg]
    rintro (e | e)
    · exact ln_ne m t e
    · exact hq e
variable (hm : tokB m = true) (ht : tgtB t = true)
include hm ht
theorem req_back : reqP (lnL m t) = some (m, t) := by
  unfold lnL
  rw [req_line, if_pos ⟨hm, ht⟩]
variable (hz : (rqL m t FL).length ≤ 1000000)
include hz
theorem prun_long (h : ¬ ((lnL m t).length : Int) ≤ max 0 M.line) : PRun M (.on hd0 [] []) (rqL m t FL) [] (.err 4) := by
  have hc := ln_clean m t hm ht
  refine .bad hd0 (.err 4) [] [] _ 4 ?_ rfl ?_ ?_ rfl rfl (by decide) (by decide)
  · unfold rqL; simp
  · have : hd0.wt = 0 := rfl
    omega
  · unfold rqL
    rw [ln_nl m t hc, take_ln, ln_run M m t hc, if_neg h]
theorem prun_line {acc : List Rq} {p : PaP} (h : ((lnL m t).length : Int) ≤ max 0 M.line) (hr : PRun M (.on (.line (some (lnL m t)) [] 0 [] false) m t) (textL FL ++ [13, 10]) acc p) : PRun M (.on hd0 [] []) (rqL m t FL) acc p := by
  have hc := ln_clean m t hm ht
  have hlen : (lnL m t).length ≤ 1000000 := by unfold rqL at hz; simp at hz; omega
  refine .good hd0 (.line (some (lnL m t)) [] 0 [] false) [] [] _ m t _ _ ?_ rfl ?_ ?_ rfl rfl (req_back m t hm ht) (by show (lnL m t).length ≤ _; omega) ?_
  · unfold rqL; simp
  · have : hd0.wt = 0 := rfl
    omega
  · unfold rqL
    rw [ln_nl m t hc, take_ln, ln_run M m t hc, if_pos h]
  · unfold rqL
    rw [ln_nl m t hc, drop_ln]
    exact hr
variable (hf : ∀ f ∈ FL, FOk f)
include hf
theorem prun_flds (h : ((lnL m t).length : Int) ≤ max 0 M.line) (hne : FL ≠ []) (hbad : ¬ (((textL FL).length : Int) ≤ max 0 M.head ∧ (FL.length : Int) ≤ max 0 M.count)) : PRun M (.on hd0 [] []) (rqL m t FL) [] (.err 4) := by
  refine prun_line M m t FL hm ht hz h (.fbad _ _ _ _ 4 (by simp) rfl rfl ?_ ?_ (by decide))
  · unfold rqL at hz
    simp at hz ⊢
    show 0 + 0 + 0 + 4 * _ ≤ _
    omega
  · exact run_flds_bad M (lnL m t) FL [] 0 [13, 10] hf hne (fun k => hbad ⟨by have := k.1; omega, by have := k.2; rw [List.length_nil] at this; omega⟩)
theorem prun_good (h : ((lnL m t).length : Int) ≤ max 0 M.line) (h1 : ((textL FL).length : Int) ≤ max 0 M.head) (h2 : (FL.length : Int) ≤ max 0 M.count) (hn : NoBody FL) : PRun M (.on hd0 [] []) (rqL m t FL) [(m, t, FL.length)] (.on hd0 [] []) := by
  have hrun : ∀ r, hRun M (.line (some (lnL m t)) [] 0 [] false) (textL FL ++ r) = hRun M (.line (some (lnL m t)) FL (textL FL).length [] false) r := by
    intro r
    rw [run_flds_ok M (lnL m t) FL [] 0 r hf (by omega) (by rw [List.length_nil]; omega)]
    simp
  have hend : hRun M (.line (some (lnL m t)) FL (textL FL).length [] false) [13, 10] = .done (lnL m t) FL := by
    have := run_clean M (some (lnL m t)) FL (textL FL).length [] [] (by decide)
    rw [if_pos (.inl rfl)] at this
    rw [List.nil_append] at this
    rw [this]
    simp [HdL.close]
    rfl
  refine prun_line M m t FL hm ht hz h (.fdone _ _ _ _ (lnL m t) FL [] _ (by simp) rfl rfl ?_ ?_ hn ?_)
  · unfold rqL at hz
    simp at hz ⊢
    show 0 + 0 + 0 + 4 * _ ≤ _
    omega
  · rw [hrun, hend]
  · have e : hLeft M (.line (some (lnL m t)) [] 0 [] false) (textL FL ++ [13, 10]) = [] := by
      have hr0 := hrun []
      rw [List.append_nil] at hr0
      show mLeft _ _ _ _ = _
      rw [mLeft_app _ _ (hd_fin M anyFirst) _ _ _ (by rw [show mRun (M.step anyFirst) (.line (some (lnL m t)) [] 0 [] false) (textL FL) = _ from hr0]; rfl), show mRun (M.step anyFirst) (.line (some (lnL m t)) [] 0 [] false) (textL FL) = _ from hr0]
      rfl
    rw [e]
    exact .nil _ _ _
end
end Go.Proofs.YtmcbaheaocfdnaaGreatDoor

/- The reference's Number; the walk of the statement OctetNumbers. -/
namespace Go.Proofs.YtmcbaheaocfdnaaGreatDoor
open Go.RowKit

theorem hex_cases (c : UInt8) (q : Bool) (hq : isHex c = q) : (isDec c = true ∧ q = true ∧ (c.toNat : Int) - 48 = dgt c ∧ 48 ≤ c.toNat ∧ c.toNat ≤ 57)
    ∨ (isDec c = false ∧ q = true ∧ (c.toNat : Int) - 87 = dgt c ∧ 97 ≤ c.toNat ∧ c.toNat ≤ 102) ∨ (isDec c = false ∧ q = true ∧ (c.toNat : Int) - 55 = dgt c ∧ 65 ≤ c.toNat ∧ c.toNat ≤ 70)
    ∨ (isDec c = false ∧ q = false ∧ (c.toNat < 97 ∨ 102 < c.toNat) ∧ (c.toNat < 65 ∨ 70 < c.toNat)) := by
  subst hq; revert c; apply all256; decide +kernel
theorem dec_cases (c : UInt8) (q : Bool) (hq : isDec c = q) : (q = true ∧ (c.toNat : Int) - 48 = dgt c ∧ 48 ≤ c.toNat ∧ c.toNat ≤ 57) ∨ q = false := by
  subst hq; revert c; apply all256; decide +kernel

set_option maxRecDepth 100000 in
set_option maxHeartbeats 2000000 in
theorem num27_10 (s : ByteArray) (hs : s.size ≤ 1000000) (most : Int) (r1 r2 : Int) (hr : numR 10 10 isDec s.data.toList most = (r1, r2)) (w : World) :
    Calls Tryz.prog 49 #[.string s, .int .i64 10, .int .i64 most] w fun e w' => e = .returned (.tuple #[.int .i64 r1, .int .i64 r2]) ∧ w = w' := by
  have hz := Lib.size_eq s
  unfold numR at hr
  by_cases h1 : s.size < 1
  · rw [if_pos (.inl (by omega))] at hr
    injection hr with e1 e2
    subst e1
    subst e2
    have : (s.size : Int) < 1 := by omega
    clear hz
    go_enter Tryz.func49, Tryz.ntmps49
    go_wp2_with fail
    go_ret2
    exact ⟨rfl, rfl⟩
  by_cases h2 : 10 < s.size
  · rw [if_pos (.inr (.inl (by omega)))] at hr
    injection hr with e1 e2
    subst e1
    subst e2
    have : ¬ (s.size : Int) < 1 := by omega
    have : (s.size : Int) > 10 := by omega
    clear hz
    go_enter Tryz.func49, Tryz.ntmps49
    go_wp2_with fail
    go_ret2
    exact ⟨rfl, rfl⟩
  have HR := Lib.hid hr
  have HZ := Lib.hid hz
  have g1 : ¬ (s.size : Int) < 1 := by omega
  have g2 : ¬ (s.size : Int) > 10 := by omega
  clear hr hz
  go_enter Tryz.func49, Tryz.ntmps49
  go_wp2_with fail
  go_loop [9, 10] (fun n i => ∃ j : Nat, j ≤ s.size ∧ i = .int .i64 (j : Int) ∧ n = .int .i64 (numD 10 (s.data.toList.take j)) ∧ Hid ((s.data.toList.take j).all isDec = true)) (fun _ i => s.size - (intOf i).toNat)
  case atStart => exact ⟨0, Nat.zero_le _, rfl, rfl, by simp [Hid]⟩
  case round =>
    obtain ⟨j, hj, rfl, rfl, hal⟩ := hrel
    have hnl := numD_lt 10 isDec (fun c h => dec_dgt c h) (s.data.toList.take j) hal.out
    have hn0 : 0 ≤ numD 10 (s.data.toList.take j) := hnl.1
    have hpw : 10 ^ (s.data.toList.take j).length ≤ 10 ^ 10 := Nat.pow_le_pow_right (by decide) (by rw [List.length_take]; omega)
    have hn1 : numD 10 (s.data.toList.take j) < 10000000000 := by
      have := hnl.2
      have h2 : ((10 ^ (s.data.toList.take j).length : Nat) : Int) ≤ ((10 ^ 10 : Nat) : Int) := by exact_mod_cast hpw
      have h3 : ((10 ^ 10 : Nat) : Int) = 10000000000 := by decide
      have h4 : (((10 : Nat) : Int)) = 10 := rfl
      rw [h4] at this
      omega
    by_cases hlt : j < s.size
    · have hst : numD 10 (s.data.toList.take (j + 1)) = 10 * numD 10 (s.data.toList.take j) + dgt s[j] := by rw [take_snoc s j hlt, numD_snoc]
      obtain ⟨n, hn⟩ : ∃ n, n = numD 10 (s.data.toList.take j) := ⟨_, rfl⟩
      rw [← hn] at hst hn0 hn1 ⊢
      have HS := Lib.hid hst
      have hc8 := byte_lt s[j]
      obtain ⟨q, hq⟩ : ∃ q, isDec s[j] = q := ⟨_, rfl⟩
      have HN : Hid (q = false → r1 = 0 ∧ r2 = 2) := fun e => by
        have h := HR.out
        rw [if_pos (.inr (.inr (all_no s isDec j hlt (hq.trans e))))] at h
        injection h with e1 e2
        exact ⟨e1.symm, e2.symm⟩
      have HY : Hid (q = true → (s.data.toList.take (j + 1)).all isDec = true) := fun e => all_step s isDec j hlt hal.out (hq.trans e)
      clear hst hnl hpw hn hal
      have hcs := dec_cases s[j] q hq
      have HD := Lib.hid (digit59 s[j] q hq)
      clear hq
      rcases hcs with ⟨rfl, hd, h1, h2⟩ | rfl
      · have hdv := Lib.hid hd
        have k1 : (48 : Int) ≤ s[j].toNat := by omega
        have k2 : (s[j].toNat : Int) ≤ 57 := by omega
        clear hd
        go_wp2_with (go_at_call 51; refine (HD.out _).mono ?_; rintro e w' ⟨rfl, rfl⟩)
        go_round
        case rel => exact ⟨j + 1, by omega, by go_num, by rw [HS.out, ← hdv.out], HY.out trivial⟩
        case measure => simp [intOf]; omega
      · skip
        go_wp2_with (go_at_call 51; refine (HD.out _).mono ?_; rintro e w' ⟨rfl, rfl⟩)
        go_ret2
        obtain ⟨e1, e2⟩ := HN.out trivial
        exact ⟨by rw [e1, e2]; rfl, rfl⟩
    · have hf := all_full s isDec j hlt hal.out
      have hfull : s.data.toList.take j = s.data.toList := List.take_of_length_le (by have := HZ.out; omega)
      rw [hfull] at hn0 hn1 ⊢
      have hv := HR.out
      rw [if_neg (by have := HZ.out; rintro (h | h | h); (· omega); (· omega); (· rw [hf] at h; cases h))] at hv
      clear hal hf hfull hnl hpw
      generalize numD 10 s.data.toList = n at *
      by_cases hm : most < n
      · rw [if_pos hm] at hv
        injection hv with e1 e2
        subst e1
        subst e2
        have : n > most := hm
        go_wp2_with fail
        go_ret2
        exact ⟨rfl, rfl⟩
      · rw [if_neg hm] at hv
        injection hv with e1 e2
        subst e1
        subst e2
        have : ¬ n > most := hm
        go_wp2_with fail
        go_ret2
        exact ⟨rfl, rfl⟩

set_option maxRecDepth 100000 in
set_option maxHeartbeats 2000000 in
theorem num27_16 (s : ByteArray) (hs : s.size ≤ 1000000) (most : Int) (r1 r2 : Int) (hr : numR 16 8 isHex s.data.toList most = (r1, r2)) (w : World) :
    Calls Tryz.prog 49 #[.string s, .int .i64 16, .int .i64 most] w fun e w' => e = .returned (.tuple #[.int .i64 r1, .int .i64 r2]) ∧ w = w' := by
  have hz := Lib.size_eq s
  unfold numR at hr
  by_cases h1 : s.size < 1
  · rw [if_pos (.inl (by omega))] at hr
    injection hr with e1 e2
    subst e1
    subst e2
    have : (s.size : Int) < 1 := by omega
    clear hz
    go_enter Tryz.func49, Tryz.ntmps49
    go_wp2_with fail
    go_ret2
    exact ⟨rfl, rfl⟩
  by_cases h2 : 8 < s.size
  · rw [if_pos (.inr (.inl (by omega)))] at hr
    injection hr with e1 e2
    subst e1
    subst e2
    have : ¬ (s.size : Int) < 1 := by omega
    have : (s.size : Int) > 8 := by omega
    clear hz
    go_enter Tryz.func49, Tryz.ntmps49
    go_wp2_with fail
    go_ret2
    exact ⟨rfl, rfl⟩
  have HR := Lib.hid hr
  have HZ := Lib.hid hz
  have g1 : ¬ (s.size : Int) < 1 := by omega
  have g2 : ¬ (s.size : Int) > 8 := by omega
  clear hr hz
  go_enter Tryz.func49, Tryz.ntmps49
  go_wp2_with fail
  go_loop [9, 10] (fun n i => ∃ j : Nat, j ≤ s.size ∧ i = .int .i64 (j : Int) ∧ n = .int .i64 (numD 16 (s.data.toList.take j)) ∧ Hid ((s.data.toList.take j).all isHex = true)) (fun _ i => s.size - (intOf i).toNat)
  case atStart => exact ⟨0, Nat.zero_le _, rfl, rfl, by simp [Hid]⟩
  case round =>
    obtain ⟨j, hj, rfl, rfl, hal⟩ := hrel
    have hnl := numD_lt 16 isHex (fun c h => hex_dgt c h) (s.data.toList.take j) hal.out
    have hn0 : 0 ≤ numD 16 (s.data.toList.take j) := hnl.1
    have hpw : 16 ^ (s.data.toList.take j).length ≤ 16 ^ 8 := Nat.pow_le_pow_right (by decide) (by rw [List.length_take]; omega)
    have hn1 : numD 16 (s.data.toList.take j) < 4294967296 := by
      have := hnl.2
      have h2 : ((16 ^ (s.data.toList.take j).length : Nat) : Int) ≤ ((16 ^ 8 : Nat) : Int) := by exact_mod_cast hpw
      have h3 : ((16 ^ 8 : Nat) : Int) = 4294967296 := by decide
      have h4 : (((16 : Nat) : Int)) = 16 := rfl
      rw [h4] at this
      omega
    by_cases hlt : j < s.size
    · have hst : numD 16 (s.data.toList.take (j + 1)) = 16 * numD 16 (s.data.toList.take j) + dgt s[j] := by rw [take_snoc s j hlt, numD_snoc]
      obtain ⟨n, hn⟩ : ∃ n, n = numD 16 (s.data.toList.take j) := ⟨_, rfl⟩
      rw [← hn] at hst hn0 hn1 ⊢
      have HS := Lib.hid hst
      have hc8 := byte_lt s[j]
      obtain ⟨q, hq⟩ : ∃ q, isHex s[j] = q := ⟨_, rfl⟩
      have HN : Hid (q = false → r1 = 0 ∧ r2 = 2) := fun e => by
        have h := HR.out
        rw [if_pos (.inr (.inr (all_no s isHex j hlt (hq.trans e))))] at h
        injection h with e1 e2
        exact ⟨e1.symm, e2.symm⟩
      have HY : Hid (q = true → (s.data.toList.take (j + 1)).all isHex = true) := fun e => all_step s isHex j hlt hal.out (hq.trans e)
      clear hst hnl hpw hn hal
      have hcs := hex_cases s[j] q hq
      clear hq
      rcases hcs with ⟨hdc, rfl, hd, h1, h2⟩ | ⟨hdc, rfl, hd, h1, h2⟩ | ⟨hdc, rfl, hd, h1, h2⟩ | ⟨hdc, rfl, h1, h2⟩
      · have HD := Lib.hid (digit59 s[j] _ hdc)
        have : (48 : Int) ≤ s[j].toNat := by omega
        have : (s[j].toNat : Int) ≤ 57 := by omega
        have : ¬ (s[j].toNat : Int) ≥ 97 := by omega
        have : ¬ (s[j].toNat : Int) ≥ 65 := by omega
        have hdv := Lib.hid hd
        clear hd hdc
        go_wp2_with (go_at_call 51; refine (HD.out _).mono ?_; rintro e w' ⟨rfl, rfl⟩)
        go_round
        case rel => exact ⟨j + 1, by omega, by go_num, by rw [HS.out, ← hdv.out], HY.out trivial⟩
        case measure => simp [intOf]; omega
      · have HD := Lib.hid (digit59 s[j] _ hdc)
        have : (s[j].toNat : Int) ≥ 97 := by omega
        have : (s[j].toNat : Int) ≤ 102 := by omega
        have : (s[j].toNat : Int) ≥ 65 := by omega
        have : ¬ (s[j].toNat : Int) ≤ 70 := by omega
        have hdv := Lib.hid hd
        clear hd hdc
        go_wp2_with (go_at_call 51; refine (HD.out _).mono ?_; rintro e w' ⟨rfl, rfl⟩)
        go_round
        case rel => exact ⟨j + 1, by omega, by go_num, by rw [HS.out, ← hdv.out], HY.out trivial⟩
        case measure => simp [intOf]; omega
      · have HD := Lib.hid (digit59 s[j] _ hdc)
        have : ¬ (s[j].toNat : Int) ≥ 97 := by omega
        have : (s[j].toNat : Int) ≥ 65 := by omega
        have : (s[j].toNat : Int) ≤ 70 := by omega
        have hdv := Lib.hid hd
        clear hd hdc
        go_wp2_with (go_at_call 51; refine (HD.out _).mono ?_; rintro e w' ⟨rfl, rfl⟩)
        go_round
        case rel => exact ⟨j + 1, by omega, by go_num, by rw [HS.out, ← hdv.out], HY.out trivial⟩
        case measure => simp [intOf]; omega
      · have HD := Lib.hid (digit59 s[j] _ hdc)
        clear hdc
        have hA : ¬ (s[j].toNat : Int) ≥ 97 ∨ ((s[j].toNat : Int) ≥ 97 ∧ ¬ (s[j].toNat : Int) ≤ 102) := by omega
        have hB : ¬ (s[j].toNat : Int) ≥ 65 ∨ ((s[j].toNat : Int) ≥ 65 ∧ ¬ (s[j].toNat : Int) ≤ 70) := by omega
        clear h1 h2
        rcases hA with hA | ⟨hA, hA2⟩ <;> rcases hB with hB | ⟨hB, hB2⟩
        all_goals
          first
          | (exfalso; omega)
          | (go_wp2_with (go_at_call 51; refine (HD.out _).mono ?_; rintro e w' ⟨rfl, rfl⟩)
             go_ret2
             obtain ⟨e1, e2⟩ := HN.out trivial
             exact ⟨by rw [e1, e2]; rfl, rfl⟩)
    · have hf := all_full s isHex j hlt hal.out
      have hfull : s.data.toList.take j = s.data.toList := List.take_of_length_le (by have := HZ.out; omega)
      rw [hfull] at hn0 hn1 ⊢
      have hv := HR.out
      rw [if_neg (by have := HZ.out; rintro (h | h | h); (· omega); (· omega); (· rw [hf] at h; cases h))] at hv
      clear hal hf hfull hnl hpw
      generalize numD 16 s.data.toList = n at *
      by_cases hm : most < n
      · rw [if_pos hm] at hv
        injection hv with e1 e2
        subst e1
        subst e2
        have : n > most := hm
        go_wp2_with fail
        go_ret2
        exact ⟨rfl, rfl⟩
      · rw [if_neg hm] at hv
        injection hv with e1 e2
        subst e1
        subst e2
        have : ¬ n > most := hm
        go_wp2_with fail
        go_ret2
        exact ⟨rfl, rfl⟩

end Go.Proofs.YtmcbaheaocfdnaaGreatDoor

/- request's reference: framing's Of, Plain. -/
namespace Go.Proofs.YtmcbaheaocfdnaaGreatDoor
open Go.RowKit

def encR : ByteArray := ⟨#[116, 114, 97, 110, 115, 102, 101, 114, 45, 101, 110, 99, 111, 100, 105, 110, 103]⟩
def lenR : ByteArray := ⟨#[99, 111, 110, 116, 101, 110, 116, 45, 108, 101, 110, 103, 116, 104]⟩
def hostR : ByteArray := ⟨#[104, 111, 115, 116]⟩
theorem allB_case {x y : ByteArray} (h : x.data.toList.map lowC = y.data.toList.map lowC) (fs : List Fld) : allB x fs = allB y fs := by
  unfold allB isB
  rw [h]
theorem allB_mem {x : ByteArray} {fs : List Fld} {v : ByteArray} (h : v ∈ allB x fs) : ∃ f ∈ fs, v = bs f.2 := by
  unfold allB at h
  obtain ⟨f, hf, rfl⟩ := List.mem_map.1 h
  exact ⟨f, (List.mem_filter.1 hf).1, rfl⟩
def OfPost (fs : List Fld) (w : World) (x : Ending) (w' : World) : Prop :=
  ∃ k n e : Int, x = .returned (.tuple #[.int .i64 k, .int .i64 n, .int .i64 e]) ∧ (e = 0 → k = 0 → (allB encR fs = [] ∧ allB lenR fs = [])) ∧ Below w.heap.size w w'
set_option maxRecDepth 100000 in
set_option maxHeartbeats 4000000 in
theorem of31 (a : Option Addr) (c : Nat) (fs : List Fld) (most : Int) (hfl : fs.length ≤ 1000000) (hok : ∀ f ∈ fs, FldOk f) (hsm : ∀ f ∈ fs, f.2.length ≤ 1000000) (w : World) (hf : IsFlds w a c fs) :
    Calls Tryz.prog 31 #[.slice a fs.length c, .int .i64 most, .int .i64 0] w (OfPost fs w) := by
  have HT := Lib.hid (rall41 a c fs encR hfl hok (by decide) w hf)
  have HC := Lib.hid (fun W h => rall41 a c fs lenR hfl hok (by decide) W h)
  have hmT : ∀ v ∈ allB encR fs, v.size ≤ 1000000 := fun v hv => by
    obtain ⟨f, hf, rfl⟩ := allB_mem hv
    rw [bs_size]; exact hsm f hf
  have hmC : ∀ v ∈ allB lenR fs, v.size ≤ 1000000 := fun v hv => by
    obtain ⟨f, hf, rfl⟩ := allB_mem hv
    rw [bs_size]; exact hsm f hf
  have hlT := allB_len encR fs
  have hlC := allB_len lenR fs
  have HF := Lib.hid hf
  obtain ⟨T, hT⟩ : ∃ T, T = allB encR fs := ⟨_, rfl⟩
  obtain ⟨C, hC⟩ : ∃ C, C = allB lenR fs := ⟨_, rfl⟩
  rw [← hT] at HT hmT hlT
  rw [← hC] at HC hmC hlC
  have HTT := Lib.hid hT
  have HCC := Lib.hid hC
  unfold encR at HT
  unfold lenR at HC
  have HMT := Lib.hid hmT
  have HMC := Lib.hid hmC
  obtain ⟨nT, hnT⟩ : ∃ nT, nT = T.length := ⟨_, rfl⟩
  obtain ⟨nC, hnC⟩ : ∃ nC, nC = C.length := ⟨_, rfl⟩
  have HNT := Lib.hid hnT
  have HNC := Lib.hid hnC
  have hbT : nT ≤ 1000000 := by omega
  have hbC : nC ≤ 1000000 := by omega
  clear hf hok hsm hT hC hmT hmC hnT hnC hlT hlC
  go_enter Tryz.func31, Tryz.ntmps31
  go_wp2_with fail
  with_reducible refine HT.out.mono ?_
  rintro e w1 ⟨u1, rfl, ho1, hb1⟩
  have ho1' := own_len ho1 HNT.out.symm
  obtain ⟨a1, c1, rfl⟩ := own_slice ho1'
  have S1 := isStrs_of_row ho1' HNT.out.symm
  have F1 := Lib.hid (HF.out.below hb1)
  have B1 := Lib.hid hb1
  clear ho1 ho1' hb1 HT HF
  go_wp2_with fail
  with_reducible refine (HC.out w1 F1.out).mono ?_
  rintro e w2 ⟨u2, rfl, ho2, hb2⟩
  have ho2' := own_len ho2 HNC.out.symm
  obtain ⟨a2, c2, rfl⟩ := own_slice ho2'
  have S2 := Lib.hid (isStrs_of_row ho2' HNC.out.symm)
  have S1' := Lib.hid (S1.below hb2)
  have B2 := Lib.hid (B1.out.trans (hb2.mono B1.out.size))
  clear ho2 ho2' hb2 HC F1 B1 S1
  by_cases hT0 : 0 < nT
  · have t1 : decide (0 < (nT : Int)) = true := decide_eq_true (by omega)
    have hcells := S1'.out
    obtain h0 | ⟨bk, o, rfl, hbk, hcc, hcell⟩ := hcells
    · exfalso; have := HNT.out; rw [h0] at this; simp at this; omega
    have hT0' : 0 < T.length := by have := HNT.out; omega
    have cj : w2.cell? ⟨bk, o, none⟩ = some (.string T[0]) := hcell 0 T[0] (by simp [hT0'])
    have hTz := HMT.out T[0] (List.getElem_mem hT0')
    obtain ⟨x0, hx0⟩ : ∃ x0, x0 = T[0] := ⟨_, rfl⟩
    rw [← hx0] at cj hTz
    have hcc2 : nT ≤ c1 := by have := HNT.out; omega
    clear hcell hx0 hT0' hbk hcc
    have FIN : ∀ k n e : Int, ∀ w', Below w.heap.size w w' → (e ≠ 0 ∨ k ≠ 0) → OfPost fs w (.returned (.tuple #[.int .i64 k, .int .i64 n, .int .i64 e])) w' := fun k n e w' hb h => ⟨k, n, e, rfl, fun h1 h2 => by rcases h with h | h; exact absurd h1 h; exact absurd h2 h, hb⟩
    have HFIN := Lib.hid FIN
    clear FIN
    by_cases hC0 : 0 < nC
    · have t2 : decide (0 < (nC : Int)) = true := decide_eq_true (by omega)
      go_wp2_with fail
      refine bodyPost_ret (v := .tuple #[.int .i64 0, .int .i64 0, .int .i64 2]) (by simp [results, Tryz.results31, go_sem]) rfl (HFIN.out 0 0 2 w2 B2.out (.inl (by decide)))
    · obtain rfl : nC = 0 := by omega
      by_cases hT1 : 1 < nT
      · have t3 : decide (1 < (nT : Int)) = true := decide_eq_true (by omega)
        go_wp2_with fail
        refine bodyPost_ret (v := .tuple #[.int .i64 0, .int .i64 0, .int .i64 2]) (by simp [results, Tryz.results31, go_sem]) rfl (HFIN.out 0 0 2 w2 B2.out (.inl (by decide)))
      · obtain rfl : nT = 1 := by omega
        have HL := Lib.hid (lower21 x0 (by omega) w2)
        obtain ⟨y, hy⟩ : ∃ y, y = (⟨(x0.data.toList.map lowC).toArray⟩ : ByteArray) := ⟨_, rfl⟩
        rw [← hy] at HL
        clear hy
        go_wp2_with fail
        with_reducible refine HL.out.mono ?_
        rintro e w3 ⟨rfl, hb3⟩
        have B3 := Lib.hid (B2.out.trans (hb3.mono B2.out.size))
        obtain ⟨q, hq⟩ : ∃ q, (y.toList == [99, 104, 117, 110, 107, 101, 100]) = q := ⟨_, rfl⟩
        clear hb3 HL
        cases q
        · go_wp2_with fail
          refine bodyPost_ret (v := .tuple #[.int .i64 0, .int .i64 0, .int .i64 2]) (by simp [results, Tryz.results31, go_sem]) rfl (HFIN.out 0 0 2 w3 B3.out (.inl (by decide)))
        · go_wp2_with fail
          refine bodyPost_ret (v := .tuple #[.int .i64 2, .int .i64 0, .int .i64 0]) (by simp [results, Tryz.results31, go_sem]) rfl (HFIN.out 2 0 0 w3 B3.out (.inr (by decide)))
  · obtain rfl : nT = 0 := by omega
    have hTn : T = [] := List.eq_nil_of_length_eq_zero HNT.out.symm
    have HTN := Lib.hid hTn
    clear hTn hT0
    by_cases hC0 : 0 < nC
    · have t1 : decide ((nC : Int) = 0) = false := decide_eq_false (by omega)
      have t1b : ((nC : Int) == 0) = false := beq_eq_false_iff_ne.2 (by omega)
      have FIN : ∀ k n e : Int, ∀ w', Below w.heap.size w w' → (e ≠ 0 ∨ k ≠ 0) → OfPost fs w (.returned (.tuple #[.int .i64 k, .int .i64 n, .int .i64 e])) w' := fun k n e w' hb h => ⟨k, n, e, rfl, fun h1 h2 => by rcases h with h | h; exact absurd h1 h; exact absurd h2 h, hb⟩
      have HFIN := Lib.hid FIN
      clear FIN
      have hcells := S2.out
      obtain h0 | ⟨bk, o, rfl, hbk, hcc, hcell⟩ := hcells
      · exfalso; have := HNC.out; rw [h0] at this; simp at this; omega
      have hC0' : 0 < C.length := by have := HNC.out; omega
      have c0 : w2.cell? ⟨bk, o, none⟩ = some (.string C[0]) := hcell 0 C[0] (by simp [hC0'])
      have hz0 := HMC.out C[0] (List.getElem_mem hC0')
      obtain ⟨x0, hx0⟩ : ∃ x0, x0 = C[0] := ⟨_, rfl⟩
      rw [← hx0] at c0 hz0
      obtain ⟨m1, m2, hm⟩ : ∃ m1 m2, numR 10 10 isDec x0.data.toList 9999999999 = (m1, m2) := ⟨_, _, rfl⟩
      have HN0 := Lib.hid (fun W => num27_10 x0 hz0 9999999999 m1 m2 hm W)
      have HCELL := Lib.hid hcell
      have hcc2 : nC ≤ c2 := by have := HNC.out; omega
      clear hx0 hC0' hbk hcc hcell hm hz0
      go_wp2_with fail
      go_loopw [47] (fun iv wr => w2 = wr ∧ ∃ j : Nat, j ≤ nC ∧ iv = .int .i64 (j : Int)) (fun iv _ => nC - (intOf iv).toNat)
      case atStart => exact ⟨rfl, 0, Nat.zero_le _, rfl⟩
      case round =>
        obtain ⟨rfl, j, hj, rfl⟩ := hrel
        by_cases hlt : j < nC
        · have hjC : j < C.length := by have := HNC.out; omega
          have cj := HCELL.out j C[j] (by simp [hjC])
          have hzj := HMC.out C[j] (List.getElem_mem hjC)
          obtain ⟨xj, hxj⟩ : ∃ xj, xj = C[j] := ⟨_, rfl⟩
          rw [← hxj] at cj hzj
          obtain ⟨n1, n2, hn⟩ : ∃ n1 n2, numR 10 10 isDec xj.data.toList 9999999999 = (n1, n2) := ⟨_, _, rfl⟩
          have HNJ := Lib.hid (fun W => num27_10 xj hzj 9999999999 n1 n2 hn W)
          have j1 : (j : Int) < nC := by omega
          have j0 : (0 : Int) < nC := by omega
          clear hxj hn hzj hjC
          go_wp2_with fail
          with_reducible refine (HNJ.out w2).mono ?_
          rintro e w' ⟨rfl, rfl⟩
          go_wp2_with fail
          with_reducible refine (HN0.out w2).mono ?_
          rintro e w' ⟨rfl, rfl⟩
          by_cases hn2 : n2 = 0
          · subst hn2
            by_cases hnm : n1 = m1
            · subst hnm
              go_wp2_with fail
              go_roundw
              case rel => exact ⟨by trivial, j + 1, hlt, by go_num⟩
              case measure => simp [intOf]; omega
            · have u1 : (n1 != m1) = true := bne_iff_ne.2 hnm
              go_wp2_with fail
              refine bodyPost_ret (v := .tuple #[.int .i64 0, .int .i64 0, .int .i64 2]) (by simp [results, Tryz.results31, go_sem]) rfl (HFIN.out 0 0 2 w2 B2.out (.inl (by decide)))
          · have u1 : (n2 != 0) = true := bne_iff_ne.2 hn2
            go_wp2_with fail
            refine bodyPost_ret (v := .tuple #[.int .i64 0, .int .i64 0, .int .i64 2]) (by simp [results, Tryz.results31, go_sem]) rfl (HFIN.out 0 0 2 w2 B2.out (.inl (by decide)))
        · have j1 : ¬ (j : Int) < nC := by omega
          have j0 : (0 : Int) < nC := by omega
          go_wp2_with fail
          with_reducible refine (HN0.out w2).mono ?_
          rintro e w' ⟨rfl, rfl⟩
          by_cases hmm : most < m1
          · have u1 : decide (most < m1) = true := decide_eq_true hmm
            go_wp2_with fail
            refine bodyPost_ret (v := .tuple #[.int .i64 0, .int .i64 0, .int .i64 3]) (by simp [results, Tryz.results31, go_sem]) rfl (HFIN.out 0 0 3 w2 B2.out (.inl (by decide)))
          · have u1 : decide (most < m1) = false := decide_eq_false hmm
            go_wp2_with fail
            refine bodyPost_ret (v := .tuple #[.int .i64 1, .int .i64 m1, .int .i64 0]) (by simp [results, Tryz.results31, go_sem]) rfl (HFIN.out 1 m1 0 w2 B2.out (.inr (by decide)))
    · obtain rfl : nC = 0 := by omega
      have hCn : C = [] := List.eq_nil_of_length_eq_zero HNC.out.symm
      have HCN := Lib.hid hCn
      clear hCn hC0
      go_wp2_with fail
      refine bodyPost_ret (v := .tuple #[.int .i64 0, .int .i64 0, .int .i64 0]) (by simp [results, Tryz.results31, go_sem]) rfl ⟨0, 0, 0, rfl, fun _ _ => ⟨HTT.out.symm.trans HTN.out, HCC.out.symm.trans HCN.out⟩, B2.out⟩
end Go.Proofs.YtmcbaheaocfdnaaGreatDoor

/- request's reference: Plain. -/
namespace Go.Proofs.YtmcbaheaocfdnaaGreatDoor
open Go.RowKit

/-- What Plain's yes says. -/
def PlainIs (m t : List UInt8) (fs : List Fld) : Prop :=
  (∀ f ∈ fs, FOk f) ∧ tokB m = true ∧ tgtB t = true ∧ (∃ h0, allB hostR fs = [h0] ∧ 0 < h0.size) ∧ allB encR fs = [] ∧ allB lenR fs = []
def PlainPost (m t : List UInt8) (fs : List Fld) (w : World) (x : Ending) (w' : World) : Prop :=
  ∃ q, x = .returned (.bool q) ∧ (q = true → PlainIs m t fs) ∧ Below w.heap.size w w'
set_option maxRecDepth 100000 in
set_option maxHeartbeats 8000000 in
theorem plain17 (m t : List UInt8) (hm : m.length ≤ 1000000) (ht : t.length ≤ 1000000) (a : Option Addr) (c : Nat) (fs : List Fld) (hfl : fs.length ≤ 1000000) (hok : ∀ f ∈ fs, f.1.length ≤ 1000000 ∧ f.2.length ≤ 1000000) (w : World) (hf : IsFlds w a c fs) :
    Calls Tryz.prog 17 #[.agg #[.string (bs m), .string (bs t), .slice a fs.length c, .string ⟨#[]⟩, .int .i64 0]] w (PlainPost m t fs w) := by
  have hok2 : ∀ f ∈ fs, FldOk f := fun f h => ⟨by have := (hok f h).1; omega, by have := (hok f h).2; omega⟩
  obtain ⟨qm, hqm⟩ : ∃ q, tokB m = q := ⟨_, rfl⟩
  obtain ⟨qt, hqt⟩ : ∃ q, tgtB t = q := ⟨_, rfl⟩
  have HTK := Lib.hid (fun W => token15 (bs m) (by rw [bs_size]; omega) qm hqm W)
  have HTG := Lib.hid (fun W => target17 (bs t) (by rw [bs_size]; omega) qt hqt W)
  have HAL := Lib.hid (fun W h => rall41 a c fs hostR hfl hok2 (by decide) W h)
  have HOF := Lib.hid (fun W h => of31 a c fs 1099511627776 hfl hok2 (fun f h => (hok f h).2) W h)
  have HF := Lib.hid hf
  have HOK := Lib.hid hok
  have L0 := Lib.hid (below_alloc w (.cells #[.string (bs m), .string (bs t), .slice a fs.length c, .string ⟨#[]⟩, .int .i64 0] 49))
  have R0 := Lib.hid (Row.new w 49 #[.string (bs m), .string (bs t), .slice a fs.length c, .string ⟨#[]⟩, .int .i64 0])
  have NO : ∀ w', Below w.heap.size w w' → PlainPost m t fs w (.returned (.bool false)) w' := fun w' hb => ⟨false, rfl, (fun h => by cases h), hb⟩
  have HNO := Lib.hid NO
  have HM := Lib.hid hqm
  have HT := Lib.hid hqt
  obtain ⟨mm, hmm⟩ : ∃ mm, mm = bs m := ⟨_, rfl⟩
  obtain ⟨tt, htt⟩ : ∃ tt, tt = bs t := ⟨_, rfl⟩
  rw [← hmm] at HTK L0 R0 ⊢
  rw [← htt] at HTG L0 R0 ⊢
  clear hf hok hok2 hqm hqt NO hm ht hmm htt
  unfold hostR at HAL
  go_enter Tryz.func17, Tryz.ntmps17
  go_wp2_with fail
  obtain ⟨w0, hw0⟩ : ∃ w0, w0 = w.alloc (.cells #[.string mm, .string tt, .slice a fs.length c, .string ⟨#[]⟩, .int .i64 0] 49) := ⟨_, rfl⟩
  rw [← hw0] at L0 R0 ⊢
  clear hw0
  go_loopw [14] (fun iv wr => ∃ j : Nat, j ≤ fs.length ∧ iv = .int .i64 (j : Int) ∧ Hid (∀ f ∈ fs.take j, FOk f) ∧ Hid (Below w0.heap.size w0 wr)) (fun iv _ => fs.length - (intOf iv).toNat)
  case atStart => exact ⟨0, Nat.zero_le _, rfl, (fun f h => by simp at h), Below.refl _ _⟩
  case round =>
    obtain ⟨j, hj, rfl, hall, hb⟩ := hrel
    by_cases hlt : j < fs.length
    · have hf0 := (HF.out.below L0.out).below hb.out
      obtain h0 | ⟨bk, o, rfl, hbk, hc, hcell⟩ := hf0
      · subst h0; simp at hlt
      obtain ⟨c1, c2⟩ := hcell j fs[j] (by simp [hlt])
      have hok := HOK.out fs[j] (List.getElem_mem hlt)
      have hst : fs.take (j + 1) = fs.take j ++ [fs[j]] := by rw [List.take_succ_eq_append_getElem hlt]
      obtain ⟨f, hfe⟩ : ∃ f, f = fs[j] := ⟨_, rfl⟩
      rw [← hfe] at c1 c2 hok hst
      have HST := Lib.hid hst
      obtain ⟨n, v⟩ := f
      simp only at c1 c2 hok
      have A1 := fun W => add_str n [58, 32] (by simp; omega) W
      have A2 := fun W => add_str (n ++ [58, 32]) v (by simp; omega) W
      have e58 : bs [58, 32] = ⟨#[58, 32]⟩ := rfl
      rw [e58] at A1
      have HP := Lib.hid (fun W => parse37 (bs (n ++ [58, 32] ++ v)) (by rw [bs_size]; simp; omega) W)
      rw [bs_list] at HP
      unfold parseV at HP
      have j1 : (j : Int) < fs.length := by omega
      have hbb := hb.out
      have hsz := hbb.size
      have HBA := Lib.hid (hbb.alloc hsz (.cells #[.string (bs n), .string (bs v)] 46))
      have RF := Row.new wr 46 #[.string (bs n), .string (bs v)]
      have eN := self_strP (bs n)
      have eV := self_strP (bs v)
      cases hp : parseL (n ++ [58, 32] ++ v) with
      | none =>
        rw [hp] at HP
        unfold fldV at HP
        simp only at HP
        generalize hx2 : bs (n ++ [58, 32] ++ v) = x2 at *
        generalize hx1 : bs (n ++ [58, 32]) = x1 at *
        generalize bs n = N at *
        generalize bs v = V at *
        clear hx1 hx2 hcell hfe hst hp e58 hbk hc
        go_wp2_with fail
        with_reducible refine (HP.out _).mono ?_
        rintro e w1 ⟨rfl, hb1⟩
        have HB1 := Lib.hid ((HBA.out.trans (hb1.mono HBA.out.size)).alloc (HBA.out.trans (hb1.mono HBA.out.size)).size (.cells #[.string (bs []), .string (bs [])] 46))
        clear hb1 HP
        go_wp2_with fail
        go_ret
        exact HNO.out _ (L0.out.trans (HB1.out.mono L0.out.size))
      | some g =>
        obtain ⟨gn, gv⟩ := g
        rw [hp] at HP
        unfold fldV at HP
        simp only at HP
        have q1 := bs_beq gn n
        have q2 := bs_beq gv v
        by_cases hg : (gn, gv) = (n, v)
        · injection hg with hg1 hg2
          subst hg1 hg2
          have HN : Hid (∀ f ∈ fs.take (j + 1), FOk f) := by
            show ∀ f ∈ _, _
            rw [HST.out]
            intro f hf
            rcases List.mem_append.1 hf with h | h
            · exact hall.out f h
            · rw [List.mem_singleton.1 h]; exact hp
          generalize hx2 : bs (gn ++ [58, 32] ++ gv) = x2 at *
          generalize hx1 : bs (gn ++ [58, 32]) = x1 at *
          generalize bs gn = N at *
          generalize bs gv = V at *
          clear hx1 hx2 hcell hfe hst hp e58 hbk hc q1 q2
          go_wp2_with fail
          with_reducible refine (HP.out _).mono ?_
          rintro e w1 ⟨rfl, hb1⟩
          have RF1 := (RF.below hb1).alloc (.cells #[.string N, .string V] 46)
          have hb2 := (HBA.out.trans (hb1.mono HBA.out.size)).alloc (HBA.out.trans (hb1.mono HBA.out.size)).size (.cells #[.string N, .string V] 46)
          have HB1 := Lib.hid hb2
          have s0 : (w1.alloc (.cells #[.string N, .string V] 46)).cell? ⟨wr.heap.size, 0, none⟩ = some (.string N) := RF1.cell 0
          have s1 : (w1.alloc (.cells #[.string N, .string V] 46)).cell? ⟨wr.heap.size, 1, none⟩ = some (.string V) := RF1.cell 1
          have RG := Row.new w1 46 #[.string N, .string V]
          have s2 : (w1.alloc (.cells #[.string N, .string V] 46)).cell? ⟨w1.heap.size, 0, none⟩ = some (.string N) := RG.cell 0
          have s3 : (w1.alloc (.cells #[.string N, .string V] 46)).cell? ⟨w1.heap.size, 1, none⟩ = some (.string V) := RG.cell 1
          clear hb1 hb2 HP RF RF1 RG
          go_upto_region 5 with fail
          generalize w1.alloc (.cells #[.string N, .string V] 46) = w2 at *
          go_wp2_with fail
          go_roundw
          case rel => exact ⟨j + 1, hlt, by go_num, HN, HB1⟩
          case measure => simp [intOf]; omega
        · have hcase : (decide (gn = n) = false) ∨ (decide (gn = n) = true ∧ decide (gv = v) = false) := by
            by_cases h1 : gn = n
            · exact .inr ⟨decide_eq_true h1, decide_eq_false (fun h2 => hg (by rw [h1, h2]))⟩
            · exact .inl (decide_eq_false h1)
          generalize decide (gn = n) = b1 at *
          generalize decide (gv = v) = b2 at *
          generalize hx2 : bs (n ++ [58, 32] ++ v) = x2 at *
          generalize hx1 : bs (n ++ [58, 32]) = x1 at *
          generalize bs n = N at *
          generalize bs v = V at *
          generalize bs gn = GN at *
          generalize bs gv = GV at *
          clear hx1 hx2 hcell hfe hst hp e58 hbk hc hg eN eV
          rcases hcase with rfl | ⟨rfl, rfl⟩
          all_goals
            go_wp2_with fail
            with_reducible refine (HP.out _).mono ?_
            rintro e w1 ⟨rfl, hb1⟩
            have RF1 := (RF.below hb1).alloc (.cells #[.string GN, .string GV] 46)
            have hb2 := (HBA.out.trans (hb1.mono HBA.out.size)).alloc (HBA.out.trans (hb1.mono HBA.out.size)).size (.cells #[.string GN, .string GV] 46)
            have HB1 := Lib.hid hb2
            have s0 : (w1.alloc (.cells #[.string GN, .string GV] 46)).cell? ⟨wr.heap.size, 0, none⟩ = some (.string N) := RF1.cell 0
            have s1 : (w1.alloc (.cells #[.string GN, .string GV] 46)).cell? ⟨wr.heap.size, 1, none⟩ = some (.string V) := RF1.cell 1
            have RG := Row.new w1 46 #[.string GN, .string GV]
            have s2 : (w1.alloc (.cells #[.string GN, .string GV] 46)).cell? ⟨w1.heap.size, 0, none⟩ = some (.string GN) := RG.cell 0
            have s3 : (w1.alloc (.cells #[.string GN, .string GV] 46)).cell? ⟨w1.heap.size, 1, none⟩ = some (.string GV) := RG.cell 1
            clear hb1 hb2 HP RF RF1 RG
            go_upto_region 5 with fail
            generalize w1.alloc (.cells #[.string GN, .string GV] 46) = w2 at *
            go_wp2_with fail
            go_ret
            exact HNO.out _ (L0.out.trans (HB1.out.mono L0.out.size))
    · obtain rfl : j = fs.length := by omega
      have hall2 := hall.out
      rw [List.take_of_length_le (Nat.le_refl _)] at hall2
      have HALL := Lib.hid hall2
      have RM := R0.out.below hb.out
      have r0 : wr.cell? ⟨w.heap.size, 0, none⟩ = some (.string mm) := RM.cell 0
      have r1 : wr.cell? ⟨w.heap.size, 1, none⟩ = some (.string tt) := RM.cell 1
      have r2 : wr.cell? ⟨w.heap.size, 2, none⟩ = some (.slice a fs.length c) := RM.cell 2
      have FW := Lib.hid ((HF.out.below L0.out).below hb.out)
      have RMH := Lib.hid RM
      clear hall hall2 RM
      go_wp2_with fail
      with_reducible refine (HAL.out wr FW.out).mono ?_
      rintro e w1 ⟨u1, rfl, ho1, hb1⟩
      obtain ⟨H, hH⟩ : ∃ H, H = allB (⟨#[104, 111, 115, 116]⟩ : ByteArray) fs := ⟨_, rfl⟩
      rw [← hH] at ho1
      have HH := Lib.hid hH
      obtain ⟨nH, hnH⟩ : ∃ nH, nH = H.length := ⟨_, rfl⟩
      have hnb : nH ≤ 1000000 := by rw [hnH, hH]; exact Nat.le_trans (allB_len _ _) hfl
      have ho1' := own_len ho1 hnH.symm
      obtain ⟨a1, c1, rfl⟩ := own_slice ho1'
      have S1 := isStrs_of_row ho1' hnH.symm
      have RM1 := RMH.out.below hb1
      have r2 : w1.cell? ⟨w.heap.size, 2, none⟩ = some (.slice a fs.length c) := RM1.cell 2
      have F1 := Lib.hid (FW.out.below hb1)
      have B1 := Lib.hid (hb.out.trans (hb1.mono hb.out.size))
      have HNH := Lib.hid hnH
      have RM1H := Lib.hid RM1
      clear ho1 ho1' hb1 HAL FW RM1 hH hnH RMH hb
      go_wp2_with fail
      with_reducible refine (HOF.out w1 F1.out).mono ?_
      rintro e w2 ⟨k, n, e2, rfl, hke, hb2⟩
      have RM2 := RM1H.out.below hb2
      have r0 : w2.cell? ⟨w.heap.size, 0, none⟩ = some (.string mm) := RM2.cell 0
      have r1 : w2.cell? ⟨w.heap.size, 1, none⟩ = some (.string tt) := RM2.cell 1
      have r3 : w2.cell? ⟨w.heap.size, 3, none⟩ = some (.string ⟨#[]⟩) := RM2.cell 3
      have r4 : w2.cell? ⟨w.heap.size, 4, none⟩ = some (.int .i64 0) := RM2.cell 4
      have S2 := Lib.hid (S1.below hb2)
      have B2 := Lib.hid (L0.out.trans ((B1.out.trans (hb2.mono B1.out.size)).mono L0.out.size))
      have HKE := Lib.hid hke
      clear RM2 RM1H hb2 S1 B1 HOF hke r2
      go_wp2_with fail
      with_reducible refine (HTK.out w2).mono ?_
      rintro e w' ⟨rfl, rfl⟩
      cases qm
      · go_wp2_with fail
        go_ret
        exact HNO.out _ B2.out
      · go_wp2_with fail
        with_reducible refine (HTG.out w2).mono ?_
        rintro e w' ⟨rfl, rfl⟩
        cases qt
        · go_wp2_with fail
          go_ret
          exact HNO.out _ B2.out
        · by_cases hn1 : nH = 1
          · subst hn1
            obtain h0 | ⟨bk, o, rfl, hbk, hcc, hcell⟩ := S2.out
            · exfalso; have := HNH.out; rw [h0] at this; simp at this
            have hl1 : 0 < H.length := by have := HNH.out; omega
            have cj : w2.cell? ⟨bk, o, none⟩ = some (.string H[0]) := hcell 0 H[0] (by simp [hl1])
            have hH1 : H = [H[0]] := by
              have h1 := HNH.out
              match H, h1 with
              | [x], _ => rfl
            obtain ⟨h0, hh0⟩ : ∃ h0, h0 = H[0] := ⟨_, rfl⟩
            rw [← hh0] at cj hH1
            have HH1 := Lib.hid hH1
            have hc1 : 1 ≤ c1 := by have := HNH.out; omega
            clear hcell hh0 hl1 hcc hbk hH1
            by_cases hne : 0 < h0.size
            · have e1 := emp_false h0 hne
              by_cases he2 : e2 = 0
              · subst he2
                by_cases hk0 : k = 0
                · subst hk0
                  have YES : PlainIs m t fs := ⟨HALL.out, HM.out, HT.out, ⟨h0, by rw [← HH1.out, HH.out]; rfl, hne⟩, (HKE.out rfl rfl).1, (HKE.out rfl rfl).2⟩
                  have HYES := Lib.hid YES
                  clear YES
                  by_cases hn0 : n = 0
                  · subst hn0
                    go_wp2_with fail
                    go_ret
                    exact ⟨_, rfl, fun _ => HYES.out, B2.out⟩
                  · have u1 : (n == 0) = false := beq_eq_false_iff_ne.2 hn0
                    go_wp2_with fail
                    go_ret
                    exact ⟨_, rfl, fun _ => HYES.out, B2.out⟩
                · have u1 : (k == 0) = false := beq_eq_false_iff_ne.2 hk0
                  go_wp2_with fail
                  go_ret
                  exact HNO.out _ B2.out
              · have u1 : (e2 == 0) = false := beq_eq_false_iff_ne.2 he2
                go_wp2_with fail
                go_ret
                exact HNO.out _ B2.out
            · obtain rfl := empty_of h0 hne
              go_wp2_with fail
              go_ret
              exact HNO.out _ B2.out
          · have u1 : ((nH : Int) == 1) = false := beq_eq_false_iff_ne.2 (by omega)
            go_wp2_with fail
            go_ret
            exact HNO.out _ B2.out
end Go.Proofs.YtmcbaheaocfdnaaGreatDoor

/- The reference's Text and Set. The reference's Set. -/
namespace Go.Proofs.YtmcbaheaocfdnaaGreatDoor
open Go.RowKit

theorem bs_appL (a b : List UInt8) : bs a ++ bs b = bs (a ++ b) := by
  have : (bs a ++ bs b).data.toList = a ++ b := by simp [bs]
  exact str_eq _ _ this
set_option maxHeartbeats 4000000 in
set_option maxRecDepth 100000 in
theorem rtext50 (a : Option Addr) (c : Nat) (fs : List Fld) (hfl : fs.length ≤ 1000000) (hok : ∀ f ∈ fs, FldOk f) (hsum : (textL fs).length ≤ 100000000000) (w : World) (hf : IsFlds w a c fs) :
    Calls Tryz.prog 20 #[.slice a fs.length c] w fun e w' => e = .returned (.string (bs (textL fs))) ∧ Below w.heap.size w w' := by
  have HFF := Lib.hid hf
  have HOK := Lib.hid hok
  clear hf hok
  go_enter Tryz.func20, Tryz.ntmps20
  go_wp2_with fail
  go_loopw [3, 8] (fun v i wr => ∃ j : Nat, ∃ S : ByteArray, j ≤ fs.length ∧ i = .int .i64 (j : Int) ∧ v = .string S ∧ Hid (S = bs (textL (fs.take j))) ∧ Below w.heap.size w wr) (fun _ i _ => fs.length - (intOf i).toNat)
  case atStart => exact ⟨0, ⟨#[]⟩, Nat.zero_le _, rfl, rfl, rfl, Below.refl _ _⟩
  case round =>
    obtain ⟨j, S, hj, rfl, rfl, hS, hb⟩ := hrel
    by_cases hlt : j < fs.length
    · obtain h0 | ⟨bk, o, rfl, hbk, hc, hcell⟩ := HFF.out.below hb
      · subst h0; simp at hlt
      obtain ⟨c1, c2⟩ := hcell j fs[j] (by simp [hlt])
      have hst := textL_step hlt
      have h1 : (textL (fs.take j)).length ≤ (textL fs).length := textL_le
      have h2 : (textL (fs.take (j + 1))).length ≤ (textL fs).length := textL_le
      have hok := HOK.out fs[j] (List.getElem_mem hlt)
      obtain ⟨f, hfe⟩ : ∃ f, f = fs[j] := ⟨_, rfl⟩
      rw [← hfe] at c1 c2 hst hok
      clear hcell hfe
      have hzs := bs_size (textL (fs.take j))
      rw [← hS.out] at hzs
      have z1 := bs_size f.1
      have z2 := bs_size f.2
      have heq : Hid (S ++ (bs f.1 ++ ⟨#[58, 32]⟩ ++ bs f.2 ++ ⟨#[13, 10]⟩) = bs (textL (fs.take (j + 1)))) := by
        show _ = _
        rw [hS.out, show (⟨#[58, 32]⟩ : ByteArray) = bs [58, 32] from rfl, show (⟨#[13, 10]⟩ : ByteArray) = bs [13, 10] from rfl, bs_appL, bs_appL, bs_appL, bs_appL, hst]
        rfl
      have s1 : (S.size : Int) ≤ 100000000000 := by omega
      have s2 : ((bs f.1).size : Int) ≤ 4000000000 := by have := hok.1; omega
      have s3 : ((bs f.2).size : Int) ≤ 4000000000 := by have := hok.2; omega
      have j1 : (j : Int) < fs.length := by omega
      have L1 := hb.alloc hb.size (.cells #[.string (bs f.1), .string (bs f.2)] 46)
      clear hst h1 h2 hok hzs z1 z2
      generalize bs f.1 = N at *
      generalize bs f.2 = V at *
      go_wp2_with fail
      go_roundw
      case rel => exact ⟨j + 1, _, hlt, by go_num, rfl, heq, L1⟩
      case measure => simp [intOf]; omega
    · obtain rfl : j = fs.length := by omega
      have h1 := hS.out
      rw [List.take_of_length_le (Nat.le_refl _)] at h1
      have H1 := Lib.hid h1
      clear h1
      go_wp2_with fail
      go_ret
      exact ⟨by rw [← H1.out]; rfl, hb⟩
/-- What Set has collected. -/
def stepR (x : ByteArray) (g : Fld) (s : List Fld × Bool) (f : Fld) : List Fld × Bool := if isB x f = true then (if s.2 = true then s else (s.1 ++ [g], true)) else (s.1 ++ [f], s.2)
def outR (x : ByteArray) (g : Fld) (l : List Fld) : List Fld × Bool := l.foldl (stepR x g) ([], false)
theorem outR_step {x : ByteArray} {g : Fld} {fs : List Fld} {j : Nat} (hj : j < fs.length) : outR x g (fs.take (j + 1)) = stepR x g (outR x g (fs.take j)) fs[j] := by
  unfold outR
  rw [List.take_add_one, List.getElem?_eq_getElem hj, Option.toList_some, List.foldl_append]
  rfl
theorem foldR_no (x : ByteArray) (g : Fld) : ∀ (l : List Fld) (o : List Fld) (d : Bool), (∀ f ∈ l, hasB [x] f = false) → l.foldl (stepR x g) (o, d) = (o ++ l, d)
  | [], o, d, _ => by simp
  | f :: r, o, d, h => by
    have hf : isB x f = false := by rw [← has_is]; exact h f List.mem_cons_self
    rw [List.foldl_cons, stepR, if_neg (by rw [hf]; simp), foldR_no x g r _ _ (fun y hy => h y (List.mem_cons_of_mem _ hy))]
    simp
theorem foldR_yes (x : ByteArray) (g : Fld) : ∀ (l : List Fld) (o : List Fld), l.foldl (stepR x g) (o, true) = (o ++ dropL [x] l, true)
  | [], o => by simp [dropL]
  | f :: r, o => by
    rw [List.foldl_cons, stepR]
    by_cases hf : isB x f = true
    · rw [if_pos hf, if_pos rfl, foldR_yes x g r]
      unfold dropL
      rw [List.filter_cons_of_neg (by rw [has_is, hf]; simp)]
    · rw [if_neg hf, foldR_yes x g r]
      unfold dropL
      rw [List.filter_cons_of_pos (by rw [has_is]; simpa using hf)]
      simp
theorem outR_set (n v : List UInt8) (fs : List Fld) : (if (outR (bs n) (n, v) fs).2 = true then (outR (bs n) (n, v) fs).1 else (outR (bs n) (n, v) fs).1 ++ [(n, v)]) = setF n v fs := by
  unfold setF
  simp only
  rcases findI_cases [bs n] fs with ⟨hi, hno⟩ | ⟨i, hil, hi, hyes, hno⟩
  · rw [hi, if_neg (show ¬ ((0 : Int) ≤ -1) by decide)]
    unfold outR
    rw [foldR_no _ _ fs [] false hno]
    simp
  · rw [hi, if_pos (show (0 : Int) ≤ (i : Int) by omega), Int.toNat_natCast]
    have e : fs = fs.take i ++ fs[i] :: fs.drop (i + 1) := by rw [List.getElem_cons_drop, List.take_append_drop]
    have h1 : outR (bs n) (n, v) fs = (fs.take i ++ ((n, v) :: dropL [bs n] (fs.drop (i + 1))), true) := by
      unfold outR
      conv => lhs; rw [e]
      rw [List.foldl_append, foldR_no _ _ _ [] false hno, List.foldl_cons, stepR, if_pos (by rw [← has_is]; exact hyes), if_neg (by simp), foldR_yes]
      simp
    rw [h1]
    rfl
end Go.Proofs.YtmcbaheaocfdnaaGreatDoor
namespace Go.Proofs.YtmcbaheaocfdnaaGreatDoor
open Go.RowKit

theorem stepR_len (x : ByteArray) (g : Fld) (s : List Fld × Bool) (f : Fld) : (stepR x g s f).1.length ≤ s.1.length + 1 := by
  unfold stepR
  split
  · split <;> simp
  · simp
theorem outR_len (x : ByteArray) (g : Fld) (fs : List Fld) : ∀ j, j ≤ fs.length → (outR x g (fs.take j)).1.length ≤ j
  | 0, _ => by simp [outR]
  | j + 1, h => by
    rw [outR_step (by omega)]
    have h1 := stepR_len x g (outR x g (fs.take j)) fs[j]
    have h2 := outR_len x g fs j (by omega)
    omega
end Go.Proofs.YtmcbaheaocfdnaaGreatDoor

/- request: the law's Own of a message; Message.Text. -/
namespace Go.Proofs.YtmcbaheaocfdnaaGreatDoor
open Go.RowKit

theorem isFlds_keep {G : Nat → Prop} {w w' : World} {a : Option Addr} {c : Nat} {fs : List Fld} (h : IsFlds w a c fs) (hk : Keep G w w') (hg : ∀ ad, a = some ad → ¬ G ad.block) : IsFlds w' a c fs := by
  rcases h with h | ⟨bk, o, rfl, hbk, hc, hcell⟩
  · exact .inl h
  · have hn : ¬ G bk := hg ⟨bk, o, none⟩ rfl
    refine .inr ⟨bk, o, rfl, Nat.lt_of_lt_of_le hbk hk.size, hc, fun j f hj => ?_⟩
    have := hcell j f hj
    unfold World.cell? at this ⊢
    rw [hk.block bk hbk hn]
    exact this
theorem own_at {w : World} {B : Nat} {e : TypeId} {s n k c : Nat} {b : Option Addr} {ad : Addr} {xs : List Value} (h : w.ownsRow B e s (.slice b k c) n xs) (hb : b = some ad) : (Value.slice (some ad) k c).ownBlock = some ad.block := by
  subst hb
  obtain ⟨_, ⟨h1, _⟩ | ⟨g, cap, cur, h1, _⟩⟩ := h
  · cases h1
  · injection h1 with h2
    injection h2 with h2
    subst h2
    rfl
set_option maxRecDepth 100000 in
set_option maxHeartbeats 4000000 in
theorem lown18 (mm tt : ByteArray) (a : Option Addr) (c : Nat) (fs : List Fld) (hfl : fs.length ≤ 1000000) (w : World) (hf : IsFlds w a c fs) :
    Calls Tryz.prog 18 #[.agg #[.string mm, .string tt, .slice a fs.length c, .string ⟨#[]⟩, .int .i64 0]] w fun x w' => ∃ b d, x = .returned (.agg #[.string mm, .string tt, .slice b fs.length d, .string ⟨#[]⟩, .int .i64 0]) ∧ IsFlds w' b d fs ∧ Below w.heap.size w w' := by
  have HO := Lib.hid (fun W h => own40 a c fs hfl W h)
  have HF := Lib.hid hf
  have R0 := (Row.new w 49 #[.string mm, .string tt, .slice a fs.length c, .string ⟨#[]⟩, .int .i64 0]).alloc (.cells #[.string ⟨#[]⟩, .string ⟨#[]⟩, .slice none 0 0, .string ⟨#[]⟩, .int .i64 0] 54)
  have R1 := Row.new (w.alloc (.cells #[.string mm, .string tt, .slice a fs.length c, .string ⟨#[]⟩, .int .i64 0] 49)) 54 #[.string ⟨#[]⟩, .string ⟨#[]⟩, .slice none 0 0, .string ⟨#[]⟩, .int .i64 0]
  rw [show (w.alloc (.cells #[.string mm, .string tt, .slice a fs.length c, .string ⟨#[]⟩, .int .i64 0] 49)).heap.size = w.heap.size + 1 by simp] at R1
  have L1 := (below_alloc w (.cells #[.string mm, .string tt, .slice a fs.length c, .string ⟨#[]⟩, .int .i64 0] 49)).alloc (by simp) (.cells #[.string ⟨#[]⟩, .string ⟨#[]⟩, .slice none 0 0, .string ⟨#[]⟩, .int .i64 0] 54)
  clear hf
  go_enter Tryz.func18, Tryz.ntmps18
  go_upto_region 1 with fail
  obtain ⟨bM, hbM⟩ : ∃ bM, bM = w.heap.size := ⟨_, rfl⟩
  obtain ⟨bR, hbR⟩ : ∃ bR, bR = w.heap.size + 1 := ⟨_, rfl⟩
  have hbR0 : w.heap.size ≤ bR := by omega
  rw [← hbM] at R0
  rw [← hbR] at R1 ⊢
  rw [← hbM]
  generalize (w.alloc (.cells #[.string mm, .string tt, .slice a fs.length c, .string ⟨#[]⟩, .int .i64 0] 49)).alloc (.cells #[.string ⟨#[]⟩, .string ⟨#[]⟩, .slice none 0 0, .string ⟨#[]⟩, .int .i64 0] 54) = w1 at *
  have HF1 := Lib.hid (HF.out.below L1)
  have HL1 := Lib.hid L1
  have r0 : w1.cell? ⟨bM, 0, none⟩ = some (.string mm) := R0.cell 0
  have r1 : w1.cell? ⟨bM, 1, none⟩ = some (.string tt) := R0.cell 1
  have r2 : w1.cell? ⟨bM, 2, none⟩ = some (.slice a fs.length c) := R0.cell 2
  have r3 : w1.cell? ⟨bM, 3, none⟩ = some (.string ⟨#[]⟩) := R0.cell 3
  have r4 : w1.cell? ⟨bM, 4, none⟩ = some (.int .i64 0) := R0.cell 4
  have hlt := R0.lt
  have RR := Lib.hid R1
  obtain ⟨n, hn⟩ : ∃ n, n = fs.length := ⟨_, rfl⟩
  rw [← hn] at r2 HO ⊢
  have HN := Lib.hid hn
  clear L1 R0 R1 HF hbM hbR hn
  refine region_mixt 13 [some (.pointer (some ⟨bM, 0, none⟩)), some (.string mm), some (.pointer (some ⟨bM, 1, none⟩)), some (.string tt), some (.agg #[.string mm, .string tt]), some (.pointer (some ⟨bM, 2, none⟩)), some (.slice a n c), none, some (.pointer (some ⟨bM, 3, none⟩)), some (.string ⟨#[]⟩), some (.pointer (some ⟨bM, 4, none⟩)), some (.int .i64 0), none]
    [[false, false, false, false, false, false, false, false, false, false, false, false, false], [true, false, false, false, false, false, false, false, false, false, false, false, false], [false, false, false, false, false, false, false, false, false, false, false, false, false], [false, false, true, false, false, false, false, false, false, false, false, false, false], [false, true, false, true, false, false, false, false, false, false, false, false, false], [false, false, false, false, false, false, false, false, false, false, false, false, false], [false, false, false, false, false, true, false, false, false, false, false, false, false], [false, false, false, false, false, false, true, false, false, false, false, false, false], [false, false, false, false, false, false, false, false, false, false, false, false, false], [false, false, false, false, false, false, false, false, true, false, false, false, false], [false, false, false, false, false, false, false, false, false, false, false, false, false], [false, false, false, false, false, false, false, false, false, false, true, false, false], [false, false, false, false, true, false, false, true, false, true, false, true, false]]
    (fun L x w9 => Below w1.heap.size w1 w9 ∧ (L 7 = true → ∃ b d, x 7 = .slice b n d ∧ IsFlds w9 b d fs ∧ (∀ ad, b = some ad → w1.heap.size ≤ ad.block)) ∧ (L 12 = true → L 7 = true ∧ x 12 = .agg #[.string mm, .string tt, x 7, .string ⟨#[]⟩, .int .i64 0]))
    (by kernel_rfl) (by kernel_rfl) (by kernel_rfl) (by kernel_rfl) (by kernel_rfl) (by decide) ?_ ?_ ?_
  · intro _
    exact ⟨⟨rfl, rfl, rfl, Nat.le_refl _, fun _ _ => rfl⟩, (fun h => by cases h), (fun h => by cases h)⟩
  · simp only [List.take_succ_cons, List.take_zero]
    refine ⟨?_, ?_, ?_, ?_, ?_, ?_, ?_, ?_, ?_, ?_, ?_, ?_, ?_, trivial⟩
    all_goals
      intro L x w9 hS hl hp K9 hK9
      have hs : Below w1.heap.size w1 w9 ∧ (L 7 = true → ∃ b d, x 7 = .slice b n d ∧ IsFlds w9 b d fs ∧ (∀ ad, b = some ad → w1.heap.size ≤ ad.block)) ∧ (L 12 = true → L 7 = true ∧ x 12 = .agg #[.string mm, .string tt, x 7, .string ⟨#[]⟩, .int .i64 0]) := hS
      clear hS
      replace hK9 := hK9.out
      simp only [actMix, pickV, List.tail_cons, List.headD_cons, Act.put, List.setIfInBounds_toArray, List.set_cons_zero, List.set_cons_succ] at hK9 ⊢
    · clear hp
      go_simp
      with_reducible refine hK9 _ ?_
      exact ⟨hs.1, fun h => by
        obtain ⟨b, d, h1, h2, h3⟩ := hs.2.1 (by simpa [setL] using h)
        exact ⟨b, d, by simpa [updV] using h1, h2, h3⟩, fun h => by
        obtain ⟨h1, h2⟩ := hs.2.2 (by simpa [setL] using h)
        exact ⟨by simpa [setL] using h1, by simpa [updV] using h2⟩⟩
    · have r9 : w9.cell? ⟨bM, 0, none⟩ = some (.string mm) := by rw [(bcell hs.1).1 _ _ hlt]; exact r0
      clear hp
      go_simp
      with_reducible refine hK9 _ ?_
      exact ⟨hs.1, fun h => by
        obtain ⟨b, d, h1, h2, h3⟩ := hs.2.1 (by simpa [setL] using h)
        exact ⟨b, d, by simpa [updV] using h1, h2, h3⟩, fun h => by
        obtain ⟨h1, h2⟩ := hs.2.2 (by simpa [setL] using h)
        exact ⟨by simpa [setL] using h1, by simpa [updV] using h2⟩⟩
    · clear hp
      go_simp
      with_reducible refine hK9 _ ?_
      exact ⟨hs.1, fun h => by
        obtain ⟨b, d, h1, h2, h3⟩ := hs.2.1 (by simpa [setL] using h)
        exact ⟨b, d, by simpa [updV] using h1, h2, h3⟩, fun h => by
        obtain ⟨h1, h2⟩ := hs.2.2 (by simpa [setL] using h)
        exact ⟨by simpa [setL] using h1, by simpa [updV] using h2⟩⟩
    · have r9 : w9.cell? ⟨bM, 1, none⟩ = some (.string tt) := by rw [(bcell hs.1).1 _ _ hlt]; exact r1
      clear hp
      go_simp
      with_reducible refine hK9 _ ?_
      exact ⟨hs.1, fun h => by
        obtain ⟨b, d, h1, h2, h3⟩ := hs.2.1 (by simpa [setL] using h)
        exact ⟨b, d, by simpa [updV] using h1, h2, h3⟩, fun h => by
        obtain ⟨h1, h2⟩ := hs.2.2 (by simpa [setL] using h)
        exact ⟨by simpa [setL] using h1, by simpa [updV] using h2⟩⟩
    · clear hp
      go_simp
      with_reducible refine hK9 _ ?_
      exact ⟨hs.1, fun h => by
        obtain ⟨b, d, h1, h2, h3⟩ := hs.2.1 (by simpa [setL] using h)
        exact ⟨b, d, by simpa [updV] using h1, h2, h3⟩, fun h => by
        obtain ⟨h1, h2⟩ := hs.2.2 (by simpa [setL] using h)
        exact ⟨by simpa [setL] using h1, by simpa [updV] using h2⟩⟩
    · clear hp
      go_simp
      with_reducible refine hK9 _ ?_
      exact ⟨hs.1, fun h => by
        obtain ⟨b, d, h1, h2, h3⟩ := hs.2.1 (by simpa [setL] using h)
        exact ⟨b, d, by simpa [updV] using h1, h2, h3⟩, fun h => by
        obtain ⟨h1, h2⟩ := hs.2.2 (by simpa [setL] using h)
        exact ⟨by simpa [setL] using h1, by simpa [updV] using h2⟩⟩
    · have r9 : w9.cell? ⟨bM, 2, none⟩ = some (.slice a n c) := by rw [(bcell hs.1).1 _ _ hlt]; exact r2
      clear hp
      go_simp
      with_reducible refine hK9 _ ?_
      exact ⟨hs.1, fun h => by
        obtain ⟨b, d, h1, h2, h3⟩ := hs.2.1 (by simpa [setL] using h)
        exact ⟨b, d, by simpa [updV] using h1, h2, h3⟩, fun h => by
        obtain ⟨h1, h2⟩ := hs.2.2 (by simpa [setL] using h)
        exact ⟨by simpa [setL] using h1, by simpa [updV] using h2⟩⟩
    · clear hp
      go_simp
      have h12 : L 12 = false := by
        cases h : L 12 with
        | false => rfl
        | true => have := (hs.2.2 h).1; rw [hl] at this; cases this
      refine (HO.out w9 (HF1.out.below hs.1)).mono ?_
      rintro e9 w8 ⟨u, rfl, ho, hb8⟩
      obtain ⟨b, d, hu, hf8⟩ := own_isFlds (own_len ho HN.out)
      rw [← HN.out] at hu
      subst hu
      with_reducible refine hK9 _ _ ?_
      exact ⟨hs.1.trans (hb8.mono hs.1.size), fun _ => ⟨b, d, by simp [updV, *], hf8, fun ad had => by have := (ho.lt ad.block (by rw [had]; exact own_at ho had)).1; have := hs.1.size; omega⟩, fun h => by simp [setL, h12] at h⟩
    · clear hp
      go_simp
      with_reducible refine hK9 _ ?_
      exact ⟨hs.1, fun h => by
        obtain ⟨b, d, h1, h2, h3⟩ := hs.2.1 (by simpa [setL] using h)
        exact ⟨b, d, by simpa [updV] using h1, h2, h3⟩, fun h => by
        obtain ⟨h1, h2⟩ := hs.2.2 (by simpa [setL] using h)
        exact ⟨by simpa [setL] using h1, by simpa [updV] using h2⟩⟩
    · have r9 : w9.cell? ⟨bM, 3, none⟩ = some (.string ⟨#[]⟩) := by rw [(bcell hs.1).1 _ _ hlt]; exact r3
      clear hp
      go_simp
      with_reducible refine hK9 _ ?_
      exact ⟨hs.1, fun h => by
        obtain ⟨b, d, h1, h2, h3⟩ := hs.2.1 (by simpa [setL] using h)
        exact ⟨b, d, by simpa [updV] using h1, h2, h3⟩, fun h => by
        obtain ⟨h1, h2⟩ := hs.2.2 (by simpa [setL] using h)
        exact ⟨by simpa [setL] using h1, by simpa [updV] using h2⟩⟩
    · clear hp
      go_simp
      with_reducible refine hK9 _ ?_
      exact ⟨hs.1, fun h => by
        obtain ⟨b, d, h1, h2, h3⟩ := hs.2.1 (by simpa [setL] using h)
        exact ⟨b, d, by simpa [updV] using h1, h2, h3⟩, fun h => by
        obtain ⟨h1, h2⟩ := hs.2.2 (by simpa [setL] using h)
        exact ⟨by simpa [setL] using h1, by simpa [updV] using h2⟩⟩
    · have r9 : w9.cell? ⟨bM, 4, none⟩ = some (.int .i64 0) := by rw [(bcell hs.1).1 _ _ hlt]; exact r4
      clear hp
      go_simp
      with_reducible refine hK9 _ ?_
      exact ⟨hs.1, fun h => by
        obtain ⟨b, d, h1, h2, h3⟩ := hs.2.1 (by simpa [setL] using h)
        exact ⟨b, d, by simpa [updV] using h1, h2, h3⟩, fun h => by
        obtain ⟨h1, h2⟩ := hs.2.2 (by simpa [setL] using h)
        exact ⟨by simpa [setL] using h1, by simpa [updV] using h2⟩⟩
    · have h7 : L 7 = true := allL_mem hp 7 (by decide +kernel)
      obtain ⟨b, d, hx7, hf7, hnb7⟩ := hs.2.1 h7
      clear hp
      rw [hx7] at hK9 ⊢
      go_simp
      with_reducible refine hK9 _ _ ?_
      exact ⟨hs.1, fun _ => ⟨b, d, by simpa [updV] using hx7, hf7, hnb7⟩, fun _ => ⟨by simpa [setL] using h7, by simp [updV, hx7]⟩⟩
  intro L x w9 hS hL
  have hs : Below w1.heap.size w1 w9 ∧ (L 7 = true → ∃ b d, x 7 = .slice b n d ∧ IsFlds w9 b d fs ∧ (∀ ad, b = some ad → w1.heap.size ≤ ad.block)) ∧ (L 12 = true → L 7 = true ∧ x 12 = .agg #[.string mm, .string tt, x 7, .string ⟨#[]⟩, .int .i64 0]) := hS
  obtain ⟨b, d, hx7, hf7, hnb7⟩ := hs.2.1 (hL 7 (by decide))
  have hx12 := (hs.2.2 (hL 12 (by decide))).2
  have hb9 := hs.1
  clear hS hL hs
  simp only [actMix, pickV, List.tail_cons, List.headD_cons, Act.put, List.setIfInBounds_toArray, List.set_cons_zero, List.set_cons_succ, List.replicate_succ, List.replicate_zero, List.drop_succ_cons, List.drop_zero, List.take_succ_cons, List.take_zero]
  rw [hx7] at hx12 ⊢
  rw [hx12]
  have Q := RR.out.below hb9
  have HB9 := Lib.hid (HL1.out.trans (hb9.mono HL1.out.size))
  have HF9 := Lib.hid hf7
  have z0 := Q.free 0
  have z1 := Q.free 1
  have z2 := Q.free 2
  have z3 := Q.free 3
  have z4 := Q.free 4
  have p0 : w9.cell? ⟨bR, 0, none⟩ = some (.string ⟨#[]⟩) := Q.cell 0
  have p1 : w9.cell? ⟨bR, 1, none⟩ = some (.string ⟨#[]⟩) := Q.cell 1
  have p2 : w9.cell? ⟨bR, 2, none⟩ = some (.slice none 0 0) := Q.cell 2
  have p3 : w9.cell? ⟨bR, 3, none⟩ = some (.string ⟨#[]⟩) := Q.cell 3
  have p4 : w9.cell? ⟨bR, 4, none⟩ = some (.int .i64 0) := Q.cell 4
  have KB : ∀ (v : World) (i : Nat) (u : Value), Keep (fun j => j = bR) v (v.setCell ⟨bR, i, none⟩ u) := fun v i u => Keep.setCell (G := fun j => j = bR) v (p := ⟨bR, i, none⟩) rfl u
  have HKC := Lib.hid (((((KB w9 0 (.string mm)).trans (KB _ 1 (.string tt))).trans (KB _ 2 (.slice b n d))).trans (KB _ 3 (.string ⟨#[]⟩))).trans (KB _ 4 (.int .i64 0)))
  have hnb : (∀ ad, b = some ad → ad.block ≠ bR) := fun ad had => by have := hnb7 ad had; have := RR.out.lt; omega
  have HNB := Lib.hid hnb
  clear hx7 hx12 hf7 hnb7 hb9 Q KB hnb
  go_wp2_with fail
  refine bodyPost_ret (v := .agg #[.string mm, .string tt, .slice b n d, .string ⟨#[]⟩, .int .i64 0]) (by simp [results, Tryz.results18, go_sem, p0, p1, p2, p3, p4]) rfl ⟨b, d, by rw [HN.out], isFlds_keep HF9.out HKC.out HNB.out, ?_⟩
  exact ((((HB9.out.setCell (p := ⟨bR, 0, none⟩) hbR0 _).setCell (p := ⟨bR, 1, none⟩) hbR0 _).setCell (p := ⟨bR, 2, none⟩) hbR0 _).setCell (p := ⟨bR, 3, none⟩) hbR0 _).setCell (p := ⟨bR, 4, none⟩) hbR0 _

set_option maxRecDepth 100000 in
set_option maxHeartbeats 4000000 in
theorem mtext19 (m t : List UInt8) (hm : m.length ≤ 1000000) (ht : t.length ≤ 1000000) (a : Option Addr) (c : Nat) (fs : List Fld) (hfl : fs.length ≤ 1000000) (hok : ∀ f ∈ fs, FldOk f) (hsum : (textL fs).length ≤ 1000000000) (w : World) (hf : IsFlds w a c fs) :
    Calls Tryz.prog 19 #[.agg #[.string (bs m), .string (bs t), .slice a fs.length c, .string ⟨#[]⟩, .int .i64 0]] w fun x w' => x = .returned (.string (bs (reqLine (m, t) ++ textL fs ++ [13, 10]))) ∧ Below w.heap.size w w' := by
  have hrl : (reqLine (m, t)).length ≤ 3000000 := by simp [reqLine, verL]; omega
  have A1 := fun W => add_str (reqLine (m, t)) (textL fs) (by omega) W
  have A2 := fun W => add_str (reqLine (m, t) ++ textL fs) [13, 10] (by simp; omega) W
  have A3 := fun W => add_str (reqLine (m, t) ++ textL fs ++ [13, 10]) [] (by simp; omega) W
  have e13 : bs [13, 10] = ⟨#[13, 10]⟩ := rfl
  have e0 : bs [] = ⟨#[]⟩ := rfl
  rw [e13] at A2
  rw [e0, List.append_nil] at A3
  have HLN := Lib.hid (fun W => rline11 m t (by omega) (by omega) W)
  have HTX := Lib.hid (fun W h => text49 a c fs (by omega) hok (by omega) W h)
  have HF := Lib.hid hf
  have R0 := Row.new w 54 #[.string (bs m), .string (bs t), .slice a fs.length c, .string ⟨#[]⟩, .int .i64 0]
  have L0 := below_alloc w (.cells #[.string (bs m), .string (bs t), .slice a fs.length c, .string ⟨#[]⟩, .int .i64 0] 54)
  generalize hx3 : bs (reqLine (m, t) ++ textL fs ++ [13, 10]) = x3 at *
  generalize hx2 : bs (reqLine (m, t) ++ textL fs) = x2 at *
  generalize hx1 : bs (reqLine (m, t)) = x1 at *
  generalize hx0 : bs (textL fs) = x0 at *
  generalize hmm : bs m = mm at *
  generalize htt : bs t = tt at *
  clear hx3 hx2 hx1 hx0 hmm htt e13 e0 hrl hf hok hm ht hsum
  go_enter Tryz.func19, Tryz.ntmps19
  go_upto_region 1 with fail
  obtain ⟨bM, hbM⟩ : ∃ bM, bM = w.heap.size := ⟨_, rfl⟩
  rw [← hbM] at R0 ⊢
  generalize w.alloc (.cells #[.string mm, .string tt, .slice a fs.length c, .string ⟨#[]⟩, .int .i64 0] 54) = w1 at *
  have HF1 := Lib.hid (HF.out.below L0)
  have HL1 := Lib.hid L0
  have r0 : w1.cell? ⟨bM, 0, none⟩ = some (.string mm) := R0.cell 0
  have r1 : w1.cell? ⟨bM, 1, none⟩ = some (.string tt) := R0.cell 1
  have r2 : w1.cell? ⟨bM, 2, none⟩ = some (.slice a fs.length c) := R0.cell 2
  have r3 : w1.cell? ⟨bM, 3, none⟩ = some (.string ⟨#[]⟩) := R0.cell 3
  have hlt := R0.lt
  obtain ⟨n, hn⟩ : ∃ n, n = fs.length := ⟨_, rfl⟩
  rw [← hn] at r2 HTX ⊢
  clear L0 R0 HF hbM hn
  refine region_mixt 11 [some (.pointer (some ⟨bM, 0, none⟩)), some (.agg #[.string mm, .string tt]), some (.string x1), some (.pointer (some ⟨bM, 2, none⟩)), some (.slice a n c), some (.string x0), some (.string x2), some (.string x3), some (.pointer (some ⟨bM, 3, none⟩)), some (.string ⟨#[]⟩), some (.string x3)]
    [[false, false, false, false, false, false, false, false, false, false, false], [true, false, false, false, false, false, false, false, false, false, false], [false, true, false, false, false, false, false, false, false, false, false], [false, false, false, false, false, false, false, false, false, false, false], [false, false, false, true, false, false, false, false, false, false, false], [false, false, true, false, true, false, false, false, false, false, false], [false, false, true, false, false, true, false, false, false, false, false], [false, false, false, false, false, false, true, false, false, false, false], [false, false, false, false, false, false, false, false, false, false, false], [false, false, false, false, false, false, false, false, true, false, false], [false, false, false, false, false, false, false, true, false, true, false]]
    (fun L x w9 => Below w1.heap.size w1 w9)
    (by kernel_rfl) (by kernel_rfl) (by kernel_rfl) (by kernel_rfl) (by kernel_rfl) (by decide) ?_ ?_ ?_
  · intro _
    exact ⟨rfl, rfl, rfl, Nat.le_refl _, fun _ _ => rfl⟩
  · simp only [List.take_succ_cons, List.take_zero]
    refine ⟨?_, ?_, ?_, ?_, ?_, ?_, ?_, ?_, ?_, ?_, ?_, trivial⟩
    all_goals
      intro L x w9 hS hl hp K9 hK9
      have hs : Below w1.heap.size w1 w9 := hS
      clear hS hp hl
      replace hK9 := hK9.out
      simp only [actMix, pickV, List.tail_cons, List.headD_cons, Act.put, List.setIfInBounds_toArray, List.set_cons_zero, List.set_cons_succ] at hK9 ⊢
    · go_simp
      with_reducible refine hK9 _ ?_
      exact hs
    · have r8 : w9.cell? ⟨bM, 0, none⟩ = some (.string mm) := by rw [(bcell hs).1 _ _ hlt]; exact r0
      have r9 : w9.cell? ⟨bM, 1, none⟩ = some (.string tt) := by rw [(bcell hs).1 _ _ hlt]; exact r1
      go_simp
      with_reducible refine hK9 _ ?_
      exact hs
    · go_simp
      refine (HLN.out w9).mono ?_
      rintro e9 w8 ⟨rfl, hb8⟩
      with_reducible refine hK9 _ ?_
      exact hs.trans (hb8.mono hs.size)
    · go_simp
      with_reducible refine hK9 _ ?_
      exact hs
    · have r9 : w9.cell? ⟨bM, 2, none⟩ = some (.slice a n c) := by rw [(bcell hs).1 _ _ hlt]; exact r2
      go_simp
      with_reducible refine hK9 _ ?_
      exact hs
    · go_simp
      refine (HTX.out w9 (HF1.out.below hs)).mono ?_
      rintro e9 w8 ⟨rfl, hb8⟩
      with_reducible refine hK9 _ ?_
      exact hs.trans (hb8.mono hs.size)
    · go_simp
      with_reducible refine hK9 _ ?_
      exact hs
    · go_simp
      with_reducible refine hK9 _ ?_
      exact hs
    · go_simp
      with_reducible refine hK9 _ ?_
      exact hs
    · have r9 : w9.cell? ⟨bM, 3, none⟩ = some (.string ⟨#[]⟩) := by rw [(bcell hs).1 _ _ hlt]; exact r3
      go_simp
      with_reducible refine hK9 _ ?_
      exact hs
    · go_simp
      with_reducible refine hK9 _ ?_
      exact hs
  intro L x w9 hS hL
  have hs : Below w1.heap.size w1 w9 := hS
  clear hS hL
  simp only [actMix, pickV, List.tail_cons, List.headD_cons, Act.put, List.setIfInBounds_toArray, List.set_cons_zero, List.set_cons_succ, List.replicate_succ, List.replicate_zero, List.drop_succ_cons, List.drop_zero, List.take_succ_cons, List.take_zero]
  have HB9 := Lib.hid (HL1.out.trans (hs.mono HL1.out.size))
  clear hs
  go_wp2_with fail
  go_ret
  exact ⟨rfl, HB9.out⟩
end Go.Proofs.YtmcbaheaocfdnaaGreatDoor

