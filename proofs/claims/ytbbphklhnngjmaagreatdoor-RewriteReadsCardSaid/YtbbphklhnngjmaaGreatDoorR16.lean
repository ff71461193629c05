/- Packed: PrM, RhA, PrN, PlB, PbA, PbB, PbC, PbD. -/
import Derived.StillTailTactics
import Derived.Test.YtbbphklhnngjmaaGreatDoorR02
import Derived.Test.YtbbphklhnngjmaaGreatDoorR07
import Derived.Test.YtbbphklhnngjmaaGreatDoorR08
import Derived.Test.YtbbphklhnngjmaaGreatDoorR09
import Derived.Test.YtbbphklhnngjmaaGreatDoorR10
import Derived.Test.YtbbphklhnngjmaaGreatDoorR11
import Derived.Test.YtbbphklhnngjmaaGreatDoorR14
import Derived.Test.YtbbphklhnngjmaaGreatDoorR15
/- request: what a parser comes to over a request's text (lists). -/
namespace Go.Proofs.YtbbphklhnngjmaaGreatDoor
open Go.RowKit

def Clean (s : List UInt8) : Prop := (10 : UInt8) ∉ s ∧ (13 : UInt8) ∉ s
instance (s : List UInt8) : Decidable (Clean s) := inferInstanceAs (Decidable ((10 : UInt8) ∉ s ∧ (13 : UInt8) ∉ s))
theorem Clean.app {a b : List UInt8} (h : Clean a) (k : Clean b) : Clean (a ++ b) :=
  ⟨fun m => (List.mem_append.1 m).elim h.1 k.1, fun m => (List.mem_append.1 m).elim h.2 k.2⟩
theorem rl_clean (most : Int) (t : List UInt8) : ∀ (s cur : List UInt8), Clean s → rlGo most cur (s ++ 13 :: 10 :: t) = if s = [] ∨ ((cur.length + s.length : Nat) : Int) ≤ most then .whole (cur ++ s) else .err 4
  | [], cur, _ => by
    rw [if_pos (.inl rfl), List.nil_append, rl_crlf, List.append_nil]
  | c :: r, cur, h => by
    have h10 : c ≠ 10 := fun e => h.1 (by rw [e]; exact List.mem_cons_self ..)
    have h13 : c ≠ 13 := fun e => h.2 (by rw [e]; exact List.mem_cons_self ..)
    have hr : Clean r := ⟨fun m => h.1 (List.mem_cons_of_mem _ m), fun m => h.2 (List.mem_cons_of_mem _ m)⟩
    rw [List.cons_append]
    by_cases hm : most ≤ (cur.length : Int)
    · rw [rl_long _ _ _ _ h10 h13 hm, if_neg]
      rintro (e | e)
      · cases e
      · rw [List.length_cons] at e; omega
    · rw [rl_go _ _ _ _ h10 h13 hm, rl_clean most t r (cur ++ [c]) hr]
      have hl : (cur ++ [c]).length = cur.length + 1 := by simp
      have hl2 : (c :: r).length = r.length + 1 := rfl
      by_cases hc : ((cur.length + (c :: r).length : Nat) : Int) ≤ most
      · rw [if_pos (.inr (by rw [hl]; omega)), if_pos (.inr hc)]
        simp
      · rw [if_neg, if_neg]
        · rintro (e | e)
          · cases e
          · exact hc e
        · rintro (e | e)
          · subst e; exact hc (by rw [hl2]; simp; omega)
          · exact hc (by rw [hl] at e; rw [hl2]; omega)
theorem run_clean (M : HdL) (fo : Option (List UInt8)) (fs : List Fld) (sz : Nat) (s t : List UInt8) (hc : Clean s) : hRun M (.line fo fs sz [] false) (s ++ 13 :: 10 :: t) = if s = [] ∨ (s.length : Int) ≤ M.room fo sz then hRun M (M.close anyFirst fo fs sz s) t else .err 4 := by
  have h := rl_clean (M.room fo sz) t s [] hc
  rw [List.nil_append, List.length_nil, Nat.zero_add] at h
  by_cases hq : s = [] ∨ (s.length : Int) ≤ M.room fo sz
  · rw [if_pos hq]
    rw [if_pos hq] at h
    obtain ⟨t', e, h1, _⟩ := run_whole (may := anyFirst) (fs := fs) h
    have e2 : t = t' := by simpa using e
    rw [e2] at h1 ⊢
    exact h1
  · rw [if_neg hq]
    rw [if_neg hq] at h
    exact (run_line M anyFirst fo fs sz _ []).2.1 4 h
/-- A field that is read from how it is written. -/
def FOk (f : Fld) : Prop := parseL (f.1 ++ [58, 32] ++ f.2) = some f
theorem val10 : isVal 10 = false := by decide +kernel
theorem val13 : isVal 13 = false := by decide +kernel
theorem tok10 : isTok 10 = false := by decide +kernel
theorem tok13 : isTok 13 = false := by decide +kernel
theorem vis10 : isVis 10 = false := by decide +kernel
theorem vis13 : isVis 13 = false := by decide +kernel
theorem val_no {c : UInt8} (hc : isVal c = false) {n : List UInt8} (h : valB n = true) : c ∉ n := by
  intro hm
  unfold valB at h
  rw [Bool.and_eq_true] at h
  have := List.all_eq_true.1 h.2 c hm
  rw [hc] at this
  cases this
theorem fok_parts {f : Fld} (h : FOk f) : tokB f.1 = true ∧ valB f.2 = true := by
  unfold FOk parseL at h
  simp only at h
  split at h
  · rename_i hc
    injection h with h
    have e1 := congrArg Prod.fst h
    have e2 := congrArg Prod.snd h
    simp only at e1 e2
    rw [e1, e2] at hc
    exact hc.2
  · cases h
theorem fok_clean {f : Fld} (h : FOk f) : Clean (f.1 ++ [58, 32] ++ f.2) ∧ f.1 ++ [58, 32] ++ f.2 ≠ [] := by
  obtain ⟨h1, h2⟩ := fok_parts h
  refine ⟨Clean.app (Clean.app ⟨tok_no tok10 h1, tok_no tok13 h1⟩ (by decide)) ⟨val_no val10 h2, val_no val13 h2⟩, ?_⟩
  simp
theorem textL_cons (f : Fld) (r : List Fld) (t : List UInt8) : textL (f :: r) ++ t = (f.1 ++ [58, 32] ++ f.2) ++ 13 :: 10 :: (textL r ++ t) := by
  simp [textL, lineL]
theorem textL_len (f : Fld) (r : List Fld) : (textL (f :: r)).length = (f.1 ++ [58, 32] ++ f.2).length + 2 + (textL r).length := by
  have := congrArg List.length (textL_cons f r [])
  simp only [List.append_nil, List.length_append, List.length_cons, List.length_nil] at this ⊢
  omega
theorem hRun_err (M : HdL) (e : Int) (l : List UInt8) : hRun M (.err e) l = .err e := hdRun_err M anyFirst e l
theorem close_ok (M : HdL) (s : List UInt8) (gs : List Fld) (sz : Nat) (f : Fld) (hf : FOk f) (h1 : ((sz + (f.1 ++ [58, 32] ++ f.2).length + 2 : Nat) : Int) ≤ max 0 M.head) (h2 : ((gs.length + 1 : Nat) : Int) ≤ max 0 M.count) :
    M.close anyFirst (some s) gs sz (f.1 ++ [58, 32] ++ f.2) = .line (some s) (gs ++ [f]) (sz + (f.1 ++ [58, 32] ++ f.2).length + 2) [] false := by
  have hp : parseL (f.1 ++ [58, 32] ++ f.2) = some f := hf
  have hne := (fok_clean hf).2
  generalize f.1 ++ [58, 32] ++ f.2 = b at *
  simp only [HdL.close]
  rw [if_neg hne, if_neg (by rintro (h | h) <;> omega), hp]
theorem close_bad (M : HdL) (s : List UInt8) (gs : List Fld) (sz : Nat) (b : List UInt8) (hne : b ≠ []) (h : ¬ (((sz + b.length + 2 : Nat) : Int) ≤ max 0 M.head ∧ ((gs.length + 1 : Nat) : Int) ≤ max 0 M.count)) :
    M.close anyFirst (some s) gs sz b = .err 4 := by
  simp only [HdL.close]
  rw [if_neg hne, if_pos]
  by_cases h1 : ((sz + b.length + 2 : Nat) : Int) ≤ max 0 M.head
  · right
    have h2 : ¬ ((gs.length + 1 : Nat) : Int) ≤ max 0 M.count := fun k => h ⟨h1, k⟩
    omega
  · left; omega
theorem run_flds_ok (M : HdL) (s : List UInt8) : ∀ (FL gs : List Fld) (sz : Nat) (t : List UInt8), (∀ f ∈ FL, FOk f) → ((sz + (textL FL).length : Nat) : Int) ≤ max 0 M.head → ((gs.length + FL.length : Nat) : Int) ≤ max 0 M.count →
    hRun M (.line (some s) gs sz [] false) (textL FL ++ t) = hRun M (.line (some s) (gs ++ FL) (sz + (textL FL).length) [] false) t
  | [], gs, sz, t, _, _, _ => by
    have e : textL [] = [] := rfl
    rw [e, List.nil_append, List.append_nil]
    rfl
  | f :: r, gs, sz, t, hf, h1, h2 => by
    have hf0 := hf f (List.mem_cons_self ..)
    have hl := textL_len f r
    rw [List.length_cons] at h2
    rw [hl] at h1
    have hcl := close_ok M s gs sz f hf0 (by omega) (by omega)
    rw [textL_cons, run_clean _ _ _ _ _ _ (fok_clean hf0).1, if_pos (.inr (by show _ ≤ max 0 M.head - (sz : Int); omega)), hcl,
      run_flds_ok M s r (gs ++ [f]) _ t (fun g hg => hf g (List.mem_cons_of_mem _ hg)) (by omega) (by rw [List.length_append, List.length_singleton]; omega)]
    have e1 : gs ++ [f] ++ r = gs ++ f :: r := by simp
    have e2 : sz + (f.1 ++ [58, 32] ++ f.2).length + 2 + (textL r).length = sz + (textL (f :: r)).length := by omega
    rw [e1, e2]
theorem run_flds_bad (M : HdL) (s : List UInt8) : ∀ (FL gs : List Fld) (sz : Nat) (t : List UInt8), (∀ f ∈ FL, FOk f) → FL ≠ [] → ¬ (((sz + (textL FL).length : Nat) : Int) ≤ max 0 M.head ∧ ((gs.length + FL.length : Nat) : Int) ≤ max 0 M.count) →
    hRun M (.line (some s) gs sz [] false) (textL FL ++ t) = .err 4
  | [], _, _, _, _, hne, _ => absurd rfl hne
  | f :: r, gs, sz, t, hf, _, h => by
    have hf0 := hf f (List.mem_cons_self ..)
    have hl := textL_len f r
    rw [List.length_cons, hl] at h
    rw [textL_cons, run_clean _ _ _ _ _ _ (fok_clean hf0).1]
    by_cases hroom : ((f.1 ++ [58, 32] ++ f.2).length : Int) ≤ M.room (some s) sz
    · rw [if_pos (.inr hroom)]
      by_cases hfit : ((sz + (f.1 ++ [58, 32] ++ f.2).length + 2 : Nat) : Int) ≤ max 0 M.head ∧ ((gs.length + 1 : Nat) : Int) ≤ max 0 M.count
      · rw [close_ok M s gs sz f hf0 hfit.1 hfit.2]
        by_cases hr : r = []
        · subst hr
          have e : (textL ([] : List Fld)).length = 0 := rfl
          rw [e] at h
          exact absurd ⟨by have := hfit.1; omega, by have := hfit.2; simp; omega⟩ h
        · exact run_flds_bad M s r (gs ++ [f]) _ t (fun g hg => hf g (List.mem_cons_of_mem _ hg)) hr (fun k => h ⟨by have := k.1; omega, by have := k.2; rw [List.length_append, List.length_singleton] at this; omega⟩)
      · rw [close_bad M s gs sz _ (fok_clean hf0).2 hfit, hRun_err]
    · rw [if_neg]
      rintro (e | e)
      · exact (fok_clean hf0).2 e
      · exact hroom e
section
variable (M : HdL) (m t : List UInt8) (FL : List Fld)
def lnL : List UInt8 := m ++ 32 :: (t ++ sfxL)
theorem reqLine_ln : reqLine (m, t) = lnL m t ++ [13, 10] := by
  unfold reqLine lnL
  have : sfxL = 32 :: verL := rfl
  rw [this]
  simp
theorem ln_clean (hm : tokB m = true) (ht : tgtB t = true) : Clean (lnL m t) := by
  have h1 : Clean m := ⟨tok_no tok10 hm, tok_no tok13 hm⟩
  have h2 : Clean t := ⟨tgt_no vis10 ht, tgt_no vis13 ht⟩
  have h3 : Clean sfxL := by decide
  exact Clean.app h1 (Clean.app (a := [32]) (by decide) (Clean.app h2 h3))
theorem ln_nl (hc : Clean (lnL m t)) (r : List UInt8) : nlAt (lnL m t ++ 13 :: 10 :: r) = (lnL m t).length + 2 := by
  have h : Lib.indexByte (lnL m t ++ 13 :: 10 :: r) 10 = (((lnL m t).length + 1 : Nat) : Int) := by
    refine ib_at 10 _ _ ?_ ?_
    · have e : (lnL m t ++ 13 :: 10 :: r).take ((lnL m t).length + 1) = lnL m t ++ [13] := by
        have e2 : lnL m t ++ 13 :: 10 :: r = (lnL m t ++ [13]) ++ 10 :: r := by simp
        have e3 : (lnL m t).length + 1 = (lnL m t ++ [13]).length := by simp
        rw [e2, e3, List.take_left' rfl]
      rw [e]
      intro hm
      rcases List.mem_append.1 hm with h | h
      · exact hc.1 h
      · exact absurd h (by decide)
    · have e2 : lnL m t ++ 13 :: 10 :: r = (lnL m t ++ [13]) ++ 10 :: r := by simp
      have e3 : (lnL m t).length + 1 = (lnL m t ++ [13]).length := by simp
      rw [e2, e3, List.getElem?_append_right (Nat.le_refl _), Nat.sub_self]
      rfl
  unfold nlAt
  rw [if_neg (by rw [h]; omega), h]
  omega
/-- A request's text. -/
def rqL : List UInt8 := lnL m t ++ 13 :: 10 :: (textL FL ++ [13, 10])
theorem take_ln (r : List UInt8) : (lnL m t ++ 13 :: 10 :: r).take ((lnL m t).length + 2) = lnL m t ++ 13 :: 10 :: [] := by
  have e2 : lnL m t ++ 13 :: 10 :: r = (lnL m t ++ [13, 10]) ++ r := by simp
  have e3 : (lnL m t).length + 2 = (lnL m t ++ [13, 10]).length := by simp
  rw [e2, e3, List.take_left' rfl]
theorem drop_ln (r : List UInt8) : (lnL m t ++ 13 :: 10 :: r).drop ((lnL m t).length + 2) = r := by
  have e2 : lnL m t ++ 13 :: 10 :: r = (lnL m t ++ [13, 10]) ++ r := by simp
  have e3 : (lnL m t).length + 2 = (lnL m t ++ [13, 10]).length := by simp
  rw [e2, e3, List.drop_left' rfl]
theorem ln_ne : lnL m t ≠ [] := by
  intro h
  have := congrArg List.length h
  simp [lnL] at this
theorem ln_run (hc : Clean (lnL m t)) : hRun M hd0 (lnL m t ++ 13 :: 10 :: []) = if ((lnL m t).length : Int) ≤ max 0 M.line then .line (some (lnL m t)) [] 0 [] false else .err 4 := by
  have h := run_clean M none [] 0 (lnL m t) [] hc
  show hRun M (.line none [] 0 [] false) _ = _
  rw [h]
  by_cases hq : ((lnL m t).length : Int) ≤ max 0 M.line
  · rw [if_pos hq, if_pos (.inr hq)]
    rfl
  · rw [if_neg hq, if_neg]
    rintro (e | e)
    · exact ln_ne m t e
    · exact hq e
variable (hm : tokB m = true) (ht : tgtB t = true)
include hm ht
theorem req_back : reqP (lnL m t) = some (m, t) := by
  unfold lnL
  rw [req_line, if_pos ⟨hm, ht⟩]
variable (hz : (rqL m t FL).length ≤ 1000000)
include hz
theorem prun_long (h : ¬ ((lnL m t).length : Int) ≤ max 0 M.line) : PRun M (.on hd0 [] []) (rqL m t FL) [] (.err 4) := by
  have hc := ln_clean m t hm ht
  refine .bad hd0 (.err 4) [] [] _ 4 ?_ rfl ?_ ?_ rfl rfl (by decide) (by decide)
  · unfold rqL; simp
  · have : hd0.wt = 0 := rfl
    omega
  · unfold rqL
    rw [ln_nl m t hc, take_ln, ln_run M m t hc, if_neg h]
theorem prun_line {acc : List Rq} {p : PaP} (h : ((lnL m t).length : Int) ≤ max 0 M.line) (hr : PRun M (.on (.line (some (lnL m t)) [] 0 [] false) m t) (textL FL ++ [13, 10]) acc p) : PRun M (.on hd0 [] []) (rqL m t FL) acc p := by
  have hc := ln_clean m t hm ht
  have hlen : (lnL m t).length ≤ 1000000 := by unfold rqL at hz; simp at hz; omega
  refine .good hd0 (.line (some (lnL m t)) [] 0 [] false) [] [] _ m t _ _ ?_ rfl ?_ ?_ rfl rfl (req_back m t hm ht) (by show (lnL m t).length ≤ _; omega) ?_
  · unfold rqL; simp
  · have : hd0.wt = 0 := rfl
    omega
  · unfold rqL
    rw [ln_nl m t hc, take_ln, ln_run M m t hc, if_pos h]
  · unfold rqL
    rw [ln_nl m t hc, drop_ln]
    exact hr
variable (hf : ∀ f ∈ FL, FOk f)
include hf
theorem prun_flds (h : ((lnL m t).length : Int) ≤ max 0 M.line) (hne : FL ≠ []) (hbad : ¬ (((textL FL).length : Int) ≤ max 0 M.head ∧ (FL.length : Int) ≤ max 0 M.count)) : PRun M (.on hd0 [] []) (rqL m t FL) [] (.err 4) := by
  refine prun_line M m t FL hm ht hz h (.fbad _ _ _ _ 4 (by simp) rfl rfl ?_ ?_ (by decide))
  · unfold rqL at hz
    simp at hz ⊢
    show 0 + 0 + 0 + 4 * _ ≤ _
    omega
  · exact run_flds_bad M (lnL m t) FL [] 0 [13, 10] hf hne (fun k => hbad ⟨by have := k.1; omega, by have := k.2; rw [List.length_nil] at this; omega⟩)
theorem prun_good (h : ((lnL m t).length : Int) ≤ max 0 M.line) (h1 : ((textL FL).length : Int) ≤ max 0 M.head) (h2 : (FL.length : Int) ≤ max 0 M.count) (hn : NoBody FL) : PRun M (.on hd0 [] []) (rqL m t FL) [(m, t, FL.length)] (.on hd0 [] []) := by
  have hrun : ∀ r, hRun M (.line (some (lnL m t)) [] 0 [] false) (textL FL ++ r) = hRun M (.line (some (lnL m t)) FL (textL FL).length [] false) r := by
    intro r
    rw [run_flds_ok M (lnL m t) FL [] 0 r hf (by omega) (by rw [List.length_nil]; omega)]
    simp
  have hend : hRun M (.line (some (lnL m t)) FL (textL FL).length [] false) [13, 10] = .done (lnL m t) FL := by
    have := run_clean M (some (lnL m t)) FL (textL FL).length [] [] (by decide)
    rw [if_pos (.inl rfl)] at this
    rw [List.nil_append] at this
    rw [this]
    simp [HdL.close]
    rfl
  refine prun_line M m t FL hm ht hz h (.fdone _ _ _ _ (lnL m t) FL [] _ (by simp) rfl rfl ?_ ?_ hn ?_)
  · unfold rqL at hz
    simp at hz ⊢
    show 0 + 0 + 0 + 4 * _ ≤ _
    omega
  · rw [hrun, hend]
  · have e : hLeft M (.line (some (lnL m t)) [] 0 [] false) (textL FL ++ [13, 10]) = [] := by
      have hr0 := hrun []
      rw [List.append_nil] at hr0
      show mLeft _ _ _ _ = _
      rw [mLeft_app _ _ (hd_fin M anyFirst) _ _ _ (by rw [show mRun (M.step anyFirst) (.line (some (lnL m t)) [] 0 [] false) (textL FL) = _ from hr0]; rfl), show mRun (M.step anyFirst) (.line (some (lnL m t)) [] 0 [] false) (textL FL) = _ from hr0]
      rfl
    rw [e]
    exact .nil _ _ _
end
end Go.Proofs.YtbbphklhnngjmaaGreatDoor

/- request's reference: bad, may, ReadHead of any first line. -/
namespace Go.Proofs.YtbbphklhnngjmaaGreatDoor
open Go.RowKit

def RhPost (w : World) (T : HdT) (x : Ending) (w' : World) : Prop :=
  ∃ v, x = .returned (.agg #[.string (bs T.first), .bool T.begun, v, .int .i64 (T.n : Int), .bool T.whole, .int .i64 T.e]) ∧ w'.ownsRow w.heap.size 53 2 v T.fs.length (cellsF T.fs) ∧ Below w.heap.size w w'
theorem rl_err {most : Int} : ∀ {r cur : List UInt8} {e : Int}, rlGo most cur r = .err e → e = 2 ∨ e = 4
  | [], cur, e, h => by simp only [rlGo] at h; cases h
  | c :: r, cur, e, h => by
    simp only [rlGo] at h
    split at h
    · injection h with h; exact .inl h.symm
    · split at h
      · split at h
        · cases h
        · split at h
          · cases h
          · injection h with h; exact .inl h.symm
      · split at h
        · injection h with h; exact .inr h.symm
        · exact rl_err h
/-- The end: the result lies in its variable. -/
theorem rh_end {w0 w : World} {br : Nat} {T : HdT} {v : Value} (u0 u1 u2 u3 u4 u5 : Value) (hbel : Below w0.heap.size w0 w) (hbr : w0.heap.size ≤ br) (ho : w.ownsRow w0.heap.size 53 2 v T.fs.length (cellsF T.fs)) (hn : v.ownBlock ≠ some br) (cs : Array Value) (hc : cs = #[.string (bs T.first), .bool T.begun, v, .int .i64 (T.n : Int), .bool T.whole, .int .i64 T.e]) :
    RhPost w0 T (.returned (.agg cs)) ((((((w.setCell ⟨br, 0, none⟩ u0).setCell ⟨br, 1, none⟩ u1).setCell ⟨br, 2, none⟩ u2).setCell ⟨br, 3, none⟩ u3).setCell ⟨br, 4, none⟩ u4).setCell ⟨br, 5, none⟩ u5) := by
  have K : ∀ (v : World) (i : Nat) (u : Value), Keep (fun j => j = br) v (v.setCell ⟨br, i, none⟩ u) := fun v i u => Keep.setCell (G := fun j => j = br) v (p := ⟨br, i, none⟩) rfl u
  have KC := (((((K w 0 u0).trans (K _ 1 u1)).trans (K _ 2 u2)).trans (K _ 3 u3)).trans (K _ 4 u4)).trans (K _ 5 u5)
  exact ⟨v, by rw [hc], own_keepB ho KC (fun k hk e => hn (by rw [hk, e])), (((((hbel.setCell (p := ⟨br, 0, none⟩) hbr u0).setCell (p := ⟨br, 1, none⟩) hbr u1).setCell (p := ⟨br, 2, none⟩) hbr u2).setCell (p := ⟨br, 3, none⟩) hbr u3).setCell (p := ⟨br, 4, none⟩) hbr u4).setCell (p := ⟨br, 5, none⟩) hbr u5⟩
structure RhD (w0 : World) (bl br bx bh B : Nat) : Prop where
  r0 : w0.heap.size ≤ br
  x0 : w0.heap.size ≤ bx
  h0 : w0.heap.size ≤ bh
  lr : bl ≠ br
  lx : bl ≠ bx
  lh : bl ≠ bh
  rx : br ≠ bx
  rh : br ≠ bh
  xh : bx ≠ bh
  lB : bl < B
  rB : br < B
  xB : bx < B
  hB : bh < B
def cellN (w : World) (b : Nat) : Nat := (((w.cell? ⟨b, 3, none⟩).map intOf).getD 0).toNat
theorem cellN_of {w : World} {b k : Nat} (h : w.cell? ⟨b, 3, none⟩ = some (.int .i64 (k : Int))) : cellN w b = k := by
  unfold cellN
  rw [h]
  simp [intOf]
/-- append of nothing, at an operation. -/
theorem wp_append_nil {P : Program} (w : World) {o : Oper} {a : Act} {K : Act → World → Prop} {Q : Exit → Act → World → Prop} (s x : Operand) (t : TypeId)
    (ho : o.op = .call { callee := .builtin .append, args := #[s, x], argTypes := #[t, t] })
    (base : Nat) (e : TypeId) (i : TypeInfo) (size : Nat) (ht : P.underlying t = some (.slice e)) (hi : P.info? e = some i)
    (v : Value) (n : Nat) (xs : List Value) (hs : a.eval s = v) (hown : w.ownsRow base e size v n xs) (hx : a.eval x = .slice none 0 0)
    (h : K (a.put o.dst v) w) : o.wp P a w K Q := by
  have hrun := run_append_owned_none (P := P) (w := w) base t o.type e i size ht hi v n xs hown
  unfold Oper.wp
  simp [execOp, ho, resolve, invoke, builtin, hs, hx, hrun, Result.andThen]
  exact h
theorem grown_refl (w : World) (row : Option Nat) : w.grownBy w row := ⟨rfl, rfl, rfl, Nat.le_refl _, fun _ _ _ => rfl⟩
/-- The cells of a row that is owned, as a source. -/
theorem own_src {w w' : World} {B : Nat} {e : TypeId} {n m c : Nat} {ad : Addr} {k : Nat} {xs : List Value} (h : w.ownsRow B e n (.slice (some ad) k c) m xs) (hb : Below w.heap.size w w') : ∀ j u, xs[j]? = some u → w'.cell? (ad.add j) = some u := by
  intro j u hu
  obtain ⟨_, ⟨h1, _⟩ | ⟨g, cap, cur, h1, _, hg, _, _, _, ht⟩⟩ := h
  · cases h1
  · injection h1 with h2
    injection h2 with h2
    subst h2
    rw [Addr.add_mid, Nat.zero_add, (bcell hb).1 _ _ (Array.getElem?_eq_some_iff.1 hg).1]
    have hx := hu
    rw [← ht, List.getElem?_take] at hx
    split at hx
    · simp only [Array.getElem?_toList] at hx
      simp [World.cell?, hg, hx]
    · cases hx
/-- What holds while a field is put behind a copy of the others. -/
structure ReS (w0 : World) (fs : List Fld) (N V : ByteArray) (S : Nat → Bool) (x : Nat → Value) (w : World) : Prop where
  a : Below w0.heap.size w0 w
  i0 : S 0 = true → S 3 = false → w.ownsRow w0.heap.size 53 2 (x 0) 0 []
  i3 : S 3 = true → S 6 = false → w.ownsRow w0.heap.size 53 2 (x 3) fs.length (cellsF fs)
  i5 : S 5 = true → S 6 = false → ∃ b5, x 5 = .slice (some ⟨b5, 0, none⟩) 1 1 ∧ w0.heap.size ≤ b5 ∧ b5 < w.heap.size ∧ (∀ (k : Nat) u, [Value.string N, .string V][k]? = some u → w.cell? ((⟨b5, 0, none⟩ : Addr).add k) = some u) ∧ (S 0 = true → S 3 = false → (x 0).ownBlock ≠ some b5) ∧ (S 3 = true → (x 3).ownBlock ≠ some b5)
  i6 : S 6 = true → w.ownsRow w0.heap.size 53 2 (x 6) (fs.length + 1) (cellsF fs ++ [.string N, .string V])
  o3 : S 6 = true → S 3 = true
  o5 : S 6 = true → S 5 = true
  o0 : S 3 = true → S 0 = true
theorem ReS.keep {w0 : World} {fs : List Fld} {N V : ByteArray} {S : Nat → Bool} {x : Nat → Value} {w : World} (h : ReS w0 fs N V S x w) (i : Nat) (u : Value) (h0 : i ≠ 0) (h3 : i ≠ 3) (h5 : i ≠ 5) (h6 : i ≠ 6) : ReS w0 fs N V (setL S i) (updV x i u) w := by
  have e0 : setL S i 0 = S 0 := by simp only [setL, if_neg (Ne.symm h0)]
  have e3 : setL S i 3 = S 3 := by simp only [setL, if_neg (Ne.symm h3)]
  have e5 : setL S i 5 = S 5 := by simp only [setL, if_neg (Ne.symm h5)]
  have e6 : setL S i 6 = S 6 := by simp only [setL, if_neg (Ne.symm h6)]
  have x0 : updV x i u 0 = x 0 := by simp only [updV, if_neg (Ne.symm h0)]
  have x3 : updV x i u 3 = x 3 := by simp only [updV, if_neg (Ne.symm h3)]
  have x5 : updV x i u 5 = x 5 := by simp only [updV, if_neg (Ne.symm h5)]
  have x6 : updV x i u 6 = x 6 := by simp only [updV, if_neg (Ne.symm h6)]
  exact ⟨h.a, by rw [e0, e3, x0]; exact h.i0, by rw [e3, e6, x3]; exact h.i3, by rw [e5, e6, e0, e3, x5, x0, x3]; exact h.i5, by rw [e6, x6]; exact h.i6, by rw [e6, e3]; exact h.o3, by rw [e6, e5]; exact fun q => h.o5 q, by rw [e3, e0]; exact h.o0⟩
theorem infoRf : (Tryz.prog.info? 53).map (fun i => (i.zero, i.size, i.bytes)) = some (some (.agg #[.string ⟨#[]⟩, .string ⟨#[]⟩]), 2, 32) := by kernel_rfl
theorem ReS.lit {w0 : World} {fs : List Fld} {N V : ByteArray} {S : Nat → Bool} {x : Nat → Value} {w : World} (h : ReS w0 fs N V S x w) (hl : S 0 = false) (T : TypeId) (hT : T = 53) : ReS w0 fs N V (setL S 0) (updV x 0 (.slice (some ⟨w.heap.size, 0, none⟩) 0 0)) (w.alloc (.cells #[] T)) := by
  subst hT
  have h3 : S 3 = false := by
    cases h3 : S 3 with
    | false => rfl
    | true => rw [h.o0 h3] at hl; cases hl
  have h6 : S 6 = false := by
    cases h6 : S 6 with
    | false => rfl
    | true => rw [h.o3 h6] at h3; cases h3
  have hz := h.a.size
  refine ⟨h.a.alloc hz _, fun _ _ => ?_, fun q => ?_, fun q1 q2 => ?_, fun q => ?_, fun q => ?_, fun q => ?_, fun _ => by simp [setL]⟩
  · have e : updV x 0 (Value.slice (some ⟨w.heap.size, 0, none⟩) 0 0) 0 = .slice (some ⟨w.heap.size, 0, none⟩) 0 0 := by simp [updV]
    rw [e]
    exact World.ownsRow_lit w #[] 0 hz (by decide) (by simp)
  · simp [setL, h3] at q
  · have q5 : S 5 = true := by simpa [setL] using q1
    obtain ⟨b5, hx, hb0, hb, hc, _, _⟩ := h.i5 q5 h6
    refine ⟨b5, by simpa [updV] using hx, hb0, by simp; omega, fun k u hu => ?_, fun _ _ => ?_, fun q => by simp [setL, h3] at q⟩
    · have := hc k u hu
      rw [Addr.add_mid] at this ⊢
      rw [(bcell (below_alloc w _)).1 _ _ hb]
      exact this
    · simp [updV, Value.ownBlock]
      omega
  · simp [setL, h6] at q
  · simp [setL, h6] at q
  · simp [setL, h6] at q
theorem ReS.arr {w0 : World} {fs : List Fld} {N V : ByteArray} {S : Nat → Bool} {x : Nat → Value} {w : World} (h : ReS w0 fs N V S x w) (h6 : S 6 = false) (T : TypeId) : ReS w0 fs N V (setL S 5) (updV x 5 (.slice (some ⟨w.heap.size, 0, none⟩) 1 1)) (w.alloc (.cells #[.string N, .string V] T)) := by
  have hz := h.a.size
  refine ⟨h.a.alloc hz _, fun q1 q2 => ?_, fun q1 q2 => ?_, fun _ _ => ?_, fun q => ?_, fun q => ?_, fun _ => by simp [setL], fun q => ?_⟩
  · simpa [updV] using (h.i0 (by simpa [setL] using q1) (by simpa [setL] using q2)).alloc (.cells #[.string N, .string V] T)
  · simpa [updV] using (h.i3 (by simpa [setL] using q1) h6).alloc (.cells #[.string N, .string V] T)
  · refine ⟨w.heap.size, by simp [updV], hz, by simp, cells_new1 w N V T, fun q1 q2 e => ?_, fun q e => ?_⟩
    · have := (h.i0 (by simpa [setL] using q1) (by simpa [setL] using q2)).lt w.heap.size (by simpa [updV] using e)
      omega
    · have := (h.i3 (by simpa [setL] using q) h6).lt w.heap.size (by simpa [updV] using e)
      omega
  · simp [setL, h6] at q
  · simp [setL, h6] at q
  · have := h.o0 (by simpa [setL] using q)
    simpa [setL] using this
theorem ReS.app {w0 : World} {fs : List Fld} {N V : ByteArray} {S : Nat → Bool} {x : Nat → Value} {w w' : World} {v' : Value} (h : ReS w0 fs N V S x w) (h0 : S 0 = true) (h3 : S 3 = false) (hg : w.grownBy w' (x 0).ownBlock) (hat : v'.ownBlock = (x 0).ownBlock ∨ v'.ownBlock = some w.heap.size)
    (ho : w'.ownsRow w0.heap.size 53 2 v' fs.length (cellsF fs)) : ReS w0 fs N V (setL S 3) (updV x 3 v') w' := by
  have h6 : S 6 = false := by
    cases h6 : S 6 with
    | false => rfl
    | true => rw [h.o3 h6] at h3; cases h3
  have hown := h.i0 h0 h3
  have hz := h.a.size
  have hz2 := hg.size
  refine ⟨h.a.grown hg hz (fun k hk => (hown.lt k hk).1), fun _ q => ?_, fun _ _ => ?_, fun q1 _ => ?_, fun q => ?_, fun q => ?_, fun q => ?_, fun _ => by simpa [setL] using h0⟩
  · simp [setL] at q
  · simpa [updV] using ho
  · have q5 : S 5 = true := by simpa [setL] using q1
    obtain ⟨b5, hx, hb0, hb, hc, hn, _⟩ := h.i5 q5 h6
    refine ⟨b5, by simpa [updV] using hx, hb0, by omega, fun k u hu => ?_, fun _ q => by simp [setL] at q, fun _ e => ?_⟩
    · have := hc k u hu
      rw [Addr.add_mid] at this ⊢
      unfold World.cell? at this ⊢
      rw [hg.block b5 hb (fun e => hn h0 h3 e.symm)]
      exact this
    · have e2 : v'.ownBlock = some b5 := by simpa [updV] using e
      rcases hat with q | q
      · exact hn h0 h3 (by rw [← q]; exact e2)
      · rw [e2] at q
        injection q with q
        omega
  · simp [setL, h6] at q
  · simp [setL, h6] at q
  · simp [setL, h6] at q
theorem ReS.fin {w0 : World} {fs : List Fld} {N V : ByteArray} {S : Nat → Bool} {x : Nat → Value} {w w' : World} {v' : Value} (h : ReS w0 fs N V S x w) (h3 : S 3 = true) (h5 : S 5 = true) (h6 : S 6 = false) (hg : w.grownBy w' (x 3).ownBlock)
    (ho : w'.ownsRow w0.heap.size 53 2 v' (fs.length + 1) (cellsF fs ++ [.string N, .string V])) : ReS w0 fs N V (setL S 6) (updV x 6 v') w' := by
  have hown := h.i3 h3 h6
  have hz := h.a.size
  refine ⟨h.a.grown hg hz (fun k hk => (hown.lt k hk).1), fun _ q => ?_, fun _ q => ?_, fun _ q => ?_, fun _ => ?_, fun _ => by simpa [setL] using h3, fun _ => by simpa [setL] using h5, fun _ => by simpa [setL] using h.o0 h3⟩
  · simp [setL, h3] at q
  · simp [setL] at q
  · simp [setL] at q
  · simpa [updV] using ho
end Go.Proofs.YtbbphklhnngjmaaGreatDoor

/- request's reference: framing's Of, Plain. -/
namespace Go.Proofs.YtbbphklhnngjmaaGreatDoor
open Go.RowKit

def encR : ByteArray := ⟨#[116, 114, 97, 110, 115, 102, 101, 114, 45, 101, 110, 99, 111, 100, 105, 110, 103]⟩
def lenR : ByteArray := ⟨#[99, 111, 110, 116, 101, 110, 116, 45, 108, 101, 110, 103, 116, 104]⟩
def hostR : ByteArray := ⟨#[104, 111, 115, 116]⟩
theorem allB_case {x y : ByteArray} (h : x.data.toList.map lowC = y.data.toList.map lowC) (fs : List Fld) : allB x fs = allB y fs := by
  unfold allB isB
  rw [h]
theorem allB_mem {x : ByteArray} {fs : List Fld} {v : ByteArray} (h : v ∈ allB x fs) : ∃ f ∈ fs, v = bs f.2 := by
  unfold allB at h
  obtain ⟨f, hf, rfl⟩ := List.mem_map.1 h
  exact ⟨f, (List.mem_filter.1 hf).1, rfl⟩
def OfPost (fs : List Fld) (w : World) (x : Ending) (w' : World) : Prop :=
  ∃ k n e : Int, x = .returned (.tuple #[.int .i64 k, .int .i64 n, .int .i64 e]) ∧ (e = 0 → k = 0 → (allB encR fs = [] ∧ allB lenR fs = [] ∧ n = 0)) ∧ 0 ≤ k ∧ Below w.heap.size w w'
set_option maxRecDepth 100000 in
set_option maxHeartbeats 4000000 in
theorem of31 (a : Option Addr) (c : Nat) (fs : List Fld) (most : Int) (hfl : fs.length ≤ 1000000) (hok : ∀ f ∈ fs, FldOk f) (hsm : ∀ f ∈ fs, f.2.length ≤ 1000000) (w : World) (hf : IsFlds w a c fs) :
    Calls Tryz.prog 53 #[.slice a fs.length c, .int .i64 most, .int .i64 0] w (OfPost fs w) := by
  have HT := Lib.hid (rall41 a c fs encR hfl hok (by decide) w hf)
  have HC := Lib.hid (fun W h => rall41 a c fs lenR hfl hok (by decide) W h)
  have hmT : ∀ v ∈ allB encR fs, v.size ≤ 1000000 := fun v hv => by
    obtain ⟨f, hf, rfl⟩ := allB_mem hv
    rw [bs_size]; exact hsm f hf
  have hmC : ∀ v ∈ allB lenR fs, v.size ≤ 1000000 := fun v hv => by
    obtain ⟨f, hf, rfl⟩ := allB_mem hv
    rw [bs_size]; exact hsm f hf
  have hlT := allB_len encR fs
  have hlC := allB_len lenR fs
  have HF := Lib.hid hf
  obtain ⟨T, hT⟩ : ∃ T, T = allB encR fs := ⟨_, rfl⟩
  obtain ⟨C, hC⟩ : ∃ C, C = allB lenR fs := ⟨_, rfl⟩
  rw [← hT] at HT hmT hlT
  rw [← hC] at HC hmC hlC
  have HTT := Lib.hid hT
  have HCC := Lib.hid hC
  unfold encR at HT
  unfold lenR at HC
  have HMT := Lib.hid hmT
  have HMC := Lib.hid hmC
  obtain ⟨nT, hnT⟩ : ∃ nT, nT = T.length := ⟨_, rfl⟩
  obtain ⟨nC, hnC⟩ : ∃ nC, nC = C.length := ⟨_, rfl⟩
  have HNT := Lib.hid hnT
  have HNC := Lib.hid hnC
  have hbT : nT ≤ 1000000 := by omega
  have hbC : nC ≤ 1000000 := by omega
  clear hf hok hsm hT hC hmT hmC hnT hnC hlT hlC
  go_enter Tryz.func53, Tryz.ntmps53
  go_wp2_with fail
  with_reducible refine HT.out.mono ?_
  rintro e w1 ⟨u1, rfl, ho1, hb1⟩
  have ho1' := own_len ho1 HNT.out.symm
  obtain ⟨a1, c1, rfl⟩ := own_slice ho1'
  have S1 := isStrs_of_row ho1' HNT.out.symm
  have F1 := Lib.hid (HF.out.below hb1)
  have B1 := Lib.hid hb1
  clear ho1 ho1' hb1 HT HF
  go_wp2_with fail
  with_reducible refine (HC.out w1 F1.out).mono ?_
  rintro e w2 ⟨u2, rfl, ho2, hb2⟩
  have ho2' := own_len ho2 HNC.out.symm
  obtain ⟨a2, c2, rfl⟩ := own_slice ho2'
  have S2 := Lib.hid (isStrs_of_row ho2' HNC.out.symm)
  have S1' := Lib.hid (S1.below hb2)
  have B2 := Lib.hid (B1.out.trans (hb2.mono B1.out.size))
  clear ho2 ho2' hb2 HC F1 B1 S1
  by_cases hT0 : 0 < nT
  · have t1 : decide (0 < (nT : Int)) = true := decide_eq_true (by omega)
    have hcells := S1'.out
    obtain h0 | ⟨bk, o, rfl, hbk, hcc, hcell⟩ := hcells
    · exfalso; have := HNT.out; rw [h0] at this; simp at this; omega
    have hT0' : 0 < T.length := by have := HNT.out; omega
    have cj : w2.cell? ⟨bk, o, none⟩ = some (.string T[0]) := hcell 0 T[0] (by simp [hT0'])
    have hTz := HMT.out T[0] (List.getElem_mem hT0')
    obtain ⟨x0, hx0⟩ : ∃ x0, x0 = T[0] := ⟨_, rfl⟩
    rw [← hx0] at cj hTz
    have hcc2 : nT ≤ c1 := by have := HNT.out; omega
    clear hcell hx0 hT0' hbk hcc
    have FIN : ∀ k n e : Int, ∀ w', Below w.heap.size w w' → (e ≠ 0 ∨ k ≠ 0) → 0 ≤ k → OfPost fs w (.returned (.tuple #[.int .i64 k, .int .i64 n, .int .i64 e])) w' := fun k n e w' hb h hk => ⟨k, n, e, rfl, (fun h1 h2 => by rcases h with h | h; exact absurd h1 h; exact absurd h2 h), hk, hb⟩
    have HFIN := Lib.hid FIN
    clear FIN
    by_cases hC0 : 0 < nC
    · have t2 : decide (0 < (nC : Int)) = true := decide_eq_true (by omega)
      go_wp2_with fail
      refine bodyPost_ret (v := .tuple #[.int .i64 0, .int .i64 0, .int .i64 2]) (by simp [results, Tryz.results53, go_sem]) rfl (HFIN.out 0 0 2 w2 B2.out (.inl (by decide)) (by decide))
    · obtain rfl : nC = 0 := by omega
      by_cases hT1 : 1 < nT
      · have t3 : decide (1 < (nT : Int)) = true := decide_eq_true (by omega)
        go_wp2_with fail
        refine bodyPost_ret (v := .tuple #[.int .i64 0, .int .i64 0, .int .i64 2]) (by simp [results, Tryz.results53, go_sem]) rfl (HFIN.out 0 0 2 w2 B2.out (.inl (by decide)) (by decide))
      · obtain rfl : nT = 1 := by omega
        have HL := Lib.hid (lower21 x0 (by omega) w2)
        obtain ⟨y, hy⟩ : ∃ y, y = (⟨(x0.data.toList.map lowC).toArray⟩ : ByteArray) := ⟨_, rfl⟩
        rw [← hy] at HL
        clear hy
        go_wp2_with fail
        with_reducible refine HL.out.mono ?_
        rintro e w3 ⟨rfl, hb3⟩
        have B3 := Lib.hid (B2.out.trans (hb3.mono B2.out.size))
        obtain ⟨q, hq⟩ : ∃ q, (y.toList == [99, 104, 117, 110, 107, 101, 100]) = q := ⟨_, rfl⟩
        clear hb3 HL
        cases q
        · go_wp2_with fail
          refine bodyPost_ret (v := .tuple #[.int .i64 0, .int .i64 0, .int .i64 2]) (by simp [results, Tryz.results53, go_sem]) rfl (HFIN.out 0 0 2 w3 B3.out (.inl (by decide)) (by decide))
        · go_wp2_with fail
          refine bodyPost_ret (v := .tuple #[.int .i64 2, .int .i64 0, .int .i64 0]) (by simp [results, Tryz.results53, go_sem]) rfl (HFIN.out 2 0 0 w3 B3.out (.inr (by decide)) (by decide))
  · obtain rfl : nT = 0 := by omega
    have hTn : T = [] := List.eq_nil_of_length_eq_zero HNT.out.symm
    have HTN := Lib.hid hTn
    clear hTn hT0
    by_cases hC0 : 0 < nC
    · have t1 : decide ((nC : Int) = 0) = false := decide_eq_false (by omega)
      have t1b : ((nC : Int) == 0) = false := beq_eq_false_iff_ne.2 (by omega)
      have FIN : ∀ k n e : Int, ∀ w', Below w.heap.size w w' → (e ≠ 0 ∨ k ≠ 0) → 0 ≤ k → OfPost fs w (.returned (.tuple #[.int .i64 k, .int .i64 n, .int .i64 e])) w' := fun k n e w' hb h hk => ⟨k, n, e, rfl, (fun h1 h2 => by rcases h with h | h; exact absurd h1 h; exact absurd h2 h), hk, hb⟩
      have HFIN := Lib.hid FIN
      clear FIN
      have hcells := S2.out
      obtain h0 | ⟨bk, o, rfl, hbk, hcc, hcell⟩ := hcells
      · exfalso; have := HNC.out; rw [h0] at this; simp at this; omega
      have hC0' : 0 < C.length := by have := HNC.out; omega
      have c0 : w2.cell? ⟨bk, o, none⟩ = some (.string C[0]) := hcell 0 C[0] (by simp [hC0'])
      have hz0 := HMC.out C[0] (List.getElem_mem hC0')
      obtain ⟨x0, hx0⟩ : ∃ x0, x0 = C[0] := ⟨_, rfl⟩
      rw [← hx0] at c0 hz0
      obtain ⟨m1, m2, hm⟩ : ∃ m1 m2, numR 10 10 isDec x0.data.toList 9999999999 = (m1, m2) := ⟨_, _, rfl⟩
      have HN0 := Lib.hid (fun W => num27_10 x0 hz0 9999999999 m1 m2 hm W)
      have HCELL := Lib.hid hcell
      have hcc2 : nC ≤ c2 := by have := HNC.out; omega
      clear hx0 hC0' hbk hcc hcell hm hz0
      go_wp2_with fail
      go_loopw [47] (fun iv wr => w2 = wr ∧ ∃ j : Nat, j ≤ nC ∧ iv = .int .i64 (j : Int)) (fun iv _ => nC - (intOf iv).toNat)
      case atStart => exact ⟨rfl, 0, Nat.zero_le _, rfl⟩
      case round =>
        obtain ⟨rfl, j, hj, rfl⟩ := hrel
        by_cases hlt : j < nC
        · have hjC : j < C.length := by have := HNC.out; omega
          have cj := HCELL.out j C[j] (by simp [hjC])
          have hzj := HMC.out C[j] (List.getElem_mem hjC)
          obtain ⟨xj, hxj⟩ : ∃ xj, xj = C[j] := ⟨_, rfl⟩
          rw [← hxj] at cj hzj
          obtain ⟨n1, n2, hn⟩ : ∃ n1 n2, numR 10 10 isDec xj.data.toList 9999999999 = (n1, n2) := ⟨_, _, rfl⟩
          have HNJ := Lib.hid (fun W => num27_10 xj hzj 9999999999 n1 n2 hn W)
          have j1 : (j : Int) < nC := by omega
          have j0 : (0 : Int) < nC := by omega
          clear hxj hn hzj hjC
          go_wp2_with fail
          with_reducible refine (HNJ.out w2).mono ?_
          rintro e w' ⟨rfl, rfl⟩
          go_wp2_with fail
          with_reducible refine (HN0.out w2).mono ?_
          rintro e w' ⟨rfl, rfl⟩
          by_cases hn2 : n2 = 0
          · subst hn2
            by_cases hnm : n1 = m1
            · subst hnm
              go_wp2_with fail
              go_roundw
              case rel => exact ⟨by trivial, j + 1, hlt, by go_num⟩
              case measure => simp [intOf]; omega
            · have u1 : (n1 != m1) = true := bne_iff_ne.2 hnm
              go_wp2_with fail
              refine bodyPost_ret (v := .tuple #[.int .i64 0, .int .i64 0, .int .i64 2]) (by simp [results, Tryz.results53, go_sem]) rfl (HFIN.out 0 0 2 w2 B2.out (.inl (by decide)) (by decide))
          · have u1 : (n2 != 0) = true := bne_iff_ne.2 hn2
            go_wp2_with fail
            refine bodyPost_ret (v := .tuple #[.int .i64 0, .int .i64 0, .int .i64 2]) (by simp [results, Tryz.results53, go_sem]) rfl (HFIN.out 0 0 2 w2 B2.out (.inl (by decide)) (by decide))
        · have j1 : ¬ (j : Int) < nC := by omega
          have j0 : (0 : Int) < nC := by omega
          go_wp2_with fail
          with_reducible refine (HN0.out w2).mono ?_
          rintro e w' ⟨rfl, rfl⟩
          by_cases hmm : most < m1
          · have u1 : decide (most < m1) = true := decide_eq_true hmm
            go_wp2_with fail
            refine bodyPost_ret (v := .tuple #[.int .i64 0, .int .i64 0, .int .i64 3]) (by simp [results, Tryz.results53, go_sem]) rfl (HFIN.out 0 0 3 w2 B2.out (.inl (by decide)) (by decide))
          · have u1 : decide (most < m1) = false := decide_eq_false hmm
            go_wp2_with fail
            refine bodyPost_ret (v := .tuple #[.int .i64 1, .int .i64 m1, .int .i64 0]) (by simp [results, Tryz.results53, go_sem]) rfl (HFIN.out 1 m1 0 w2 B2.out (.inr (by decide)) (by decide))
    · obtain rfl : nC = 0 := by omega
      have hCn : C = [] := List.eq_nil_of_length_eq_zero HNC.out.symm
      have HCN := Lib.hid hCn
      clear hCn hC0
      go_wp2_with fail
      refine bodyPost_ret (v := .tuple #[.int .i64 0, .int .i64 0, .int .i64 0]) (by simp [results, Tryz.results53, go_sem]) rfl ⟨0, 0, 0, rfl, (fun _ _ => ⟨HTT.out.symm.trans HTN.out, HCC.out.symm.trans HCN.out, rfl⟩), Int.le_refl 0, B2.out⟩
end Go.Proofs.YtbbphklhnngjmaaGreatDoor

/- request's reference: Plain, of any body and kind. -/
namespace Go.Proofs.YtbbphklhnngjmaaGreatDoor
open Go.RowKit

/-- What Plain's yes says. -/
def PlainIsL (m t : List UInt8) (fs : List Fld) (bb : ByteArray) (kk : Int) : Prop :=
  (∀ f ∈ fs, FOk f) ∧ tokB m = true ∧ tgtB t = true ∧ (∃ h0, allB hostR fs = [h0] ∧ 0 < h0.size) ∧ ((kk = 0 ∧ allB lenR fs = [] ∧ bb.size = 0) ∨ kk = 1)
def PlainPostL (m t : List UInt8) (fs : List Fld) (bb : ByteArray) (kk : Int) (w : World) (x : Ending) (w' : World) : Prop :=
  ∃ q, x = .returned (.bool q) ∧ (q = true → PlainIsL m t fs bb kk) ∧ Below w.heap.size w w'
set_option maxRecDepth 100000 in
set_option maxHeartbeats 8000000 in
theorem plain17L (m t : List UInt8) (bb : ByteArray) (kk : Int) (hm : m.length ≤ 1000000) (ht : t.length ≤ 1000000) (a : Option Addr) (c : Nat) (fs : List Fld) (hfl : fs.length ≤ 1000000) (hok : ∀ f ∈ fs, f.1.length ≤ 1000000 ∧ f.2.length ≤ 1000000) (w : World) (hf : IsFlds w a c fs) :
    Calls Tryz.prog 19 #[.agg #[.string (bs m), .string (bs t), .slice a fs.length c, .string bb, .int .i64 kk]] w (PlainPostL m t fs bb kk w) := by
  have hok2 : ∀ f ∈ fs, FldOk f := fun f h => ⟨by have := (hok f h).1; omega, by have := (hok f h).2; omega⟩
  obtain ⟨qm, hqm⟩ : ∃ q, tokB m = q := ⟨_, rfl⟩
  obtain ⟨qt, hqt⟩ : ∃ q, tgtB t = q := ⟨_, rfl⟩
  have HTK := Lib.hid (fun W => token15 (bs m) (by rw [bs_size]; omega) qm hqm W)
  have HTG := Lib.hid (fun W => target17 (bs t) (by rw [bs_size]; omega) qt hqt W)
  have HAL := Lib.hid (fun W h => rall41 a c fs hostR hfl hok2 (by decide) W h)
  have HOF := Lib.hid (fun W h => of31 a c fs 1099511627776 hfl hok2 (fun f h => (hok f h).2) W h)
  have HF := Lib.hid hf
  have HOK := Lib.hid hok
  have L0 := Lib.hid (below_alloc w (.cells #[.string (bs m), .string (bs t), .slice a fs.length c, .string bb, .int .i64 kk] 39))
  have R0 := Lib.hid (Row.new w 39 #[.string (bs m), .string (bs t), .slice a fs.length c, .string bb, .int .i64 kk])
  have NO : ∀ w', Below w.heap.size w w' → PlainPostL m t fs bb kk w (.returned (.bool false)) w' := fun w' hb => ⟨false, rfl, (fun h => by cases h), hb⟩
  have HNO := Lib.hid NO
  have HM := Lib.hid hqm
  have HT := Lib.hid hqt
  obtain ⟨mm, hmm⟩ : ∃ mm, mm = bs m := ⟨_, rfl⟩
  obtain ⟨tt, htt⟩ : ∃ tt, tt = bs t := ⟨_, rfl⟩
  rw [← hmm] at HTK L0 R0 ⊢
  rw [← htt] at HTG L0 R0 ⊢
  clear hf hok hok2 hqm hqt NO hm ht hmm htt
  unfold hostR at HAL
  go_enter Tryz.func19, Tryz.ntmps19
  go_wp2_with fail
  obtain ⟨w0, hw0⟩ : ∃ w0, w0 = w.alloc (.cells #[.string mm, .string tt, .slice a fs.length c, .string bb, .int .i64 kk] 39) := ⟨_, rfl⟩
  rw [← hw0] at L0 R0 ⊢
  clear hw0
  go_loopw [14] (fun iv wr => ∃ j : Nat, j ≤ fs.length ∧ iv = .int .i64 (j : Int) ∧ Hid (∀ f ∈ fs.take j, FOk f) ∧ Hid (Below w0.heap.size w0 wr)) (fun iv _ => fs.length - (intOf iv).toNat)
  case atStart => exact ⟨0, Nat.zero_le _, rfl, (fun f h => by simp at h), Below.refl _ _⟩
  case round =>
    obtain ⟨j, hj, rfl, hall, hb⟩ := hrel
    by_cases hlt : j < fs.length
    · have hf0 := (HF.out.below L0.out).below hb.out
      obtain h0 | ⟨bk, o, rfl, hbk, hc, hcell⟩ := hf0
      · subst h0; simp at hlt
      obtain ⟨c1, c2⟩ := hcell j fs[j] (by simp [hlt])
      have hok := HOK.out fs[j] (List.getElem_mem hlt)
      have hst : fs.take (j + 1) = fs.take j ++ [fs[j]] := by rw [List.take_succ_eq_append_getElem hlt]
      obtain ⟨f, hfe⟩ : ∃ f, f = fs[j] := ⟨_, rfl⟩
      rw [← hfe] at c1 c2 hok hst
      have HST := Lib.hid hst
      obtain ⟨n, v⟩ := f
      simp only at c1 c2 hok
      have A1 := fun W => add_str n [58, 32] (by simp; omega) W
      have A2 := fun W => add_str (n ++ [58, 32]) v (by simp; omega) W
      have e58 : bs [58, 32] = ⟨#[58, 32]⟩ := rfl
      rw [e58] at A1
      have HP := Lib.hid (fun W => parse37 (bs (n ++ [58, 32] ++ v)) (by rw [bs_size]; simp; omega) W)
      rw [bs_list] at HP
      unfold parseV at HP
      have j1 : (j : Int) < fs.length := by omega
      have hbb := hb.out
      have hsz := hbb.size
      have HBA := Lib.hid (hbb.alloc hsz (.cells #[.string (bs n), .string (bs v)] 53))
      have RF := Row.new wr 53 #[.string (bs n), .string (bs v)]
      have eN := self_strP (bs n)
      have eV := self_strP (bs v)
      cases hp : parseL (n ++ [58, 32] ++ v) with
      | none =>
        rw [hp] at HP
        unfold fldV at HP
        simp only at HP
        generalize hx2 : bs (n ++ [58, 32] ++ v) = x2 at *
        generalize hx1 : bs (n ++ [58, 32]) = x1 at *
        generalize bs n = N at *
        generalize bs v = V at *
        clear hx1 hx2 hcell hfe hst hp e58 hbk hc
        go_wp2_with fail
        with_reducible refine (HP.out _).mono ?_
        rintro e w1 ⟨rfl, hb1⟩
        have HB1 := Lib.hid ((HBA.out.trans (hb1.mono HBA.out.size)).alloc (HBA.out.trans (hb1.mono HBA.out.size)).size (.cells #[.string (bs []), .string (bs [])] 53))
        clear hb1 HP
        go_wp2_with fail
        go_ret
        exact HNO.out _ (L0.out.trans (HB1.out.mono L0.out.size))
      | some g =>
        obtain ⟨gn, gv⟩ := g
        rw [hp] at HP
        unfold fldV at HP
        simp only at HP
        have q1 := bs_beq gn n
        have q2 := bs_beq gv v
        by_cases hg : (gn, gv) = (n, v)
        · injection hg with hg1 hg2
          subst hg1 hg2
          have HN : Hid (∀ f ∈ fs.take (j + 1), FOk f) := by
            show ∀ f ∈ _, _
            rw [HST.out]
            intro f hf
            rcases List.mem_append.1 hf with h | h
            · exact hall.out f h
            · rw [List.mem_singleton.1 h]; exact hp
          generalize hx2 : bs (gn ++ [58, 32] ++ gv) = x2 at *
          generalize hx1 : bs (gn ++ [58, 32]) = x1 at *
          generalize bs gn = N at *
          generalize bs gv = V at *
          clear hx1 hx2 hcell hfe hst hp e58 hbk hc q1 q2
          go_wp2_with fail
          with_reducible refine (HP.out _).mono ?_
          rintro e w1 ⟨rfl, hb1⟩
          have RF1 := (RF.below hb1).alloc (.cells #[.string N, .string V] 53)
          have hb2 := (HBA.out.trans (hb1.mono HBA.out.size)).alloc (HBA.out.trans (hb1.mono HBA.out.size)).size (.cells #[.string N, .string V] 53)
          have HB1 := Lib.hid hb2
          have s0 : (w1.alloc (.cells #[.string N, .string V] 53)).cell? ⟨wr.heap.size, 0, none⟩ = some (.string N) := RF1.cell 0
          have s1 : (w1.alloc (.cells #[.string N, .string V] 53)).cell? ⟨wr.heap.size, 1, none⟩ = some (.string V) := RF1.cell 1
          have RG := Row.new w1 53 #[.string N, .string V]
          have s2 : (w1.alloc (.cells #[.string N, .string V] 53)).cell? ⟨w1.heap.size, 0, none⟩ = some (.string N) := RG.cell 0
          have s3 : (w1.alloc (.cells #[.string N, .string V] 53)).cell? ⟨w1.heap.size, 1, none⟩ = some (.string V) := RG.cell 1
          clear hb1 hb2 HP RF RF1 RG
          go_upto_region 5 with fail
          generalize w1.alloc (.cells #[.string N, .string V] 53) = w2 at *
          go_wp2_with fail
          go_roundw
          case rel => exact ⟨j + 1, hlt, by go_num, HN, HB1⟩
          case measure => simp [intOf]; omega
        · have hcase : (decide (gn = n) = false) ∨ (decide (gn = n) = true ∧ decide (gv = v) = false) := by
            by_cases h1 : gn = n
            · exact .inr ⟨decide_eq_true h1, decide_eq_false (fun h2 => hg (by rw [h1, h2]))⟩
            · exact .inl (decide_eq_false h1)
          generalize decide (gn = n) = b1 at *
          generalize decide (gv = v) = b2 at *
          generalize hx2 : bs (n ++ [58, 32] ++ v) = x2 at *
          generalize hx1 : bs (n ++ [58, 32]) = x1 at *
          generalize bs n = N at *
          generalize bs v = V at *
          generalize bs gn = GN at *
          generalize bs gv = GV at *
          clear hx1 hx2 hcell hfe hst hp e58 hbk hc hg eN eV
          rcases hcase with rfl | ⟨rfl, rfl⟩
          all_goals
            go_wp2_with fail
            with_reducible refine (HP.out _).mono ?_
            rintro e w1 ⟨rfl, hb1⟩
            have RF1 := (RF.below hb1).alloc (.cells #[.string GN, .string GV] 53)
            have hb2 := (HBA.out.trans (hb1.mono HBA.out.size)).alloc (HBA.out.trans (hb1.mono HBA.out.size)).size (.cells #[.string GN, .string GV] 53)
            have HB1 := Lib.hid hb2
            have s0 : (w1.alloc (.cells #[.string GN, .string GV] 53)).cell? ⟨wr.heap.size, 0, none⟩ = some (.string N) := RF1.cell 0
            have s1 : (w1.alloc (.cells #[.string GN, .string GV] 53)).cell? ⟨wr.heap.size, 1, none⟩ = some (.string V) := RF1.cell 1
            have RG := Row.new w1 53 #[.string GN, .string GV]
            have s2 : (w1.alloc (.cells #[.string GN, .string GV] 53)).cell? ⟨w1.heap.size, 0, none⟩ = some (.string GN) := RG.cell 0
            have s3 : (w1.alloc (.cells #[.string GN, .string GV] 53)).cell? ⟨w1.heap.size, 1, none⟩ = some (.string GV) := RG.cell 1
            clear hb1 hb2 HP RF RF1 RG
            go_upto_region 5 with fail
            generalize w1.alloc (.cells #[.string GN, .string GV] 53) = w2 at *
            go_wp2_with fail
            go_ret
            exact HNO.out _ (L0.out.trans (HB1.out.mono L0.out.size))
    · obtain rfl : j = fs.length := by omega
      have hall2 := hall.out
      rw [List.take_of_length_le (Nat.le_refl _)] at hall2
      have HALL := Lib.hid hall2
      have RM := R0.out.below hb.out
      have r0 : wr.cell? ⟨w.heap.size, 0, none⟩ = some (.string mm) := RM.cell 0
      have r1 : wr.cell? ⟨w.heap.size, 1, none⟩ = some (.string tt) := RM.cell 1
      have r2 : wr.cell? ⟨w.heap.size, 2, none⟩ = some (.slice a fs.length c) := RM.cell 2
      have FW := Lib.hid ((HF.out.below L0.out).below hb.out)
      have RMH := Lib.hid RM
      clear hall hall2 RM
      go_wp2_with fail
      with_reducible refine (HAL.out wr FW.out).mono ?_
      rintro e w1 ⟨u1, rfl, ho1, hb1⟩
      obtain ⟨H, hH⟩ : ∃ H, H = allB (⟨#[104, 111, 115, 116]⟩ : ByteArray) fs := ⟨_, rfl⟩
      rw [← hH] at ho1
      have HH := Lib.hid hH
      obtain ⟨nH, hnH⟩ : ∃ nH, nH = H.length := ⟨_, rfl⟩
      have hnb : nH ≤ 1000000 := by rw [hnH, hH]; exact Nat.le_trans (allB_len _ _) hfl
      have ho1' := own_len ho1 hnH.symm
      obtain ⟨a1, c1, rfl⟩ := own_slice ho1'
      have S1 := isStrs_of_row ho1' hnH.symm
      have RM1 := RMH.out.below hb1
      have r2 : w1.cell? ⟨w.heap.size, 2, none⟩ = some (.slice a fs.length c) := RM1.cell 2
      have F1 := Lib.hid (FW.out.below hb1)
      have B1 := Lib.hid (hb.out.trans (hb1.mono hb.out.size))
      have HNH := Lib.hid hnH
      have RM1H := Lib.hid RM1
      clear ho1 ho1' hb1 HAL FW RM1 hH hnH RMH hb
      go_wp2_with fail
      with_reducible refine (HOF.out w1 F1.out).mono ?_
      rintro e w2 ⟨k, n, e2, rfl, hke, hk00, hb2⟩
      have RM2 := RM1H.out.below hb2
      have r0 : w2.cell? ⟨w.heap.size, 0, none⟩ = some (.string mm) := RM2.cell 0
      have r1 : w2.cell? ⟨w.heap.size, 1, none⟩ = some (.string tt) := RM2.cell 1
      have r3 : w2.cell? ⟨w.heap.size, 3, none⟩ = some (.string bb) := RM2.cell 3
      have r4 : w2.cell? ⟨w.heap.size, 4, none⟩ = some (.int .i64 kk) := RM2.cell 4
      have S2 := Lib.hid (S1.below hb2)
      have B2 := Lib.hid (L0.out.trans ((B1.out.trans (hb2.mono B1.out.size)).mono L0.out.size))
      have HKE := Lib.hid hke
      clear RM2 RM1H hb2 S1 B1 HOF hke r2
      go_wp2_with fail
      with_reducible refine (HTK.out w2).mono ?_
      rintro e w' ⟨rfl, rfl⟩
      cases qm
      · go_wp2_with fail
        go_ret
        exact HNO.out _ B2.out
      · go_wp2_with fail
        with_reducible refine (HTG.out w2).mono ?_
        rintro e w' ⟨rfl, rfl⟩
        cases qt
        · go_wp2_with fail
          go_ret
          exact HNO.out _ B2.out
        · by_cases hn1 : nH = 1
          · subst hn1
            obtain h0 | ⟨bk, o, rfl, hbk, hcc, hcell⟩ := S2.out
            · exfalso; have := HNH.out; rw [h0] at this; simp at this
            have hl1 : 0 < H.length := by have := HNH.out; omega
            have cj : w2.cell? ⟨bk, o, none⟩ = some (.string H[0]) := hcell 0 H[0] (by simp [hl1])
            have hH1 : H = [H[0]] := by
              have h1 := HNH.out
              match H, h1 with
              | [x], _ => rfl
            obtain ⟨h0, hh0⟩ : ∃ h0, h0 = H[0] := ⟨_, rfl⟩
            rw [← hh0] at cj hH1
            have HH1 := Lib.hid hH1
            have hc1 : 1 ≤ c1 := by have := HNH.out; omega
            clear hcell hh0 hl1 hcc hbk hH1
            by_cases hne : 0 < h0.size
            · have e1 := emp_false h0 hne
              by_cases he2 : e2 = 0
              · subst he2
                by_cases hkk : k = kk
                · subst hkk
                  by_cases hk2 : k < 2
                  · have u2 : decide (k < 2) = true := decide_eq_true hk2
                    by_cases hn0 : n = (bb.size : Int)
                    · have YES : PlainIsL m t fs bb k := by
                        refine ⟨HALL.out, HM.out, HT.out, ⟨h0, by rw [← HH1.out, HH.out]; rfl, hne⟩, ?_⟩
                        by_cases hk0 : k = 0
                        · subst hk0
                          obtain ⟨_, q2, q3⟩ := HKE.out rfl rfl
                          exact .inl ⟨rfl, q2, by rw [q3] at hn0; omega⟩
                        · exact .inr (by omega)
                      have HYES := Lib.hid YES
                      subst hn0
                      clear YES
                      go_wp2_with fail
                      go_ret
                      exact ⟨_, rfl, fun _ => HYES.out, B2.out⟩
                    · have u3 : (n == (bb.size : Int)) = false := beq_eq_false_iff_ne.2 hn0
                      go_wp2_with fail
                      go_ret
                      exact HNO.out _ B2.out
                  · have u2 : decide (k < 2) = false := decide_eq_false hk2
                    go_wp2_with fail
                    go_ret
                    exact HNO.out _ B2.out
                · have u1 : (k == kk) = false := beq_eq_false_iff_ne.2 hkk
                  go_wp2_with fail
                  go_ret
                  exact HNO.out _ B2.out
              · have u1 : (e2 == 0) = false := beq_eq_false_iff_ne.2 he2
                go_wp2_with fail
                go_ret
                exact HNO.out _ B2.out
            · obtain rfl := empty_of h0 hne
              go_wp2_with fail
              go_ret
              exact HNO.out _ B2.out
          · have u1 : ((nH : Int) == 1) = false := beq_eq_false_iff_ne.2 (by omega)
            go_wp2_with fail
            go_ret
            exact HNO.out _ B2.out
end Go.Proofs.YtbbphklhnngjmaaGreatDoor

/- framing: a single Content-Length. -/
namespace Go.Proofs.YtbbphklhnngjmaaGreatDoor
open Go.RowKit

set_option maxHeartbeats 2000000 in
theorem differs170 (x : ByteArray) (g bk o n c : Nat) (hn : 1 ≤ n) (w : World) (hg : w.cell? ⟨g, 0, none⟩ = some (.slice (some ⟨bk, o, none⟩) n c)) (hx : w.cell? ⟨bk, o, none⟩ = some (.string x)) :
    Calls Tryz.prog 170 #[.string x, .pointer (some ⟨g, 0, none⟩)] w fun e w' => e = .returned (.bool false) ∧ w = w' := by
  have ex : (x.toList == x.toList) = true := by simp
  have hn1 : (0 : Int) < n := by omega
  go_enter Tryz.func170, Tryz.ntmps170
  go_wp2_with fail
  go_ret
  exact ⟨rfl, rfl⟩
/-- The function value. -/
def diffV (g : Nat) : Value := .func (.func 170) #[] #[.pointer (some ⟨g, 0, none⟩)]
set_option maxRecDepth 100000 in
set_option maxHeartbeats 2000000 in
theorem index125L (x : ByteArray) (g bk o c : Nat) (w : World) (hg : w.cell? ⟨g, 0, none⟩ = some (.slice (some ⟨bk, o, none⟩) 1 c)) (hx : w.cell? ⟨bk, o, none⟩ = some (.string x)) :
    Calls Tryz.prog 125 #[.slice (some ⟨bk, o, none⟩) 1 c, diffV g] w fun e w' => e = .returned (.int .i64 (-1)) ∧ w = w' := by
  have HD := Lib.hid (differs170 x g bk o 1 c (Nat.le_refl _) w hg hx)
  unfold diffV
  clear hg
  go_enter Tryz.func125, Tryz.ntmps125
  go_wp2_with fail
  go_loopw [8] (fun i wr => ∃ j : Nat, j ≤ 1 ∧ i = .int .i64 (j : Int) ∧ w = wr) (fun i _ => 1 - (intOf i).toNat)
  case atStart => exact ⟨0, Nat.zero_le _, rfl, rfl⟩
  case round =>
    obtain ⟨j, hj, rfl, rfl⟩ := hrel
    by_cases hlt : j = 0
    · subst hlt
      go_wp2_with fail
      with_reducible refine HD.out.mono ?_
      rintro e w2 ⟨rfl, rfl⟩
      go_wp2_with fail
      go_roundw
      case rel => exact ⟨1, Nat.le_refl _, by go_num, trivial⟩
      case measure => simp [intOf]
    · obtain rfl : j = 1 := by omega
      go_wp2_with fail
      go_ret
      exact ⟨rfl, rfl⟩
theorem contains171L (x : ByteArray) (g bk o c : Nat) (w : World) (hg : w.cell? ⟨g, 0, none⟩ = some (.slice (some ⟨bk, o, none⟩) 1 c)) (hx : w.cell? ⟨bk, o, none⟩ = some (.string x)) :
    Calls Tryz.prog 171 #[.slice (some ⟨bk, o, none⟩) 1 c, diffV g] w fun e w' => e = .returned (.bool false) ∧ w = w' := by
  have HI := Lib.hid (index125L x g bk o c w hg hx)
  generalize diffV g = V at *
  clear hg hx
  go_enter Tryz.func171, Tryz.ntmps171
  go_wp2_with fail
  with_reducible refine HI.out.mono ?_
  rintro e w2 ⟨rfl, rfl⟩
  go_wp2_with fail
  go_ret
  exact ⟨rfl, rfl⟩
set_option maxRecDepth 100000 in
set_option maxHeartbeats 2000000 in
/-- One length that is a number. -/
theorem length154L (x : ByteArray) (bk o c : Nat) (most n : Int) (w : World) (hbk : bk < w.heap.size) (hx : w.cell? ⟨bk, o, none⟩ = some (.string x)) (hS : Syn w)
    (hD : ∀ W, Syn W → Calls Tryz.prog 136 #[.string x, .int .i64 most] W fun e w' => e = .returned (.tuple #[.int .i64 n, .int .i64 0]) ∧ Below W.heap.size W w') :
    Calls Tryz.prog 154 #[.slice (some ⟨bk, o, none⟩) 1 c, .int .i64 most] w fun e w' => e = .returned (.tuple #[.int .i64 1, .int .i64 n, .int .i64 0]) ∧ Below w.heap.size w w' := by
  have L0 := below_alloc w (.cells #[.slice (some ⟨bk, o, none⟩) 1 c] 88)
  have c0 : (w.alloc (.cells #[.slice (some ⟨bk, o, none⟩) 1 c] 88)).cell? ⟨w.heap.size, 0, none⟩ = some (.slice (some ⟨bk, o, none⟩) 1 c) := by simp
  have x0 : (w.alloc (.cells #[.slice (some ⟨bk, o, none⟩) 1 c] 88)).cell? ⟨bk, o, none⟩ = some (.string x) := by rw [(bcell L0).1 _ _ hbk]; exact hx
  have S0 := Lib.hid (hS.below L0)
  have LL := Lib.hid L0
  have HD := Lib.hid hD
  clear hS hD hx L0
  go_enter Tryz.func154, Tryz.ntmps154
  go_upto_region 1 with fail
  obtain ⟨b0, hb0⟩ : ∃ b0, b0 = w.heap.size := ⟨_, rfl⟩
  rw [← hb0] at c0 ⊢
  generalize World.alloc w _ = w0 at *
  have HC := Lib.hid (contains171L x b0 bk o c w0 c0 x0)
  unfold diffV at HC
  clear hb0
  go_wp2_with fail
  with_reducible refine HC.out.mono ?_
  rintro e w1 ⟨rfl, rfl⟩
  go_wp2_with fail
  with_reducible refine (HD.out w0 S0.out).mono ?_
  rintro e w2 ⟨rfl, hb2⟩
  have L2 := Lib.hid (LL.out.trans (hb2.mono LL.out.size))
  clear hb2 LL HC HD S0
  go_wp2_with fail
  refine bodyPost_ret (v := .tuple #[.int .i64 1, .int .i64 n, .int .i64 0]) (by simp [results, Tryz.results154, go_sem]) rfl ⟨rfl, L2.out⟩
set_option maxRecDepth 100000 in
set_option maxHeartbeats 4000000 in
/-- No Transfer-Encoding, one Content-Length. -/
theorem frame76L (a : Option Addr) (c : Nat) (fs : List Fld) (most n : Int) (x : ByteArray) (hfl : fs.length ≤ 1000000) (hok : ∀ f ∈ fs, FldOk f) (hte : allB encN fs = []) (hcl : allB lenN fs = [x]) (w : World) (hS : Syn w) (hf : IsFlds w a c fs)
    (hD : ∀ W, Syn W → Calls Tryz.prog 136 #[.string x, .int .i64 most] W fun e w' => e = .returned (.tuple #[.int .i64 n, .int .i64 0]) ∧ Below W.heap.size W w') :
    Calls Tryz.prog 132 #[.slice a fs.length c, .int .i64 most] w fun x w' => x = .returned (.tuple #[.int .i64 1, .int .i64 n, .int .i64 0]) ∧ Below w.heap.size w w' := by
  have HA := Lib.hid (fun W h => all44 a c fs encN hfl hok W h)
  have HC := Lib.hid (fun W h => all44 a c fs lenN hfl hok W h)
  rw [hte] at HA
  rw [hcl] at HC
  unfold encN at HA
  unfold lenN at HC
  have HF := Lib.hid hf
  have HD := Lib.hid hD
  have HS := Lib.hid hS
  clear hf hte hcl hok hD hS
  go_enter Tryz.func132, Tryz.ntmps132
  go_wp2_with fail
  with_reducible refine (HA.out w HF.out).mono ?_
  rintro e w1 ⟨u1, rfl, ho1, hb1⟩
  obtain ⟨a1, c1, rfl⟩ := own_len0 ho1
  have F1 := Lib.hid (HF.out.below hb1)
  have S1 := Lib.hid (HS.out.below hb1)
  have B1 := Lib.hid hb1
  clear ho1 hb1 HA HF HS
  go_wp2_with fail
  with_reducible refine (HC.out w1 F1.out).mono ?_
  rintro e w2 ⟨u2, rfl, ho2, hb2⟩
  obtain ⟨a2, c2, rfl⟩ := own_slice ho2
  have hs := isStrs_of_row ho2 rfl
  obtain hs0 | ⟨bk, o, rfl, hbk, hcc, hcell⟩ := hs
  · cases hs0
  have cj : w2.cell? ⟨bk, o, none⟩ = some (.string x) := hcell 0 x rfl
  have S2 := Lib.hid (S1.out.below hb2)
  have B2 := Lib.hid (B1.out.trans (hb2.mono B1.out.size))
  have HL := Lib.hid (length154L x bk o c2 most n w2 hbk cj S2.out HD.out)
  clear ho2 hb2 HC F1 B1 S1 hcell hbk hcc cj HD S2
  go_wp2_with fail
  with_reducible refine HL.out.mono ?_
  rintro e w3 ⟨rfl, hb3⟩
  have B3 := Lib.hid (B2.out.trans (hb3.mono B2.out.size))
  clear hb3 HL B2
  go_wp2_with fail
  refine bodyPost_ret (v := .tuple #[.int .i64 1, .int .i64 n, .int .i64 0]) (by simp [results, Tryz.results132, go_sem]) rfl ⟨rfl, B3.out⟩
end Go.Proofs.YtbbphklhnngjmaaGreatDoor

/- request: a parser in memory with a body of a length: beginBody, feedFields. -/
namespace Go.Proofs.YtbbphklhnngjmaaGreatDoor
open Go.RowKit

/-- A parser's cells behind its head's, with a kind, a length and a body's row. -/
def paRL (m t : ByteArray) (fv : Value) (k n : Int) (bv : Value) (wt : Bool) (e : Int) : List Value := [.string m, .string t, fv, .string ⟨#[]⟩, .int .i64 k, .int .i64 n, bv, .pointer none, .bool wt, .int .i64 e]
theorem paRL_0 (m t : ByteArray) (fv : Value) (wt : Bool) (e : Int) : paRL m t fv 0 0 (.slice none 0 0) wt e = paR m t fv wt e := rfl
/-- What framing says of fields: kind k, length n; the limit is b. -/
def Frames (b : Int) (fs : List Fld) (k n : Int) : Prop := (k = 0 ∧ n = 0 ∧ allB encN fs = [] ∧ allB lenN fs = []) ∨ (k = 1 ∧ allB encN fs = [] ∧ ∃ x, allB lenN fs = [x] ∧ ∀ W, Syn W → Calls Tryz.prog 136 #[.string x, .int .i64 b] W fun e w' => e = .returned (.tuple #[.int .i64 n, .int .i64 0]) ∧ Below W.heap.size W w')
theorem frames76 (a : Option Addr) (c : Nat) (fs : List Fld) (b k n : Int) (hfl : fs.length ≤ 1000000) (hok : ∀ f ∈ fs, FldOk f) (hF : Frames b fs k n) (w : World) (hS : Syn w) (hf : IsFlds w a c fs) :
    Calls Tryz.prog 132 #[.slice a fs.length c, .int .i64 b] w fun x w' => x = .returned (.tuple #[.int .i64 k, .int .i64 n, .int .i64 0]) ∧ Below w.heap.size w w' := by
  rcases hF with ⟨rfl, rfl, h1, h2⟩ | ⟨rfl, h1, x, h2, h3⟩
  · exact frame76 a c fs b hfl hok h1 h2 w hf
  · exact frame76L a c fs b n x hfl hok h1 h2 w hS hf h3
theorem he_b {M : HdL} {b : Int} {σ : HdS} {L H C B st : Int} {f : ByteArray} {fs : List Fld} {sz : Nat} {cur : List UInt8} {cr : Bool} {e : Int} (h : HeRep M b σ L H C B st f fs sz cur cr e) (hne : ∀ e, σ ≠ .err e) : B = b := (he_lim h hne).2.2.2
theorem frames_kind {b : Int} {fs : List Fld} {k n : Int} (h : Frames b fs k n) : k = 0 ∨ k = 1 := by
  rcases h with ⟨rfl, _⟩ | ⟨rfl, _⟩
  · exact .inl rfl
  · exact .inr rfl
set_option maxRecDepth 100000 in
set_option maxHeartbeats 4000000 in
theorem begin67L (G : Nat → Prop) (g : Nat) (M : HdL) (b : Int) (σ : HdS) (hne : ∀ e, σ ≠ .err e) (m t : ByteArray) (wt : Bool) (a : Option Addr) (c : Nat) (fs : List Fld) (h0 : ByteArray) (hfl : fs.length ≤ 1000000) (hok : ∀ f ∈ fs, FldOk f) (hh : allB hostN fs = [h0]) (hh0 : 0 < h0.size) (k n : Int) (hF : Frames b fs k n)
    (w : World) (hS : Syn w) (h : HeS G 108 (paR m t (.slice none 0 0) wt 0) w g M b σ) (hf : IsFlds w a c fs) (hg : ∀ ad, a = some ad → ¬ ad.block = g) :
    Calls Tryz.prog 115 #[.pointer (some ⟨g, 0, none⟩), .slice a fs.length c] w fun x w' => x = .returned (.int .i64 0) ∧ HeS G 108 (paRL m t (.slice a fs.length c) k n (.slice none 0 0) wt 0) w' g M b σ ∧ IsFlds w' a c fs ∧ Keep (fun j => j = g) w w' := by
  have HA := Lib.hid (all44 a c fs hostN hfl hok w hf)
  rw [hh] at HA
  unfold hostN at HA
  have HFR := Lib.hid (fun W hS h => frames76 a c fs b k n hfl hok hF W hS h)
  have HF := Lib.hid hf
  have HD := Lib.hid h
  have HS := Lib.hid hS
  have HGN := Lib.hid hg
  have HNE := Lib.hid hne
  have e1 := emp_false h0 hh0
  have hk2 : (k == 2) = false := by rcases frames_kind hF with rfl | rfl <;> rfl
  clear hf h hh hh0 hF hok hS hg hne
  go_enter Tryz.func115, Tryz.ntmps115
  go_wp2_with fail
  with_reducible refine HA.out.mono ?_
  rintro e w1 ⟨u1, rfl, ho1, hb1⟩
  obtain ⟨a1, c1, rfl⟩ := own_slice ho1
  have hs := isStrs_of_row ho1 rfl
  obtain hs0 | ⟨bk, o, rfl, hbk, hcc, hcell⟩ := hs
  · cases hs0
  have cj : w1.cell? ⟨bk, o, none⟩ = some (.string h0) := hcell 0 h0 rfl
  have F1 := Lib.hid (HF.out.below hb1)
  have D1 := Lib.hid (HD.out.below hb1)
  have S1 := Lib.hid (HS.out.below hb1)
  have B1 := Lib.hid hb1
  have hcc2 : 1 ≤ c1 := by simpa using hcc
  clear ho1 hb1 HA HF hcell hbk hcc HD HS
  obtain ⟨L, H, C, b', st, f, fs', sz, cur, cr, e', hr, rv, ln, hd⟩ := D1.out
  obtain rfl := he_b hr HNE.out
  have c3 := hd.c.2.2.2.1
  clear hd hr
  go_wp2_with fail
  with_reducible refine (HFR.out w1 S1.out F1.out).mono ?_
  rintro e w2 ⟨rfl, hb2⟩
  have D2 := Lib.hid (D1.out.below hb2)
  have F2 := Lib.hid (F1.out.below hb2)
  have B2 := Lib.hid (B1.out.trans (hb2.mono B1.out.size))
  have f13 := D2.out.free 13
  have f15 := D2.out.free 15
  have f16 := D2.out.free 16
  have k13 := D2.out.cellR 2
  have k15 := D2.out.cellR 4
  have k16 := D2.out.cellR 5
  simp only [paR, List.getElem?_cons_zero, List.getElem?_cons_succ, Nat.reduceAdd] at k13 k15 k16
  have HR : Hid (HeS G 108 (paRL m t (.slice a fs.length c) k n (.slice none 0 0) wt 0) (((w2.setCell ⟨g, 13, none⟩ (.slice a fs.length c)).setCell ⟨g, 15, none⟩ (.int .i64 k)).setCell ⟨g, 16, none⟩ (.int .i64 n)) g M b' σ) :=
    ((D2.out.setR 2 (.slice a fs.length c)).setR 4 (.int .i64 k)).setR 5 (.int .i64 n)
  have K : ∀ (v : World) (i : Nat) (u : Value), Keep (fun j => j = g) v (v.setCell ⟨g, i, none⟩ u) := fun v i u => Keep.setCell (G := fun j => j = g) v (p := ⟨g, i, none⟩) rfl u
  have hk3 := (((K w2 13 (.slice a fs.length c)).trans (K _ 15 (.int .i64 k))).trans (K _ 16 (.int .i64 n)))
  have HK : Hid (Keep (fun j => j = g) w (((w2.setCell ⟨g, 13, none⟩ (.slice a fs.length c)).setCell ⟨g, 15, none⟩ (.int .i64 k)).setCell ⟨g, 16, none⟩ (.int .i64 n))) := (Keep.of_below B2.out).trans hk3
  have HF3 := Lib.hid (isFlds_keepR F2.out hk3 HGN.out)
  clear hb2 B1 F1 D1 c3 K cj e1 D2 B2 HFR F2 hk3 S1
  go_wp2_with fail
  go_ret
  exact ⟨rfl, HR.out, HF3.out, HK.out⟩
end Go.Proofs.YtbbphklhnngjmaaGreatDoor

/- request: a parser in memory with a body of a length: feedFields, complete, feedBody. -/
namespace Go.Proofs.YtbbphklhnngjmaaGreatDoor
open Go.RowKit

set_option maxRecDepth 100000 in
set_option maxHeartbeats 2000000 in
/-- Head's Fields, and where they lie. -/
theorem hfields15b (G : Nat → Prop) (T : TypeId) (rest : List Value) (g : Nat) (M : HdL) (b : Int) (σ : HdS) (hl : σ.fldsOf.length ≤ 1000000000) (w : World) (h : HeS G T rest w g M b σ) :
    Calls Tryz.prog 69 #[.pointer (some ⟨g, 0, none⟩)] w fun x w' => ∃ a c, x = .returned (.slice a σ.fldsOf.length c) ∧ (∀ ad, a = some ad → w.heap.size ≤ ad.block ∧ ad.block < w'.heap.size) ∧ IsFlds w' a c σ.fldsOf ∧ Below w.heap.size w w' := by
  obtain ⟨L, H, C, b', st, f, fs, sz, cur, cr, e, hr, rv, ln, hd⟩ := h
  have he := he_flds hr
  rw [← he] at hl ⊢
  have c6 := hd.c.2.2.2.2.2.2.1
  obtain ⟨a0, c0, hv, hf⟩ := own_isFlds hd.ro
  have hro := hd.ro
  subst hv
  have HX := Lib.hid (clone77 a0 c0 fs hl (fun ha => ⟨(own_nilF hro ha).1, List.eq_nil_of_length_eq_zero (own_nilF hro ha).2⟩) w hf)
  clear hd hr he hf hro
  go_enter Tryz.func69, Tryz.ntmps69
  go_wp2_with fail
  with_reducible refine HX.out.mono ?_
  rintro e9 w1 ⟨v, rfl, ho, hb⟩
  have hlt := ho.lt
  obtain ⟨a1, c1, rfl, hf1⟩ := own_isFlds ho
  have HLT : Hid (∀ ad, a1 = some ad → w.heap.size ≤ ad.block ∧ ad.block < w1.heap.size) := fun ad had => by subst had; exact hlt ad.block rfl
  have HF := Lib.hid hf1
  have HB := Lib.hid hb
  clear ho hf1 hb HX c6 hlt
  go_wp2_with fail
  go_ret
  exact ⟨a1, c1, rfl, HLT.out, HF.out, HB.out⟩
/-- What feedFields leaves where the head has come whole. -/
def FldsTo (G : Nat → Prop) (g : Nat) (M : HdL) (b : Int) (m t : ByteArray) (k n : Int) (fl : List UInt8) (fs : List Fld) (wt : Bool) (w w' : World) : Prop :=
  ∃ a c G', (∀ j, G' j → G j) ∧ Up G' w' ∧ (∀ ad, a = some ad → ¬ G' ad.block) ∧ HeS G' 108 (paRL m t (.slice a fs.length c) k n (.slice none 0 0) wt 0) w' g M b (.done fl fs) ∧ IsFlds w' a c fs ∧ Keep G w w'
set_option maxRecDepth 100000 in
set_option maxHeartbeats 4000000 in
theorem fflds57L (G : Nat → Prop) (g : Nat) (M : HdL) (b : Int) (σ : HdS) (m t : ByteArray) (wt : Bool) (l : List UInt8) (hbd : σ.wt + 4 * l.length ≤ 1000000000) (fl : List UInt8) (fs : List Fld) (h1 : hRun M σ l = .done fl fs) (h0 : ByteArray) (hfl : fs.length ≤ 1000000) (hok : ∀ f ∈ fs, FldOk f) (hh : allB hostN fs = [h0]) (hh0 : 0 < h0.size) (k n : Int) (hF : Frames b fs k n)
    (w : World) (h : HeS G 108 (paR m t (.slice none 0 0) wt 0) w g M b σ) (hu : Up G w) (hM : ∀ w', Keep G w w' → MaxL w') (hY : ∀ w', Keep G w w' → Syn w') :
    Calls Tryz.prog 93 #[.pointer (some ⟨g, 0, none⟩), .string (bs l)] w fun x w' => x = .returned (.tuple #[.string (bs (hLeft M σ l)), .int .i64 0]) ∧ FldsTo G g M b m t k n fl fs wt w w' := by
  have HF := Lib.hid (hfeed10 G 108 (paR m t (.slice none 0 0) wt 0) g M b σ l hbd w h hu hM)
  unfold HFeedTo at HF
  rw [h1, show (HdS.done fl fs).errOf = 0 from rfl, if_pos rfl] at HF
  obtain ⟨z, hz⟩ : ∃ z, z = bs (hLeft M σ l) := ⟨_, rfl⟩
  obtain ⟨s, hs⟩ : ∃ s, s = bs l := ⟨_, rfl⟩
  rw [← hz, ← hs] at HF
  rw [← hz, ← hs]
  have HD := Lib.hid (fun W hw => hdoneS G 108 (paR m t (.slice none 0 0) wt 0) g M b (.done fl fs) W hw)
  rw [show (HdS.done fl fs).fin = true from rfl] at HD
  have HFL := Lib.hid (fun W hw => hfields15b G 108 (paR m t (.slice none 0 0) wt 0) g M b (.done fl fs) (by show fs.length ≤ _; omega) W hw)
  rw [show (HdS.done fl fs).fldsOf = fs from rfl] at HFL
  have HBG := Lib.hid (fun G' W a c hS hw hf hg => begin67L G' g M b (.done fl fs) (fun e he => by cases he) m t wt a c fs h0 hfl hok hh hh0 k n hF W hS hw hf hg)
  have HU := Lib.hid hu
  have HY := Lib.hid hY
  clear h hu hM hbd h1 hz hs hok hh hh0 hF hY
  go_enter Tryz.func93, Tryz.ntmps93
  go_wp2_with fail
  with_reducible refine HF.out.mono ?_
  rintro e w1 ⟨rfl, hd1, hk1⟩
  have D1 := Lib.hid hd1
  have K1 := Lib.hid hk1
  clear hd1 hk1 HF
  go_wp2_with fail
  with_reducible refine (HD.out w1 D1.out).mono ?_
  rintro e w' ⟨rfl, rfl⟩
  go_wp2_with fail
  with_reducible refine (HFL.out w1 D1.out).mono ?_
  rintro e w2 ⟨a, c, rfl, hlt, hf2, hb2⟩
  have D2 : Hid (HeS (fun j => (G j ∧ j < w1.heap.size) ∨ w2.heap.size ≤ j) 108 (paR m t (.slice none 0 0) wt 0) w2 g M b (.done fl fs)) := (D1.out.less.below hb2).more (fun j _ hj => .inl hj)
  have K2 := Lib.hid (K1.out.trans (.of_below hb2))
  have F2 := Lib.hid hf2
  have S2 := Lib.hid (HY.out w2 K2.out)
  have hgl := D1.out.lt
  have HLT := Lib.hid hlt
  have HAG : Hid (∀ ad, a = some ad → ¬ ad.block = g) := fun ad had => by have := (hlt ad had).1; omega
  have HGG := Lib.hid D1.out.gG
  have HSZ := Lib.hid hb2.size
  clear hf2 hb2 D1 K1 HFL HD hlt hgl HY
  go_wp2_with fail
  with_reducible refine (HBG.out _ w2 a c S2.out D2.out F2.out HAG.out).mono ?_
  rintro e w3 ⟨rfl, hd3, hf3, hk3⟩
  have FX : Hid (FldsTo G g M b m t k n fl fs wt w w3) := by
    refine ⟨a, c, _, ?_, ?_, ?_, hd3, hf3, K2.out.trans (hk3.more (fun j _ hj => by rw [hj]; exact HGG.out))⟩
    · rintro j (⟨hj, _⟩ | hj)
      · exact hj
      · exact HU.out j (by have := K2.out.size; omega)
    · exact fun j hj => .inr (Nat.le_trans hk3.size hj)
    · rintro ad had (⟨_, hj⟩ | hj)
      · have := (HLT.out ad had).1; omega
      · have := (HLT.out ad had).2; omega
  clear hd3 hf3 hk3 D2 K2 F2 HBG S2 HLT HAG HGG HSZ HU
  go_wp2_with fail
  go_ret2
  exact ⟨rfl, FX.out⟩
set_option maxHeartbeats 2000000 in
theorem complete38L (G : Nat → Prop) (g : Nat) (M : HdL) (b : Int) (σ : HdS) (m t : ByteArray) (fv : Value) (k n : Int) (ba : Option Addr) (j bc : Nat) (wt : Bool) (e : Int) (hσ : σ.fin = true) (q : Bool) (hq : q = ((j : Int) == n)) (w : World) (h : HeS G 108 (paRL m t fv k n (.slice ba j bc) wt e) w g M b σ) :
    Calls Tryz.prog 59 #[.pointer (some ⟨g, 0, none⟩)] w fun x w' => x = .returned (.bool q) ∧ ∃ n, w' = w.drewN n := by
  have c18 := h.cellR 7
  have c17 := h.cellR 6
  have c16 := h.cellR 5
  simp only [paRL, List.getElem?_cons_zero, List.getElem?_cons_succ, Nat.reduceAdd] at c18 c17 c16
  have DN : ∀ k, Below w.heap.size w (w.drewN k) := fun k => ⟨rfl, rfl, rfl, Nat.le_refl _, fun _ _ => rfl⟩
  have HX := Lib.hid (fun i => hdoneS G 108 (paRL m t fv k n (.slice ba j bc) wt e) g M b σ (w.drewN i) (h.below (DN i)))
  rw [hσ] at HX
  clear h DN hσ
  go_enter Tryz.func59, Tryz.ntmps59
  go_wp2_with fail
  cases q
  · have hq2 := hq.symm
    clear hq
    go_quiet ((go_at_call 92; exact Calls.quiet_of_same (calls_flip (HX.out _))))
    go_wp2_with fail
    go_ret
    exact ⟨rfl, _, rfl⟩
  · have hq2 := hq.symm
    clear hq
    go_quiet ((go_at_call 92; exact Calls.quiet_of_same (calls_flip (HX.out _))))
    go_wp2_with fail
    go_ret
    exact ⟨rfl, _, rfl⟩
end Go.Proofs.YtbbphklhnngjmaaGreatDoor

/- request: a parser in memory with a body of a length: feedBody, finish. -/
namespace Go.Proofs.YtbbphklhnngjmaaGreatDoor
open Go.RowKit

/-- Bytes behind bytes: where the new row lies. -/
theorem run_app_strP {P : Program} (w : World) (t u ty e : TypeId) (i : TypeInfo) (ht : P.underlying t = some (.slice e)) (hu : P.underlying u = some .string) (hi : P.info? e = some i) (hz : i.zero = some (.int .u8 0))
    (hsize : i.size = 1) (hby : i.bytes = 1) (v : Value) (n : Nat) (xs : List Value) (hown : w.ownsRow 0 e 1 v n xs) (s : ByteArray) (h63 : n + s.size ≤ maxLen) (hbytes : n + s.size ≤ 140737488355328) :
    ∃ v' w', (Builtin.append_ #[t, u] ty #[v, .string s]).run P w = .ok v' w' ∧ w'.ownsRow 0 e 1 v' (n + s.size) (xs ++ Lib.strCells s) ∧ w.grownBy w' v.ownBlock ∧ (v'.ownBlock = v.ownBlock ∨ v'.ownBlock = some w.heap.size) := by
  have hsmall : n + s.size ≤ 9223372036854775807 := by simp only [maxLen] at h63; omega
  obtain ⟨v', w', hr, h2, h3, h4⟩ := Lib.run_append_own_string (P := P) w 0 t u ty e i ht hu hi hz hsize hby v n xs hown s h63 hbytes (Nat.zero_le _)
  refine ⟨v', w', hr, h2, h3, ?_⟩
  rcases hown.2 with ⟨rfl, rfl⟩ | ⟨g, cap, cur, rfl, hbg, hg, hnc, hcm, hcs, htake⟩
  · by_cases hm : s.size = 0
    · left
      rw [h4.2 ⟨rfl, hm⟩]
    · have hr2 := run_append_nil_string (P := P) w t u ty e i (.int .u8 0) ht hu hi hz s (by omega) (by omega) (by rw [hby]; omega)
      rw [hr] at hr2
      injection hr2 with e1 e2
      subst e1
      exact .inr rfl
  · by_cases hroom : n + s.size ≤ cap
    · have hcs' : cur.size = cap := by simpa using hcs
      have hr2 := Lib.run_append_room_string (P := P) w t u ty e i ht hu hi hsize g n cap cur hg s hroom (by omega)
      rw [hr] at hr2
      injection hr2 with e1 e2
      subst e1
      exact .inl rfl
    · have hxl : xs.length = n := by simpa using hown.1
      have holds : ∀ j u, xs[j]? = some u → w.cell? ((⟨g, 0, none⟩ : Addr).add j) = some u := hown.cells (g := g) rfl
      have hr2 := Lib.run_append_grow_string (P := P) w t u ty e i (.int .u8 0) ht hu hi hz ⟨g, 0, none⟩ n cap xs (by rw [hsize]; simpa using hxl) holds s (by omega) (by omega) (by rw [hby]; exact growslice_fits (by omega) (by omega))
      rw [hr] at hr2
      injection hr2 with e1 e2
      subst e1
      exact .inr rfl
theorem wp_app_strP {P : Program} {w : World} {o : Oper} {a : Act} {K : Act → World → Prop} {Q : Exit → Act → World → Prop} (sl x : Operand) (t u : TypeId)
    (ho : o.op = .call { callee := .builtin .append, args := #[sl, x], argTypes := #[t, u] })
    (e : TypeId) (i : TypeInfo) (ht : P.underlying t = some (.slice e)) (hu : P.underlying u = some .string) (hi : P.info? e = some i) (hz : i.zero = some (.int .u8 0))
    (hsize : i.size = 1) (hby : i.bytes = 1) (v : Value) (n : Nat) (xs : List Value) (hs : a.eval sl = v) (hown : w.ownsRow 0 e 1 v n xs) (s : ByteArray) (hx : a.eval x = .string s)
    (h63 : n + s.size ≤ maxLen) (hbytes : n + s.size ≤ 140737488355328)
    (h : ∀ v' w', w'.ownsRow 0 e 1 v' (n + s.size) (xs ++ Lib.strCells s) → w.grownBy w' v.ownBlock → (v'.ownBlock = v.ownBlock ∨ v'.ownBlock = some w.heap.size) → K (a.put o.dst v') w') : o.wp P a w K Q := by
  obtain ⟨v', w', hr, h2, h3, h4⟩ := run_app_strP (P := P) w t u o.type e i ht hu hi hz hsize hby v n xs hown s h63 hbytes
  unfold Oper.wp execOp
  simp only [ho, resolve, invoke, builtin, Sem.run_bind, Sem.run_pure, Result.andThen_ok, List.map_toArray, List.map_cons, List.map_nil, hs, hx, hr]
  exact h v' w' h2 h3 h4
theorem strCells_bytesP (s : ByteArray) : Lib.strCells s = byteVals s.data.toList := rfl
theorem ext_all (s : ByteArray) : s.extract 0 s.size = s := by
  have h := ext_bs0 s.data.toList s.size
  rw [bs_of] at h
  rw [h, List.take_of_length_le (by rw [← Lib.size_eq]; exact Nat.le_refl _), bs_of]
theorem ext_none (s : ByteArray) : s.extract s.size s.size = ⟨#[]⟩ := by
  have h := ext_bs1 s.data.toList s.size
  rw [bs_of] at h
  rw [h, List.drop_of_length_le (by rw [← Lib.size_eq]; exact Nat.le_refl _)]
  rfl
theorem below_grown_none {w w' : World} (h : w.grownBy w' none) : Below w.heap.size w w' := ⟨h.os, h.tape, h.output, h.size, fun k hk => h.block k hk (fun e => by cases e)⟩
theorem own_rebase {w : World} {e : TypeId} {n m B : Nat} {v : Value} {xs : List Value} (h : w.ownsRow 0 e n v m xs) (hb : ∀ k, v.ownBlock = some k → B ≤ k) : w.ownsRow B e n v m xs := by
  obtain ⟨hl, h0 | ⟨g, cap, cur, rfl, _, r⟩⟩ := h
  · exact ⟨hl, .inl h0⟩
  · exact ⟨hl, .inr ⟨g, cap, cur, rfl, hb g rfl, r⟩⟩
/-- Behind the body's bytes. -/
def BodyTo (G : Nat → Prop) (g : Nat) (M : HdL) (b : Int) (σ : HdS) (m t : ByteArray) (fv : Value) (k : Int) (l : List UInt8) (wt : Bool) (w w' : World) : Prop :=
  ∃ ba bc, HeS G 108 (paRL m t fv k (l.length : Int) (.slice ba l.length bc) wt 0) w' g M b σ ∧ w'.ownsRow w.heap.size 5 1 (.slice ba l.length bc) l.length (byteVals l) ∧ Keep (fun j => j = g) w w'
set_option maxRecDepth 100000 in
set_option maxHeartbeats 4000000 in
theorem fbody94L (G : Nat → Prop) (g : Nat) (M : HdL) (b : Int) (σ : HdS) (m t : ByteArray) (fv : Value) (k : Int) (l : List UInt8) (hll : l.length ≤ 1000000000) (wt : Bool) (w : World) (h : HeS G 108 (paRL m t fv k (l.length : Int) (.slice none 0 0) wt 0) w g M b σ) :
    Calls Tryz.prog 94 #[.pointer (some ⟨g, 0, none⟩), .string (bs l)] w fun x w' => x = .returned (.tuple #[.string ⟨#[]⟩, .int .i64 0]) ∧ BodyTo G g M b σ m t fv k l wt w w' := by
  obtain ⟨i0, hi, hz0, hz1, hz2⟩ := info_parts infoU8
  have c18 := h.cellR 7
  have c17 := h.cellR 6
  have c16 := h.cellR 5
  have f17 := h.free 17
  simp only [paRL, List.getElem?_cons_zero, List.getElem?_cons_succ, Nat.reduceAdd] at c18 c17 c16
  have hlt := h.lt
  have HD := Lib.hid h
  have HGL := Lib.hid hlt
  obtain ⟨s, hs⟩ : ∃ s, s = bs l := ⟨_, rfl⟩
  have hsz : s.size = l.length := by rw [hs, bs_size]
  obtain ⟨n, hn⟩ : ∃ n, n = s.size := ⟨_, rfl⟩
  have hnl : l.length = n := by rw [hn, hsz]
  have HL := Lib.hid hnl
  have HSS := Lib.hid hs
  have HN := Lib.hid hn
  rw [hnl] at c16
  have hn0 : (n : Int) ≤ s.size := by omega
  have hn9 : n ≤ 1000000000 := by omega
  have hmin : min (n : Int) (n : Int) = (n : Int) := by omega
  have hwr : IntKind.i64.wrap (n : Int) = (n : Int) := IntWalk.i64_in _ (by omega)
  have e0 : s.extract 0 n = s := by rw [hn]; exact ext_all s
  have e9 : s.extract n s.size = ⟨#[]⟩ := by rw [hn]; exact ext_none s
  have ez : (s.size : Int) = (n : Int) := by omega
  have E9 := Lib.hid e9
  have HI := Lib.hid hi
  have HZ0 := Lib.hid hz0
  have HZ1 := Lib.hid hz1
  have HZ2 := Lib.hid hz2
  clear h hi hz0 hz1 hz2
  rw [← hs]
  clear hs hn hsz hnl hll
  have DN : ∀ k, Below w.heap.size w (w.drewN k) := fun k => ⟨rfl, rfl, rfl, Nat.le_refl _, fun _ _ => rfl⟩
  go_enter Tryz.func94, Tryz.ntmps94
  go_upto_region 3 with fail
  refine region_mixt 13 [some (.pointer (some ⟨g, 0, none⟩)), some (.pointer (some ⟨g, 0, none⟩)), some (.pointer (some ⟨g, 16, none⟩)), some (.int .i64 (n : Int)), some (.pointer (some ⟨g, 0, none⟩)), some (.pointer (some ⟨g, 0, none⟩)), some (.pointer (some ⟨g, 17, none⟩)), some (.slice none 0 0), some (.int .i64 0), some (.int .i64 (n : Int)), some (.string s), some (.int .i64 (n : Int)), some (.int .i64 (n : Int))]
    [[false, false, false, false, false, false, false, false, false, false, false, false, false], [true, false, false, false, false, false, false, false, false, false, false, false, false], [false, true, false, false, false, false, false, false, false, false, false, false, false], [false, false, true, false, false, false, false, false, false, false, false, false, false], [false, false, false, false, false, false, false, false, false, false, false, false, false], [false, false, false, false, true, false, false, false, false, false, false, false, false], [false, false, false, false, false, true, false, false, false, false, false, false, false], [false, false, false, false, false, false, true, false, false, false, false, false, false], [false, false, false, false, false, false, false, true, false, false, false, false, false], [false, false, false, true, false, false, false, false, true, false, false, false, false], [false, false, false, false, false, false, false, false, false, false, false, false, false], [false, false, false, false, false, false, false, false, false, false, true, false, false], [false, false, false, false, false, false, false, false, false, true, false, true, false]]
    (fun L x w9 => Below w.heap.size w w9)
    (by kernel_rfl) (by kernel_rfl) (by kernel_rfl) (by kernel_rfl) (by kernel_rfl) (by decide) ?_ ?_ ?_
  · intro _
    exact ⟨rfl, rfl, rfl, Nat.le_refl _, fun _ _ => rfl⟩
  · simp only [List.take_succ_cons, List.take_zero]
    refine ⟨?_, ?_, ?_, ?_, ?_, ?_, ?_, ?_, ?_, ?_, ?_, ?_, ?_, trivial⟩
    all_goals
      intro L x w9 hS hl hp K9 hK9
      have hs : Below w.heap.size w w9 := hS
      have q18 : w9.cell? ⟨g, 18, none⟩ = some (.pointer none) := by rw [(bcell hs).1 _ _ hlt]; exact c18
      have q17 : w9.cell? ⟨g, 17, none⟩ = some (.slice none 0 0) := by rw [(bcell hs).1 _ _ hlt]; exact c17
      have q16 : w9.cell? ⟨g, 16, none⟩ = some (.int .i64 (n : Int)) := by rw [(bcell hs).1 _ _ hlt]; exact c16
      clear hS hp hl
      replace hK9 := hK9.out
      simp only [actMix, pickV, List.tail_cons, List.headD_cons, Act.put, List.setIfInBounds_toArray, List.set_cons_zero, List.set_cons_succ] at hK9 ⊢
    all_goals
      go_simp
      with_reducible refine hK9 _ ?_
      exact hs
  intro L x w3 hS hL
  have hb3 : Below w.heap.size w w3 := hS
  clear hS hL
  simp only [actMix, pickV, List.tail_cons, List.headD_cons, Act.put, List.setIfInBounds_toArray, List.set_cons_zero, List.set_cons_succ, List.replicate_succ, List.replicate_zero, List.drop_succ_cons, List.drop_zero, List.take_succ_cons, List.take_zero]
  have D3 := Lib.hid (HD.out.below hb3)
  have B3 := Lib.hid hb3
  have hlt3 := D3.out.lt
  have d17 : w3.cell? ⟨g, 17, none⟩ = some (.slice none 0 0) := by rw [(bcell hb3).1 _ _ hlt]; exact c17
  clear hb3 c18 c17 c16 f17 hlt HD
  go_upto_region 4 with fail
  refine region_mixt 9 [some (.pointer (some ⟨g, 0, none⟩)), some (.pointer (some ⟨g, 0, none⟩)), some (.pointer (some ⟨g, 0, none⟩)), some (.pointer (some ⟨g, 17, none⟩)), some (.slice none 0 0), some (.string s), some (.int .i64 (n : Int)), some (.string s), none]
    [[false, false, false, false, false, false, false, false, false], [false, false, false, false, false, false, false, false, false], [false, true, false, false, false, false, false, false, false], [false, false, true, false, false, false, false, false, false], [false, false, false, true, false, false, false, false, false], [false, false, false, false, false, false, false, false, false], [false, false, false, false, false, false, false, false, false], [false, false, false, false, false, true, true, false, false], [false, false, false, false, true, false, false, true, false]]
    (fun L x w9 => Below w3.heap.size w3 w9 ∧ (L 8 = true → w9.ownsRow w.heap.size 5 1 (x 8) n (byteVals l)))
    (by kernel_rfl) (by kernel_rfl) (by kernel_rfl) (by kernel_rfl) (by kernel_rfl) (by decide) ?_ ?_ ?_
  · intro _
    exact ⟨⟨rfl, rfl, rfl, Nat.le_refl _, fun _ _ => rfl⟩, (fun h => nomatch h)⟩
  · simp only [List.take_succ_cons, List.take_zero]
    refine ⟨?_, ?_, ?_, ?_, ?_, ?_, ?_, ?_, ?_, trivial⟩
    all_goals
      intro L x w9 hS hl hp K9 hK9
      have hs : Below w3.heap.size w3 w9 := hS.1
      have h8 := hS.2
      have q17 : w9.cell? ⟨g, 17, none⟩ = some (.slice none 0 0) := by rw [(bcell hs).1 _ _ hlt3]; exact d17
      clear hS hp
      replace hK9 := hK9.out
      simp only [actMix, pickV, List.tail_cons, List.headD_cons, Act.put, List.setIfInBounds_toArray, List.set_cons_zero, List.set_cons_succ] at hK9 ⊢
    iterate 8
      · clear hl
        have H8 := Lib.hid h8
        clear h8
        go_simp
        with_reducible refine hK9 _ ?_
        exact ⟨hs, H8.out⟩
    · rw [if_pos (by rfl)]
      have HO : w9.ownsRow 0 5 1 (.slice none 0 0) 0 [] := World.ownsRow_nil w9 0 _ 1
      refine wp_app_strP (Operand.tmp 37) (Operand.tmp 40) 101 9 rfl 5 i0 Tryz.underlying101 Tryz.underlying9 HI.out HZ0.out HZ1.out HZ2.out (.slice none 0 0) 0 [] rfl HO s rfl (by unfold maxLen; omega) (by omega) ?_
      intro v' w' ho hg ha
      have hb := below_grown_none hg
      refine hK9 _ _ ⟨hs.trans (hb.mono hs.size), fun _ => ?_⟩
      have e1 : w'.ownsRow w.heap.size 5 1 v' n (byteVals l) := by
        refine own_rebase ?_ (fun k hk => ?_)
        · rw [← HN.out, Nat.zero_add, List.nil_append, strCells_bytesP, HSS.out, bs_list] at ho
          exact ho
        · rcases ha with ha | ha
          · rw [ha] at hk; cases hk
          · rw [ha] at hk
            injection hk with hk
            have := B3.out.size
            have := hs.size
            omega
      simpa [updV] using e1
  intro L x w9 hS hL
  have hb9 : Below w3.heap.size w3 w9 := hS.1
  have ho9 := hS.2 (hL 8 (by decide))
  clear hS hL
  generalize hx8 : x 8 = v at *
  simp only [actMix, pickV, List.tail_cons, List.headD_cons, Act.put, List.setIfInBounds_toArray, List.set_cons_zero, List.set_cons_succ, List.replicate_succ, List.replicate_zero, List.drop_succ_cons, List.drop_zero, List.take_succ_cons, List.take_zero]
  obtain ⟨va, vc, rfl⟩ := own_slice ho9
  have D9 := D3.out.below hb9
  have B9 := B3.out.trans (hb9.mono B3.out.size)
  have f17 := D9.free 17
  have q17 : w9.cell? ⟨g, 17, none⟩ = some (.slice none 0 0) := by rw [(bcell hb9).1 _ _ hlt3]; exact d17
  have hgl : g < w.heap.size := HGL.out
  have KS : Keep (fun j => j = g) w9 (w9.setCell ⟨g, 17, none⟩ (.slice va n vc)) := Keep.setCell (G := fun j => j = g) w9 (p := ⟨g, 17, none⟩) rfl _
  have FX : Hid (BodyTo G g M b σ m t fv k l wt w (w9.setCell ⟨g, 17, none⟩ (.slice va n vc))) := by
    refine ⟨va, vc, ?_, ?_, (Keep.of_below B9).trans KS⟩
    · rw [HL.out]
      exact (by rw [HL.out] at D9; exact D9.setR 6 (.slice va n vc))
    · rw [HL.out]
      exact own_keepB ho9 KS (fun k hk => by have := (ho9.lt k hk).1; omega)
  clear D9 B9 KS ho9 hb9 D3 B3 d17 hlt3 HGL
  go_wp2_with fail
  go_ret2
  exact ⟨rfl, FX.out⟩
end Go.Proofs.YtbbphklhnngjmaaGreatDoor

