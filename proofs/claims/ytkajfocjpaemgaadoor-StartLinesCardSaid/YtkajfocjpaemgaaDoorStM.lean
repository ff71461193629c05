/- start: what its functions return, in lists of bytes; the program's way of dividing a line and the reference's are one. -/
import Derived.Test.YtkajfocjpaemgaaDoorFldB
import Derived.Test.YtkajfocjpaemgaaDoorNumP
namespace Go.Proofs.YtkajfocjpaemgaaDoor
open Go.RowKit

theorem str_cmp (a b : List UInt8) (q : Bool) (h : decide (a = b) = q) : ((bs a).toList == (bs b).toList) = q := by
  rw [ByteArray.toList_eq, ByteArray.toList_eq, bs_list, bs_list, ← h]
  by_cases hab : a = b
  · subst hab; simp
  · rw [decide_eq_false hab]; exact beq_eq_false_iff_ne.2 hab
theorem str_lit (a b : List UInt8) (q : Bool) (h : decide (a = b) = q) : ((bs a).toList == b) = q := by
  have e := str_cmp a b q h
  have e2 : (bs b).toList = b := by rw [ByteArray.toList_eq]; rfl
  rwa [e2] at e
theorem str_cmp2 (t : ByteArray) (b : List UInt8) (q : Bool) (h : decide (t.data.toList = b) = q) : (t.toList == (bs b).toList) = q := by
  have e := str_cmp t.data.toList b q h
  rwa [bs_of] at e
/-- A cut at one byte: there is none, or what is ahead of the first and behind it. -/
theorem cut_cases (c : UInt8) (l : List UInt8) : (c ∉ l ∧ Lib.cut l [c] = (l, [], false)) ∨ (∃ a b, l = a ++ c :: b ∧ c ∉ a ∧ Lib.cut l [c] = (a, b, true)) := by
  unfold Lib.cut
  rw [Lib.index_one]
  rcases ib_cut c l with ⟨h1, h2⟩ | ⟨i, h1, _, h3, h4⟩
  · left
    refine ⟨h2, ?_⟩
    rw [h1, if_neg (by omega)]
  · right
    refine ⟨l.take i, l.drop (i + 1), h3, h4, ?_⟩
    rw [h1, if_pos (by omega), Int.toNat_natCast]
    rfl
theorem cut_at (c : UInt8) (a b : List UInt8) (h : c ∉ a) : Lib.cut (a ++ c :: b) [c] = (a, b, true) := by
  have hi : Lib.indexByte (a ++ c :: b) c = (a.length : Int) := ib_at c _ a.length (by rw [List.take_left']; exact h; rfl) (by simp)
  unfold Lib.cut
  rw [Lib.index_one, hi, if_pos (by omega), Int.toNat_natCast, List.take_left' rfl]
  have : (a ++ c :: b).drop (a.length + [c].length) = b := by
    rw [← List.drop_drop, List.drop_left' rfl]; rfl
  rw [this]
theorem cut_no (c : UInt8) (l : List UInt8) (h : c ∉ l) : Lib.cut l [c] = (l, [], false) := by
  rcases cut_cases c l with ⟨_, h2⟩ | ⟨a, b, h1, _, _⟩
  · exact h2
  · exact absurd (by rw [h1]; simp) h
theorem cut_lens (c : UInt8) (l a b : List UInt8) (q : Bool) (h : Lib.cut l [c] = (a, b, q)) : a.length ≤ l.length ∧ b.length ≤ l.length := by
  rcases cut_cases c l with ⟨_, h2⟩ | ⟨x, y, h1, _, h3⟩
  · rw [h2] at h; injection h with e1 e2; injection e2 with e2 e3; subst e1 e2; exact ⟨Nat.le_refl _, Nat.zero_le _⟩
  · rw [h3] at h; injection h with e1 e2; injection e2 with e2 e3; subst e1 e2; rw [h1]; simp; omega
theorem tok_no {c : UInt8} (hc : isTok c = false) {n : List UInt8} (h : tokB n = true) : c ∉ n := by
  intro hm
  unfold tokB at h
  rw [Bool.and_eq_true, List.all_eq_true] at h
  exact absurd (h.2 c hm) (by rw [hc]; simp)
theorem tgt_no {c : UInt8} (hc : isVis c = false) {n : List UInt8} (h : tgtB n = true) : c ∉ n := by
  intro hm
  unfold tgtB at h
  rw [Bool.and_eq_true, List.all_eq_true] at h
  exact absurd (h.2 c hm) (by rw [hc]; simp)
theorem tok32 : isTok 32 = false := by decide +kernel
theorem vis32 : isVis 32 = false := by decide +kernel
theorem tgt_nil : tgtB [] = false := by decide +kernel

/-- HTTP/1.1; a blank and it; it and a blank. -/
def verL : List UInt8 := [72, 84, 84, 80, 47, 49, 46, 49]
def sfxL : List UInt8 := [32, 72, 84, 84, 80, 47, 49, 46, 49]
def pfxL : List UInt8 := [72, 84, 84, 80, 47, 49, 46, 49, 32]
/-- A line's request, as the program divides it; as the reference does. -/
def reqP (l : List UInt8) : Option Fld :=
  let r := Lib.cut (Lib.trimSuffix l sfxL) [32]
  if Lib.hasSuffix l sfxL = true ∧ tokB r.1 = true ∧ tgtB r.2.1 = true then some (r.1, r.2.1) else none
def reqR (l : List UInt8) : Option Fld :=
  let a := Lib.cut l [32]
  let b := Lib.cut a.2.1 [32]
  if a.2.2 = true ∧ b.2.2 = true ∧ b.2.1 = verL ∧ tokB a.1 = true ∧ tgtB b.1 = true then some (a.1, b.1) else none
def ReqIs (l : List UInt8) (r : Fld) : Prop := l = r.1 ++ 32 :: (r.2 ++ sfxL) ∧ tokB r.1 = true ∧ tgtB r.2 = true
theorem suffix_of {l s : List UInt8} (h : Lib.hasSuffix l s = true) : l = Lib.trimSuffix l s ++ s := by
  unfold Lib.trimSuffix
  rw [if_pos h]
  unfold Lib.hasSuffix at h
  obtain ⟨t, ht⟩ := List.isSuffixOf_iff_suffix.1 h
  subst ht
  rw [List.length_append, Nat.add_sub_cancel, List.take_left' rfl]
theorem suffix_app (a s : List UInt8) : Lib.hasSuffix (a ++ s) s = true ∧ Lib.trimSuffix (a ++ s) s = a := by
  have h : Lib.hasSuffix (a ++ s) s = true := List.isSuffixOf_iff_suffix.2 ⟨a, rfl⟩
  refine ⟨h, ?_⟩
  unfold Lib.trimSuffix
  rw [if_pos h, List.length_append, Nat.add_sub_cancel, List.take_left' rfl]
theorem reqP_is (l : List UInt8) (r : Fld) : reqP l = some r ↔ ReqIs l r := by
  obtain ⟨m, t⟩ := r
  constructor
  · intro h
    unfold reqP at h
    simp only at h
    split at h
    · next hh =>
      obtain ⟨hs, h1, h2⟩ := hh
      injection h with h
      injection h with e1 e2
      have hl := suffix_of hs
      rcases cut_cases 32 (Lib.trimSuffix l sfxL) with ⟨_, hc⟩ | ⟨a, b, hab, _, hc⟩
      · rw [hc] at h2
        rw [tgt_nil] at h2; cases h2
      · rw [hc] at h1 h2 e1 e2
        simp only at h1 h2 e1 e2
        subst e1 e2
        refine ⟨?_, h1, h2⟩
        rw [hl, hab]; simp
    · cases h
  · rintro ⟨hl, h1, h2⟩
    simp only at hl h1 h2
    have hl2 : l = (m ++ 32 :: t) ++ sfxL := by rw [hl]; simp
    have hx := suffix_app (m ++ 32 :: t) sfxL
    rw [← hl2] at hx
    unfold reqP
    simp only
    rw [hx.2, cut_at 32 m t (tok_no tok32 h1)]
    simp only
    rw [if_pos ⟨hx.1, h1, h2⟩]
theorem reqR_is (l : List UInt8) (r : Fld) : reqR l = some r ↔ ReqIs l r := by
  obtain ⟨m, t⟩ := r
  constructor
  · intro h
    unfold reqR at h
    simp only at h
    split at h
    · next hh =>
      obtain ⟨ha, hb, hv, h1, h2⟩ := hh
      injection h with h
      injection h with e1 e2
      rcases cut_cases 32 l with ⟨_, hc⟩ | ⟨x, y, hxy, _, hc⟩
      · rw [hc] at ha; cases ha
      · rw [hc] at hb hv h1 h2 e1 e2
        simp only at hb hv h1 h2 e1 e2
        rcases cut_cases 32 y with ⟨_, hd⟩ | ⟨u, v, huv, _, hd⟩
        · rw [hd] at hb; cases hb
        · rw [hd] at hv h2 e2
          simp only at hv h2 e2
          subst e1 e2 hv
          refine ⟨?_, h1, h2⟩
          rw [hxy, huv]; rfl
    · cases h
  · rintro ⟨hl, h1, h2⟩
    simp only at hl h1 h2
    subst hl
    unfold reqR
    simp only
    rw [cut_at 32 m _ (tok_no tok32 h1)]
    simp only
    rw [show t ++ sfxL = t ++ 32 :: verL from rfl, cut_at 32 t verL (tgt_no vis32 h2)]
    simp only
    simp [h1, h2]
theorem reqR_eq (l : List UInt8) : reqR l = reqP l := by
  cases h : reqP l with
  | some r => exact (reqR_is l r).2 ((reqP_is l r).1 h)
  | none =>
    cases h2 : reqR l with
    | none => rfl
    | some r => rw [(reqP_is l r).2 ((reqR_is l r).1 h2)] at h; cases h
theorem count_app (c : UInt8) (a b : List UInt8) : (a ++ c :: b).count c = a.count c + b.count c + 1 := by
  rw [List.count_append, List.count_cons_self]; omega
/-- A method and a target, written in a line: it is a request only if they are a token and a target. -/
theorem req_line (m t : List UInt8) : reqP (m ++ 32 :: (t ++ sfxL)) = if tokB m = true ∧ tgtB t = true then some (m, t) else none := by
  by_cases h : tokB m = true ∧ tgtB t = true
  · rw [if_pos h]
    exact (reqP_is _ _).2 ⟨rfl, h.1, h.2⟩
  · rw [if_neg h]
    cases h2 : reqP (m ++ 32 :: (t ++ sfxL)) with
    | none => rfl
    | some r =>
      exfalso
      obtain ⟨a, b⟩ := r
      obtain ⟨hl, ha, hb⟩ := (reqP_is _ _).1 h2
      simp only at hl ha hb
      have hl2 : (m ++ 32 :: t) ++ sfxL = (a ++ 32 :: b) ++ sfxL := by simpa using hl
      have hl3 := List.append_cancel_right hl2
      have hc := congrArg (List.count 32) hl3
      rw [count_app, count_app, List.count_eq_zero.2 (tok_no tok32 ha), List.count_eq_zero.2 (tgt_no vis32 hb)] at hc
      have hm : (32 : UInt8) ∉ m := List.count_eq_zero.1 (by omega)
      have e1 := cut_at 32 m t hm
      rw [hl3, cut_at 32 a b (tok_no tok32 ha)] at e1
      injection e1 with e1 e2
      injection e2 with e2 _
      subst e1 e2
      exact h ⟨ha, hb⟩

/-- A line's status, as the program divides it; as the reference does. -/
abbrev Sta := Int × List UInt8
def stP (l : List UInt8) : Option Sta :=
  let r := Lib.cut (Lib.trimPrefix l pfxL) [32]
  let n := numR 10 10 isDec r.1 599
  if Lib.hasPrefix l pfxL = true ∧ r.1.length = 3 ∧ n.2 = 0 ∧ ¬ n.1 < 200 ∧ valB r.2.1 = true then some (n.1, r.2.1) else none
def stR (l : List UInt8) : Option Sta :=
  let n := numR 10 10 isDec ((l.drop 9).take 3) 599
  if 12 ≤ l.length ∧ l.take 9 = pfxL ∧ (12 < l.length → l[12]? = some 32) ∧ n.2 = 0 ∧ ¬ n.1 < 200 ∧ valB (l.drop 13) = true then some (n.1, l.drop 13) else none
def StaIs (l : List UInt8) (s : Sta) : Prop :=
  ∃ d : List UInt8, d.length = 3 ∧ numR 10 10 isDec d 599 = (s.1, 0) ∧ ¬ s.1 < 200 ∧ valB s.2 = true ∧ ((l = pfxL ++ d ∧ s.2 = []) ∨ l = pfxL ++ (d ++ 32 :: s.2))
theorem numR_dec {b : Int} {m : Nat} {p : UInt8 → Bool} {l : List UInt8} {most : Int} (h : (numR b m p l most).2 = 0) : l.all p = true ∧ (numR b m p l most).1 ≤ most ∧ 1 ≤ l.length := by
  unfold numR at h ⊢
  split at h
  · cases h
  · next hn =>
    rw [not_or, not_or] at hn
    rw [if_neg (by rw [not_or, not_or]; exact hn)]
    split at h
    · cases h
    · next hm =>
      rw [if_neg hm]
      refine ⟨by simpa using hn.2.2, ?_, ?_⟩
      · simp only; omega
      · have := hn.1; omega
theorem dec_no32 {l : List UInt8} (h : l.all isDec = true) : (32 : UInt8) ∉ l := by
  intro hm
  rw [List.all_eq_true] at h
  exact absurd (h 32 hm) (by decide +kernel)
theorem prefix_of {l s : List UInt8} (h : Lib.hasPrefix l s = true) : l = s ++ Lib.trimPrefix l s := by
  unfold Lib.trimPrefix
  rw [if_pos h]
  unfold Lib.hasPrefix at h
  obtain ⟨t, ht⟩ := List.isPrefixOf_iff_prefix.1 h
  subst ht
  rw [List.drop_left' rfl]
theorem prefix_app (s a : List UInt8) : Lib.hasPrefix (s ++ a) s = true ∧ Lib.trimPrefix (s ++ a) s = a := by
  have h : Lib.hasPrefix (s ++ a) s = true := List.isPrefixOf_iff_prefix.2 ⟨a, rfl⟩
  refine ⟨h, ?_⟩
  unfold Lib.trimPrefix
  rw [if_pos h, List.drop_left' rfl]
theorem val_nil : valB [] = true := by decide +kernel
theorem stP_is (l : List UInt8) (s : Sta) : stP l = some s ↔ StaIs l s := by
  obtain ⟨c, r⟩ := s
  constructor
  · intro h
    unfold stP at h
    simp only at h
    split at h
    · next hh =>
      obtain ⟨hs, h1, h2, h3, h4⟩ := hh
      injection h with h
      injection h with e1 e2
      have hl := prefix_of hs
      refine ⟨(Lib.cut (Lib.trimPrefix l pfxL) [32]).1, h1, ?_, by rw [← e1]; exact h3, by rw [← e2]; exact h4, ?_⟩
      · rw [← e1, ← h2]
      · rcases cut_cases 32 (Lib.trimPrefix l pfxL) with ⟨_, hc⟩ | ⟨a, b, hab, _, hc⟩
        · left
          rw [hc] at e2 ⊢
          exact ⟨hl, e2.symm⟩
        · right
          rw [hc] at e2 ⊢
          simp only at e2 ⊢
          rw [← e2]
          exact hl.trans (by rw [← hab])
    · cases h
  · rintro ⟨d, hd, hn, h3, h4, hl⟩
    have hdec : d.all isDec = true := (numR_dec (by rw [hn] : (numR 10 10 isDec d 599).2 = 0)).1
    unfold stP
    simp only at hn h3 h4 hl ⊢
    rcases hl with ⟨hl, hr⟩ | hl
    · subst hl hr
      rw [(prefix_app pfxL d).1, (prefix_app pfxL d).2, cut_no 32 d (dec_no32 hdec)]
      simp only
      simp [hn, hd, h4]
      omega
    · subst hl
      rw [(prefix_app pfxL _).1, (prefix_app pfxL _).2, cut_at 32 d r (dec_no32 hdec)]
      simp only
      simp [hn, hd, h4]
      omega
theorem stR_is (l : List UInt8) (s : Sta) : stR l = some s ↔ StaIs l s := by
  obtain ⟨c, r⟩ := s
  constructor
  · intro h
    unfold stR at h
    simp only at h
    split at h
    · next hh =>
      obtain ⟨hlen, hp, h12, h2, h3, h4⟩ := hh
      injection h with h
      injection h with e1 e2
      refine ⟨(l.drop 9).take 3, by rw [List.length_take, List.length_drop]; omega, by rw [← e1, ← h2], by rw [← e1]; exact h3, by rw [← e2]; exact h4, ?_⟩
      have hl : l = pfxL ++ l.drop 9 := by rw [← hp, List.take_append_drop]
      have hl2 : l.drop 9 = (l.drop 9).take 3 ++ l.drop 12 := by
        rw [show (12 : Nat) = 9 + 3 from rfl, ← List.drop_drop, List.take_append_drop]
      by_cases hgt : 12 < l.length
      · right
        have hx := h12 hgt
        have hd : l.drop 12 = 32 :: l.drop 13 := by
          rw [List.drop_eq_getElem_cons hgt]
          rw [List.getElem?_eq_getElem hgt] at hx
          injection hx with hx
          rw [hx]
        simp only
        rw [← e2, ← hd, ← hl2]
        exact hl
      · left
        have h13 : l.drop 13 = [] := List.drop_eq_nil_of_le (by omega)
        have h12' : l.drop 12 = [] := List.drop_eq_nil_of_le (by omega)
        rw [h12', List.append_nil] at hl2
        rw [← hl2]
        exact ⟨hl, by simp only; rw [← e2, h13]⟩
    · cases h
  · rintro ⟨d, hd, hn, h3, h4, hl⟩
    obtain ⟨d0, d1, d2, rfl⟩ : ∃ a b c, d = [a, b, c] := by
      match d, hd with
      | [a, b, c], _ => exact ⟨a, b, c, rfl⟩
    unfold stR
    simp only at hn h3 h4 hl ⊢
    rcases hl with ⟨hl, hr⟩ | hl
    · subst hl hr
      have e : ((pfxL ++ [d0, d1, d2]).drop 9).take 3 = [d0, d1, d2] := rfl
      have hl12 : (pfxL ++ [d0, d1, d2]).length = 12 := rfl
      rw [e, hn, if_pos ⟨by omega, rfl, fun h => absurd h (by omega), rfl, h3, h4⟩]
      rfl
    · subst hl
      have e : ((pfxL ++ ([d0, d1, d2] ++ 32 :: r)).drop 9).take 3 = [d0, d1, d2] := rfl
      have e2 : (pfxL ++ ([d0, d1, d2] ++ 32 :: r)).drop 13 = r := rfl
      rw [e, hn, e2, if_pos ⟨by simp [pfxL], rfl, fun _ => rfl, rfl, h3, h4⟩]
theorem stR_eq (l : List UInt8) : stR l = stP l := by
  cases h : stP l with
  | some r => exact (stR_is l r).2 ((stP_is l r).1 h)
  | none =>
    cases h2 : stR l with
    | none => rfl
    | some r => rw [(stP_is l r).2 ((stR_is l r).1 h2)] at h; cases h

/-- A code within its bounds; its line. -/
def codeT (c : Int) : Int := min (max c 200) 599
def stLine (s : Sta) : List UInt8 := pfxL ++ prtI 10 (codeT s.1) ++ [32] ++ s.2 ++ [13, 10]
def reqLine (r : Fld) : List UInt8 := r.1 ++ [32] ++ r.2 ++ [32] ++ verL ++ [13, 10]
theorem prt_codes : ∀ n : Fin 400, numR 10 10 isDec (prtI 10 ((n.val : Int) + 200)) 599 = ((n.val : Int) + 200, 0) ∧ (prtI 10 ((n.val : Int) + 200)).length = 3 := by decide +kernel
theorem prt_code (c : Int) (h1 : ¬ c < 200) (h2 : c ≤ 599) : numR 10 10 isDec (prtI 10 c) 599 = (c, 0) ∧ (prtI 10 c).length = 3 := by
  have h := prt_codes ⟨(c - 200).toNat, by omega⟩
  have e : ((c - 200).toNat : Int) + 200 = c := by omega
  simp only [e] at h
  exact h
theorem stP_some {l : List UInt8} {s : Sta} (h : stP l = some s) : ¬ s.1 < 200 ∧ s.1 ≤ 599 ∧ valB s.2 = true ∧ s.2.length ≤ l.length := by
  obtain ⟨d, hd, hn, h3, h4, hl⟩ := (stP_is l s).1 h
  refine ⟨h3, ?_, h4, ?_⟩
  · have := (numR_dec (by rw [hn] : (numR 10 10 isDec d 599).2 = 0)).2.1
    rw [hn] at this; exact this
  · rcases hl with ⟨hl, hr⟩ | hl
    · rw [hr]; exact Nat.zero_le _
    · rw [hl]; simp [pfxL]; omega
/-- A status is read back from its line. -/
theorem st_back {l : List UInt8} {s : Sta} (h : stP l = some s) : stP (pfxL ++ prtI 10 (codeT s.1) ++ [32] ++ s.2) = some s := by
  obtain ⟨h1, h2, h3, _⟩ := stP_some h
  have ec : codeT s.1 = s.1 := by unfold codeT; omega
  obtain ⟨hp, hp3⟩ := prt_code s.1 h1 h2
  rw [ec]
  exact (stP_is _ _).2 ⟨prtI 10 s.1, hp3, hp, h1, h3, .inr (by simp)⟩
theorem req_some {l : List UInt8} {r : Fld} (h : reqP l = some r) : l = r.1 ++ 32 :: (r.2 ++ sfxL) ∧ tokB r.1 = true ∧ tgtB r.2 = true := (reqP_is l r).1 h

/-- The methods that may be asked twice; a target without its query; the words for codes; whether there is a body. -/
def idemB (m : List UInt8) : Bool :=
  decide (m = [71, 69, 84]) || decide (m = [72, 69, 65, 68]) || decide (m = [80, 85, 84]) || decide (m = [68, 69, 76, 69, 84, 69]) || decide (m = [79, 80, 84, 73, 79, 78, 83]) || decide (m = [84, 82, 65, 67, 69])
def pathL (t : List UInt8) : List UInt8 := (Lib.cut t [63]).1
def reasonL (c : Int) : List UInt8 :=
  if c = 200 then [79, 75]
  else if c = 400 then [66, 97, 100, 32, 82, 101, 113, 117, 101, 115, 116]
  else if c = 413 then [67, 111, 110, 116, 101, 110, 116, 32, 84, 111, 111, 32, 76, 97, 114, 103, 101]
  else if c = 431 then [82, 101, 113, 117, 101, 115, 116, 32, 72, 101, 97, 100, 101, 114, 32, 70, 105, 101, 108, 100, 115, 32, 84, 111, 111, 32, 76, 97, 114, 103, 101]
  else if c = 502 then [66, 97, 100, 32, 71, 97, 116, 101, 119, 97, 121]
  else if c = 503 then [83, 101, 114, 118, 105, 99, 101, 32, 85, 110, 97, 118, 97, 105, 108, 97, 98, 108, 101]
  else if c = 504 then [71, 97, 116, 101, 119, 97, 121, 32, 84, 105, 109, 101, 111, 117, 116]
  else []
def bodB (m : List UInt8) (c : Int) : Bool := !(decide (m = [72, 69, 65, 68]) || decide (c = 204) || decide (c = 304))
end Go.Proofs.YtkajfocjpaemgaaDoor
