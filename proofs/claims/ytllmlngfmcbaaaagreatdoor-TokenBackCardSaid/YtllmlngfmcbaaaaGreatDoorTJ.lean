/- token: parse, Sign, Verify; lists. -/
import Derived.Test.YtllmlngfmcbaaaaGreatDoorTA
import Derived.Test.YtllmlngfmcbaaaaGreatDoorTQ
import Derived.Test.YtllmlngfmcbaaaaGreatDoorTHex
import Derived.Test.YtllmlngfmcbaaaaGreatDoorMacH
namespace Go.Proofs.YtllmlngfmcbaaaaGreatDoor
open Go.RowKit

theorem results_tmp4 {fn : Func} {t u v x : Tmp} (h : fn.results = #[.tmp t, .tmp u, .tmp v, .tmp x]) (tmps : Array Value) (P : Program) (w : World) :
    (results fn tmps).run P w = .ok (.tuple #[tmps.getD t undef, tmps.getD u undef, tmps.getD v undef, tmps.getD x undef]) w := by
  simp [results, h]
def tagF (t : List UInt8) : Bool := (unhexP t).isSome && decide (t.length = 32)
set_option maxHeartbeats 1000000 in
theorem tagForm43 (t : List UInt8) (ht : t.length ≤ 1000000) (q : Bool) (hq : tagF t = q) (w : World) :
    Calls Tryz.prog 43 #[.string (bs t)] w fun e w' => e = .returned (.bool q) ∧ Below w.heap.size w w' := by
  have hU := unhex16 (bs t) (by rw [bs_size]; omega) w
  rw [bs_list] at hU
  have hz := bs_size t
  subst hq
  unfold tagF
  unfold unhexV at hU
  cases hu : unhexP t with
  | none =>
    rw [hu] at hU
    have HU := Lib.hid hU
    clear hU hz hu
    go_enter Tryz.func43, Tryz.ntmps43
    go_wp2_with fail
    refine HU.out.mono ?_
    rintro e w1 ⟨rfl, hb⟩
    go_wp2_with fail
    go_ret
    exact ⟨rfl, hb⟩
  | some y =>
    rw [hu] at hU
    have HU := Lib.hid hU
    rw [← hz]
    generalize bs t = s at *
    by_cases h32 : s.size = 32
    · have e1 : ((s.size : Int) == 32) = true := by rw [beq_iff_eq]; omega
      rw [decide_eq_true h32]
      clear hU hz hu h32
      go_enter Tryz.func43, Tryz.ntmps43
      go_wp2_with fail
      refine HU.out.mono ?_
      rintro e w1 ⟨rfl, hb⟩
      go_wp2_with fail
      go_ret
      exact ⟨rfl, hb⟩
    · have e1 : ((s.size : Int) == 32) = false := by rw [beq_eq_false_iff_ne]; omega
      rw [decide_eq_false h32]
      clear hU hz hu h32
      go_enter Tryz.func43, Tryz.ntmps43
      go_wp2_with fail
      refine HU.out.mono ?_
      rintro e w1 ⟨rfl, hb⟩
      go_wp2_with fail
      go_ret
      exact ⟨rfl, hb⟩
/-- A text before and behind its first point. -/
def cutA (l : List UInt8) : List UInt8 := (Lib.cut l [46]).1
def cutZ (l : List UInt8) : List UInt8 := (Lib.cut l [46]).2.1
theorem cutA_length (l : List UInt8) : (cutA l).length ≤ l.length := by
  unfold cutA Lib.cut
  split
  · simp; omega
  · simp
theorem cutZ_length (l : List UInt8) : (cutZ l).length ≤ l.length := by
  unfold cutZ Lib.cut
  split
  · simp
  · simp
theorem cut41 (l : List UInt8) (hl : l.length ≤ 4000000000) (w : World) (hw : MaxL w) :
    Calls Tryz.prog 41 #[.string (bs l), .string ⟨#[46]⟩] w fun e w' => (∃ q, e = .returned (.tuple #[.string (bs (cutA l)), .string (bs (cutZ l)), .bool q])) ∧ Below w.heap.size w w' := by
  obtain ⟨_, m, hm⟩ := hw
  refine (Tryz.strings_Cut (bs l) ⟨#[46]⟩ m w (by rw [bs_size]; omega) hm).mono fun e w' ⟨he, n, hn⟩ => ⟨⟨_, he⟩, ?_⟩
  subst hn; exact ⟨rfl, rfl, rfl, Nat.le_refl _, fun _ _ => rfl⟩
/-- The parts of a token, signed or not. -/
def parseL (l : List UInt8) : Option (List UInt8 × Nat × List UInt8) := match tickL (cutA (cutZ l)) with
  | none => none
  | some n => if nameB (cutA l) = true ∧ tagF (cutZ (cutZ l)) = true then some (cutA l, n, cutZ (cutZ l)) else none
def parseV (o : Option (List UInt8 × Nat × List UInt8)) : Value := match o with
  | some (a, n, t) => .tuple #[.string (bs a), .int .i64 (n : Int), .string (bs t), .bool true]
  | none => .tuple #[.string ⟨#[]⟩, .int .i64 0, .string ⟨#[]⟩, .bool false]
/-- What the library's variables hold. -/
structure LaidT (w : World) : Prop where
  tabs : Tabs w
  pow : Pow w
  errs : Errs w
  maxl : MaxL w
theorem LaidT.below {w w' : World} (h : LaidT w) (hb : Below w.heap.size w w') : LaidT w' := ⟨h.tabs.below hb, h.pow.below hb, h.errs.below hb, h.maxl.below hb⟩
theorem name_l (l : List UInt8) (hl : l.length ≤ 1000000) (q : Bool) (hq : nameB l = q) (w : World) :
    Calls Tryz.prog 13 #[.string (bs l)] w fun e w' => e = .returned (.bool q) ∧ Below w.heap.size w w' := by
  subst hq; exact name13 (bs l) (by rw [bs_size]; omega) w
theorem tick_l (l : List UInt8) (hl : l.length ≤ 1000000) (o : Option Nat) (ho : tickL l = o) (w : World) (hw : LaidT w) :
    Calls Tryz.prog 42 #[.string (bs l)] w fun e w' => e = .returned (tickV o) ∧ Below w.heap.size w w' := by
  subst ho; exact tick42 (bs l) (by rw [bs_size]; omega) w hw.pow hw.errs
set_option maxRecDepth 100000 in
set_option maxHeartbeats 2000000 in
theorem parse30 (l : List UInt8) (hl : l.length ≤ 1000000) (w : World) (hw : LaidT w) :
    Calls Tryz.prog 30 #[.string (bs l)] w fun e w' => e = .returned (parseV (parseL l)) ∧ Below w.heap.size w w' := by
  have h1 := cutA_length l
  have h2 := cutZ_length l
  have h3 := cutA_length (cutZ l)
  have h4 := cutZ_length (cutZ l)
  have HC1 := Lib.hid (cut41 l (by omega) w hw.maxl)
  have HC2 := Lib.hid (fun W h => cut41 (cutZ l) (by omega) W h)
  have HT := Lib.hid (fun o ho W h => tick_l (cutA (cutZ l)) (by omega) o ho W h)
  have HN := Lib.hid (fun q hq W => name_l (cutA l) (by omega) q hq W)
  have HF := Lib.hid (fun q hq W => tagForm43 (cutZ (cutZ l)) (by omega) q hq W)
  have HW := Lib.hid hw
  clear hw h1 h2 h3 h4
  unfold parseL
  generalize cutZ (cutZ l) = tg at *
  generalize cutA (cutZ l) = dg at *
  generalize cutZ l = rs at *
  generalize cutA l = nm at *
  cases ht : tickL dg with
  | none =>
    have HT2 := Lib.hid (HT.out none ht)
    simp only [parseV]
    clear HT ht
    unfold tickV at HT2
    simp only at HT2
    go_enter Tryz.func30, Tryz.ntmps30
    go_wp2_with fail
    refine HC1.out.mono ?_
    rintro e w1 ⟨⟨q1, rfl⟩, hb1⟩
    have W1 := Lib.hid (HW.out.below hb1)
    go_wp2_with fail
    refine (HC2.out w1 W1.out.maxl).mono ?_
    rintro e w2 ⟨⟨q2, rfl⟩, hb2⟩
    have W2 := Lib.hid (W1.out.below hb2)
    have b2 := hb1.trans (hb2.mono hb1.size)
    clear hb1 hb2
    go_wp2_with fail
    refine (HT2.out w2 W2.out).mono ?_
    rintro e w3 ⟨rfl, hb3⟩
    have b3 := b2.trans (hb3.mono b2.size)
    go_wp2_with fail
    refine bodyPost_ret (results_tmp4 rfl _ _ _) rfl ?_
    exact ⟨rfl, b3⟩
  | some n =>
    have HT2 := Lib.hid (HT.out (some n) ht)
    simp only
    clear HT ht
    unfold tickV at HT2
    simp only at HT2
    cases hn : nameB nm with
    | false =>
      have HN2 := Lib.hid (HN.out false hn)
      simp only [Bool.false_eq_true, false_and, if_false, parseV]
      clear HN hn
      go_enter Tryz.func30, Tryz.ntmps30
      go_wp2_with fail
      refine HC1.out.mono ?_
      rintro e w1 ⟨⟨q1, rfl⟩, hb1⟩
      have W1 := Lib.hid (HW.out.below hb1)
      go_wp2_with fail
      refine (HC2.out w1 W1.out.maxl).mono ?_
      rintro e w2 ⟨⟨q2, rfl⟩, hb2⟩
      have W2 := Lib.hid (W1.out.below hb2)
      have b2 := hb1.trans (hb2.mono hb1.size)
      clear hb1 hb2
      go_wp2_with fail
      refine (HT2.out w2 W2.out).mono ?_
      rintro e w3 ⟨rfl, hb3⟩
      have b3 := b2.trans (hb3.mono b2.size)
      clear hb3
      go_wp2_with fail
      refine (HN2.out w3).mono ?_
      rintro e w4 ⟨rfl, hb4⟩
      have b4 := b3.trans (hb4.mono b3.size)
      go_wp2_with fail
      refine bodyPost_ret (results_tmp4 rfl _ _ _) rfl ?_
      exact ⟨rfl, b4⟩
    | true =>
      have HN2 := Lib.hid (HN.out true hn)
      clear HN hn
      cases hf : tagF tg with
      | false =>
        have HF2 := Lib.hid (HF.out false hf)
        simp only [Bool.false_eq_true, and_false, if_false, parseV]
        clear HF hf
        go_enter Tryz.func30, Tryz.ntmps30
        go_wp2_with fail
        refine HC1.out.mono ?_
        rintro e w1 ⟨⟨q1, rfl⟩, hb1⟩
        have W1 := Lib.hid (HW.out.below hb1)
        go_wp2_with fail
        refine (HC2.out w1 W1.out.maxl).mono ?_
        rintro e w2 ⟨⟨q2, rfl⟩, hb2⟩
        have W2 := Lib.hid (W1.out.below hb2)
        have b2 := hb1.trans (hb2.mono hb1.size)
        clear hb1 hb2
        go_wp2_with fail
        refine (HT2.out w2 W2.out).mono ?_
        rintro e w3 ⟨rfl, hb3⟩
        have b3 := b2.trans (hb3.mono b2.size)
        clear hb3
        go_wp2_with fail
        refine (HN2.out w3).mono ?_
        rintro e w4 ⟨rfl, hb4⟩
        have b4 := b3.trans (hb4.mono b3.size)
        clear hb4
        go_wp2_with fail
        refine (HF2.out w4).mono ?_
        rintro e w5 ⟨rfl, hb5⟩
        have b5 := b4.trans (hb5.mono b4.size)
        go_wp2_with fail
        refine bodyPost_ret (results_tmp4 rfl _ _ _) rfl ?_
        exact ⟨rfl, b5⟩
      | true =>
        have HF2 := Lib.hid (HF.out true hf)
        simp only [and_true, if_true, parseV]
        clear HF hf
        go_enter Tryz.func30, Tryz.ntmps30
        go_wp2_with fail
        refine HC1.out.mono ?_
        rintro e w1 ⟨⟨q1, rfl⟩, hb1⟩
        have W1 := Lib.hid (HW.out.below hb1)
        go_wp2_with fail
        refine (HC2.out w1 W1.out.maxl).mono ?_
        rintro e w2 ⟨⟨q2, rfl⟩, hb2⟩
        have W2 := Lib.hid (W1.out.below hb2)
        have b2 := hb1.trans (hb2.mono hb1.size)
        clear hb1 hb2
        go_wp2_with fail
        refine (HT2.out w2 W2.out).mono ?_
        rintro e w3 ⟨rfl, hb3⟩
        have b3 := b2.trans (hb3.mono b2.size)
        clear hb3
        go_wp2_with fail
        refine (HN2.out w3).mono ?_
        rintro e w4 ⟨rfl, hb4⟩
        have b4 := b3.trans (hb4.mono b3.size)
        clear hb4
        go_wp2_with fail
        refine (HF2.out w4).mono ?_
        rintro e w5 ⟨rfl, hb5⟩
        have b5 := b4.trans (hb5.mono b4.size)
        go_wp2_with fail
        refine bodyPost_ret (results_tmp4 rfl _ _ _) rfl ?_
        exact ⟨rfl, b5⟩
end Go.Proofs.YtllmlngfmcbaaaaGreatDoor

namespace Go.Proofs.YtllmlngfmcbaaaaGreatDoor
open Go.RowKit

/-- A tick that a token may hold. -/
def clampT (u : Int) : Nat := (min (max u 0) 1099511627776).toNat
theorem clampT_le (u : Int) : clampT u ≤ 1099511627776 := by unfold clampT; omega
def signL (key name : List UInt8) (u : Int) : List UInt8 := if nameB name = true then contL name (clampT u) ++ 46 :: tagL key (contL name (clampT u)) else []
theorem contL_length (name : List UInt8) (n : Nat) (hn : n ≤ 1099511627776) : (contL name n).length ≤ name.length + 14 := by
  have := dec_13 n hn
  unfold contL
  simp; omega
theorem content_l (l : List UInt8) (hl : l.length ≤ 1000) (n : Nat) (hn : n ≤ 1099511627776) (w : World) (hw : LaidT w) :
    Calls Tryz.prog 23 #[.string (bs l), .int .i64 (n : Int)] w fun e w' => e = .returned (.string (bs (contL l n))) ∧ Below w.heap.size w w' :=
  content23 (bs l) (by rw [bs_size]; omega) n hn w hw.pow
theorem tag_l (k s : List UInt8) (hk : k.length ≤ 1000) (hs : s.length ≤ 2000) (w : World) (T : TypeId) (hw : LaidT w) :
    Calls Tryz.prog 24 #[.string (bs k), .slice (some ⟨w.heap.size, 0, none⟩) 1 1] (w.alloc (.cells #[.string (bs s)] T)) fun e w' => e = .returned (.string (bs (tagL k s))) ∧ Below w.heap.size w w' :=
  tag_one (bs k) (bs s) (by rw [bs_size]; omega) (by rw [bs_size]; omega) w T hw.tabs
theorem fits_l (k t s : List UInt8) (hk : k.length ≤ 1000) (ht : t.length ≤ 1000) (hs : s.length ≤ 2000) (q : Bool) (hq : decide (t = tagL k s) = q) (w : World) (T : TypeId) (hw : LaidT w) :
    Calls Tryz.prog 21 #[.string (bs k), .string (bs t), .slice (some ⟨w.heap.size, 0, none⟩) 1 1] (w.alloc (.cells #[.string (bs s)] T)) fun e w' => e = .returned (.bool q) ∧ Below w.heap.size w w' := by
  have h := fits_one (bs k) (bs t) (bs s) (by rw [bs_size]; omega) (by rw [bs_size]; omega) (by rw [bs_size]; omega) w T hw.tabs
  have e : decide (bs t = ⟨(tagL (bs k).data.toList (bs s).data.toList).toArray⟩) = q := by
    rw [← hq]
    apply decide_eq_decide.2
    constructor
    · intro h; have := congrArg (fun b => b.data.toList) h; exact this
    · rintro rfl; rfl
  rw [e] at h
  exact h
theorem app_dot_l (a b : List UInt8) : bs a ++ ⟨#[46]⟩ ++ bs b = bs (a ++ 46 :: b) := app_dot (bs a) (bs b)
set_option maxRecDepth 100000 in
set_option maxHeartbeats 2000000 in
theorem sign11 (key name : List UInt8) (hk : key.length ≤ 1000) (hl : name.length ≤ 1000) (u : Int) (w : World) (hw : LaidT w) :
    Calls Tryz.prog 11 #[.string (bs key), .string (bs name), .int .i64 u] w fun e w' => e = .returned (.string (bs (signL key name u))) ∧ Below w.heap.size w w' := by
  have HN := Lib.hid (fun q hq => name_l name (by omega) q hq w)
  unfold signL
  cases hn : nameB name with
  | false =>
    have HN2 := Lib.hid (HN.out false hn)
    rw [if_neg (by simp)]
    clear HN hn
    go_enter Tryz.func11, Tryz.ntmps11
    go_wp2_with fail
    refine HN2.out.mono ?_
    rintro e w1 ⟨rfl, hb⟩
    go_wp2_with fail
    go_ret
    exact ⟨rfl, hb⟩
  | true =>
    have HN2 := Lib.hid (HN.out true hn)
    rw [if_pos rfl]
    clear HN hn
    have hc := clampT_le u
    have hcl := contL_length name (clampT u) hc
    have HC := Lib.hid (fun W h => content_l name hl (clampT u) hc W h)
    obtain ⟨m, hm⟩ : ∃ m : Nat, max u 0 = (m : Int) := ⟨(max u 0).toNat, by omega⟩
    have hm2 : min (m : Int) 1099511627776 = (clampT u : Nat) := by rw [← hm]; unfold clampT; omega
    generalize clampT u = n at *
    obtain ⟨s, hs⟩ : ∃ s, s = contL name n := ⟨_, rfl⟩
    rw [← hs] at HC hcl ⊢
    have HT := Lib.hid (fun W h => tag_l key s hk (by omega) W 9 h)
    have htl := tagL_length key s
    have HAP := Lib.hid (app_dot_l s (tagL key s))
    generalize tagL key s = t at *
    have hz1 := bs_size s
    have hz2 := bs_size t
    have j1 : ((bs s).size : Int) ≤ 2000 := by omega
    have j2 : ((bs t).size : Int) = 32 := by omega
    have HR : Hid (bs (s ++ 46 :: t) = bs s ++ ⟨#[46]⟩ ++ bs t) := HAP.out.symm
    generalize bs (s ++ 46 :: t) = R at *
    generalize bs s = S at *
    generalize bs t = T at *
    clear hs hcl hc htl hz1 hz2 HAP
    go_enter Tryz.func11, Tryz.ntmps11
    go_wp2_with fail
    refine HN2.out.mono ?_
    rintro e w1 ⟨rfl, hb1⟩
    have W1 := hw.below hb1
    go_wp2_with fail
    refine (HC.out w1 W1).mono ?_
    rintro e w2 ⟨rfl, hb2⟩
    have W2 := W1.below hb2
    have b2 := hb1.trans (hb2.mono hb1.size)
    clear hb1 hb2
    go_wp2_with fail
    refine (HT.out w2 W2).mono ?_
    rintro e w3 ⟨rfl, hb3⟩
    have b3 := b2.trans (hb3.mono b2.size)
    go_wp2_with fail
    go_ret
    exact ⟨by rw [HR.out]; rfl, b3⟩
theorem parseL_some {l nm tg : List UInt8} {n : Nat} (h : parseL l = some (nm, n, tg)) : nm = cutA l ∧ tg = cutZ (cutZ l) ∧ tickL (cutA (cutZ l)) = some n ∧ nameB nm = true ∧ tagF tg = true := by
  unfold parseL at h
  split at h
  · cases h
  · rename_i m hm
    split at h
    · rename_i hc
      simp only [Option.some.injEq, Prod.mk.injEq] at h
      obtain ⟨rfl, rfl, rfl⟩ := h
      exact ⟨rfl, rfl, hm, hc⟩
    · cases h
/-- Whose a token is; the error's number. -/
def verL (key l : List UInt8) (now : Int) : List UInt8 × Int := match parseL l with
  | none => ([], 2)
  | some (nm, n, tg) => if tg = tagL key (contL nm n) then (if (n : Int) < now then ([], 5) else (nm, 0)) else ([], 10)
def verV (r : List UInt8 × Int) : Value := .tuple #[.string (bs r.1), .int .i64 r.2]
theorem parse_l (l : List UInt8) (hl : l.length ≤ 1000) (o : Option (List UInt8 × Nat × List UInt8)) (ho : parseL l = o) (w : World) (hw : LaidT w) :
    Calls Tryz.prog 30 #[.string (bs l)] w fun e w' => e = .returned (parseV o) ∧ Below w.heap.size w w' := by
  subst ho; exact parse30 l (by omega) w hw
set_option maxRecDepth 100000 in
set_option maxHeartbeats 2000000 in
theorem verify15 (key l : List UInt8) (hk : key.length ≤ 1000) (hl : l.length ≤ 1000) (now : Int) (w : World) (hw : LaidT w) :
    Calls Tryz.prog 15 #[.string (bs key), .string (bs l), .int .i64 now] w fun e w' => e = .returned (verV (verL key l now)) ∧ Below w.heap.size w w' := by
  have HP := Lib.hid (fun o ho => parse_l l hl o ho w hw)
  unfold verL
  cases hp : parseL l with
  | none =>
    have HP2 := Lib.hid (HP.out none hp)
    simp only [verV]
    clear HP hp
    unfold parseV at HP2
    simp only at HP2
    go_enter Tryz.func15, Tryz.ntmps15
    go_wp2_with fail
    refine HP2.out.mono ?_
    rintro e w1 ⟨rfl, hb⟩
    go_wp2_with fail
    go_ret2
    exact ⟨rfl, hb⟩
  | some r =>
    obtain ⟨nm, n, tg⟩ := r
    have HP2 := Lib.hid (HP.out _ hp)
    simp only
    obtain ⟨e1, e2, htk, _, _⟩ := parseL_some hp
    have hn := ((tick_iff _ _).1 htk).1
    have l1 := cutA_length l
    have l2 := cutZ_length l
    have l3 := cutZ_length (cutZ l)
    rw [← e1] at l1
    rw [← e2] at l3
    have hcl := contL_length nm n hn
    have HC := Lib.hid (fun W h => content_l nm (by omega) n hn W h)
    have HF := Lib.hid (fun q hq W h => fits_l key tg (contL nm n) hk (by omega) (by omega) q hq W 9 h)
    clear HP hp e1 e2 htk l1 l2 l3 hcl
    unfold parseV at HP2
    simp only at HP2
    generalize contL nm n = ct at *
    by_cases hf : tg = tagL key ct
    · have HF2 := Lib.hid (HF.out true (decide_eq_true hf))
      rw [if_pos hf]
      clear hf HF
      by_cases hnow : (n : Int) < now
      · rw [if_pos hnow]
        simp only [verV]
        go_enter Tryz.func15, Tryz.ntmps15
        go_wp2_with fail
        refine HP2.out.mono ?_
        rintro e w1 ⟨rfl, hb1⟩
        have W1 := hw.below hb1
        go_wp2_with fail
        refine (HC.out w1 W1).mono ?_
        rintro e w2 ⟨rfl, hb2⟩
        have W2 := W1.below hb2
        have b2 := hb1.trans (hb2.mono hb1.size)
        clear hb1 hb2
        go_wp2_with fail
        refine (HF2.out w2 W2).mono ?_
        rintro e w3 ⟨rfl, hb3⟩
        have b3 := b2.trans (hb3.mono b2.size)
        go_wp2_with fail
        go_ret2
        exact ⟨rfl, b3⟩
      · rw [if_neg hnow]
        simp only [verV]
        go_enter Tryz.func15, Tryz.ntmps15
        go_wp2_with fail
        refine HP2.out.mono ?_
        rintro e w1 ⟨rfl, hb1⟩
        have W1 := hw.below hb1
        go_wp2_with fail
        refine (HC.out w1 W1).mono ?_
        rintro e w2 ⟨rfl, hb2⟩
        have W2 := W1.below hb2
        have b2 := hb1.trans (hb2.mono hb1.size)
        clear hb1 hb2
        go_wp2_with fail
        refine (HF2.out w2 W2).mono ?_
        rintro e w3 ⟨rfl, hb3⟩
        have b3 := b2.trans (hb3.mono b2.size)
        go_wp2_with fail
        go_ret2
        exact ⟨rfl, b3⟩
    · have HF2 := Lib.hid (HF.out false (decide_eq_false hf))
      rw [if_neg hf]
      simp only [verV]
      clear hf HF
      go_enter Tryz.func15, Tryz.ntmps15
      go_wp2_with fail
      refine HP2.out.mono ?_
      rintro e w1 ⟨rfl, hb1⟩
      have W1 := hw.below hb1
      go_wp2_with fail
      refine (HC.out w1 W1).mono ?_
      rintro e w2 ⟨rfl, hb2⟩
      have W2 := W1.below hb2
      have b2 := hb1.trans (hb2.mono hb1.size)
      clear hb1 hb2
      go_wp2_with fail
      refine (HF2.out w2 W2).mono ?_
      rintro e w3 ⟨rfl, hb3⟩
      have b3 := b2.trans (hb3.mono b2.size)
      go_wp2_with fail
      go_ret2
      exact ⟨rfl, b3⟩
end Go.Proofs.YtllmlngfmcbaaaaGreatDoor

namespace Go.Proofs.YtllmlngfmcbaaaaGreatDoor
open Go.RowKit

theorem ib_app (c : UInt8) : ∀ a b : List UInt8, c ∉ a → Lib.indexByte (a ++ c :: b) c = (a.length : Int)
  | [], b, _ => by simp [Lib.indexByte]
  | x :: a, b, h => by
    rw [List.mem_cons, not_or] at h
    have hx : (x == c) = false := beq_eq_false_iff_ne.2 (fun e => h.1 e.symm)
    have ih := ib_app c a b h.2
    simp only [List.cons_append, Lib.indexByte, hx, ih]
    simp
theorem ib_none (c : UInt8) (l : List UInt8) (h : c ∉ l) : Lib.indexByte l c = -1 := by
  rcases ib_cut c l with ⟨h1, _⟩ | ⟨i, _, h2, h3, _⟩
  · exact h1
  · exact absurd (by rw [h3]; simp) h
theorem cut_app (a b : List UInt8) (h : (46 : UInt8) ∉ a) : cutA (a ++ 46 :: b) = a ∧ cutZ (a ++ 46 :: b) = b := by
  unfold cutA cutZ Lib.cut
  rw [Lib.index_one, ib_app 46 a b h, if_pos (by omega)]
  simp
theorem cut_no (l : List UInt8) (h : (46 : UInt8) ∉ l) : cutA l = l ∧ cutZ l = [] := by
  unfold cutA cutZ Lib.cut
  rw [Lib.index_one, ib_none 46 l h, if_neg (by omega)]
  exact ⟨rfl, rfl⟩
theorem mem_cut (l : List UInt8) (h : (46 : UInt8) ∈ l) : ∃ a b, l = a ++ 46 :: b ∧ (46 : UInt8) ∉ a := by
  obtain ⟨a, b, e, h2⟩ := List.append_of_mem h |>.elim fun a h => h.elim fun b e => (⟨a, b, e, trivial⟩ : ∃ a b, l = a ++ 46 :: b ∧ True)
  clear h2 h
  rcases ib_cut 46 l with ⟨_, h1⟩ | ⟨i, _, _, h3, h4⟩
  · exact absurd (by rw [e]; simp) h1
  · exact ⟨_, _, h3, h4⟩
def untilL (l : List UInt8) : Option (List UInt8 × Nat) := if (46 : UInt8) ∈ cutZ l then (tickL (cutA (cutZ l))).map (fun n => (cutA l, n)) else none
theorem until_1 (l : List UInt8) (h : (46 : UInt8) ∉ l) : untilL l = none := by
  unfold untilL
  rw [(cut_no l h).2, if_neg (by simp)]
theorem dig46 : dig 46 = false := by decide
theorem dig_mem {l : List UInt8} (h : l.all dig = true) : (46 : UInt8) ∉ l := fun hm => by
  have := List.all_eq_true.1 h _ hm
  rw [dig46] at this
  cases this
theorem until_3 (a r : List UInt8) (h : (46 : UInt8) ∉ a) (hr : r.all dig = true) : untilL (a ++ 46 :: r) = none := by
  unfold untilL
  rw [(cut_app a r h).2, if_neg (dig_mem hr)]
theorem until_4 (a d t : List UInt8) (h : (46 : UInt8) ∉ a) (hd : d.all dig = true) : untilL (a ++ 46 :: (d ++ 46 :: t)) = if numT d ≤ 1099511627776 ∧ d = Lib.decDigits (numT d) then some (a, numT d) else none := by
  unfold untilL
  rw [(cut_app a _ h).2, (cut_app a _ h).1, if_pos (by simp), (cut_app d t (dig_mem hd)).1]
  by_cases hc : numT d ≤ 1099511627776 ∧ d = Lib.decDigits (numT d)
  · rw [if_pos hc, (tick_iff d (numT d)).2 hc]; rfl
  · rw [if_neg hc, tick_none d (fun n hn e => hc ?_)]
    · rfl
    · have : numT d = n := by rw [e, dec_num]
      rw [this]
      exact ⟨hn, e⟩
theorem until_2 (a r : List UInt8) (h : (46 : UInt8) ∉ a) (m : Nat) (c : UInt8) (hm : (r.take m).all dig = true) (hc : r[m]? = some c) (h46 : c ≠ 46) (hx : dig c = false ∨ 13 ≤ m) : untilL (a ++ 46 :: r) = none := by
  by_cases hr : (46 : UInt8) ∈ r
  · obtain ⟨d, t, rfl, hd⟩ := mem_cut r hr
    unfold untilL
    rw [(cut_app a _ h).2, if_pos (by simp), (cut_app d t hd).1, tick_none d ?_]
    · rfl
    · rintro n hn rfl
      have hl : m < (Lib.decDigits n).length := by
        rcases Nat.lt_or_ge m (Lib.decDigits n).length with h1 | h1
        · exact h1
        · exfalso
          rcases Nat.lt_or_ge (Lib.decDigits n).length m with h2 | h2
          · have h3 : (46 : UInt8) ∈ (Lib.decDigits n ++ 46 :: t).take m := by
              rw [List.take_append, List.mem_append]
              right
              obtain ⟨k, hk⟩ : ∃ k, m - (Lib.decDigits n).length = k + 1 := ⟨m - (Lib.decDigits n).length - 1, by omega⟩
              rw [hk, List.take_succ_cons]
              simp
            exact dig_mem hm h3
          · have h3 : m = (Lib.decDigits n).length := by omega
            rw [h3, List.getElem?_append_right (Nat.le_refl _), Nat.sub_self] at hc
            exact h46 (Option.some.inj hc).symm
      have h13 := dec_13 n hn
      rcases hx with hx | hx
      · rw [List.getElem?_append_left hl] at hc
        have h1 := List.all_eq_true.1 (dec_all n) c (List.mem_of_getElem? hc)
        rw [hx] at h1
        cases h1
      · omega
  · unfold untilL
    rw [(cut_app a _ h).2, if_neg hr]
theorem numT_lt : ∀ (n : Nat) (l : List UInt8), l.length ≤ n → l.all dig = true → numT l < 10 ^ l.length
  | 0, l, hl, _ => by
    obtain rfl : l = [] := List.eq_nil_of_length_eq_zero (by omega)
    decide
  | n + 1, l, hl, h => by
    rcases List.eq_nil_or_concat l with rfl | ⟨q, c, rfl⟩
    · decide
    · rw [List.concat_eq_append] at *
      rw [List.all_append, Bool.and_eq_true] at h
      have ih := numT_lt n q (by simp at hl; omega) h.1
      have hc := dig_ne (by simpa using h.2)
      rw [numT_snoc, List.length_append, List.length_singleton, Nat.pow_succ]
      omega
theorem numT_13 (l : List UInt8) (hl : l.length ≤ 13) (h : l.all dig = true) : numT l < 10000000000000 := by
  have h1 := numT_lt l.length l (Nat.le_refl _) h
  have h2 : 10 ^ l.length ≤ 10 ^ 13 := Nat.pow_le_pow_right (by decide) hl
  omega
end Go.Proofs.YtllmlngfmcbaaaaGreatDoor

namespace Go.Proofs.YtllmlngfmcbaaaaGreatDoor
open Go.RowKit

theorem tagF_tag (k l : List UInt8) : tagF (tagL k l) = true := by
  unfold tagF
  rw [tagL_length, show unhexP (tagL k l) = _ from unhex_hex _]
  rfl
theorem nam46 : isNam 46 = false := by decide
theorem name_no (l : List UInt8) (h : nameB l = true) : (46 : UInt8) ∉ l := fun hm => by
  unfold nameB at h
  simp only [Bool.and_eq_true] at h
  have := List.all_eq_true.1 h.2 _ hm
  rw [nam46] at this
  cases this
theorem cont_app (nm t : List UInt8) (n : Nat) : contL nm n ++ 46 :: t = nm ++ 46 :: (Lib.decDigits n ++ 46 :: t) := by
  unfold contL
  simp
theorem parse_app (nm t : List UInt8) (n : Nat) (hn : n ≤ 1099511627776) (h : nameB nm = true) (ht : tagF t = true) : parseL (contL nm n ++ 46 :: t) = some (nm, n, t) := by
  rw [cont_app]
  unfold parseL
  obtain ⟨e1, e2⟩ := cut_app nm (Lib.decDigits n ++ 46 :: t) (name_no nm h)
  obtain ⟨e3, e4⟩ := cut_app (Lib.decDigits n) t (dig_mem (dec_all n))
  rw [e1, e2, e3, e4, (tick_iff _ n).2 ⟨hn, rfl⟩]
  simp only
  rw [if_pos ⟨h, ht⟩]
theorem ver_sign (key name : List UInt8) (u now : Int) : verL key (signL key name u) now = if nameB name = true then (if (clampT u : Int) < now then ([], 5) else (name, 0)) else ([], 2) := by
  unfold signL
  by_cases h : nameB name = true
  · rw [if_pos h, if_pos h]
    unfold verL
    rw [parse_app name _ _ (clampT_le u) h (tagF_tag _ _)]
    simp only
    rw [if_pos trivial]
  · rw [if_neg h, if_neg h]
    have hp : parseL [] = none := by
      unfold parseL
      have e1 : cutZ [] = [] := rfl
      have e2 : cutA [] = [] := rfl
      rw [e1, e2, tick_none [] (fun n _ e => by have := dec_pos n; rw [← e] at this; simp at this)]
    unfold verL
    rw [hp]
theorem parse_form {l nm tg : List UInt8} {n : Nat} (h : parseL l = some (nm, n, tg)) : n ≤ 1099511627776 ∧ nameB nm = true ∧ tagF tg = true ∧ l = contL nm n ++ 46 :: tg := by
  obtain ⟨e1, e2, ht, hn, hf⟩ := parseL_some h
  obtain ⟨h1, h2⟩ := (tick_iff _ _).1 ht
  refine ⟨h1, hn, hf, ?_⟩
  have m1 : (46 : UInt8) ∈ l := by
    by_cases hm : (46 : UInt8) ∈ l
    · exact hm
    · exfalso
      rw [(cut_no l hm).2] at h2
      have e : cutA [] = [] := rfl
      have := dec_pos n
      rw [← h2, e] at this
      simp at this
  obtain ⟨a, b, rfl, ha⟩ := mem_cut l m1
  obtain ⟨c1, c2⟩ := cut_app a b ha
  have m2 : (46 : UInt8) ∈ b := by
    by_cases hm : (46 : UInt8) ∈ b
    · exact hm
    · exfalso
      rw [c2, (cut_no b hm).2] at e2
      rw [e2] at hf
      exact absurd hf (by decide)
  obtain ⟨d, t, rfl, hd⟩ := mem_cut b m2
  obtain ⟨c3, c4⟩ := cut_app d t hd
  rw [c2, c4] at e2
  rw [c2, c3] at h2
  rw [c1] at e1
  rw [cont_app, e1, e2, ← h2]
theorem clampT_nat (n : Nat) (h : n ≤ 1099511627776) : clampT (n : Int) = n := by unfold clampT; omega
theorem ver_ok {key l nm : List UInt8} {now : Int} (h : verL key l now = (nm, 0)) (hne : nm ≠ []) : ∃ n : Nat, n ≤ 1099511627776 ∧ now ≤ n ∧ l = contL nm n ++ 46 :: tagL key (contL nm n) ∧ nameB nm = true ∧ l = signL key nm n := by
  unfold verL at h
  cases hp : parseL l with
  | none => rw [hp] at h; simp only [Prod.mk.injEq] at h; exact absurd h.1.symm hne
  | some r =>
    obtain ⟨a, n, t⟩ := r
    rw [hp] at h
    simp only at h
    obtain ⟨h1, h2, h3, h4⟩ := parse_form hp
    by_cases ht : t = tagL key (contL a n)
    · rw [if_pos ht] at h
      by_cases hw : (n : Int) < now
      · rw [if_pos hw] at h; simp only [Prod.mk.injEq] at h; exact absurd h.1.symm hne
      · rw [if_neg hw] at h
        simp only [Prod.mk.injEq] at h
        obtain ⟨rfl, _⟩ := h
        refine ⟨n, h1, by omega, by rw [h4, ht], h2, ?_⟩
        unfold signL
        rw [if_pos h2, clampT_nat n h1, h4, ht]
    · rw [if_neg ht] at h; simp only [Prod.mk.injEq] at h; exact absurd h.1.symm hne
/-- How a Verify may end. -/
theorem ver_cases (key l : List UInt8) (now : Int) : (∃ e : Int, e ≠ 0 ∧ verL key l now = ([], e)) ∨ (∃ (nm : List UInt8) (n : Nat), verL key l now = (nm, 0) ∧ n ≤ 1099511627776 ∧ now ≤ n ∧ l = contL nm n ++ 46 :: tagL key (contL nm n) ∧ nameB nm = true ∧ l = signL key nm n) := by
  unfold verL
  cases hp : parseL l with
  | none => exact .inl ⟨2, by decide, rfl⟩
  | some r =>
    obtain ⟨a, n, t⟩ := r
    simp only
    obtain ⟨h1, h2, h3, h4⟩ := parse_form hp
    by_cases ht : t = tagL key (contL a n)
    · rw [if_pos ht]
      by_cases hw : (n : Int) < now
      · rw [if_pos hw]; exact .inl ⟨5, by decide, rfl⟩
      · rw [if_neg hw]
        refine .inr ⟨a, n, rfl, h1, by omega, by rw [h4, ht], h2, ?_⟩
        unfold signL
        rw [if_pos h2, clampT_nat n h1, h4, ht]
    · rw [if_neg ht]; exact .inl ⟨10, by decide, rfl⟩
def isHx (c : UInt8) : Bool := (48 ≤ c.toNat && c.toNat ≤ 57) || (97 ≤ c.toNat && c.toNat ≤ 102)
theorem hx_dig (c : UInt8) : decide (0 ≤ digI c) = isHx c := by revert c; apply all256; decide +kernel
theorem unhex_some : ∀ (n : Nat) (l : List UInt8), l.length = 2 * n → (unhexP l).isSome = l.all isHx
  | 0, l, h => by
    obtain rfl : l = [] := List.eq_nil_of_length_eq_zero (by omega)
    rfl
  | n + 1, l, h => by
    match l, h with
    | a :: b :: r, h =>
      have ih := unhex_some n r (by simp at h; omega)
      simp only [unhexP, List.all_cons, ← ih, ← hx_dig]
      by_cases h1 : 0 ≤ digI a
      · by_cases h2 : 0 ≤ digI b
        · rw [if_pos ⟨h1, h2⟩]; simp [h1, h2]
        · rw [if_neg (fun e => h2 e.2)]; simp [h2]
      · rw [if_neg (fun e => h1 e.1)]; simp [h1]
    | [_], h => simp at h; omega
    | [], h => simp at h
theorem tagF_eq (t : List UInt8) : tagF t = (t.all isHx && decide (t.length = 32)) := by
  unfold tagF
  by_cases h : t.length = 32
  · rw [unhex_some 16 t h]
  · rw [decide_eq_false h]; simp
/-- What the reference reads first. -/
theorem until_form {l a : List UInt8} {n : Nat} (h : untilL l = some (a, n)) : n ≤ 1099511627776 ∧ (46 : UInt8) ∉ a ∧ ∃ t, l = contL a n ++ 46 :: t ∧ parseL l = if nameB a = true ∧ tagF t = true then some (a, n, t) else none := by
  unfold untilL at h
  by_cases hm : (46 : UInt8) ∈ cutZ l
  · rw [if_pos hm] at h
    obtain ⟨m, ht, he⟩ := Option.map_eq_some_iff.1 h
    simp only [Prod.mk.injEq] at he
    obtain ⟨rfl, rfl⟩ := he
    obtain ⟨h1, h2⟩ := (tick_iff _ _).1 ht
    by_cases hl : (46 : UInt8) ∈ l
    · obtain ⟨a, b, rfl, ha⟩ := mem_cut l hl
      obtain ⟨c1, c2⟩ := cut_app a b ha
      rw [c2] at hm h2 ht
      obtain ⟨d, t, rfl, hd⟩ := mem_cut b hm
      obtain ⟨c3, c4⟩ := cut_app d t hd
      rw [c3] at h2 ht
      refine ⟨h1, by rw [c1]; exact ha, t, by rw [c1, cont_app, ← h2], ?_⟩
      unfold parseL
      rw [c2, c3, c4, ht]
    · rw [(cut_no l hl).2] at hm
      simp at hm
  · rw [if_neg hm] at h; cases h
theorem until_parse {l : List UInt8} (h : untilL l = none) : parseL l = none := by
  cases hp : parseL l with
  | none => rfl
  | some r =>
    obtain ⟨a, n, t⟩ := r
    obtain ⟨h1, h2, h3, h4⟩ := parse_form hp
    exfalso
    rw [h4, cont_app, until_4 a (Lib.decDigits n) t (name_no a h2) (dec_all n), dec_num, if_pos ⟨h1, rfl⟩] at h
    cases h
end Go.Proofs.YtllmlngfmcbaaaaGreatDoor
