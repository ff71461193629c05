/- Packed: ReE, ReF, ReG, ReH, PbD, PbE, PbF, PbG, RwE, RsA. -/
import Derived.Test.YtbbphklhnngjmaaGreatDoorS08
import Derived.Test.YtbbphklhnngjmaaGreatDoorS10
import Derived.Test.YtbbphklhnngjmaaGreatDoorS11
import Derived.Test.YtbbphklhnngjmaaGreatDoorS14
/- response: the head at offset 1 of its block (written by genoff.py out of XHeE.lean). -/
namespace Go.Proofs.YtbbphklhnngjmaaGreatDoor.R
open Go.RowKit
/-- A head in memory that stands at a machine's place. -/
def HeS (G : Nat → Prop) (T : TypeId) (rest : List Value) (w : World) (g : Nat) (M : HdL) (b : Int) (σ : HdS) : Prop :=
  ∃ L H C b' st f fs sz cur cr e, HeRep M b σ L H C b' st f fs sz cur cr e ∧ He G T rest w g L H C b' st f fs sz cur cr e
section
variable {G : Nat → Prop} {T : TypeId} {rest : List Value} {w w' : World} {g : Nat} {M : HdL} {b : Int} {σ : HdS}
theorem HeS.below (h : HeS G T rest w g M b σ) (hb : Below w.heap.size w w') : HeS G T rest w' g M b σ := by
  obtain ⟨L, H, C, b', st, f, fs, sz, cur, cr, e, hr, hd⟩ := h
  exact ⟨L, H, C, b', st, f, fs, sz, cur, cr, e, hr, hd.below hb⟩
theorem HeS.less (h : HeS G T rest w g M b σ) : HeS (fun j => G j ∧ j < w.heap.size) T rest w g M b σ := by
  obtain ⟨L, H, C, b', st, f, fs, sz, cur, cr, e, hr, hd⟩ := h
  exact ⟨L, H, C, b', st, f, fs, sz, cur, cr, e, hr, hd.less⟩
theorem HeS.more {G' : Nat → Prop} (h : HeS G T rest w g M b σ) (hg : ∀ j, j < w.heap.size → G j → G' j) : HeS G' T rest w g M b σ := by
  obtain ⟨L, H, C, b', st, f, fs, sz, cur, cr, e, hr, hd⟩ := h
  exact ⟨L, H, C, b', st, f, fs, sz, cur, cr, e, hr, hd.more hg⟩
end
section
variable (G : Nat → Prop) (T : TypeId) (rest : List Value) (g : Nat) (L H C B st : Int) (f : ByteArray) (fs : List Fld) (sz : Nat) (cur : List UInt8) (e : Int)
set_option maxHeartbeats 1000000 in
theorem htake_fail (cr : Bool) (c : UInt8) (hc : (cr != decide (c = 10)) = true) (w : World) (h : He G T rest w g L H C B st f fs sz cur cr e) :
    Calls Tryz.prog 128 #[.pointer (some ⟨g, 1, none⟩), .int .u8 (c.toNat : Int)] w fun r w' => r = .returned (.tuple #[]) ∧ He G T rest w' g 0 0 0 0 3 ⟨#[]⟩ [] 0 [] false 2 ∧ Keep G w w' := by
  have HX := Lib.hid (hfail40 G T rest g L H C B st f fs sz cur cr e 2 w h)
  obtain ⟨rv, ln, h⟩ := h
  have c9 := h.c.2.2.2.2.2.2.2.2.2.1
  have hd : ((c.toNat : Int) == 10) = decide (c = 10) := by
    by_cases h : c = 10
    · subst h; rfl
    · rw [decide_eq_false h]
      exact beq_eq_false_iff_ne.2 (fun e => h (UInt8.toNat_inj.1 (by have : (10 : UInt8).toNat = 10 := rfl; omega)))
  obtain ⟨q, hq⟩ : ∃ q, decide (c = 10) = q := ⟨_, rfl⟩
  rw [hq] at hc hd
  clear h hq
  have hq2 : (cr = true ∧ q = false) ∨ (cr = false ∧ q = true) := by cases cr <;> cases q <;> simp at hc ⊢
  clear hc
  rcases hq2 with ⟨rfl, rfl⟩ | ⟨rfl, rfl⟩
  · go_enter Tryz.func128, Tryz.ntmps128
    go_wp2_with fail
    with_reducible refine HX.out.mono ?_
    rintro e9 w9 ⟨rfl, hd9, hk9⟩
    go_wp2_with fail
    go_end0
    exact ⟨rfl, hd9, hk9⟩
  · go_enter Tryz.func128, Tryz.ntmps128
    go_wp2_with fail
    with_reducible refine HX.out.mono ?_
    rintro e9 w9 ⟨rfl, hd9, hk9⟩
    go_wp2_with fail
    go_end0
    exact ⟨rfl, hd9, hk9⟩
set_option maxHeartbeats 1000000 in
theorem htake_end (P : World → Prop) (w : World) (h : He G T rest w g L H C B st f fs sz cur true e) (hc : Calls Tryz.prog 147 #[.pointer (some ⟨g, 1, none⟩)] w fun r w' => r = .returned (.tuple #[]) ∧ P w') :
    Calls Tryz.prog 128 #[.pointer (some ⟨g, 1, none⟩), .int .u8 10] w fun r w' => r = .returned (.tuple #[]) ∧ P w' := by
  have HX := Lib.hid hc
  obtain ⟨rv, ln, h⟩ := h
  have c9 := h.c.2.2.2.2.2.2.2.2.2.1
  clear h hc
  go_enter Tryz.func128, Tryz.ntmps128
  go_wp2_with fail
  with_reducible refine HX.out.mono ?_
  rintro e9 w9 ⟨rfl, hp9⟩
  go_wp2_with fail
  go_end0
  exact ⟨rfl, hp9⟩
set_option maxHeartbeats 1000000 in
theorem htake_cr (w : World) (h : He G T rest w g L H C B st f fs sz cur false e) :
    Calls Tryz.prog 128 #[.pointer (some ⟨g, 1, none⟩), .int .u8 13] w fun r w' => r = .returned (.tuple #[]) ∧ He G T rest w' g L H C B st f fs sz cur true e ∧ Keep G w w' := by
  obtain ⟨rv, ln, h⟩ := h
  have c9 := h.c.2.2.2.2.2.2.2.2.2.1
  have f9 := h.row.free 10
  have HD := Lib.hid h
  clear h
  go_enter Tryz.func128, Tryz.ntmps128
  go_wp2_with fail
  go_end0
  exact ⟨rfl, (HD.out.set9 true).he, Keep.setCell w (p := ⟨g, 10, none⟩) HD.out.gG _⟩
set_option maxHeartbeats 1000000 in
theorem htake_ext (P : World → Prop) (c : UInt8) (h10 : c ≠ 10) (h13 : c ≠ 13) (w : World) (h : He G T rest w g L H C B st f fs sz cur false e) (hc : Calls Tryz.prog 148 #[.pointer (some ⟨g, 1, none⟩), .int .u8 (c.toNat : Int)] w fun r w' => r = .returned (.tuple #[]) ∧ P w') :
    Calls Tryz.prog 128 #[.pointer (some ⟨g, 1, none⟩), .int .u8 (c.toNat : Int)] w fun r w' => r = .returned (.tuple #[]) ∧ P w' := by
  have HX := Lib.hid hc
  obtain ⟨rv, ln, h⟩ := h
  have c9 := h.c.2.2.2.2.2.2.2.2.2.1
  have n10 : ((c.toNat : Int) == 10) = false := beq_eq_false_iff_ne.2 (fun e => h10 (UInt8.toNat_inj.1 (by have : (10 : UInt8).toNat = 10 := rfl; omega)))
  have n13 : ((c.toNat : Int) == 13) = false := beq_eq_false_iff_ne.2 (fun e => h13 (UInt8.toNat_inj.1 (by have : (13 : UInt8).toNat = 13 := rfl; omega)))
  clear h hc h10 h13
  go_enter Tryz.func128, Tryz.ntmps128
  go_wp2_with fail
  with_reducible refine HX.out.mono ?_
  rintro e9 w9 ⟨rfl, hp9⟩
  go_wp2_with fail
  go_end0
  exact ⟨rfl, hp9⟩
end
/-- take, at a place that isn't an end. -/
theorem htake_s (G : Nat → Prop) (T : TypeId) (rest : List Value) (g : Nat) (M : HdL) (b : Int) (σ : HdS) (hh : σ.halt = false) (hwt : σ.wt ≤ 1000000000) (c : UInt8) (w : World) (h : HeS G T rest w g M b σ) (hu : Up G w) (hM : ∀ w', Keep G w w' → MaxL w') :
    Calls Tryz.prog 128 #[.pointer (some ⟨g, 1, none⟩), .int .u8 (c.toNat : Int)] w fun r w' => r = .returned (.tuple #[]) ∧ HeS G T rest w' g M b (M.step anyFirst σ c) ∧ Keep G w w' := by
  have ERR : ∀ e : Int, e ≠ 0 → ∀ w', He G T rest w' g 0 0 0 0 3 ⟨#[]⟩ [] 0 [] false e → HeS G T rest w' g M b (.err e) := fun e he w' h => ⟨_, _, _, _, _, _, _, _, _, _, _, .err e he, h⟩
  obtain ⟨L, H, C, b', st, f, fs, sz, cur, cr, e, hr, hd⟩ := h
  cases hr with
  | done s fs sz => cases hh
  | err e h0 => cases hh
  | line0 cur cr =>
    simp only [HdS.wt, List.length_nil] at hwt
    cases cr with
    | true =>
      by_cases h10 : c = 10
      · subst h10
        have hs : M.step anyFirst (.line none [] 0 cur true) 10 = .line (some cur) [] 0 [] false := rfl
        rw [hs]
        refine (htake_end G T rest g _ _ _ _ _ _ _ _ _ _ _ w hd (hend0 G T rest g _ _ _ _ _ _ _ _ _ _ w hd)).mono ?_
        rintro r w' ⟨rfl, h1, h2⟩
        exact ⟨rfl, ⟨_, _, _, _, _, _, _, _, _, _, _, .line1 cur [] 0 [] false, h1⟩, h2⟩
      · have hs : M.step anyFirst (.line none [] 0 cur true) c = .err 2 := by simp only [HdL.step]; rw [if_pos trivial, if_neg h10]
        rw [hs]
        refine (htake_fail G T rest g _ _ _ _ _ _ _ _ _ _ true c (by simp [h10]) w hd).mono ?_
        rintro r w' ⟨rfl, h1, h2⟩
        exact ⟨rfl, ERR 2 (by decide) _ h1, h2⟩
    | false =>
      by_cases h10 : c = 10
      · subst h10
        have hs : M.step anyFirst (.line none [] 0 cur false) 10 = .err 2 := rfl
        rw [hs]
        refine (htake_fail G T rest g _ _ _ _ _ _ _ _ _ _ false 10 (by simp) w hd).mono ?_
        rintro r w' ⟨rfl, h1, h2⟩
        exact ⟨rfl, ERR 2 (by decide) _ h1, h2⟩
      · by_cases h13 : c = 13
        · subst h13
          have hs : M.step anyFirst (.line none [] 0 cur false) 13 = .line none [] 0 cur true := rfl
          rw [hs]
          refine (htake_cr G T rest g _ _ _ _ _ _ _ _ _ _ w hd).mono ?_
          rintro r w' ⟨rfl, h1, h2⟩
          exact ⟨rfl, ⟨_, _, _, _, _, _, _, _, _, _, _, .line0 cur true, h1⟩, h2⟩
        · by_cases hlong : max 0 M.line ≤ (cur.length : Int)
          · have hs : M.step anyFirst (.line none [] 0 cur false) c = .err 4 := by
              simp only [HdL.step]
              rw [if_neg (by decide), if_neg h10, if_neg h13]
              exact if_pos hlong
            rw [hs]
            refine (htake_ext G T rest g _ _ _ _ _ _ _ _ _ _ _ c h10 h13 w hd (hext42 G T rest g _ _ _ _ _ _ _ _ _ _ _ c true (.inl ⟨rfl, (decide_eq_true (by omega)).symm⟩) (by omega) w hd hu)).mono ?_
            rintro r w' ⟨rfl, h1, h2⟩
            exact ⟨rfl, ERR 4 (by decide) _ h1, h2⟩
          · have hs : M.step anyFirst (.line none [] 0 cur false) c = .line none [] 0 (cur ++ [c]) false := by
              simp only [HdL.step]
              rw [if_neg (by decide), if_neg h10, if_neg h13]
              exact if_neg hlong
            rw [hs]
            refine (htake_ext G T rest g _ _ _ _ _ _ _ _ _ _ _ c h10 h13 w hd (hext42 G T rest g _ _ _ _ _ _ _ _ _ _ _ c false (.inl ⟨rfl, (decide_eq_false (by omega)).symm⟩) (by omega) w hd hu)).mono ?_
            rintro r w' ⟨rfl, h1, h2⟩
            exact ⟨rfl, ⟨_, _, _, _, _, _, _, _, _, _, _, .line0 (cur ++ [c]) false, h1⟩, h2⟩
  | line1 s fs sz cur cr =>
    simp only [HdS.wt] at hwt
    cases cr with
    | true =>
      by_cases h10 : c = 10
      · subst h10
        have hs : M.step anyFirst (.line (some s) fs sz cur true) 10 = M.close anyFirst (some s) fs sz cur := rfl
        rw [hs]
        by_cases h0 : cur = []
        · have hc : M.close anyFirst (some s) fs sz cur = .done s fs := by simp only [HdL.close]; rw [if_pos h0]
          rw [hc]
          refine (htake_end G T rest g _ _ _ _ _ _ _ _ _ _ _ w hd (hend1 G T rest g _ _ _ _ _ _ _ _ _ _ h0 w hd)).mono ?_
          rintro r w' ⟨rfl, h1, h2⟩
          exact ⟨rfl, ⟨_, _, _, _, _, _, _, _, _, _, _, .done s fs sz, h1⟩, h2⟩
        · have hpv : ∃ (N V : List UInt8) (e1 : Int), parseV cur = .tuple #[fldV (N, V), .int .i64 e1] ∧ ((e1 = 0 ∧ parseL cur = some (N, V)) ∨ (e1 = 2 ∧ parseL cur = none)) := by
            unfold parseV
            cases hp : parseL cur with
            | none => exact ⟨[], [], 2, rfl, .inr ⟨rfl, rfl⟩⟩
            | some g => exact ⟨g.1, g.2, 0, rfl, .inl ⟨rfl, rfl⟩⟩
          obtain ⟨N, V, e1, hp, hcase⟩ := hpv
          obtain ⟨E, hE⟩ : ∃ E : Int, E = if max 0 M.head < (sz : Int) + ((cur.length : Int) + 2) ∨ max 0 M.count < (fs.length : Int) + 1 then 4 else e1 := ⟨_, rfl⟩
          refine (htake_end G T rest g _ _ _ _ _ _ _ _ _ _ _ w hd (hend2 G T rest g _ _ _ _ _ _ _ _ _ _ h0 N V e1 E (hcase.imp (·.1) (·.1)) hp hE (by omega) (by omega) w hd hu hM)).mono ?_
          rintro r w' ⟨rfl, h1, h2⟩
          refine ⟨rfl, ?_, h2⟩
          by_cases hbig : max 0 M.head < (sz : Int) + ((cur.length : Int) + 2) ∨ max 0 M.count < (fs.length : Int) + 1
          · have hc : M.close anyFirst (some s) fs sz cur = .err 4 := by
              simp only [HdL.close]
              rw [if_neg h0, if_pos]
              rcases hbig with h | h
              · left; omega
              · right; omega
            rw [hc]
            rw [if_pos hbig] at hE
            subst hE
            exact ERR 4 (by decide) _ h1
          · rw [if_neg hbig] at hE
            subst hE
            have hnb : ¬ (max 0 M.head < ((sz + cur.length + 2 : Nat) : Int) ∨ max 0 M.count ≤ (fs.length : Int)) := by
              rintro (h | h)
              · exact hbig (.inl (by omega))
              · exact hbig (.inr (by omega))
            rcases hcase with ⟨rfl, hl⟩ | ⟨rfl, hl⟩
            · have hc : M.close anyFirst (some s) fs sz cur = .line (some s) (fs ++ [(N, V)]) (sz + cur.length + 2) [] false := by
                simp only [HdL.close]
                rw [if_neg h0, if_neg hnb, hl]
              rw [hc]
              exact ⟨_, _, _, _, _, _, _, _, _, _, _, .line1 s (fs ++ [(N, V)]) (sz + cur.length + 2) [] false, h1⟩
            · have hc : M.close anyFirst (some s) fs sz cur = .err 2 := by
                simp only [HdL.close]
                rw [if_neg h0, if_neg hnb, hl]
              rw [hc]
              exact ERR 2 (by decide) _ h1
      · have hs : M.step anyFirst (.line (some s) fs sz cur true) c = .err 2 := by simp only [HdL.step]; rw [if_pos trivial, if_neg h10]
        rw [hs]
        refine (htake_fail G T rest g _ _ _ _ _ _ _ _ _ _ true c (by simp [h10]) w hd).mono ?_
        rintro r w' ⟨rfl, h1, h2⟩
        exact ⟨rfl, ERR 2 (by decide) _ h1, h2⟩
    | false =>
      by_cases h10 : c = 10
      · subst h10
        have hs : M.step anyFirst (.line (some s) fs sz cur false) 10 = .err 2 := rfl
        rw [hs]
        refine (htake_fail G T rest g _ _ _ _ _ _ _ _ _ _ false 10 (by simp) w hd).mono ?_
        rintro r w' ⟨rfl, h1, h2⟩
        exact ⟨rfl, ERR 2 (by decide) _ h1, h2⟩
      · by_cases h13 : c = 13
        · subst h13
          have hs : M.step anyFirst (.line (some s) fs sz cur false) 13 = .line (some s) fs sz cur true := rfl
          rw [hs]
          refine (htake_cr G T rest g _ _ _ _ _ _ _ _ _ _ w hd).mono ?_
          rintro r w' ⟨rfl, h1, h2⟩
          exact ⟨rfl, ⟨_, _, _, _, _, _, _, _, _, _, _, .line1 s fs sz cur true, h1⟩, h2⟩
        · by_cases hlong : max 0 M.head - sz ≤ (cur.length : Int)
          · have hs : M.step anyFirst (.line (some s) fs sz cur false) c = .err 4 := by
              simp only [HdL.step]
              rw [if_neg (by decide), if_neg h10, if_neg h13]
              exact if_pos hlong
            rw [hs]
            refine (htake_ext G T rest g _ _ _ _ _ _ _ _ _ _ _ c h10 h13 w hd (hext42 G T rest g _ _ _ _ _ _ _ _ _ _ _ c true (.inr ⟨rfl, (decide_eq_true (by omega)).symm⟩) (by omega) w hd hu)).mono ?_
            rintro r w' ⟨rfl, h1, h2⟩
            exact ⟨rfl, ERR 4 (by decide) _ h1, h2⟩
          · have hs : M.step anyFirst (.line (some s) fs sz cur false) c = .line (some s) fs sz (cur ++ [c]) false := by
              simp only [HdL.step]
              rw [if_neg (by decide), if_neg h10, if_neg h13]
              exact if_neg hlong
            rw [hs]
            refine (htake_ext G T rest g _ _ _ _ _ _ _ _ _ _ _ c h10 h13 w hd (hext42 G T rest g _ _ _ _ _ _ _ _ _ _ _ c false (.inr ⟨rfl, (decide_eq_false (by omega)).symm⟩) (by omega) w hd hu)).mono ?_
            rintro r w' ⟨rfl, h1, h2⟩
            exact ⟨rfl, ⟨_, _, _, _, _, _, _, _, _, _, _, .line1 s fs sz (cur ++ [c]) false, h1⟩, h2⟩
end Go.Proofs.YtbbphklhnngjmaaGreatDoor.R

/- response: the head at offset 1 of its block (written by genoff.py out of XHeF.lean). -/
namespace Go.Proofs.YtbbphklhnngjmaaGreatDoor.R
open Go.RowKit

section
variable {M : HdL} {b : Int} {σ : HdS} {L H C b' st : Int} {f : ByteArray} {fs : List Fld} {sz : Nat} {cur : List UInt8} {cr : Bool} {e : Int}
end
section
variable (G : Nat → Prop) (T : TypeId) (rest : List Value) (g : Nat) (M : HdL) (b : Int) (σ : HdS)
theorem hdoneS (w : World) (h : HeS G T rest w g M b σ) :
    Calls Tryz.prog 92 #[.pointer (some ⟨g, 1, none⟩)] w fun x w' => x = .returned (.bool σ.fin) ∧ w = w' := by
  obtain ⟨L, H, C, b', st, f, fs, sz, cur, cr, e, hr, hd⟩ := h
  exact hdone9 G T rest g _ _ _ _ _ _ _ _ _ _ _ _ (he_done hr) w hd
theorem hbegunS (w : World) (h : HeS G T rest w g M b σ) :
    Calls Tryz.prog 90 #[.pointer (some ⟨g, 1, none⟩)] w fun x w' => x = .returned (.bool σ.begun) ∧ w = w' := by
  obtain ⟨L, H, C, b', st, f, fs, sz, cur, cr, e, hr, hd⟩ := h
  rw [← he_begun hr]
  exact hbegun12 G T rest g _ _ _ _ _ _ _ _ _ _ _ _ _ rfl rfl w hd
theorem hfirstS (w : World) (h : HeS G T rest w g M b σ) :
    Calls Tryz.prog 114 #[.pointer (some ⟨g, 1, none⟩)] w fun x w' => x = .returned (.string (bs σ.firstOf)) ∧ w = w' := by
  obtain ⟨L, H, C, b', st, f, fs, sz, cur, cr, e, hr, hd⟩ := h
  rw [← he_first hr]
  exact hfirst13 G T rest g _ _ _ _ _ _ _ _ _ _ _ w hd
/-- What Feed comes to. -/
def HFeedTo (w : World) (l : List UInt8) (r : Ending) (w' : World) : Prop :=
  r = .returned (.tuple #[.string (bs (if (hRun M σ l).errOf = 0 then hLeft M σ l else [])), .int .i64 (hRun M σ l).errOf]) ∧ HeS G T rest w' g M b (hRun M σ l) ∧ Keep G w w'
end
set_option maxRecDepth 100000 in
set_option maxHeartbeats 4000000 in
theorem hfeed10 (G : Nat → Prop) (T : TypeId) (rest : List Value) (g : Nat) (M : HdL) (b : Int) (σ : HdS) (l : List UInt8) (hbd : σ.wt + 4 * l.length ≤ 1000000000) (w : World) (h : HeS G T rest w g M b σ) (hu : Up G w) (hM : ∀ w', Keep G w w' → MaxL w') :
    Calls Tryz.prog 112 #[.pointer (some ⟨g, 1, none⟩), .string (bs l)] w (HFeedTo G T rest g M b σ w l) := by
  have H0 := Lib.hid h
  have HU := Lib.hid hu
  have HY := Lib.hid hM
  have HBD := Lib.hid hbd
  have HK0 := Lib.hid (Keep.refl G w)
  clear h hu hM hbd
  obtain ⟨S, hS⟩ : ∃ S, S = bs l := ⟨_, rfl⟩
  rw [← hS]
  have HS := Lib.hid hS
  clear hS
  go_enter Tryz.func112, Tryz.ntmps112
  go_wp2_with fail
  go_loopw [1] (fun sv wr => ∃ (s : ByteArray) (σ' : HdS), sv = .string s ∧ Hid (HeS G T rest wr g M b σ') ∧ Hid (Keep G w wr) ∧ Hid (hRun M σ l = hRun M σ' s.data.toList ∧ ((hRun M σ l).errOf = 0 → hLeft M σ l = hLeft M σ' s.data.toList) ∧ σ'.wt + 4 * s.data.toList.length ≤ 1000000000)) (fun sv _ => (strOfH sv).size)
  case atStart => exact ⟨S, σ, rfl, H0, HK0, by rw [HS.out]; exact ⟨rfl, fun _ => rfl, HBD.out⟩⟩
  case round =>
    clear H0 HK0 HBD
    obtain ⟨s, σ', rfl, HD, HK, HR⟩ := hrel
    obtain ⟨L, H, C, b', st, f, fs, sz, cur, cr, e, hr, hdc⟩ := HD.out
    obtain ⟨rv, ln, hda⟩ := hdc
    have c4 := hda.c.2.2.2.2.1
    have c10 := hda.c.2.2.2.2.2.2.2.2.2.2
    have HREP := Lib.hid hr
    clear hda
    have FT : ∀ (v : ByteArray) (q : Int), (v = bs (if (hRun M σ' s.data.toList).errOf = 0 then hLeft M σ' s.data.toList else [])) → q = (hRun M σ' s.data.toList).errOf → ∀ wz, HeS G T rest wz g M b (hRun M σ' s.data.toList) → Keep G wr wz → HFeedTo G T rest g M b σ w l (.returned (.tuple #[.string v, .int .i64 q])) wz := by
      rintro v q rfl rfl wz h hk
      obtain ⟨r1, r2, _⟩ := HR.out
      unfold HFeedTo
      rw [r1]
      rw [r1] at r2
      refine ⟨?_, h, HK.out.trans hk⟩
      by_cases he : (hRun M σ' s.data.toList).errOf = 0
      · rw [if_pos he, if_pos he, r2 he]
      · rw [if_neg he, if_neg he]
    have HFT := Lib.hid FT
    clear FT
    have DN : ∀ k, Below wr.heap.size wr (wr.drewN k) := fun k => ⟨rfl, rfl, rfl, Nat.le_refl _, fun _ _ => rfl⟩
    have HDN := Lib.hid DN
    clear DN
    rcases he_three σ' with ⟨s0, fl, rfl⟩ | ⟨e0, rfl⟩ | hh
    · obtain rfl := he_fin hr
      clear hr
      have hrun : hRun M (.done s0 fl) s.data.toList = .done s0 fl := mRun_fin _ _ (hd_fin M anyFirst) _ rfl _
      have FX := Lib.hid (HFT.out s 0 (by rw [hrun]; show _ = bs (if (0 : Int) = 0 then _ else _); rw [if_pos rfl]; show _ = bs (mLeft _ _ _ _); rw [mLeft_fin _ _ _ _ rfl, bs_of]) (by rw [hrun]; rfl) wr (by rw [hrun]; exact HD.out) (Keep.refl G wr))
      clear HFT hrun
      by_cases hne : 0 < s.size
      · have e1 := emp_false s hne
        go_wp2_with fail
        go_ret2
        exact FX.out
      · obtain rfl := empty_of s hne
        go_wp2_with fail
        go_ret2
        exact FX.out
    · have hne0 := rep_errNe hr
      obtain ⟨rfl, rfl⟩ := he_err hr
      clear hr
      have FX := Lib.hid (fun k => HFT.out ⟨#[]⟩ e (by rw [show hRun M (.err e) s.data.toList = .err e from hdRun_err M anyFirst e _]; show _ = bs (if e = 0 then _ else _); rw [if_neg hne0]; rfl) (by rw [show hRun M (.err e) s.data.toList = .err e from hdRun_err M anyFirst e _]; rfl) (wr.drewN k) (by rw [show hRun M (.err e) s.data.toList = .err e from hdRun_err M anyFirst e _]; exact HD.out.below (HDN.out k)) (.of_below (HDN.out k)))
      clear HFT hne0
      by_cases hne : 0 < s.size
      · have e1 := emp_false s hne
        go_wp2_with fail
        go_quiet (fail)
        go_wp2_with fail
        go_ret2
        exact FX.out _
      · obtain rfl := empty_of s hne
        go_wp2_with fail
        go_quiet (fail)
        go_wp2_with fail
        go_ret2
        exact FX.out _
    · obtain ⟨t5, t6, t6'⟩ := he_on hr hh
      by_cases hne : 0 < s.size
      · have e1 := emp_false s hne
        have hcons := list_cons s hne
        obtain ⟨x, hx⟩ : ∃ x, x = s[0] := ⟨_, rfl⟩
        rw [← hx] at hcons
        obtain ⟨s9, hs9⟩ : ∃ s9, s9 = s.extract 1 s.size := ⟨_, rfl⟩
        have hex : s.extract 1 s.size = s9 := hs9.symm
        rw [hex] at hcons
        have hz9 : s9.size + 1 = s.size := by rw [Lib.size_eq, Lib.size_eq s, hcons]; rfl
        obtain ⟨r1, r2, r3⟩ := HR.out
        rw [hcons, List.length_cons] at r3
        have hsx : (s[0].toNat : Int) = x.toNat := by rw [hx]
        have HST := Lib.hid (htake_s G T rest g M b σ' hh (by omega) x wr HD.out (HU.out.keep HK.out) (fun w' hk => HY.out w' (HK.out.trans hk)))
        have HN : Hid (hRun M σ l = hRun M (M.step anyFirst σ' x) s9.data.toList ∧ ((hRun M σ l).errOf = 0 → hLeft M σ l = hLeft M (M.step anyFirst σ' x) s9.data.toList) ∧ (M.step anyFirst σ' x).wt + 4 * s9.data.toList.length ≤ 1000000000) := by
          have hw := wt_step M σ' x
          refine ⟨?_, ?_, by omega⟩
          · rw [r1, hcons]; exact mRun_cons ..
          · intro h0
            rw [r2 h0, hcons]
            exact mLeft_cons _ _ _ _ _ (halt_fin hh)
        clear hr hh hcons hx hs9 r1 r2 r3 HFT t6' HD HREP
        go_wp2_with fail
        refine HST.out.mono ?_
        rintro r9 w9 ⟨rfl, hd9, hk9⟩
        have HD9 := Lib.hid hd9
        have HK9 := Lib.hid (HK.out.trans hk9)
        clear hd9 hk9 HST
        go_wp2_with fail
        go_roundw
        case rel => exact ⟨s9, _, rfl, HD9, HK9, HN⟩
        case measure => show s9.size < s.size; omega
      · obtain rfl := empty_of s hne
        have hrun : hRun M σ' (⟨#[]⟩ : ByteArray).data.toList = σ' := rfl
        have FX := Lib.hid (fun k => HFT.out ⟨#[]⟩ 0 (by rw [hrun, halt_err hh]; show _ = bs (if (0 : Int) = 0 then _ else _); rw [if_pos rfl]; rfl) (by rw [hrun, halt_err hh]) (wr.drewN k) (by rw [hrun]; exact HD.out.below (HDN.out k)) (.of_below (HDN.out k)))
        have FX0 := Lib.hid (HFT.out ⟨#[]⟩ 0 (by rw [hrun, halt_err hh]; show _ = bs (if (0 : Int) = 0 then _ else _); rw [if_pos rfl]; rfl) (by rw [hrun, halt_err hh]) wr (by rw [hrun]; exact HD.out) (Keep.refl G wr))
        clear HFT hr hh hrun
        go_wp2_with fail
        go_ret2
        first | exact FX0.out | exact FX.out _
end Go.Proofs.YtbbphklhnngjmaaGreatDoor.R

/- response: the head at offset 1 of its block (written by genoff.py out of XPaA.lean). -/
namespace Go.Proofs.YtbbphklhnngjmaaGreatDoor.R
open Go.RowKit
section
variable {G : Nat → Prop} {T : TypeId} {rest : List Value} {w w' : World} {g : Nat} {L H C B st : Int} {f : ByteArray} {fs : List Fld} {sz : Nat} {cur : List UInt8} {cr : Bool} {e : Int} {rv ln : Value} {M : HdL} {b : Int} {σ : HdS}
theorem HeAt.setR (h : HeAt G T rest w g L H C B st f fs sz cur cr e rv ln) (i : Nat) (u : Value) : HeAt G T (rest.set (i + 1) u) (w.setCell ⟨g, i + 12, none⟩ u) g L H C B st f fs sz cur cr e rv ln := by
  have hp := h.put (i + 12) u
  cases rest with
  | nil => exact ⟨hp, h.t1, h.t2, h.gG, own_set h.ro h.row h.t2 _, own_set h.lo h.row h.t1 _, h.rG, h.lG⟩
  | cons a t => exact ⟨hp, h.t1, h.t2, h.gG, own_set h.ro h.row h.t2 _, own_set h.lo h.row h.t1 _, h.rG, h.lG⟩
theorem HeS.setR (h : HeS G T rest w g M b σ) (i : Nat) (u : Value) : HeS G T (rest.set (i + 1) u) (w.setCell ⟨g, i + 12, none⟩ u) g M b σ := by
  obtain ⟨L, H, C, b', st, f, fs, sz, cur, cr, e, hr, rv, ln, hd⟩ := h
  exact ⟨L, H, C, b', st, f, fs, sz, cur, cr, e, hr, rv, ln, hd.setR i u⟩
theorem HeS.cellR (h : HeS G T rest w g M b σ) (i : Nat) : w.cell? ⟨g, i + 12, none⟩ = rest.tail[i]? := by
  obtain ⟨L, H, C, b', st, f, fs, sz, cur, cr, e, hr, rv, ln, hd⟩ := h
  exact hd.cell (i + 12)
theorem HeS.cell0 (h : HeS G T rest w g M b σ) : w.cell? ⟨g, 0, none⟩ = some (rest.headD (.string ⟨#[]⟩)) := by
  obtain ⟨L, H, C, b', st, f, fs, sz, cur, cr, e, hr, rv, ln, hd⟩ := h
  exact hd.cell 0
theorem HeS.free (h : HeS G T rest w g M b σ) (i : Nat) : w.frozen? ⟨g, i, none⟩ = false := by
  obtain ⟨L, H, C, b', st, f, fs, sz, cur, cr, e, hr, rv, ln, hd⟩ := h
  exact hd.row.free i
theorem HeS.lt (h : HeS G T rest w g M b σ) : g < w.heap.size := by
  obtain ⟨L, H, C, b', st, f, fs, sz, cur, cr, e, hr, rv, ln, hd⟩ := h
  exact hd.row.lt
theorem HeS.gG (h : HeS G T rest w g M b σ) : G g := by
  obtain ⟨L, H, C, b', st, f, fs, sz, cur, cr, e, hr, rv, ln, hd⟩ := h
  exact hd.gG
theorem HeS.keep {K : Nat → Prop} (h : HeS G T rest w g M b σ) (hk : Keep K w w') (hn : ∀ j, G j → ¬ K j) : HeS G T rest w' g M b σ := by
  obtain ⟨L, H, C, b', st, f, fs, sz, cur, cr, e, hr, rv, ln, hd⟩ := h
  exact ⟨L, H, C, b', st, f, fs, sz, cur, cr, e, hr, rv, ln, hd.row.keep hk (hn _ hd.gG), hd.t1, hd.t2, hd.gG, own_keep hd.ro hk (fun j hj => hn j (hd.rG j hj)), own_keep hd.lo hk (fun j hj => hn j (hd.lG j hj)), hd.rG, hd.lG⟩
end
section
variable (G : Nat → Prop) (g : Nat) (M : HdL) (b : Int) (σ : HdS) (m t : ByteArray) (fv : Value) (wt : Bool) (e : Int)
end
end Go.Proofs.YtbbphklhnngjmaaGreatDoor.R

/- response: the head at offset 1 of its block (written by genoff.py out of XPbC.lean). -/
namespace Go.Proofs.YtbbphklhnngjmaaGreatDoor.R
open Go.RowKit

set_option maxRecDepth 100000 in
set_option maxHeartbeats 2000000 in
/-- Head's Fields, and where they lie. -/
theorem hfields15b (G : Nat → Prop) (T : TypeId) (rest : List Value) (g : Nat) (M : HdL) (b : Int) (σ : HdS) (hl : σ.fldsOf.length ≤ 1000000000) (w : World) (h : HeS G T rest w g M b σ) :
    Calls Tryz.prog 69 #[.pointer (some ⟨g, 1, none⟩)] w fun x w' => ∃ a c, x = .returned (.slice a σ.fldsOf.length c) ∧ (∀ ad, a = some ad → w.heap.size ≤ ad.block ∧ ad.block < w'.heap.size) ∧ IsFlds w' a c σ.fldsOf ∧ Below w.heap.size w w' := by
  obtain ⟨L, H, C, b', st, f, fs, sz, cur, cr, e, hr, rv, ln, hd⟩ := h
  have he := he_flds hr
  rw [← he] at hl ⊢
  have c6 := hd.c.2.2.2.2.2.2.1
  obtain ⟨a0, c0, hv, hf⟩ := own_isFlds hd.ro
  have hro := hd.ro
  subst hv
  have HX := Lib.hid (clone77 a0 c0 fs hl (fun ha => ⟨(own_nilF hro ha).1, List.eq_nil_of_length_eq_zero (own_nilF hro ha).2⟩) w hf)
  clear hd hr he hf hro
  go_enter Tryz.func69, Tryz.ntmps69
  go_wp2_with fail
  with_reducible refine HX.out.mono ?_
  rintro e9 w1 ⟨v, rfl, ho, hb⟩
  have hlt := ho.lt
  obtain ⟨a1, c1, rfl, hf1⟩ := own_isFlds ho
  have HLT : Hid (∀ ad, a1 = some ad → w.heap.size ≤ ad.block ∧ ad.block < w1.heap.size) := fun ad had => by subst had; exact hlt ad.block rfl
  have HF := Lib.hid hf1
  have HB := Lib.hid hb
  clear ho hf1 hb HX c6 hlt
  go_wp2_with fail
  go_ret
  exact ⟨a1, c1, rfl, HLT.out, HF.out, HB.out⟩
end Go.Proofs.YtbbphklhnngjmaaGreatDoor.R

/- request: a parser in memory with a body of a length: feedBody, finish. -/
namespace Go.Proofs.YtbbphklhnngjmaaGreatDoor
open Go.RowKit

/-- Bytes behind bytes: where the new row lies. -/
theorem run_app_strP {P : Program} (w : World) (t u ty e : TypeId) (i : TypeInfo) (ht : P.underlying t = some (.slice e)) (hu : P.underlying u = some .string) (hi : P.info? e = some i) (hz : i.zero = some (.int .u8 0))
    (hsize : i.size = 1) (hby : i.bytes = 1) (v : Value) (n : Nat) (xs : List Value) (hown : w.ownsRow 0 e 1 v n xs) (s : ByteArray) (h63 : n + s.size ≤ maxLen) (hbytes : n + s.size ≤ 140737488355328) :
    ∃ v' w', (Builtin.append_ #[t, u] ty #[v, .string s]).run P w = .ok v' w' ∧ w'.ownsRow 0 e 1 v' (n + s.size) (xs ++ Lib.strCells s) ∧ w.grownBy w' v.ownBlock ∧ (v'.ownBlock = v.ownBlock ∨ v'.ownBlock = some w.heap.size) := by
  have hsmall : n + s.size ≤ 9223372036854775807 := by simp only [maxLen] at h63; omega
  obtain ⟨v', w', hr, h2, h3, h4⟩ := Lib.run_append_own_string (P := P) w 0 t u ty e i ht hu hi hz hsize hby v n xs hown s h63 hbytes (Nat.zero_le _)
  refine ⟨v', w', hr, h2, h3, ?_⟩
  rcases hown.2 with ⟨rfl, rfl⟩ | ⟨g, cap, cur, rfl, hbg, hg, hnc, hcm, hcs, htake⟩
  · by_cases hm : s.size = 0
    · left
      rw [h4.2 ⟨rfl, hm⟩]
    · have hr2 := run_append_nil_string (P := P) w t u ty e i (.int .u8 0) ht hu hi hz s (by omega) (by omega) (by rw [hby]; omega)
      rw [hr] at hr2
      injection hr2 with e1 e2
      subst e1
      exact .inr rfl
  · by_cases hroom : n + s.size ≤ cap
    · have hcs' : cur.size = cap := by simpa using hcs
      have hr2 := Lib.run_append_room_string (P := P) w t u ty e i ht hu hi hsize g n cap cur hg s hroom (by omega)
      rw [hr] at hr2
      injection hr2 with e1 e2
      subst e1
      exact .inl rfl
    · have hxl : xs.length = n := by simpa using hown.1
      have holds : ∀ j u, xs[j]? = some u → w.cell? ((⟨g, 0, none⟩ : Addr).add j) = some u := hown.cells (g := g) rfl
      have hr2 := Lib.run_append_grow_string (P := P) w t u ty e i (.int .u8 0) ht hu hi hz ⟨g, 0, none⟩ n cap xs (by rw [hsize]; simpa using hxl) holds s (by omega) (by omega) (by rw [hby]; exact growslice_fits (by omega) (by omega))
      rw [hr] at hr2
      injection hr2 with e1 e2
      subst e1
      exact .inr rfl
theorem wp_app_strP {P : Program} {w : World} {o : Oper} {a : Act} {K : Act → World → Prop} {Q : Exit → Act → World → Prop} (sl x : Operand) (t u : TypeId)
    (ho : o.op = .call { callee := .builtin .append, args := #[sl, x], argTypes := #[t, u] })
    (e : TypeId) (i : TypeInfo) (ht : P.underlying t = some (.slice e)) (hu : P.underlying u = some .string) (hi : P.info? e = some i) (hz : i.zero = some (.int .u8 0))
    (hsize : i.size = 1) (hby : i.bytes = 1) (v : Value) (n : Nat) (xs : List Value) (hs : a.eval sl = v) (hown : w.ownsRow 0 e 1 v n xs) (s : ByteArray) (hx : a.eval x = .string s)
    (h63 : n + s.size ≤ maxLen) (hbytes : n + s.size ≤ 140737488355328)
    (h : ∀ v' w', w'.ownsRow 0 e 1 v' (n + s.size) (xs ++ Lib.strCells s) → w.grownBy w' v.ownBlock → (v'.ownBlock = v.ownBlock ∨ v'.ownBlock = some w.heap.size) → K (a.put o.dst v') w') : o.wp P a w K Q := by
  obtain ⟨v', w', hr, h2, h3, h4⟩ := run_app_strP (P := P) w t u o.type e i ht hu hi hz hsize hby v n xs hown s h63 hbytes
  unfold Oper.wp execOp
  simp only [ho, resolve, invoke, builtin, Sem.run_bind, Sem.run_pure, Result.andThen_ok, List.map_toArray, List.map_cons, List.map_nil, hs, hx, hr]
  exact h v' w' h2 h3 h4
theorem strCells_bytesP (s : ByteArray) : Lib.strCells s = byteVals s.data.toList := rfl
theorem ext_all (s : ByteArray) : s.extract 0 s.size = s := by
  have h := ext_bs0 s.data.toList s.size
  rw [bs_of] at h
  rw [h, List.take_of_length_le (by rw [← Lib.size_eq]; exact Nat.le_refl _), bs_of]
theorem ext_none (s : ByteArray) : s.extract s.size s.size = ⟨#[]⟩ := by
  have h := ext_bs1 s.data.toList s.size
  rw [bs_of] at h
  rw [h, List.drop_of_length_le (by rw [← Lib.size_eq]; exact Nat.le_refl _)]
  rfl
theorem below_grown_none {w w' : World} (h : w.grownBy w' none) : Below w.heap.size w w' := ⟨h.os, h.tape, h.output, h.size, fun k hk => h.block k hk (fun e => by cases e)⟩
theorem own_rebase {w : World} {e : TypeId} {n m B : Nat} {v : Value} {xs : List Value} (h : w.ownsRow 0 e n v m xs) (hb : ∀ k, v.ownBlock = some k → B ≤ k) : w.ownsRow B e n v m xs := by
  obtain ⟨hl, h0 | ⟨g, cap, cur, rfl, _, r⟩⟩ := h
  · exact ⟨hl, .inl h0⟩
  · exact ⟨hl, .inr ⟨g, cap, cur, rfl, hb g rfl, r⟩⟩
/-- Behind the body's bytes. -/
def BodyTo (G : Nat → Prop) (g : Nat) (M : HdL) (b : Int) (σ : HdS) (m t : ByteArray) (fv : Value) (k : Int) (l : List UInt8) (wt : Bool) (w w' : World) : Prop :=
  ∃ ba bc, HeS G 108 (paRL m t fv k (l.length : Int) (.slice ba l.length bc) wt 0) w' g M b σ ∧ w'.ownsRow w.heap.size 5 1 (.slice ba l.length bc) l.length (byteVals l) ∧ Keep (fun j => j = g) w w'
set_option maxRecDepth 100000 in
set_option maxHeartbeats 4000000 in
theorem fbody94L (G : Nat → Prop) (g : Nat) (M : HdL) (b : Int) (σ : HdS) (m t : ByteArray) (fv : Value) (k : Int) (l : List UInt8) (hll : l.length ≤ 1000000000) (wt : Bool) (w : World) (h : HeS G 108 (paRL m t fv k (l.length : Int) (.slice none 0 0) wt 0) w g M b σ) :
    Calls Tryz.prog 94 #[.pointer (some ⟨g, 0, none⟩), .string (bs l)] w fun x w' => x = .returned (.tuple #[.string ⟨#[]⟩, .int .i64 0]) ∧ BodyTo G g M b σ m t fv k l wt w w' := by
  obtain ⟨i0, hi, hz0, hz1, hz2⟩ := info_parts infoU8
  have c18 := h.cellR 7
  have c17 := h.cellR 6
  have c16 := h.cellR 5
  have f17 := h.free 17
  simp only [paRL, List.getElem?_cons_zero, List.getElem?_cons_succ, Nat.reduceAdd] at c18 c17 c16
  have hlt := h.lt
  have HD := Lib.hid h
  have HGL := Lib.hid hlt
  obtain ⟨s, hs⟩ : ∃ s, s = bs l := ⟨_, rfl⟩
  have hsz : s.size = l.length := by rw [hs, bs_size]
  obtain ⟨n, hn⟩ : ∃ n, n = s.size := ⟨_, rfl⟩
  have hnl : l.length = n := by rw [hn, hsz]
  have HL := Lib.hid hnl
  have HSS := Lib.hid hs
  have HN := Lib.hid hn
  rw [hnl] at c16
  have hn0 : (n : Int) ≤ s.size := by omega
  have hn9 : n ≤ 1000000000 := by omega
  have hmin : min (n : Int) (n : Int) = (n : Int) := by omega
  have hwr : IntKind.i64.wrap (n : Int) = (n : Int) := IntWalk.i64_in _ (by omega)
  have e0 : s.extract 0 n = s := by rw [hn]; exact ext_all s
  have e9 : s.extract n s.size = ⟨#[]⟩ := by rw [hn]; exact ext_none s
  have ez : (s.size : Int) = (n : Int) := by omega
  have E9 := Lib.hid e9
  have HI := Lib.hid hi
  have HZ0 := Lib.hid hz0
  have HZ1 := Lib.hid hz1
  have HZ2 := Lib.hid hz2
  clear h hi hz0 hz1 hz2
  rw [← hs]
  clear hs hn hsz hnl hll
  have DN : ∀ k, Below w.heap.size w (w.drewN k) := fun k => ⟨rfl, rfl, rfl, Nat.le_refl _, fun _ _ => rfl⟩
  go_enter Tryz.func94, Tryz.ntmps94
  go_upto_region 3 with fail
  refine region_mixt 13 [some (.pointer (some ⟨g, 0, none⟩)), some (.pointer (some ⟨g, 0, none⟩)), some (.pointer (some ⟨g, 16, none⟩)), some (.int .i64 (n : Int)), some (.pointer (some ⟨g, 0, none⟩)), some (.pointer (some ⟨g, 0, none⟩)), some (.pointer (some ⟨g, 17, none⟩)), some (.slice none 0 0), some (.int .i64 0), some (.int .i64 (n : Int)), some (.string s), some (.int .i64 (n : Int)), some (.int .i64 (n : Int))]
    [[false, false, false, false, false, false, false, false, false, false, false, false, false], [true, false, false, false, false, false, false, false, false, false, false, false, false], [false, true, false, false, false, false, false, false, false, false, false, false, false], [false, false, true, false, false, false, false, false, false, false, false, false, false], [false, false, false, false, false, false, false, false, false, false, false, false, false], [false, false, false, false, true, false, false, false, false, false, false, false, false], [false, false, false, false, false, true, false, false, false, false, false, false, false], [false, false, false, false, false, false, true, false, false, false, false, false, false], [false, false, false, false, false, false, false, true, false, false, false, false, false], [false, false, false, true, false, false, false, false, true, false, false, false, false], [false, false, false, false, false, false, false, false, false, false, false, false, false], [false, false, false, false, false, false, false, false, false, false, true, false, false], [false, false, false, false, false, false, false, false, false, true, false, true, false]]
    (fun L x w9 => Below w.heap.size w w9)
    (by kernel_rfl) (by kernel_rfl) (by kernel_rfl) (by kernel_rfl) (by kernel_rfl) (by decide) ?_ ?_ ?_
  · intro _
    exact ⟨rfl, rfl, rfl, Nat.le_refl _, fun _ _ => rfl⟩
  · simp only [List.take_succ_cons, List.take_zero]
    refine ⟨?_, ?_, ?_, ?_, ?_, ?_, ?_, ?_, ?_, ?_, ?_, ?_, ?_, trivial⟩
    all_goals
      intro L x w9 hS hl hp K9 hK9
      have hs : Below w.heap.size w w9 := hS
      have q18 : w9.cell? ⟨g, 18, none⟩ = some (.pointer none) := by rw [(bcell hs).1 _ _ hlt]; exact c18
      have q17 : w9.cell? ⟨g, 17, none⟩ = some (.slice none 0 0) := by rw [(bcell hs).1 _ _ hlt]; exact c17
      have q16 : w9.cell? ⟨g, 16, none⟩ = some (.int .i64 (n : Int)) := by rw [(bcell hs).1 _ _ hlt]; exact c16
      clear hS hp hl
      replace hK9 := hK9.out
      simp only [actMix, pickV, List.tail_cons, List.headD_cons, Act.put, List.setIfInBounds_toArray, List.set_cons_zero, List.set_cons_succ] at hK9 ⊢
    all_goals
      go_simp
      with_reducible refine hK9 _ ?_
      exact hs
  intro L x w3 hS hL
  have hb3 : Below w.heap.size w w3 := hS
  clear hS hL
  simp only [actMix, pickV, List.tail_cons, List.headD_cons, Act.put, List.setIfInBounds_toArray, List.set_cons_zero, List.set_cons_succ, List.replicate_succ, List.replicate_zero, List.drop_succ_cons, List.drop_zero, List.take_succ_cons, List.take_zero]
  have D3 := Lib.hid (HD.out.below hb3)
  have B3 := Lib.hid hb3
  have hlt3 := D3.out.lt
  have d17 : w3.cell? ⟨g, 17, none⟩ = some (.slice none 0 0) := by rw [(bcell hb3).1 _ _ hlt]; exact c17
  clear hb3 c18 c17 c16 f17 hlt HD
  go_upto_region 4 with fail
  refine region_mixt 9 [some (.pointer (some ⟨g, 0, none⟩)), some (.pointer (some ⟨g, 0, none⟩)), some (.pointer (some ⟨g, 0, none⟩)), some (.pointer (some ⟨g, 17, none⟩)), some (.slice none 0 0), some (.string s), some (.int .i64 (n : Int)), some (.string s), none]
    [[false, false, false, false, false, false, false, false, false], [false, false, false, false, false, false, false, false, false], [false, true, false, false, false, false, false, false, false], [false, false, true, false, false, false, false, false, false], [false, false, false, true, false, false, false, false, false], [false, false, false, false, false, false, false, false, false], [false, false, false, false, false, false, false, false, false], [false, false, false, false, false, true, true, false, false], [false, false, false, false, true, false, false, true, false]]
    (fun L x w9 => Below w3.heap.size w3 w9 ∧ (L 8 = true → w9.ownsRow w.heap.size 5 1 (x 8) n (byteVals l)))
    (by kernel_rfl) (by kernel_rfl) (by kernel_rfl) (by kernel_rfl) (by kernel_rfl) (by decide) ?_ ?_ ?_
  · intro _
    exact ⟨⟨rfl, rfl, rfl, Nat.le_refl _, fun _ _ => rfl⟩, (fun h => nomatch h)⟩
  · simp only [List.take_succ_cons, List.take_zero]
    refine ⟨?_, ?_, ?_, ?_, ?_, ?_, ?_, ?_, ?_, trivial⟩
    all_goals
      intro L x w9 hS hl hp K9 hK9
      have hs : Below w3.heap.size w3 w9 := hS.1
      have h8 := hS.2
      have q17 : w9.cell? ⟨g, 17, none⟩ = some (.slice none 0 0) := by rw [(bcell hs).1 _ _ hlt3]; exact d17
      clear hS hp
      replace hK9 := hK9.out
      simp only [actMix, pickV, List.tail_cons, List.headD_cons, Act.put, List.setIfInBounds_toArray, List.set_cons_zero, List.set_cons_succ] at hK9 ⊢
    iterate 8
      · clear hl
        have H8 := Lib.hid h8
        clear h8
        go_simp
        with_reducible refine hK9 _ ?_
        exact ⟨hs, H8.out⟩
    · rw [if_pos (by rfl)]
      have HO : w9.ownsRow 0 5 1 (.slice none 0 0) 0 [] := World.ownsRow_nil w9 0 _ 1
      refine wp_app_strP (Operand.tmp 37) (Operand.tmp 40) 101 9 rfl 5 i0 Tryz.underlying101 Tryz.underlying9 HI.out HZ0.out HZ1.out HZ2.out (.slice none 0 0) 0 [] rfl HO s rfl (by unfold maxLen; omega) (by omega) ?_
      intro v' w' ho hg ha
      have hb := below_grown_none hg
      refine hK9 _ _ ⟨hs.trans (hb.mono hs.size), fun _ => ?_⟩
      have e1 : w'.ownsRow w.heap.size 5 1 v' n (byteVals l) := by
        refine own_rebase ?_ (fun k hk => ?_)
        · rw [← HN.out, Nat.zero_add, List.nil_append, strCells_bytesP, HSS.out, bs_list] at ho
          exact ho
        · rcases ha with ha | ha
          · rw [ha] at hk; cases hk
          · rw [ha] at hk
            injection hk with hk
            have := B3.out.size
            have := hs.size
            omega
      simpa [updV] using e1
  intro L x w9 hS hL
  have hb9 : Below w3.heap.size w3 w9 := hS.1
  have ho9 := hS.2 (hL 8 (by decide))
  clear hS hL
  generalize hx8 : x 8 = v at *
  simp only [actMix, pickV, List.tail_cons, List.headD_cons, Act.put, List.setIfInBounds_toArray, List.set_cons_zero, List.set_cons_succ, List.replicate_succ, List.replicate_zero, List.drop_succ_cons, List.drop_zero, List.take_succ_cons, List.take_zero]
  obtain ⟨va, vc, rfl⟩ := own_slice ho9
  have D9 := D3.out.below hb9
  have B9 := B3.out.trans (hb9.mono B3.out.size)
  have f17 := D9.free 17
  have q17 : w9.cell? ⟨g, 17, none⟩ = some (.slice none 0 0) := by rw [(bcell hb9).1 _ _ hlt3]; exact d17
  have hgl : g < w.heap.size := HGL.out
  have KS : Keep (fun j => j = g) w9 (w9.setCell ⟨g, 17, none⟩ (.slice va n vc)) := Keep.setCell (G := fun j => j = g) w9 (p := ⟨g, 17, none⟩) rfl _
  have FX : Hid (BodyTo G g M b σ m t fv k l wt w (w9.setCell ⟨g, 17, none⟩ (.slice va n vc))) := by
    refine ⟨va, vc, ?_, ?_, (Keep.of_below B9).trans KS⟩
    · rw [HL.out]
      exact (by rw [HL.out] at D9; exact D9.setR 6 (.slice va n vc))
    · rw [HL.out]
      exact own_keepB ho9 KS (fun k hk => by have := (ho9.lt k hk).1; omega)
  clear D9 B9 KS ho9 hb9 D3 B3 d17 hlt3 HGL
  go_wp2_with fail
  go_ret2
  exact ⟨rfl, FX.out⟩
end Go.Proofs.YtbbphklhnngjmaaGreatDoor

/- request: a parser in memory with a body of a length: finish. -/
namespace Go.Proofs.YtbbphklhnngjmaaGreatDoor
open Go.RowKit

set_option maxRecDepth 100000 in
set_option maxHeartbeats 4000000 in
theorem finish39L (G : Nat → Prop) (g : Nat) (M : HdL) (b : Int) (σ : HdS) (m t : ByteArray) (fa : Option Addr) (fn fc : Nat) (k n : Int) (ba : Option Addr) (bc : Nat) (bl : List UInt8) (wt : Bool) (hne : ∀ e, σ ≠ .err e) (w : World) (h : HeS G 108 (paRL m t (.slice fa fn fc) k n (.slice ba bl.length bc) wt 0) w g M b σ) (hu : Up G w) (hbo : w.ownsRow 0 5 1 (.slice ba bl.length bc) bl.length (byteVals bl)) :
    Calls Tryz.prog 60 #[.pointer (some ⟨g, 0, none⟩)] w fun x w' => x = .returned (.agg #[.string m, .string t, .slice fa fn fc, .string (bs bl), .int .i64 k]) ∧ HeS G 108 (paR ⟨#[]⟩ ⟨#[]⟩ (.slice none 0 0) false 0) w' g M b hd0 ∧ Keep G w w' := by
  have k11 := h.cellR 0
  have k12 := h.cellR 1
  have k13 := h.cellR 2
  have k14 := h.cellR 3
  have k15 := h.cellR 4
  have k17 := h.cellR 6
  have k18 := h.cellR 7
  simp only [paRL, List.getElem?_cons_zero, List.getElem?_cons_succ, Nat.reduceAdd] at k11 k12 k13 k14 k15 k17 k18
  have hlt := h.lt
  have hcv : (convert 101 9 (.slice ba bl.length bc)).run Tryz.prog ((w.alloc (.cells #[.string ⟨#[]⟩, .string ⟨#[]⟩, .slice none 0 0, .string ⟨#[]⟩, .int .i64 0] 45)).alloc (.cells #[.string m, .string t, .slice fa fn fc, .string ⟨#[]⟩, .int .i64 k] 45)) = .ok (.string (bs bl)) ((w.alloc (.cells #[.string ⟨#[]⟩, .string ⟨#[]⟩, .slice none 0 0, .string ⟨#[]⟩, .int .i64 0] 45)).alloc (.cells #[.string m, .string t, .slice fa fn fc, .string ⟨#[]⟩, .int .i64 k] 45)) := own_string _ 0 _ _ ((hbo.alloc _).alloc _)
  obtain ⟨X, hX⟩ : ∃ X, X = bs bl := ⟨_, rfl⟩
  obtain ⟨bn, hbn⟩ : ∃ bn, bn = bl.length := ⟨_, rfl⟩
  rw [← hX, ← hbn] at hcv
  rw [← hbn] at k17
  rw [← hX]
  have HD := Lib.hid h.less
  clear hX hbn hbo
  have HG := Lib.hid h.gG
  obtain ⟨L, H, C, b', st, f, fs, sz, cur, cr, e, hr, rv, ln, hd⟩ := h
  obtain ⟨rfl, rfl, rfl, rfl⟩ := he_lim hr hne
  obtain ⟨c0, c1, c2, c3, _⟩ := hd.c
  have HU := Lib.hid hu
  clear hd hu hr
  go_enter Tryz.func60, Tryz.ntmps60
  go_upto_region 5 with fail
  clear k11 k12 k13 k14 k15 k17 k18 c0 c1 c2 c3 hcv
  have R0 := (Row.new w 45 #[.string ⟨#[]⟩, .string ⟨#[]⟩, .slice none 0 0, .string ⟨#[]⟩, .int .i64 0]).alloc (.cells #[.string m, .string t, .slice fa fn fc, .string X, .int .i64 k] 45)
  have R1 := Row.new (w.alloc (.cells #[.string ⟨#[]⟩, .string ⟨#[]⟩, .slice none 0 0, .string ⟨#[]⟩, .int .i64 0] 45)) 45 #[.string m, .string t, .slice fa fn fc, .string X, .int .i64 k]
  rw [show (w.alloc (.cells #[.string ⟨#[]⟩, .string ⟨#[]⟩, .slice none 0 0, .string ⟨#[]⟩, .int .i64 0] 45)).heap.size = w.heap.size + 1 by simp] at R1
  have L1 := (below_alloc w (.cells #[.string ⟨#[]⟩, .string ⟨#[]⟩, .slice none 0 0, .string ⟨#[]⟩, .int .i64 0] 45)).alloc (by simp) (.cells #[.string m, .string t, .slice fa fn fc, .string X, .int .i64 k] 45)
  generalize (w.alloc (.cells #[.string ⟨#[]⟩, .string ⟨#[]⟩, .slice none 0 0, .string ⟨#[]⟩, .int .i64 0] 45)).alloc (.cells #[.string m, .string t, .slice fa fn fc, .string X, .int .i64 k] 45) = w1 at *
  have D1 := Lib.hid (HD.out.below L1)
  have B1 := Lib.hid L1
  obtain ⟨b0, hb0⟩ : ∃ b0, b0 = w.heap.size := ⟨_, rfl⟩
  obtain ⟨b1, hb1⟩ : ∃ b1, b1 = w.heap.size + 1 := ⟨_, rfl⟩
  rw [← hb0] at R0
  rw [← hb1] at R1
  have n0 : ¬ b0 = g := by omega
  have n1 : ¬ b1 = g := by omega
  have hu0 : G b0 := HU.out _ (by omega)
  have HB0 : Hid (w.heap.size ≤ b0) := Nat.le_of_eq hb0.symm
  rw [← hb1, ← hb0]
  have RR0 := Lib.hid R0
  have RR1 := Lib.hid R1
  have HU0 := Lib.hid hu0
  clear L1 HD hb0 hb1 hlt R0 R1 hu0
  obtain ⟨L9, H9, C9, B9, st9, f9, fs9, sz9, cur9, cr9, e9, hr9, rv9, ln9, hd9⟩ := D1.out
  obtain ⟨rfl, rfl, rfl, rfl⟩ := he_lim hr9 hne
  obtain ⟨c0, c1, c2, c3, _⟩ := hd9.c
  clear hd9 hr9
  have HN := Lib.hid (new21 (max 0 M.line) (max 0 M.head) (max 0 M.count) B9 w1)
  rw [paNew_fix] at HN
  go_wp2_with fail
  with_reducible refine HN.out.mono ?_
  rintro e w2 ⟨g2, rfl, hg2, hr2, hb2⟩
  have D2 := Lib.hid (D1.out.below hb2)
  have B2 := Lib.hid (B1.out.trans (hb2.mono B1.out.size))
  have RR0' := Lib.hid (RR0.out.below hb2)
  have RR1' := Lib.hid (RR1.out.below hb2)
  obtain ⟨pl, hpl⟩ : ∃ pl, pl = paL (max 0 M.line) (max 0 M.head) (max 0 M.count) B9 0 := ⟨_, rfl⟩
  have HPL := Lib.hid hpl
  rw [← hpl] at hr2
  have hpz : (Tryz.prog.info? 108).map (·.size) = some pl.length := by rw [hpl, paL_len]; exact infoPa
  have hpz2 : (Tryz.prog.info? 108).map (·.size) = some pl.toArray.size := by rw [List.size_toArray]; exact hpz
  have hp1 : pl.toArray.all (·.oneCell') = true := by rw [hpl]; exact paL_one ..
  have hrg : w2.rangeAt g2 0 pl := fun j v hv => by rw [Nat.zero_add, hr2.cell j, List.getElem?_toArray]; exact hv
  obtain ⟨old, hold, holz⟩ := D2.out.row
  have hplz : pl.length = 21 := by rw [hpl]; rfl
  have hoz : old.toArray.size = pl.toArray.size := by rw [List.size_toArray, List.size_toArray, holz, hplz]; rfl
  have HOLD := Lib.hid hold
  clear hpl hplz holz c0 c1 c2 c3 D1 B1 RR0 RR1 HN hr2 hb2 hg2 hold
  go_upto_region 6 with (first
    | (refine wpList_load_mid rfl 108 _ rfl g2 0 rfl pl _ hrg Tryz.underlying108 rfl hpz ?_)
    | (refine wpList_store_row rfl 108 _ _ rfl g pl.toArray rfl rfl 108 old.toArray HOLD.out hpz2 hoz hp1 ?_))
  have hov := D2.out.over M B9 0
  unfold HdL.line HdL.head HdL.count at HPL
  rw [← HPL.out] at hov
  have Q0 : Row (w2.setRow g pl.toArray) b0 45 #[.string ⟨#[]⟩, .string ⟨#[]⟩, .slice none 0 0, .string ⟨#[]⟩, .int .i64 0] := (setRow_other w2 g b0 _ n0).trans RR0'.out
  have Q1 : Row (w2.setRow g pl.toArray) b1 45 #[.string m, .string t, .slice fa fn fc, .string X, .int .i64 k] := (setRow_other w2 g b1 _ n1).trans RR1'.out
  clear hpz hpz2 hp1 hrg hoz HOLD
  generalize w2.setRow g pl.toArray = w3 at *
  have DD3 := Lib.hid hov.1
  have KK3 := Lib.hid hov.2
  have z0 := Q0.free 0
  have z1 := Q0.free 1
  have z2 := Q0.free 2
  have z3 := Q0.free 3
  have z4 := Q0.free 4
  have p0 : w3.cell? ⟨b0, 0, none⟩ = some (.string ⟨#[]⟩) := Q0.cell 0
  have p1 : w3.cell? ⟨b0, 1, none⟩ = some (.string ⟨#[]⟩) := Q0.cell 1
  have p2 : w3.cell? ⟨b0, 2, none⟩ = some (.slice none 0 0) := Q0.cell 2
  have p3 : w3.cell? ⟨b0, 3, none⟩ = some (.string ⟨#[]⟩) := Q0.cell 3
  have p4 : w3.cell? ⟨b0, 4, none⟩ = some (.int .i64 0) := Q0.cell 4
  have q0 : w3.cell? ⟨b1, 0, none⟩ = some (.string m) := Q1.cell 0
  have q1 : w3.cell? ⟨b1, 1, none⟩ = some (.string t) := Q1.cell 1
  have q2 : w3.cell? ⟨b1, 2, none⟩ = some (.slice fa fn fc) := Q1.cell 2
  have q3 : w3.cell? ⟨b1, 3, none⟩ = some (.string X) := Q1.cell 3
  have q4 : w3.cell? ⟨b1, 4, none⟩ = some (.int .i64 k) := Q1.cell 4
  clear hov Q0 Q1 RR0' RR1' HPL
  go_wp2_with fail
  refine bodyPost_ret (v := .agg #[.string m, .string t, .slice fa fn fc, .string X, .int .i64 k]) (by simp [results, Tryz.results60, go_sem, p0, p1, p2, p3, p4]) rfl ⟨rfl, ?_⟩
  have KB : ∀ (v : World) (i : Nat) (u : Value), Keep (fun j => j = b0) v (v.setCell ⟨b0, i, none⟩ u) := fun v i u => Keep.setCell (G := fun j => j = b0) v (p := ⟨b0, i, none⟩) rfl u
  have KC := (((((KB w3 0 (.string m)).trans (KB _ 1 (.string t))).trans (KB _ 2 (.slice fa fn fc))).trans (KB _ 3 (.string X))).trans (KB _ 4 (.int .i64 k)))
  refine ⟨(DD3.out.keep KC ?_).more (fun j _ hj => hj.1), ((Keep.of_below B2.out).trans (KK3.out.more (fun j _ hj => hj.1))).trans (KC.more (fun j _ hj => by rw [hj]; exact HU0.out))⟩
  rintro j ⟨_, hj⟩ rfl
  have := HB0.out
  omega
end Go.Proofs.YtbbphklhnngjmaaGreatDoor

/- request: a parser in memory; Feed of a request with a body of a length, that comes at once. -/
namespace Go.Proofs.YtbbphklhnngjmaaGreatDoor
open Go.RowKit

section
variable (G : Nat → Prop) (g : Nat) (M : HdL) (b : Int) (σ : HdS)
variable (rest : List Value)
set_option maxHeartbeats 1000000 in
theorem step37c (P : World → Prop) (s y : ByteArray) (E : Int) (hb : σ.begun = true) (hf : σ.fin = true) (w : World) (h : HeS G 108 rest w g M b σ)
    (hc : Calls Tryz.prog 94 #[.pointer (some ⟨g, 0, none⟩), .string s] w fun x w' => x = .returned (.tuple #[.string y, .int .i64 E]) ∧ P w') :
    Calls Tryz.prog 58 #[.pointer (some ⟨g, 0, none⟩), .string s] w fun x w' => x = .returned (.tuple #[.string y, .int .i64 E]) ∧ P w' := by
  have HB := Lib.hid (hbegunS G 108 rest g M b σ w h)
  rw [hb] at HB
  have HD := Lib.hid (hdoneS G 108 rest g M b σ w h)
  rw [hf] at HD
  have HC := Lib.hid hc
  clear h hb hc hf
  go_enter Tryz.func58, Tryz.ntmps58
  go_wp2_with fail
  with_reducible refine HB.out.mono ?_
  rintro e w' ⟨rfl, rfl⟩
  go_wp2_with fail
  with_reducible refine HD.out.mono ?_
  rintro e w' ⟨rfl, rfl⟩
  go_wp2_with fail
  with_reducible refine HC.out.mono ?_
  rintro e w1 ⟨rfl, hp⟩
  have HP := Lib.hid hp
  clear hp HB HC HD
  go_wp2_with fail
  go_ret2
  exact ⟨rfl, HP.out⟩
end
/-- Where the feeding of one request stands: the bytes that are left, the requests so far, the world. -/
inductive PhB (G : Nat → Prop) (g : Nat) (M : HdL) (b : Int) (w : World) (m t l0 l1 bd fl : List UInt8) (σ1 : HdS) (GS : List Fld) (K N : Int) : List UInt8 → Value → World → Prop
  | p0 (wr : World) (h : HeS G 108 (paR ⟨#[]⟩ ⟨#[]⟩ (.slice none 0 0) false 0) wr g M b hd0) (hu : Up G wr) (hk : Keep G w wr) : PhB G g M b w m t l0 l1 bd fl σ1 GS K N l0 (.slice none 0 0) wr
  | p1 (wr : World) (h : HeS G 108 (paR (bs m) (bs t) (.slice none 0 0) true 0) wr g M b σ1) (hu : Up G wr) (hk : Keep G w wr) : PhB G g M b w m t l0 l1 bd fl σ1 GS K N l1 (.slice none 0 0) wr
  | p2 (wr : World) (a : Option Addr) (c : Nat) (G' : Nat → Prop) (hs : ∀ j, G' j → G j) (hu : Up G' wr) (hn : ∀ ad, a = some ad → ¬ G' ad.block) (h : HeS G' 108 (paRL (bs m) (bs t) (.slice a GS.length c) K N (.slice none 0 0) true 0) wr g M b (.done fl GS)) (hf : IsFlds wr a c GS) (hk : Keep G w wr) (hne : bd ≠ []) :
      PhB G g M b w m t l0 l1 bd fl σ1 GS K N bd (.slice none 0 0) wr
  | p3 (wr : World) (v : Value) (a : Option Addr) (c : Nat) (G' : Nat → Prop) (h : HeS G' 108 (paR ⟨#[]⟩ ⟨#[]⟩ (.slice none 0 0) false 0) wr g M b hd0) (ho : wr.ownsRow w.heap.size 45 5 v 1 [.string (bs m), .string (bs t), .slice a GS.length c, .string (bs bd), .int .i64 K]) (hf : IsFlds wr a c GS) (hk : Keep G w wr) :
      PhB G g M b w m t l0 l1 bd fl σ1 GS K N [] v wr
/-- What the feeding of one request comes to. -/
def FeedB (G : Nat → Prop) (w : World) (m t bd : List UInt8) (GS : List Fld) (K : Int) (x : Ending) (w' : World) : Prop :=
  ∃ v a c, x = .returned (.tuple #[v, .int .i64 0]) ∧ w'.ownsRow w.heap.size 45 5 v 1 [.string (bs m), .string (bs t), .slice a GS.length c, .string (bs bd), .int .i64 K] ∧ IsFlds w' a c GS ∧ Keep G w w'
end Go.Proofs.YtbbphklhnngjmaaGreatDoor

/- request: a parser in memory; Feed of one request, with or without a body of a length. -/
namespace Go.Proofs.YtbbphklhnngjmaaGreatDoor
open Go.RowKit

set_option maxRecDepth 100000 in
set_option maxHeartbeats 8000000 in
theorem pfeedB (G : Nat → Prop) (g : Nat) (M : HdL) (b : Int) (m t l0 l1 bd fl : List UInt8) (σ1 : HdS) (GS : List Fld) (K N : Int) (h0 : ByteArray)
    (hn0 : l0 ≠ []) (hl0 : l0.length ≤ 1000000) (hr0 : hRun M hd0 (l0.take (nlAt l0)) = σ1) (hd : l0.drop (nlAt l0) = l1) (hb1 : σ1.begun = true) (hf1 : σ1.fin = false) (he : reqP σ1.firstOf = some (m, t)) (hz : σ1.firstOf.length ≤ 4000000000)
    (hn1 : l1 ≠ []) (hw1 : σ1.wt + 4 * l1.length ≤ 1000000000) (hr1 : hRun M σ1 l1 = .done fl GS) (hlf : hLeft M σ1 l1 = bd)
    (hfl : GS.length ≤ 1000000) (hok : ∀ f ∈ GS, FldOk f) (hh : allB hostN GS = [h0]) (hh0 : 0 < h0.size) (hF : Frames b GS K N) (hN : N = (bd.length : Int))
    (w : World) (hp : HeS G 108 (paR ⟨#[]⟩ ⟨#[]⟩ (.slice none 0 0) false 0) w g M b hd0) (hu : Up G w) (hM : ∀ w', Keep G w w' → MaxL w') (hY : ∀ w', Keep G w w' → Syn w') :
    Calls Tryz.prog 22 #[.pointer (some ⟨g, 0, none⟩), .string (bs l0)] w (FeedB G w m t bd GS K) := by
  obtain ⟨i0, hi, hz0, hz1, hz2⟩ := info_parts infoMsg
  have H0 : Hid (PhB G g M b w m t l0 l1 bd fl σ1 GS K N l0 (.slice none 0 0) w) := .p0 w hp hu (Keep.refl G w)
  have HM := Lib.hid hM
  have HY := Lib.hid hY
  have DN : ∀ (W : World) k, Below W.heap.size W (W.drewN k) := fun W k => ⟨rfl, rfl, rfl, Nat.le_refl _, fun _ _ => rfl⟩
  have HDN := Lib.hid DN
  have HBL : Hid (bd.length ≤ 1000000) := by
    have h1 : bd.length ≤ l1.length := by
      rw [← hlf]
      obtain ⟨a, ha⟩ := mLeft_suffix (M.step anyFirst) HdS.fin l1 σ1
      have := congrArg List.length ha
      rw [List.length_append] at this
      show (mLeft _ _ _ _).length ≤ _
      omega
    have h2 := congrArg List.length hd
    rw [List.length_drop] at h2
    show _ ≤ _
    omega
  have HL10 : Hid (l1.length < l0.length) := by
    show _ < _
    rw [← hd, List.length_drop]
    have := nlAt_pos hn0
    have := nlAt_le l0
    have := List.length_pos_iff.2 hn0
    omega
  have HLB1 : Hid (bd.length < l1.length) := by
    show _ < _
    rw [← hlf]
    exact hLeft_lt M σ1 l1 hf1 hn1
  have HSA : Hid (∀ W, HeS G 108 (paR ⟨#[]⟩ ⟨#[]⟩ (.slice none 0 0) true 0) W g M b hd0 → Up G W → (∀ w', Keep G W w' → MaxL w') → Calls Tryz.prog 58 #[.pointer (some ⟨g, 0, none⟩), .string (bs l0)] W fun x w' => x = .returned (.tuple #[.string (bs l1), .int .i64 0]) ∧ (HeS G 108 (paR (bs m) (bs t) (.slice none 0 0) true 0) w' g M b σ1 ∧ Keep G W w')) := fun W hW hU hMM => by
    have := fline56 G g M b hd0 σ1 [] [] m t true l0 (by have : hd0.wt = 0 := rfl; omega) hr0 _ rfl 0 hz (.inr ⟨hb1, by rw [he]; rfl⟩) W hW hU hMM
    rw [hd] at this
    exact step37a G g M b hd0 _ _ _ _ 0 rfl W hW this
  have HSB : Hid (∀ W, HeS G 108 (paR (bs m) (bs t) (.slice none 0 0) true 0) W g M b σ1 → Up G W → (∀ w', Keep G W w' → MaxL w') → (∀ w', Keep G W w' → Syn w') → Calls Tryz.prog 58 #[.pointer (some ⟨g, 0, none⟩), .string (bs l1)] W fun x w' => x = .returned (.tuple #[.string (bs bd), .int .i64 0]) ∧ FldsTo G g M b (bs m) (bs t) K N fl GS true W w') := fun W hW hU hMM hYY => by
    have := fflds57L G g M b σ1 (bs m) (bs t) true l1 hw1 fl GS hr1 h0 hfl hok hh hh0 K N hF W hW hU hMM hYY
    rw [hlf] at this
    exact step37b G g M b σ1 _ _ _ _ 0 hb1 hf1 W hW this
  have HSC : Hid (∀ (G' : Nat → Prop) W a c, HeS G' 108 (paRL (bs m) (bs t) (.slice a GS.length c) K N (.slice none 0 0) true 0) W g M b (.done fl GS) → Calls Tryz.prog 58 #[.pointer (some ⟨g, 0, none⟩), .string (bs bd)] W fun x w' => x = .returned (.tuple #[.string ⟨#[]⟩, .int .i64 0]) ∧ BodyTo G' g M b (.done fl GS) (bs m) (bs t) (.slice a GS.length c) K bd true W w') := fun G' W a c hW => by
    subst hN
    exact step37c G' g M b (.done fl GS) _ _ _ _ 0 rfl rfl W hW (fbody94L G' g M b (.done fl GS) (bs m) (bs t) (.slice a GS.length c) K bd (by have := HBL.out; omega) true W hW)
  have HNN := Lib.hid hN
  have HN0 := Lib.hid hn0
  have HN1 := Lib.hid hn1
  have HF1 := Lib.hid hf1
  clear hp hu hM hY DN hr0 hd hb1 hf1 he hz hw1 hr1 hlf hok hh hh0 hF hN hn0 hn1 hl0
  obtain ⟨S0, hS0⟩ : ∃ S, S = bs l0 := ⟨_, rfl⟩
  rw [← hS0]
  have HS0 := Lib.hid hS0
  clear hS0
  go_enter Tryz.func22, Tryz.ntmps22
  go_wp2_with fail
  go_loopw [1, 6] (fun sv rv wr => ∃ (s : List UInt8) (rq : Value), sv = .string (bs s) ∧ rq = rv ∧ Hid (PhB G g M b w m t l0 l1 bd fl σ1 GS K N s rq wr)) (fun sv _ _ => (strOfH sv).size)
  case atStart => exact ⟨l0, _, by rw [HS0.out], rfl, H0⟩
  case round =>
    clear H0 HS0
    obtain ⟨s, rq, rfl, rfl, HP⟩ := hrel
    have hph := HP.out
    clear HP
    cases hph with
    | p0 wr h hu hk =>
      have hne' : 0 < (bs l0).size := by rw [bs_size]; exact List.length_pos_iff.2 HN0.out
      have e1 := emp_false (bs l0) hne'
      have k20 := h.cellR 9
      have k19 := h.cellR 8
      have f19 := h.free 19
      simp only [paR, List.getElem?_cons_zero, List.getElem?_cons_succ, Nat.reduceAdd] at k20 k19
      have D2 : Hid (HeS G 108 (paR ⟨#[]⟩ ⟨#[]⟩ (.slice none 0 0) true 0) (wr.setCell ⟨g, 19, none⟩ (.bool true)) g M b hd0) := h.setR 8 (.bool true)
      have K2 : Hid (Keep G wr (wr.setCell ⟨g, 19, none⟩ (.bool true))) := Keep.setCell wr (p := ⟨g, 19, none⟩) h.gG _
      have U2 : Hid (Up G (wr.setCell ⟨g, 19, none⟩ (.bool true))) := hu.keep K2.out
      have M2 : Hid (∀ w', Keep G (wr.setCell ⟨g, 19, none⟩ (.bool true)) w' → MaxL w') := fun w' hk' => HM.out w' (hk.trans (K2.out.trans hk'))
      obtain ⟨w2, hw2⟩ : ∃ w2, w2 = wr.setCell ⟨g, 19, none⟩ (.bool true) := ⟨_, rfl⟩
      rw [← hw2] at D2 K2 U2 M2 
      have HW2 := Lib.hid hw2
      have HST := Lib.hid (HSA.out w2 D2.out U2.out M2.out)
      have HKW := Lib.hid hk
      have HUW := Lib.hid hu
      have HLT : Hid ((bs l1).size < (bs l0).size) := by show _ < _; rw [bs_size, bs_size]; exact HL10.out
      obtain ⟨y, hy⟩ : ∃ y, y = bs l1 := ⟨_, rfl⟩
      obtain ⟨z, hz⟩ : ∃ z, z = bs l0 := ⟨_, rfl⟩
      rw [← hy, ← hz] at HST HLT
      rw [← hz] at e1 hne' ⊢
      have HYY := Lib.hid hy
      clear h hu hk hw2 hy hz
      go_wp2_with fail
      rw [← HW2.out]
      with_reducible refine HST.out.mono ?_
      rintro e9 w3 ⟨rfl, hd3, hk3⟩
      have D3 := Lib.hid hd3
      have K3 := Lib.hid (HKW.out.trans (K2.out.trans hk3))
      have U3 := Lib.hid (HUW.out.keep (K2.out.trans hk3))
      clear hd3 hk3
      have HC := Lib.hid (complete38 G g M b σ1 (bs m) (bs t) (.slice none 0 0) true 0 false HF1.out w3 D3.out)
      clear HST
      go_wp2_with fail
      with_reducible refine HC.out.mono ?_
      rintro e9 w4 ⟨rfl, n, rfl⟩
      have HPN : Hid (PhB G g M b w m t l0 l1 bd fl σ1 GS K N l1 (.slice none 0 0) (w3.drewN n)) := .p1 _ (D3.out.below (HDN.out _ _)) (U3.out.keep (.of_below (HDN.out _ _))) (K3.out.trans (.of_below (HDN.out _ _)))
      clear HC
      go_wp2_with fail
      go_roundw
      case rel => exact ⟨l1, _, by rw [HYY.out], rfl, HPN⟩
      case measure => show y.size < z.size; have := HLT.out; omega
    | p1 wr h hu hk =>
      have hne' : 0 < (bs l1).size := by rw [bs_size]; exact List.length_pos_iff.2 HN1.out
      have e1 := emp_false (bs l1) hne'
      have k20 := h.cellR 9
      have k19 := h.cellR 8
      have f19 := h.free 19
      simp only [paR, List.getElem?_cons_zero, List.getElem?_cons_succ, Nat.reduceAdd] at k20 k19
      have D2 : Hid (HeS G 108 (paR (bs m) (bs t) (.slice none 0 0) true 0) (wr.setCell ⟨g, 19, none⟩ (.bool true)) g M b σ1) := h.setR 8 (.bool true)
      have K2 : Hid (Keep G wr (wr.setCell ⟨g, 19, none⟩ (.bool true))) := Keep.setCell wr (p := ⟨g, 19, none⟩) h.gG _
      have U2 : Hid (Up G (wr.setCell ⟨g, 19, none⟩ (.bool true))) := hu.keep K2.out
      have M2 : Hid (∀ w', Keep G (wr.setCell ⟨g, 19, none⟩ (.bool true)) w' → MaxL w') := fun w' hk' => HM.out w' (hk.trans (K2.out.trans hk'))
      have Y2 : Hid (∀ w', Keep G (wr.setCell ⟨g, 19, none⟩ (.bool true)) w' → Syn w') := fun w' hk' => HY.out w' (hk.trans (K2.out.trans hk'))
      obtain ⟨w2, hw2⟩ : ∃ w2, w2 = wr.setCell ⟨g, 19, none⟩ (.bool true) := ⟨_, rfl⟩
      rw [← hw2] at D2 K2 U2 M2 Y2 
      have HW2 := Lib.hid hw2
      have HST := Lib.hid (HSB.out w2 D2.out U2.out M2.out Y2.out)
      have HKW := Lib.hid hk
      have HLT : Hid ((bs bd).size < (bs l1).size) := by show _ < _; rw [bs_size, bs_size]; exact HLB1.out
      obtain ⟨y, hy⟩ : ∃ y, y = bs bd := ⟨_, rfl⟩
      obtain ⟨z, hz⟩ : ∃ z, z = bs l1 := ⟨_, rfl⟩
      rw [← hy, ← hz] at HST HLT
      rw [← hz] at e1 hne' ⊢
      have HYY := Lib.hid hy
      clear h hu hk hw2 hy hz
      go_wp2_with fail
      rw [← HW2.out]
      with_reducible refine HST.out.mono ?_
      rintro e9 w3 ⟨rfl, a, c, G', hsb, hup, hnb, hd3, hf3, hk3⟩
      have HGS := Lib.hid hsb
      have U3 := Lib.hid hup
      have N3 := Lib.hid hnb
      have D3 := Lib.hid hd3
      have F3 := Lib.hid hf3
      have K3 := Lib.hid (HKW.out.trans (K2.out.trans hk3))
      clear hsb hup hnb hd3 hf3 hk3 HST
      by_cases hbd : bd = []
      · have hyz : y = ⟨#[]⟩ := by rw [HYY.out, hbd]; rfl
        have HC := Lib.hid (complete38L G' g M b (.done fl GS) (bs m) (bs t) (.slice a GS.length c) K N none 0 0 true 0 rfl true (by rw [HNN.out, hbd]; rfl) w3 D3.out)
        have HBD0 := Lib.hid hbd
        have HYZ := Lib.hid hyz
        have D3' : Hid (HeS G' 108 (paRL (bs m) (bs t) (.slice a GS.length c) K N (.slice none bd.length 0) true 0) w3 g M b (.done fl GS)) := by
          have e : bd.length = 0 := by rw [hbd]; rfl
          show HeS _ _ _ _ _ _ _ _
          rw [e]
          exact D3.out
        have O3 : Hid (w3.ownsRow 0 5 1 (.slice none bd.length 0) bd.length (byteVals bd)) := by rw [hbd]; exact nil_byt w3
        clear hbd hyz D3
        go_wp2_with fail
        with_reducible refine HC.out.mono ?_
        rintro e9 w4 ⟨rfl, n, rfl⟩
        have D4 : Hid (HeS G' 108 (paRL (bs m) (bs t) (.slice a GS.length c) K N (.slice none bd.length 0) true 0) (w3.drewN n) g M b (.done fl GS)) := D3'.out.below (HDN.out _ _)
        have O4 : Hid ((w3.drewN n).ownsRow 0 5 1 (.slice none bd.length 0) bd.length (byteVals bd)) := own_below O3.out (HDN.out _ _)
        have F4 : Hid (IsFlds (w3.drewN n) a c GS) := F3.out.below (HDN.out _ _)
        have K4 : Hid (Keep G w (w3.drewN n)) := K3.out.trans (.of_below (HDN.out _ _))
        have HFI := Lib.hid (finish39L G' g M b (.done fl GS) (bs m) (bs t) a GS.length c K N none 0 bd true (fun e he => by cases he) _ D4.out (U3.out.keep (.of_below (HDN.out _ _))) O4.out)
        clear HC
        go_wp2_with fail
        with_reducible refine HFI.out.mono ?_
        rintro e9 w5 ⟨rfl, hd5, hk5⟩
        have F5 := isFlds_keepR F4.out hk5 N3.out
        have K5 := K4.out.trans (hk5.more (fun j _ hj => HGS.out j hj))
        have hb5 : w.heap.size ≤ w5.heap.size := K5.size
        obtain ⟨nG, hnG⟩ : ∃ nG, nG = GS.length := ⟨_, rfl⟩
        obtain ⟨BD, hBD⟩ : ∃ BD, BD = bs bd := ⟨_, rfl⟩
        rw [← hnG, ← hBD]
        have HNG := Lib.hid hnG
        have HBD := Lib.hid hBD
        have HNW := Lib.hid (cells_new5 w5 (.string (bs m)) (.string (bs t)) (.slice a nG c) (.string BD) (.int .i64 K) 45)
        have HO5 : Hid ((w5.alloc (.cells #[.string (bs m), .string (bs t), .slice a nG c, .string BD, .int .i64 K] 45)).ownsRow w.heap.size 45 5 (.slice none 0 0) 0 []) := World.ownsRow_nil _ _ _ 5
        have D5 := Lib.hid (hd5.below (below_alloc w5 (.cells #[.string (bs m), .string (bs t), .slice a nG c, .string BD, .int .i64 K] 45)))
        have F5' := Lib.hid (F5.below (below_alloc w5 (.cells #[.string (bs m), .string (bs t), .slice a nG c, .string BD, .int .i64 K] 45)))
        have K5' := Lib.hid (K5.trans (.alloc w5 (.cells #[.string (bs m), .string (bs t), .slice a nG c, .string BD, .int .i64 K] 45)))
        have HB5 := Lib.hid hb5
        clear hd5 hk5 F5 K5 hnG hBD HFI K4 F4 O4 D4
        go_wp2_with (at_builtin; refine wpList_append_own_at _ rfl _ _ 58 rfl w.heap.size 45 i0 (.agg #[.string ⟨#[]⟩, .string ⟨#[]⟩, .slice none 0 0, .string ⟨#[]⟩, .int .i64 0]) 5 80 Tryz.underlying58 hi hz0 hz1 hz2 rfl (by decide) _ _ _ rfl HO5.out ⟨w5.heap.size, 0, none⟩ 1 1 [.string (bs m), .string (bs t), .slice a nG c, .string BD, .int .i64 K] rfl rfl HNW.out (by intro u hu; simp at hu; rcases hu with rfl | rfl | rfl | rfl | rfl <;> rfl) (by unfold maxLen; omega) (by omega) (by simp; omega) ?_)
        intro v' w6 hown' hgrow _ _
        have hb6 := below_grown_none hgrow
        have HPN : Hid (PhB G g M b w m t l0 l1 bd fl σ1 GS K N [] v' w6) := .p3 w6 v' a c G' (D5.out.below hb6) (by rw [← HNG.out, ← HBD.out]; simpa using hown') (F5'.out.below hb6) (K5'.out.trans (.of_below hb6))
        clear hown' hgrow hb6 HNW HO5 D5 F5' K5'
        go_wp2_with fail
        go_roundw
        case rel => exact ⟨[], _, by rw [HYZ.out]; rfl, rfl, HPN⟩
        case measure => show y.size < z.size; have := HLT.out; omega
      · have hnz : ((0 : Int) == N) = false := by
          rw [HNN.out]
          have := List.length_pos_iff.2 hbd
          exact beq_eq_false_iff_ne.2 (by omega)
        have HC := Lib.hid (complete38L G' g M b (.done fl GS) (bs m) (bs t) (.slice a GS.length c) K N none 0 0 true 0 rfl false hnz.symm w3 D3.out)
        have HBD0 := Lib.hid hbd
        clear hbd hnz
        go_wp2_with fail
        with_reducible refine HC.out.mono ?_
        rintro e9 w4 ⟨rfl, n, rfl⟩
        have HPN : Hid (PhB G g M b w m t l0 l1 bd fl σ1 GS K N bd (.slice none 0 0) (w3.drewN n)) := .p2 _ a c G' HGS.out (U3.out.keep (.of_below (HDN.out _ _))) N3.out (D3.out.below (HDN.out _ _)) (F3.out.below (HDN.out _ _)) (K3.out.trans (.of_below (HDN.out _ _))) HBD0.out
        clear HC
        go_wp2_with fail
        go_roundw
        case rel => exact ⟨bd, _, by rw [HYY.out], rfl, HPN⟩
        case measure => show y.size < z.size; have := HLT.out; omega
    | p2 wr a c G' hs hu hn h hf hk hne =>
      have hne' : 0 < (bs bd).size := by rw [bs_size]; exact List.length_pos_iff.2 hne
      have e1 := emp_false (bs bd) hne'
      have k20 := h.cellR 9
      have k19 := h.cellR 8
      have f19 := h.free 19
      simp only [paRL, List.getElem?_cons_zero, List.getElem?_cons_succ, Nat.reduceAdd] at k20 k19
      have D2 : Hid (HeS G' 108 (paRL (bs m) (bs t) (.slice a GS.length c) K N (.slice none 0 0) true 0) (wr.setCell ⟨g, 19, none⟩ (.bool true)) g M b (.done fl GS)) := h.setR 8 (.bool true)
      have K2 : Hid (Keep G' wr (wr.setCell ⟨g, 19, none⟩ (.bool true))) := Keep.setCell wr (p := ⟨g, 19, none⟩) h.gG _
      have U2 : Hid (Up G' (wr.setCell ⟨g, 19, none⟩ (.bool true))) := hu.keep K2.out
      obtain ⟨w2, hw2⟩ : ∃ w2, w2 = wr.setCell ⟨g, 19, none⟩ (.bool true) := ⟨_, rfl⟩
      rw [← hw2] at D2 K2 U2 
      have HW2 := Lib.hid hw2
      have HST := Lib.hid (HSC.out G' w2 a c D2.out)
      have HKW := Lib.hid hk
      have HGS := Lib.hid hs
      have HUW := Lib.hid hu
      have N3 := Lib.hid hn
      have FW := Lib.hid hf
      have hgG := h.gG
      have HGG := Lib.hid hgG
      have HLT : Hid (0 < (bs bd).size) := hne'
      obtain ⟨z, hz⟩ : ∃ z, z = bs bd := ⟨_, rfl⟩
      rw [← hz] at HST HLT
      rw [← hz] at e1 hne' ⊢
      clear h hu hk hw2 hz hs hn hf hgG hne
      go_wp2_with fail
      rw [← HW2.out]
      with_reducible refine HST.out.mono ?_
      rintro e9 w3 ⟨rfl, ba, bc, hd3, ho3, hk3⟩
      have D3 := Lib.hid hd3
      have O3 := Lib.hid (own_mono ho3 (Nat.zero_le _))
      have hk3' : Keep G' w2 w3 := hk3.more (fun j _ hj => by rw [hj]; exact HGG.out)
      have K3 := Lib.hid (HKW.out.trans ((K2.out.trans hk3').more (fun j _ hj => HGS.out j hj)))
      have F3 := Lib.hid (isFlds_keepR FW.out (K2.out.trans hk3') N3.out)
      have U3 := Lib.hid (HUW.out.keep (K2.out.trans hk3'))
      have HC := Lib.hid (complete38L G' g M b (.done fl GS) (bs m) (bs t) (.slice a GS.length c) K (bd.length : Int) ba bd.length bc true 0 rfl true (by simp) w3 D3.out)
      have D3' : Hid (HeS G' 108 (paRL (bs m) (bs t) (.slice a GS.length c) K N (.slice ba bd.length bc) true 0) w3 g M b (.done fl GS)) := by
        show HeS _ _ _ _ _ _ _ _
        rw [HNN.out]
        exact D3.out
      clear hd3 ho3 hk3 hk3' HST D3
      go_wp2_with fail
      with_reducible refine HC.out.mono ?_
      rintro e9 w4 ⟨rfl, n, rfl⟩
      have D4 : Hid (HeS G' 108 (paRL (bs m) (bs t) (.slice a GS.length c) K N (.slice ba bd.length bc) true 0) (w3.drewN n) g M b (.done fl GS)) := D3'.out.below (HDN.out _ _)
      have O4 : Hid ((w3.drewN n).ownsRow 0 5 1 (.slice ba bd.length bc) bd.length (byteVals bd)) := own_below O3.out (HDN.out _ _)
      have F4 : Hid (IsFlds (w3.drewN n) a c GS) := F3.out.below (HDN.out _ _)
      have K4 : Hid (Keep G w (w3.drewN n)) := K3.out.trans (.of_below (HDN.out _ _))
      have HFI := Lib.hid (finish39L G' g M b (.done fl GS) (bs m) (bs t) a GS.length c K N ba bc bd true (fun e he => by cases he) _ D4.out (U3.out.keep (.of_below (HDN.out _ _))) O4.out)
      clear HC
      go_wp2_with fail
      with_reducible refine HFI.out.mono ?_
      rintro e9 w5 ⟨rfl, hd5, hk5⟩
      have F5 := isFlds_keepR F4.out hk5 N3.out
      have K5 := K4.out.trans (hk5.more (fun j _ hj => HGS.out j hj))
      have hb5 : w.heap.size ≤ w5.heap.size := K5.size
      obtain ⟨nG, hnG⟩ : ∃ nG, nG = GS.length := ⟨_, rfl⟩
      obtain ⟨BD, hBD⟩ : ∃ BD, BD = bs bd := ⟨_, rfl⟩
      rw [← hnG, ← hBD]
      have HNG := Lib.hid hnG
      have HBD := Lib.hid hBD
      have HNW := Lib.hid (cells_new5 w5 (.string (bs m)) (.string (bs t)) (.slice a nG c) (.string BD) (.int .i64 K) 45)
      have HO5 : Hid ((w5.alloc (.cells #[.string (bs m), .string (bs t), .slice a nG c, .string BD, .int .i64 K] 45)).ownsRow w.heap.size 45 5 (.slice none 0 0) 0 []) := World.ownsRow_nil _ _ _ 5
      have D5 := Lib.hid (hd5.below (below_alloc w5 (.cells #[.string (bs m), .string (bs t), .slice a nG c, .string BD, .int .i64 K] 45)))
      have F5' := Lib.hid (F5.below (below_alloc w5 (.cells #[.string (bs m), .string (bs t), .slice a nG c, .string BD, .int .i64 K] 45)))
      have K5' := Lib.hid (K5.trans (.alloc w5 (.cells #[.string (bs m), .string (bs t), .slice a nG c, .string BD, .int .i64 K] 45)))
      have HB5 := Lib.hid hb5
      clear hd5 hk5 F5 K5 hnG hBD HFI K4 F4 O4 D4
      go_wp2_with (at_builtin; refine wpList_append_own_at _ rfl _ _ 58 rfl w.heap.size 45 i0 (.agg #[.string ⟨#[]⟩, .string ⟨#[]⟩, .slice none 0 0, .string ⟨#[]⟩, .int .i64 0]) 5 80 Tryz.underlying58 hi hz0 hz1 hz2 rfl (by decide) _ _ _ rfl HO5.out ⟨w5.heap.size, 0, none⟩ 1 1 [.string (bs m), .string (bs t), .slice a nG c, .string BD, .int .i64 K] rfl rfl HNW.out (by intro u hu; simp at hu; rcases hu with rfl | rfl | rfl | rfl | rfl <;> rfl) (by unfold maxLen; omega) (by omega) (by simp; omega) ?_)
      intro v' w6 hown' hgrow _ _
      have hb6 := below_grown_none hgrow
      have HPN : Hid (PhB G g M b w m t l0 l1 bd fl σ1 GS K N [] v' w6) := .p3 w6 v' a c G' (D5.out.below hb6) (by rw [← HNG.out, ← HBD.out]; simpa using hown') (F5'.out.below hb6) (K5'.out.trans (.of_below hb6))
      clear hown' hgrow hb6 HNW HO5 D5 F5' K5'
      go_wp2_with fail
      go_roundw
      case rel => exact ⟨[], _, rfl, rfl, HPN⟩
      case measure => show (⟨#[]⟩ : ByteArray).size < z.size; exact HLT.out
    | p3 wr v a c G' h ho hf hk =>
      have k20 := h.cellR 9
      simp only [paR, List.getElem?_cons_zero, List.getElem?_cons_succ, Nat.reduceAdd] at k20
      have FX : Hid (∀ k, FeedB G w m t bd GS K (.returned (.tuple #[rq, .int .i64 0])) (wr.drewN k)) := fun k => ⟨_, a, c, rfl, own_below ho (HDN.out _ _), hf.below (HDN.out _ _), hk.trans (.of_below (HDN.out _ _))⟩
      clear h ho hf hk
      have e0 : bs [] = ⟨#[]⟩ := rfl
      rw [e0]
      go_wp2_with fail
      go_quiet (fail)
      go_wp2_with fail
      go_ret2
      exact FX.out _
end Go.Proofs.YtbbphklhnngjmaaGreatDoor

/- rewrite: Own at 503, the fixed facts. -/
namespace Go.Proofs.YtbbphklhnngjmaaGreatDoor
open Go.RowKit

set_option maxRecDepth 100000 in
set_option maxHeartbeats 4000000 in
theorem rown42 (w : World) (hP : Pow w) (hR : Reas w) :
    Calls Tryz.prog 42 #[.int .i64 503, .string ⟨#[71, 69, 84]⟩, .bool true] w fun e w' => ∃ b d, e = .returned (.agg #[.int .i64 503, .string (bs rea503), .slice b 3 d, .string (bs bod503), .int .i64 1]) ∧ Below w.heap.size w w' := by
  have HO := Lib.hid (fun W h1 h2 => rown35 W h1 h2)
  have HC := Lib.hid (fun r bb a d ha W hf => closing65 503 1 r bb a d [ctF, clF] true (by decide) ha W hf)
  rw [show (closeF true [ctF, clF]).length = 3 from rfl, show [ctF, clF].length = 2 from rfl] at HC
  generalize bs rea503 = R at *
  generalize bs bod503 = X at *
  have R0 := Row.new w 33 #[.int .i64 0, .string ⟨#[]⟩, .slice none 0 0, .string ⟨#[]⟩, .int .i64 0]
  have L0 := below_alloc w (.cells #[.int .i64 0, .string ⟨#[]⟩, .slice none 0 0, .string ⟨#[]⟩, .int .i64 0] 33)
  have HP := Lib.hid (hP.below L0)
  have HR := Lib.hid (hR.below L0)
  clear hP hR
  go_enter Tryz.func42, Tryz.ntmps42
  go_wp2_with fail
  obtain ⟨b0, hb0⟩ : ∃ b0, b0 = w.heap.size := ⟨_, rfl⟩
  have hle : w.heap.size ≤ b0 := Nat.le_of_eq hb0.symm
  have HLE := Lib.hid hle
  rw [← hb0] at R0 ⊢
  generalize World.alloc w _ = w0 at *
  have RR0 := Lib.hid R0
  have LL0 := Lib.hid L0
  clear R0 L0 hb0 hle
  with_reducible refine (HO.out w0 HP.out HR.out).mono ?_
  rintro e w1 ⟨g, rfl, hg, hf, hb1⟩
  have RR1 := Lib.hid (RR0.out.below hb1)
  have LL1 := Lib.hid (LL0.out.trans (hb1.mono LL0.out.size))
  have R2 := Row.new w1 33 #[.int .i64 503, .string R, .slice (some ⟨g, 0, none⟩) 2 2, .string X, .int .i64 1]
  have L2 := below_alloc w1 (.cells #[.int .i64 503, .string R, .slice (some ⟨g, 0, none⟩) 2 2, .string X, .int .i64 1] 33)
  have F2 := Lib.hid (hf.below L2)
  have RR2 := Lib.hid (RR1.out.below L2)
  have LL2 := Lib.hid (LL1.out.trans (L2.mono LL1.out.size))
  clear hf hb1 HP HR RR0 LL0 hg HO RR1 LL1 L2
  go_upto_region 2 with fail
  obtain ⟨b1, hb1⟩ : ∃ b1, b1 = w1.heap.size := ⟨_, rfl⟩
  rw [← hb1] at R2 ⊢
  generalize World.alloc w1 _ = w2 at *
  have r0 := R2.cell 0
  have r1 := R2.cell 1
  have r2 := R2.cell 2
  have r3 := R2.cell 3
  have r4 := R2.cell 4
  simp only [List.getElem?_toArray, List.getElem?_cons_zero, List.getElem?_cons_succ] at r0 r1 r2 r3 r4
  have HC2 := Lib.hid (HC.out R X (some ⟨g, 0, none⟩) 2 (fun h => by cases h) w2 F2.out)
  clear R2 hb1 HC F2
  go_wp2_with fail
  with_reducible refine HC2.out.mono ?_
  rintro e w3 ⟨b, d', rfl, _, _, hb3⟩
  have RR3 := RR2.out.below hb3
  have LL3 := Lib.hid (LL2.out.trans (hb3.mono LL2.out.size))
  have z0 := RR3.free 0
  have z1 := RR3.free 1
  have z2 := RR3.free 2
  have z3 := RR3.free 3
  have z4 := RR3.free 4
  have p0 := RR3.cell 0
  have p1 := RR3.cell 1
  have p2 := RR3.cell 2
  have p3 := RR3.cell 3
  have p4 := RR3.cell 4
  simp only [List.getElem?_toArray, List.getElem?_cons_zero, List.getElem?_cons_succ] at p0 p1 p2 p3 p4
  clear hb3 RR3 HC2 RR2 LL2
  go_wp2_with fail
  refine bodyPost_ret (v := .agg #[.int .i64 503, .string R, .slice b 3 d', .string X, .int .i64 1]) (by simp [results, Tryz.results42, go_sem, p0, p1, p2, p3, p4]) rfl ⟨b, d', rfl, ?_⟩
  exact (own_five b0 _ LL3.out HLE.out (.int .i64 503) (.string R) (.slice b 3 d') (.string X) (.int .i64 1)).1
def awF : List Fld := [([67, 111, 110, 110, 101, 99, 116, 105, 111, 110], [99, 108, 111, 115, 101, 44, 32, 88, 45, 65]), ([88, 45, 65], [49]), ([72, 111, 115, 116], [97])]
def awG : List Fld := [([72, 111, 115, 116], [97])]
theorem awF_hops : hopsR (bsOf (tokF connB awF)) awF = awG := by decide +kernel
theorem awF_sum : sumS (allB connB awF) ≤ 900000000 := by decide +kernel
set_option maxRecDepth 100000 in
set_option maxHeartbeats 4000000 in
theorem awake13 (w : World) (hw : LaidR w) :
    Calls Tryz.prog 13 #[] w fun e w' => e = .returned (.bool true) ∧ Below w.heap.size w w' := by
  have F0 : IsFlds (w.alloc (.cells #[.string ⟨#[67, 111, 110, 110, 101, 99, 116, 105, 111, 110]⟩, .string ⟨#[99, 108, 111, 115, 101, 44, 32, 88, 45, 65]⟩, .string ⟨#[88, 45, 65]⟩, .string ⟨#[49]⟩, .string ⟨#[72, 111, 115, 116]⟩, .string ⟨#[97]⟩] 62)) (some ⟨w.heap.size, 0, none⟩) 3 awF := isFlds_new3R w [67, 111, 110, 110, 101, 99, 116, 105, 111, 110] [99, 108, 111, 115, 101, 44, 32, 88, 45, 65] [88, 45, 65] [49] [72, 111, 115, 116] [97] 62
  have L0 := below_alloc w (.cells #[.string ⟨#[67, 111, 110, 110, 101, 99, 116, 105, 111, 110]⟩, .string ⟨#[99, 108, 111, 115, 101, 44, 32, 88, 45, 65]⟩, .string ⟨#[88, 45, 65]⟩, .string ⟨#[49]⟩, .string ⟨#[72, 111, 115, 116]⟩, .string ⟨#[97]⟩] 62)
  have HH := Lib.hid (fun A W hM hf => hops41 (some A) 3 awF (by decide) (fun h => by cases h) (fun f hf => by simp only [awF, List.mem_cons, List.not_mem_nil, or_false] at hf; rcases hf with rfl | rfl | rfl <;> exact ⟨by decide, by decide⟩) awF_sum _ awF_hops.symm W hM hf)
  rw [show awF.length = 3 from rfl, show awG.length = 1 from rfl] at HH
  have HO := Lib.hid (fun W h1 h2 => rown42 W h1 h2)
  have HW := Lib.hid (hw.below L0)
  have F00 := Lib.hid F0
  have LL0 := Lib.hid L0
  generalize bs rea503 = R at *
  generalize bs bod503 = X at *
  clear hw F0 L0
  go_enter Tryz.func13, Tryz.ntmps13
  go_wp2_with fail
  obtain ⟨b0, hb0⟩ : ∃ b0, b0 = w.heap.size := ⟨_, rfl⟩
  rw [← hb0] at F00 ⊢
  generalize World.alloc w _ = w0 at *
  clear hb0
  with_reducible refine (HH.out ⟨b0, 0, none⟩ w0 HW.out.m F00.out).mono ?_
  rintro e w1 ⟨b, d, rfl, _, hf1, hb1⟩
  obtain h0 | ⟨bk, o, rfl, hbk, hc, hcell⟩ := hf1
  · cases h0
  obtain ⟨c1, _⟩ := hcell 0 _ rfl
  have HC1 := Lib.hid c1
  have W1 := Lib.hid (HW.out.below hb1)
  have LL1 := Lib.hid (LL0.out.trans (hb1.mono LL0.out.size))
  have HBK := Lib.hid hbk
  have hc1 : 1 ≤ d := hc
  clear HH HW F00 LL0 hb1 hcell hbk hc c1
  go_wp2_with fail
  with_reducible refine (HO.out w1 W1.out.p W1.out.r).mono ?_
  rintro e w2 ⟨b2, d2, rfl, hb2⟩
  have R3 := Row.new w2 33 #[.int .i64 503, .string R, .slice b2 3 d2, .string X, .int .i64 1]
  have L3 := below_alloc w2 (.cells #[.int .i64 503, .string R, .slice b2 3 d2, .string X, .int .i64 1] 33)
  have c1 : (w2.alloc (.cells #[.int .i64 503, .string R, .slice b2 3 d2, .string X, .int .i64 1] 33)).cell? ⟨bk, o, none⟩ = some (.string ⟨#[72, 111, 115, 116]⟩) := by
    rw [(bcell L3).1 _ _ (Nat.lt_of_lt_of_le HBK.out hb2.size), (bcell hb2).1 _ _ HBK.out]
    exact HC1.out
  have LL3 := Lib.hid ((LL1.out.trans (hb2.mono LL1.out.size)).trans (L3.mono (Nat.le_trans LL1.out.size hb2.size)))
  clear hb2 LL1 HC1 HBK L3
  go_upto_region 3 with fail
  obtain ⟨b1, hb1⟩ : ∃ b1, b1 = w2.heap.size := ⟨_, rfl⟩
  rw [← hb1] at R3 ⊢
  generalize World.alloc w2 _ = w3 at *
  have r0 := R3.cell 0
  have r2 := R3.cell 2
  simp only [List.getElem?_toArray, List.getElem?_cons_zero, List.getElem?_cons_succ] at r0 r2
  clear R3 hb1
  go_wp2_with fail
  go_ret
  exact ⟨rfl, LL3.out⟩
end Go.Proofs.YtbbphklhnngjmaaGreatDoor

/- response: lists: a head line by line; a parser's cells; framing.Response. -/
namespace Go.Proofs.YtbbphklhnngjmaaGreatDoor.R
open Go.RowKit

theorem nl_cases (s : List UInt8) : ((10 : UInt8) ∉ s ∧ nlAt s = s.length) ∨ ∃ a r, s = a ++ 10 :: r ∧ (10 : UInt8) ∉ a ∧ nlAt s = a.length + 1 := by
  unfold nlAt
  rcases ib_cut 10 s with ⟨h, hn⟩ | ⟨i, h, hi, hs, hn⟩
  · exact .inl ⟨hn, by rw [if_pos h]⟩
  · refine .inr ⟨s.take i, s.drop (i + 1), hs, hn, ?_⟩
    rw [if_neg (by omega), h, List.length_take]
    omega
theorem step_nofin (M : HdL) (σ : HdS) (c : UInt8) (hc : c ≠ 10) (hf : σ.fin = false) : (M.step anyFirst σ c).fin = false := by
  cases σ with
  | done f fs => cases hf
  | err e => rfl
  | line fo fs sz cur cr =>
    simp only [HdL.step, if_neg hc]
    split
    · rfl
    · split
      · rfl
      · split <;> rfl
theorem run_nofin (M : HdL) : ∀ (a : List UInt8) (σ : HdS), (10 : UInt8) ∉ a → σ.fin = false → (hRun M σ a).fin = false
  | [], _, _, hf => hf
  | c :: a, σ, hn, hf => by
    have h1 : c ≠ 10 := fun h => hn (by rw [h]; exact List.mem_cons_self)
    exact run_nofin M a _ (fun h => hn (List.mem_cons_of_mem _ h)) (step_nofin M σ c h1 hf)
theorem step_begun (M : HdL) (σ : HdS) (c : UInt8) (hb : σ.begun = true) : (M.step anyFirst σ c).begun = true ∨ ∃ e, M.step anyFirst σ c = .err e := by
  cases σ with
  | done f fs => exact .inl rfl
  | err e => cases hb
  | line fo fs sz cur cr =>
    cases fo with
    | none => cases hb
    | some f =>
      simp only [HdL.step, HdL.close]
      repeat' split
      all_goals first | exact .inl rfl | exact .inr ⟨_, rfl⟩
theorem run_begun (M : HdL) : ∀ (l : List UInt8) (σ : HdS), σ.begun = true → (hRun M σ l).begun = true ∨ ∃ e, hRun M σ l = .err e
  | [], _, hb => .inl hb
  | c :: l, σ, hb => by
    rcases step_begun M σ c hb with h | ⟨e, h⟩
    · exact run_begun M l _ h
    · right
      refine ⟨e, ?_⟩
      show hRun M (M.step anyFirst σ c) l = _
      rw [h]
      exact hdRun_err M anyFirst e l
theorem run_wt (M : HdL) : ∀ (l : List UInt8) (σ : HdS), (hRun M σ l).wt ≤ σ.wt + 4 * l.length
  | [], _ => Nat.le_add_right _ _
  | c :: l, σ => by
    have h1 := run_wt M l (M.step anyFirst σ c)
    have h2 := wt_step M σ c
    have e : hRun M σ (c :: l) = hRun M (M.step anyFirst σ c) l := rfl
    rw [e, List.length_cons]
    omega
/-- What a line comes to, of bytes that hold a whole head. -/
theorem line_run (M : HdL) (σ : HdS) (s fl : List UInt8) (fs : List Fld) (hf : σ.fin = false) (h : hRun M σ s = .done fl fs) :
    (hRun M σ (s.take (nlAt s)) = .done fl fs ∧ hLeft M σ s = s.drop (nlAt s)) ∨
    ((hRun M σ (s.take (nlAt s))).halt = false ∧ hRun M (hRun M σ (s.take (nlAt s))) (s.drop (nlAt s)) = .done fl fs ∧ hLeft M (hRun M σ (s.take (nlAt s))) (s.drop (nlAt s)) = hLeft M σ s ∧ s.drop (nlAt s) ≠ []) := by
  rcases nl_cases s with ⟨hn, _⟩ | ⟨a, r, hs, hn, hl⟩
  · have := run_nofin M s σ hn hf
    rw [h] at this
    cases this
  · have e1 : s.take (nlAt s) = a ++ [10] := by
      rw [hl, hs, show a ++ 10 :: r = (a ++ [10]) ++ r by simp]
      exact List.take_left' (by simp)
    have e2 : s.drop (nlAt s) = r := by
      rw [hl, hs, show a ++ 10 :: r = (a ++ [10]) ++ r by simp]
      exact List.drop_left' (by simp)
    have hfa := run_nofin M a σ hn hf
    obtain ⟨σ1, h1⟩ : ∃ σ1, σ1 = M.step anyFirst (hRun M σ a) 10 := ⟨_, rfl⟩
    have r1 : hRun M σ (a ++ [10]) = σ1 := by rw [h1]; exact mRun_app ..
    have r2 : hRun M σ s = hRun M σ1 r := by
      rw [hs, h1]
      show mRun _ _ _ = _
      rw [mRun_app]
      rfl
    have l2 : hLeft M σ s = hLeft M σ1 r := by
      rw [hs, h1]
      show mLeft _ _ _ _ = _
      rw [mLeft_app _ _ (hd_fin M anyFirst) _ _ _ hfa, mLeft_cons _ _ _ _ _ hfa]
    rw [e1, e2, r1, l2]
    rw [r2] at h
    clear h1 r1 r2 l2 e1 e2
    cases σ1 with
    | done f gs =>
      left
      have e : hRun M (.done f gs) r = .done f gs := mRun_fin _ _ (hd_fin M anyFirst) _ rfl r
      rw [e] at h
      exact ⟨h, mLeft_fin _ _ _ _ rfl⟩
    | err e => rw [show hRun M (.err e) r = .err e from hdRun_err M anyFirst e r] at h; cases h
    | line fo gs sz cur cr =>
      right
      refine ⟨rfl, h, rfl, ?_⟩
      rintro rfl
      cases h
/-- A parser's cells beside its head's: the method; code, reason, fields, body, kind, length, body's row, chunks, begun, done, the error. -/
def psR (mt : List UInt8) (c : Int) (r : List UInt8) (k n : Int) (bv : Value) (bg dn : Bool) : List Value :=
  [.string (bs mt), .int .i64 c, .string (bs r), .slice none 0 0, .string ⟨#[]⟩, .int .i64 k, .int .i64 n, bv, .pointer none, .bool bg, .bool dn, .int .i64 0]
/-- May a response have a body? -/
def bodR (mt : List UInt8) (c : Int) : Bool := !(decide (mt = [72, 69, 65, 68]) || decide (c = 204) || decide (c = 304))
def FramesR (mt : List UInt8) (c b : Int) (fs : List Fld) (k n : Int) : Prop := (bodR mt c = false ∧ k = 0 ∧ n = 0) ∨ (bodR mt c = true ∧ k = 1 ∧ Frames b fs 1 n)
set_option maxRecDepth 100000 in
set_option maxHeartbeats 2000000 in
theorem framed138 (mt : List UInt8) (cd : Int) (a : Option Addr) (c : Nat) (fs : List Fld) (b k n : Int) (hfl : fs.length ≤ 1000000) (hok : ∀ f ∈ fs, FldOk f) (hF : FramesR mt cd b fs k n) (w : World) (hS : Syn w) (hf : IsFlds w a c fs) :
    Calls Tryz.prog 138 #[.string (bs mt), .int .i64 cd, .slice a fs.length c, .int .i64 b] w fun x w' => x = .returned (.tuple #[.int .i64 k, .int .i64 n, .int .i64 0]) ∧ Below w.heap.size w w' := by
  have HB := Lib.hid (fun W => bodied24 mt cd _ _ _ rfl rfl rfl W)
  obtain ⟨q, hq⟩ : ∃ q, q = (!(decide (mt = [72, 69, 65, 68]) || decide (cd = 204) || decide (cd = 304))) := ⟨_, rfl⟩
  rw [← hq] at HB
  rcases hF with ⟨h0, rfl, rfl⟩ | ⟨h0, rfl, h1⟩
  · obtain rfl : q = false := by rw [hq]; exact h0
    clear hq h0 hok hS hf
    go_enter Tryz.func138, Tryz.ntmps138
    go_wp2_with fail
    with_reducible refine (HB.out _).mono ?_
    rintro e w' ⟨rfl, rfl⟩
    go_wp2_with fail
    refine bodyPost_ret (v := .tuple #[.int .i64 0, .int .i64 0, .int .i64 0]) (by simp [results, Tryz.results138, go_sem]) rfl ⟨rfl, rfl, rfl, rfl, Nat.le_refl _, fun _ _ => rfl⟩
  · obtain rfl : q = true := by rw [hq]; exact h0
    have HX := Lib.hid (frames76 a c fs b 1 n hfl hok h1 w hS hf)
    clear hq h0 h1 hok hS hf
    go_enter Tryz.func138, Tryz.ntmps138
    go_wp2_with fail
    with_reducible refine (HB.out _).mono ?_
    rintro e w' ⟨rfl, rfl⟩
    go_wp2_with fail
    with_reducible refine HX.out.mono ?_
    rintro e w2 ⟨rfl, hb2⟩
    have B2 := Lib.hid hb2
    clear hb2 HX HB
    go_wp2_with fail
    refine bodyPost_ret (v := .tuple #[.int .i64 1, .int .i64 n, .int .i64 0]) (by simp [results, Tryz.results138, go_sem]) rfl ⟨rfl, B2.out⟩
section
variable {G : Nat → Prop} {T : TypeId} {rest : List Value} {w w' : World} {g : Nat} {M : HdL} {b : Int} {σ : HdS}
theorem HeS.cellB (h : HeS G T rest w g M b σ) (hne : ∀ e, σ ≠ .err e) : w.cell? ⟨g, 4, none⟩ = some (.int .i64 b) := by
  obtain ⟨L, H, C, b', st, f, fs, sz, cur, cr, e, hr, rv, ln, hd⟩ := h
  obtain rfl := he_b hr hne
  exact hd.c.2.2.2.1
end
end Go.Proofs.YtbbphklhnngjmaaGreatDoor.R

