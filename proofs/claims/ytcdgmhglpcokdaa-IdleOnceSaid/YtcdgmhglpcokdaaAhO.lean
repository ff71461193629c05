/- An agenda at any place by what it holds, beside blocks of others, at both kinds of keys (written by genaho.py). -/
import Derived.Test.YtcdgmhglpcokdaaAhZ
namespace Go.Proofs.Ytcdgmhglpcokdaa
open Go.RowKit Go.Maps
section PlV
variable {pl : Pl}
def cn (q : It) : Value × Int × Int := (q.k, q.a, q.t)
def CQ (n : Nat) (Q : Nat → It) (x : Value × Int × Int) : Prop := ∃ i, i < n ∧ cn (Q i) = x
theorem CQ.same {n : Nat} {Q Q' : Nat → It} (h : SameQ n Q Q') (x : Value × Int × Int) : CQ n Q' x ↔ CQ n Q x := by
  constructor
  · rintro ⟨i, hi, e⟩
    obtain ⟨j, hj, e2⟩ := h.1 i hi
    exact ⟨j, hj, by rw [← e2]; exact e⟩
  · rintro ⟨i, hi, e⟩
    obtain ⟨j, hj, e2⟩ := h.2 i hi
    exact ⟨j, hj, by rw [← e2]; exact e⟩
theorem CQ.ext (n : Nat) (Q : Nat → It) (it : It) (x : Value × Int × Int) : CQ (n + 1) (ext Q n it) x ↔ CQ n Q x ∨ x = cn it := by
  constructor
  · rintro ⟨i, hi, e⟩
    by_cases h : i = n
    · subst h
      rw [ext_n] at e
      exact .inr e.symm
    · rw [ext_lt Q it (by omega)] at e
      exact .inl ⟨i, by omega, e⟩
  · rintro (⟨i, hi, e⟩ | rfl)
    · exact ⟨i, by omega, by rw [ext_lt Q it hi]; exact e⟩
    · exact ⟨n, by omega, by rw [ext_n]⟩
theorem CQ.without {n R : Nat} {Q Q' : Nat → It} (h : Without n Q R Q') (hk : ∀ i, i < n + 1 → (Q i).k = (Q R).k → i = R) (x : Value × Int × Int) : CQ n Q' x ↔ CQ (n + 1) Q x ∧ x.1 ≠ (Q R).k := by
  constructor
  · rintro ⟨i, hi, e⟩
    obtain ⟨j, hj, hne, e2⟩ := h.1 i hi
    rw [e2] at e
    exact ⟨⟨j, hj, e⟩, fun e3 => hne (hk j hj (by rw [← e] at e3; exact e3))⟩
  · rintro ⟨⟨j, hj, e⟩, hne⟩
    obtain ⟨i, hi, e2⟩ := h.2 j hj (fun e3 => hne (by rw [← e, e3]; rfl))
    exact ⟨i, hi, by rw [e2]; exact e⟩
section
variable {κ : Type} {K : KTy κ} {pl : Pl} {PT IT : TypeId} {M : MTyK K (Option Nat)} {W w w' : World} {ab n N R : Nat} {v mp : Value} {sets : Int} {Q : Nat → It} {F : κ → Option Nat} {S : Nat → Prop} {C : Value × Int × Int → Prop}
theorem AgX.keyInj (h : AgX pl PT IT M w ab n N v mp sets Q F S) {i j : Nat} (hi : i < n) (hj : j < n) (e : (Q i).k = (Q j).k) : i = j := by
  obtain ⟨k1, o1, e1, f1⟩ := h.fof i hi
  obtain ⟨k2, o2, e2, f2⟩ := h.fof j hj
  have hk := K.kv_inj o1 o2 (by rw [← e1, ← e2]; exact e)
  rw [hk, f2] at f1
  injection f1 with f1
  exact h.s.inj i hi j hj f1.symm
theorem AgX.noKey {k : κ} (h : AgX pl PT IT M w ab n N v mp sets Q F S) (hC : ∀ x, CQ n Q x → x.1 ≠ K.kv k) : F k = none := by
  cases e : F k with
  | none => rfl
  | some b =>
    obtain ⟨i, hi, e1, _⟩ := h.fto k b e
    exact absurd e1 (hC (cn (Q i)) ⟨i, hi, rfl⟩)
theorem AgX.hasKey {k : κ} (hk : K.ok k) (h : AgX pl PT IT M w ab n N v mp sets Q F S) {i : Nat} (hi : i < n) (e : (Q i).k = K.kv k) : F k = some (Q i).b := by
  obtain ⟨k1, o1, e1, f1⟩ := h.fof i hi
  rw [K.kv_inj hk o1 (by rw [← e, ← e1])]
  exact f1
end
/-- An agenda made behind W, beside the blocks O. -/
structure OrS {κ : Type} {K : KTy κ} (pl : Pl) (PT IT : TypeId) (M : MTyK K (Option Nat)) (W : World) (ab n N : Nat) (sets : Int) (C : Value × Int × Int → Prop) (O : Nat → Prop) (w : World) : Prop where
  ex : ∃ v mp Q F S, AgX pl PT IT M w ab n N v mp sets Q F S ∧ (∀ k, S k → W.heap.size ≤ k ∧ k < w.heap.size ∧ ¬ O k) ∧ ∀ x, CQ n Q x ↔ C x
  bel : Below W.heap.size W w
  oth : ∀ k, O k → k < w.heap.size
section
variable {κ : Type} {K : KTy κ} {pl : Pl} {PT IT : TypeId} {M : MTyK K (Option Nat)} {W w w' : World} {ab n N : Nat} {v mp : Value} {sets : Int} {Q : Nat → It} {F : κ → Option Nat} {S : Nat → Prop} {C : Value × Int × Int → Prop} {O : Nat → Prop}
theorem OrS.belowO {O' : Nat → Prop} (h : OrS pl PT IT M W ab n N sets C O w) (hb : Below w.heap.size w w') (hO : ∀ k, O' k → k < w'.heap.size ∧ (O k ∨ w.heap.size ≤ k)) : OrS pl PT IT M W ab n N sets C O' w' := by
  obtain ⟨⟨v, mp, Q, F, S, h1, h2, h3⟩, h4, h5⟩ := h
  refine ⟨⟨v, mp, Q, F, S, h1.below hb, fun k hk => ?_, h3⟩, h4.trans (hb.mono h4.size), fun k hk => (hO k hk).1⟩
  obtain ⟨g1, g2, g3⟩ := h2 k hk
  have := hb.size
  refine ⟨g1, by omega, fun hk2 => ?_⟩
  rcases (hO k hk2).2 with h | h
  · exact g3 h
  · omega
theorem OrS.below (h : OrS pl PT IT M W ab n N sets C O w) (hb : Below w.heap.size w w') : OrS pl PT IT M W ab n N sets C O w' :=
  h.belowO hb (fun k hk => ⟨Nat.lt_of_lt_of_le (h.oth k hk) hb.size, .inl hk⟩)
theorem OrS.next {n' N' : Nat} {v' mp' : Value} {sets' : Int} {Q' : Nat → It} {F' : κ → Option Nat} {C' : Value × Int × Int → Prop} (hb : Below W.heap.size W w) (hO : ∀ k, O k → k < w.heap.size) (hS : ∀ k, S k → W.heap.size ≤ k ∧ k < w.heap.size ∧ ¬ O k) (hx : AgX pl PT IT M w' ab n' N' v' mp' sets' Q' F' (newS S w w')) (hk : Keep S w w') (hC : ∀ x, CQ n' Q' x ↔ C' x) : OrS pl PT IT M W ab n' N' sets' C' O w' ∧ Keep (fun k => ¬ O k) w w' := by
  have hz := hk.size
  have hz2 := hb.size
  refine ⟨⟨⟨v', mp', Q', F', _, hx, fun k hg => ?_, hC⟩, hb.trans (hk.bel (fun k hk => (hS k hk).1) hb.size), fun k hg => Nat.lt_of_lt_of_le (hO k hg) hz⟩, hk.more (fun k _ hg => (hS k hg).2.2)⟩
  rcases hg with hg | ⟨g1, g2⟩
  · obtain ⟨g1, g2, g3⟩ := hS k hg
    exact ⟨g1, by omega, g3⟩
  · exact ⟨by omega, g2, fun h => by have := hO k h; omega⟩
theorem OrS.mono {C' : Value × Int × Int → Prop} (h : OrS pl PT IT M W ab n N sets C O w) (hC : ∀ x, C x ↔ C' x) : OrS pl PT IT M W ab n N sets C' O w := by
  obtain ⟨⟨v, mp, Q, F, S, h1, h2, h3⟩, h4, h5⟩ := h
  exact ⟨⟨v, mp, Q, F, S, h1, h2, fun x => (h3 x).trans (hC x)⟩, h4, h5⟩
end
theorem CQ.succ (j : Nat) (Q : Nat → It) (x : Value × Int × Int) : CQ (j + 1) Q x ↔ CQ j Q x ∨ x = cn (Q j) := by
  constructor
  · rintro ⟨i, hi, e⟩
    by_cases h : i = j
    · subst h; exact .inr e.symm
    · exact .inl ⟨i, by omega, e⟩
  · rintro (⟨i, hi, e⟩ | e)
    · exact ⟨i, by omega, e⟩
    · exact ⟨j, by omega, e.symm⟩
theorem olenS (W w : World) (ab n N : Nat) (sets : Int) (C : Value × Int × Int → Prop) (O : Nat → Prop) (h : OrS pl 107 106 MPS W ab n N sets C O w) :
    Calls Try.prog 97 #[.pointer (some ⟨ab, pl.o, none⟩)] w fun e w' => e = .returned (.int .i64 (n : Int)) ∧ w' = w := by
  obtain ⟨⟨v, mp, Q, F, S, h1, h2, h3⟩, h4, h5⟩ := h
  exact alenS ab n N v mp sets Q F S w h1
theorem osetSa (W w : World) (ab n N : Nat) (sets : Int) (C : Value × Int × Int → Prop) (O : Nat → Prop) (h : OrS pl 107 106 MPS W ab n N sets C O w) (hn : n ≤ 900) (hN : N ≤ 100000) (hs0 : 0 ≤ sets) (hs1 : sets ≤ 1000000) (k : ByteArray) (hk : KS.ok k) (A : Int) (hC : ∀ x, C x → x.1 ≠ .string k) :
    Calls Try.prog 47 #[.pointer (some ⟨ab, pl.o, none⟩), .string k, .int .i64 A] w fun e w' => e = .returned (.tuple #[]) ∧ OrS pl 107 106 MPS W ab (n + 1) (N + 1) (sets + 1) (fun x => C x ∨ x = (.string k, clampA A, sets + 1)) O w' ∧ Keep (fun k => ¬ O k) w w' := by
  obtain ⟨⟨v, mp, Q, F, S, h1, h2, h3⟩, h4, h5⟩ := h
  refine (asetaS ab n N v mp sets Q F S (by omega) hN hs0 hs1 k hk A w h1 (h1.noKey (fun x hx => hC x ((h3 x).1 hx)))).mono ?_
  rintro e w' ⟨rfl, v', mp', Q', ib, hx, hs, hkp⟩
  refine ⟨rfl, OrS.next h4 h5 h2 hx hkp (fun x => ?_)⟩
  rw [CQ.same hs, CQ.ext, h3]
  rfl
theorem osetSb (W w : World) (ab n N : Nat) (sets : Int) (C : Value × Int × Int → Prop) (O : Nat → Prop) (h : OrS pl 107 106 MPS W ab (n + 1) N sets C O w) (hn : n ≤ 900) (hN : N ≤ 100000) (hs0 : 0 ≤ sets) (hs1 : sets ≤ 1000000) (k : ByteArray) (hk : KS.ok k) (A : Int) (y : Value × Int × Int) (hC : C y) (hy : y.1 = .string k) :
    Calls Try.prog 47 #[.pointer (some ⟨ab, pl.o, none⟩), .string k, .int .i64 A] w fun e w' => e = .returned (.tuple #[]) ∧ OrS pl 107 106 MPS W ab (n + 1) (N + 1) (sets + 1) (fun x => C x ∧ x.1 ≠ .string k ∨ x = (.string k, clampA A, sets + 1)) O w' ∧ Keep (fun k => ¬ O k) w w' := by
  obtain ⟨⟨v, mp, Q, F, S, h1, h2, h3⟩, h4, h5⟩ := h
  obtain ⟨R, hR, e⟩ := (h3 y).2 hC
  have hQ : (Q R).k = .string k := by rw [← hy, ← e]; rfl
  refine (asetbS ab n N v mp sets Q F S (by omega) hN hs0 hs1 k hk R hR hQ A w h1 (h1.hasKey hk hR hQ)).mono ?_
  rintro e w' ⟨rfl, v', mp', Q1, Q', ib, hx, hw, hs, hkp⟩
  refine ⟨rfl, OrS.next h4 h5 h2 hx hkp (fun x => ?_)⟩
  rw [CQ.same hs, CQ.ext, CQ.without hw (fun i hi e => h1.keyInj hi hR e), h3, hQ]
  rfl
section
variable (W w : World) (ab n N : Nat) (sets : Int) (C : Value × Int × Int → Prop) (O : Nat → Prop)
theorem ofirstS (h : OrS pl 107 106 MPS W ab n N sets C O w) (hn : n ≤ 1000) :
    Calls Try.prog 33 #[.pointer (some ⟨ab, pl.o, none⟩)] w fun e w' => (∃ at', e = .returned (.tuple #[.int .i64 at', .bool (decide (0 < n))]) ∧ (n = 0 → at' = 0) ∧ (0 < n → ∃ x, C x ∧ x.2.1 = at' ∧ ∀ y, C y → x.2.1 < y.2.1 ∨ x.2.1 = y.2.1 ∧ x.2.2 ≤ y.2.2)) ∧ w' = w := by
  obtain ⟨⟨v, mp, Q, F, S, h1, h2, h3⟩, h4, h5⟩ := h
  refine (afirstS ab n N v mp sets Q F S hn w h1).mono ?_
  rintro e w' ⟨rfl, rfl⟩
  refine ⟨⟨_, rfl, fun h0 => if_pos h0, fun h0 => ⟨cn (Q 0), (h3 _).1 ⟨0, h0, rfl⟩, ?_, fun y hy => ?_⟩⟩, rfl⟩
  · rw [if_neg (by omega)]; rfl
  · obtain ⟨i, hi, e⟩ := (h3 y).2 hy
    have := (leI_iff _ _).1 (heap_least leI_refl leI_trans h1.hp i hi)
    rw [← e]
    exact this
theorem odropSa (h : OrS pl 107 106 MPS W ab n N sets C O w) (k : ByteArray) (hk : KS.ok k) (hC : ∀ x, C x → x.1 ≠ .string k) :
    Calls Try.prog 46 #[.pointer (some ⟨ab, pl.o, none⟩), .string k] w fun e w' => e = .returned (.bool false) ∧ OrS pl 107 106 MPS W ab n N sets C O w' ∧ Keep (fun k => ¬ O k) w w' := by
  have h0 := h
  obtain ⟨⟨v, mp, Q, F, S, h1, h2, h3⟩, h4, h5⟩ := h
  refine (adropaS ab n N v mp sets Q F S k hk w h1 (h1.noKey (fun x hx => hC x ((h3 x).1 hx)))).mono ?_
  rintro e w' ⟨rfl, hb⟩
  exact ⟨rfl, h0.below hb, Keep.of_below hb⟩
theorem odropSb (h : OrS pl 107 106 MPS W ab (n + 1) N sets C O w) (hn : n ≤ 900) (k : ByteArray) (hk : KS.ok k) (y : Value × Int × Int) (hC : C y) (hy : y.1 = .string k) :
    Calls Try.prog 46 #[.pointer (some ⟨ab, pl.o, none⟩), .string k] w fun e w' => e = .returned (.bool true) ∧ OrS pl 107 106 MPS W ab n N sets (fun x => C x ∧ x.1 ≠ .string k) O w' ∧ Keep (fun k => ¬ O k) w w' := by
  obtain ⟨⟨v, mp, Q, F, S, h1, h2, h3⟩, h4, h5⟩ := h
  obtain ⟨R, hR, e⟩ := (h3 y).2 hC
  have hQ : (Q R).k = .string k := by rw [← hy, ← e]; rfl
  refine (adropbS ab n N v mp sets Q F S (by omega) k hk R hR hQ w h1 (h1.hasKey hk hR hQ)).mono ?_
  rintro e w' ⟨rfl, v', mp', Q', hx, hw, hkp⟩
  refine ⟨rfl, OrS.next h4 h5 h2 hx hkp (fun x => ?_)⟩
  rw [CQ.without hw (fun i hi e => h1.keyInj hi hR e), h3, hQ]
theorem opopSc (h : OrS pl 107 106 MPS W ab n N sets C O w) (hn : n ≤ 1000) (now : Int) (hC : ∀ x, C x → now < x.2.1) :
    Calls Try.prog 34 #[.pointer (some ⟨ab, pl.o, none⟩), .int .i64 now] w fun e w' => e = .returned (.tuple #[.string ⟨#[]⟩, .int .i64 0, .bool false]) ∧ w' = w := by
  obtain ⟨⟨v, mp, Q, F, S, h1, h2, h3⟩, h4, h5⟩ := h
  exact apopaS ab n N v mp sets Q F S hn now w h1 (fun h => hC (cn (Q 0)) ((h3 _).1 ⟨0, h, rfl⟩))
end
theorem opopSd (W w : World) (ab n N : Nat) (sets : Int) (C : Value × Int × Int → Prop) (O : Nat → Prop) (h : OrS pl 107 106 MPS W ab (n + 1) N sets C O w) (hn : n ≤ 900) (now : Int) (z : Value × Int × Int) (hz : C z) (hz2 : z.2.1 ≤ now) :
    Calls Try.prog 34 #[.pointer (some ⟨ab, pl.o, none⟩), .int .i64 now] w fun e w' => ∃ k x, C x ∧ x.1 = .string k ∧ (∀ y, C y → x.2.1 < y.2.1 ∨ x.2.1 = y.2.1 ∧ x.2.2 ≤ y.2.2) ∧ e = .returned (.tuple #[.string k, .int .i64 x.2.1, .bool true]) ∧ OrS pl 107 106 MPS W ab n N sets (fun y => C y ∧ y.1 ≠ .string k) O w' ∧ Keep (fun k => ¬ O k) w w' := by
  obtain ⟨⟨v, mp, Q, F, S, h1, h2, h3⟩, h4, h5⟩ := h
  obtain ⟨k, ok, hQ, hF⟩ := h1.fof 0 (by omega)
  have hc : C (cn (Q 0)) := (h3 _).1 ⟨0, by omega, rfl⟩
  have hle : ∀ y, C y → (Q 0).a < y.2.1 ∨ (Q 0).a = y.2.1 ∧ (Q 0).t ≤ y.2.2 := fun y hy => by
    obtain ⟨i, hi, e⟩ := (h3 y).2 hy
    have := (leI_iff _ _).1 (heap_least leI_refl leI_trans h1.hp i hi)
    rw [← e]
    exact this
  refine (apopbS ab n N v mp sets Q F S hn k ok now w h1 hQ hF (by have := hle z hz; omega)).mono ?_
  rintro e w' ⟨rfl, v', mp', Q', hx, hw, hkp⟩
  refine ⟨k, cn (Q 0), hc, hQ, hle, rfl, OrS.next h4 h5 h2 hx hkp (fun x => ?_)⟩
  rw [CQ.without hw (fun i hi e => h1.keyInj hi (by omega) e), h3, hQ]
  rfl
theorem olenN (W w : World) (ab n N : Nat) (sets : Int) (C : Value × Int × Int → Prop) (O : Nat → Prop) (h : OrS pl 97 99 MPN W ab n N sets C O w) :
    Calls Try.prog 93 #[.pointer (some ⟨ab, pl.o, none⟩)] w fun e w' => e = .returned (.int .i64 (n : Int)) ∧ w' = w := by
  obtain ⟨⟨v, mp, Q, F, S, h1, h2, h3⟩, h4, h5⟩ := h
  exact alenN ab n N v mp sets Q F S w h1
theorem osetNa (W w : World) (ab n N : Nat) (sets : Int) (C : Value × Int × Int → Prop) (O : Nat → Prop) (h : OrS pl 97 99 MPN W ab n N sets C O w) (hn : n ≤ 900) (hN : N ≤ 100000) (hs0 : 0 ≤ sets) (hs1 : sets ≤ 1000000) (k : Int) (hk : KN.ok k) (A : Int) (hC : ∀ x, C x → x.1 ≠ .int .i64 k) :
    Calls Try.prog 24 #[.pointer (some ⟨ab, pl.o, none⟩), .int .i64 k, .int .i64 A] w fun e w' => e = .returned (.tuple #[]) ∧ OrS pl 97 99 MPN W ab (n + 1) (N + 1) (sets + 1) (fun x => C x ∨ x = (.int .i64 k, clampA A, sets + 1)) O w' ∧ Keep (fun k => ¬ O k) w w' := by
  obtain ⟨⟨v, mp, Q, F, S, h1, h2, h3⟩, h4, h5⟩ := h
  refine (asetaN ab n N v mp sets Q F S (by omega) hN hs0 hs1 k hk A w h1 (h1.noKey (fun x hx => hC x ((h3 x).1 hx)))).mono ?_
  rintro e w' ⟨rfl, v', mp', Q', ib, hx, hs, hkp⟩
  refine ⟨rfl, OrS.next h4 h5 h2 hx hkp (fun x => ?_)⟩
  rw [CQ.same hs, CQ.ext, h3]
  rfl
theorem osetNb (W w : World) (ab n N : Nat) (sets : Int) (C : Value × Int × Int → Prop) (O : Nat → Prop) (h : OrS pl 97 99 MPN W ab (n + 1) N sets C O w) (hn : n ≤ 900) (hN : N ≤ 100000) (hs0 : 0 ≤ sets) (hs1 : sets ≤ 1000000) (k : Int) (hk : KN.ok k) (A : Int) (y : Value × Int × Int) (hC : C y) (hy : y.1 = .int .i64 k) :
    Calls Try.prog 24 #[.pointer (some ⟨ab, pl.o, none⟩), .int .i64 k, .int .i64 A] w fun e w' => e = .returned (.tuple #[]) ∧ OrS pl 97 99 MPN W ab (n + 1) (N + 1) (sets + 1) (fun x => C x ∧ x.1 ≠ .int .i64 k ∨ x = (.int .i64 k, clampA A, sets + 1)) O w' ∧ Keep (fun k => ¬ O k) w w' := by
  obtain ⟨⟨v, mp, Q, F, S, h1, h2, h3⟩, h4, h5⟩ := h
  obtain ⟨R, hR, e⟩ := (h3 y).2 hC
  have hQ : (Q R).k = .int .i64 k := by rw [← hy, ← e]; rfl
  refine (asetbN ab n N v mp sets Q F S (by omega) hN hs0 hs1 k hk R hR hQ A w h1 (h1.hasKey hk hR hQ)).mono ?_
  rintro e w' ⟨rfl, v', mp', Q1, Q', ib, hx, hw, hs, hkp⟩
  refine ⟨rfl, OrS.next h4 h5 h2 hx hkp (fun x => ?_)⟩
  rw [CQ.same hs, CQ.ext, CQ.without hw (fun i hi e => h1.keyInj hi hR e), h3, hQ]
  rfl
section
variable (W w : World) (ab n N : Nat) (sets : Int) (C : Value × Int × Int → Prop) (O : Nat → Prop)
theorem ofirstN (h : OrS pl 97 99 MPN W ab n N sets C O w) (hn : n ≤ 1000) :
    Calls Try.prog 92 #[.pointer (some ⟨ab, pl.o, none⟩)] w fun e w' => (∃ at', e = .returned (.tuple #[.int .i64 at', .bool (decide (0 < n))]) ∧ (n = 0 → at' = 0) ∧ (0 < n → ∃ x, C x ∧ x.2.1 = at' ∧ ∀ y, C y → x.2.1 < y.2.1 ∨ x.2.1 = y.2.1 ∧ x.2.2 ≤ y.2.2)) ∧ w' = w := by
  obtain ⟨⟨v, mp, Q, F, S, h1, h2, h3⟩, h4, h5⟩ := h
  refine (afirstN ab n N v mp sets Q F S hn w h1).mono ?_
  rintro e w' ⟨rfl, rfl⟩
  refine ⟨⟨_, rfl, fun h0 => if_pos h0, fun h0 => ⟨cn (Q 0), (h3 _).1 ⟨0, h0, rfl⟩, ?_, fun y hy => ?_⟩⟩, rfl⟩
  · rw [if_neg (by omega)]; rfl
  · obtain ⟨i, hi, e⟩ := (h3 y).2 hy
    have := (leI_iff _ _).1 (heap_least leI_refl leI_trans h1.hp i hi)
    rw [← e]
    exact this
theorem odropNa (h : OrS pl 97 99 MPN W ab n N sets C O w) (k : Int) (hk : KN.ok k) (hC : ∀ x, C x → x.1 ≠ .int .i64 k) :
    Calls Try.prog 25 #[.pointer (some ⟨ab, pl.o, none⟩), .int .i64 k] w fun e w' => e = .returned (.bool false) ∧ OrS pl 97 99 MPN W ab n N sets C O w' ∧ Keep (fun k => ¬ O k) w w' := by
  have h0 := h
  obtain ⟨⟨v, mp, Q, F, S, h1, h2, h3⟩, h4, h5⟩ := h
  refine (adropaN ab n N v mp sets Q F S k hk w h1 (h1.noKey (fun x hx => hC x ((h3 x).1 hx)))).mono ?_
  rintro e w' ⟨rfl, hb⟩
  exact ⟨rfl, h0.below hb, Keep.of_below hb⟩
theorem odropNb (h : OrS pl 97 99 MPN W ab (n + 1) N sets C O w) (hn : n ≤ 900) (k : Int) (hk : KN.ok k) (y : Value × Int × Int) (hC : C y) (hy : y.1 = .int .i64 k) :
    Calls Try.prog 25 #[.pointer (some ⟨ab, pl.o, none⟩), .int .i64 k] w fun e w' => e = .returned (.bool true) ∧ OrS pl 97 99 MPN W ab n N sets (fun x => C x ∧ x.1 ≠ .int .i64 k) O w' ∧ Keep (fun k => ¬ O k) w w' := by
  obtain ⟨⟨v, mp, Q, F, S, h1, h2, h3⟩, h4, h5⟩ := h
  obtain ⟨R, hR, e⟩ := (h3 y).2 hC
  have hQ : (Q R).k = .int .i64 k := by rw [← hy, ← e]; rfl
  refine (adropbN ab n N v mp sets Q F S (by omega) k hk R hR hQ w h1 (h1.hasKey hk hR hQ)).mono ?_
  rintro e w' ⟨rfl, v', mp', Q', hx, hw, hkp⟩
  refine ⟨rfl, OrS.next h4 h5 h2 hx hkp (fun x => ?_)⟩
  rw [CQ.without hw (fun i hi e => h1.keyInj hi hR e), h3, hQ]
theorem opopNc (h : OrS pl 97 99 MPN W ab n N sets C O w) (hn : n ≤ 1000) (now : Int) (hC : ∀ x, C x → now < x.2.1) :
    Calls Try.prog 94 #[.pointer (some ⟨ab, pl.o, none⟩), .int .i64 now] w fun e w' => e = .returned (.tuple #[.int .i64 0, .int .i64 0, .bool false]) ∧ w' = w := by
  obtain ⟨⟨v, mp, Q, F, S, h1, h2, h3⟩, h4, h5⟩ := h
  exact apopaN ab n N v mp sets Q F S hn now w h1 (fun h => hC (cn (Q 0)) ((h3 _).1 ⟨0, h, rfl⟩))
end
theorem opopNd (W w : World) (ab n N : Nat) (sets : Int) (C : Value × Int × Int → Prop) (O : Nat → Prop) (h : OrS pl 97 99 MPN W ab (n + 1) N sets C O w) (hn : n ≤ 900) (now : Int) (z : Value × Int × Int) (hz : C z) (hz2 : z.2.1 ≤ now) :
    Calls Try.prog 94 #[.pointer (some ⟨ab, pl.o, none⟩), .int .i64 now] w fun e w' => ∃ k x, C x ∧ x.1 = .int .i64 k ∧ (∀ y, C y → x.2.1 < y.2.1 ∨ x.2.1 = y.2.1 ∧ x.2.2 ≤ y.2.2) ∧ e = .returned (.tuple #[.int .i64 k, .int .i64 x.2.1, .bool true]) ∧ OrS pl 97 99 MPN W ab n N sets (fun y => C y ∧ y.1 ≠ .int .i64 k) O w' ∧ Keep (fun k => ¬ O k) w w' := by
  obtain ⟨⟨v, mp, Q, F, S, h1, h2, h3⟩, h4, h5⟩ := h
  obtain ⟨k, ok, hQ, hF⟩ := h1.fof 0 (by omega)
  have hc : C (cn (Q 0)) := (h3 _).1 ⟨0, by omega, rfl⟩
  have hle : ∀ y, C y → (Q 0).a < y.2.1 ∨ (Q 0).a = y.2.1 ∧ (Q 0).t ≤ y.2.2 := fun y hy => by
    obtain ⟨i, hi, e⟩ := (h3 y).2 hy
    have := (leI_iff _ _).1 (heap_least leI_refl leI_trans h1.hp i hi)
    rw [← e]
    exact this
  refine (apopbN ab n N v mp sets Q F S hn k ok now w h1 hQ hF (by have := hle z hz; omega)).mono ?_
  rintro e w' ⟨rfl, v', mp', Q', hx, hw, hkp⟩
  refine ⟨k, cn (Q 0), hc, hQ, hle, rfl, OrS.next h4 h5 h2 hx hkp (fun x => ?_)⟩
  rw [CQ.without hw (fun i hi e => h1.keyInj hi (by omega) e), h3, hQ]
  rfl
/-- The cells around the agenda have changed. -/
theorem OrS.rest {κ : Type} {K : KTy κ} {pl pl' : Pl} {PT IT : TypeId} {M : MTyK K (Option Nat)} {W w w' : World} {ab n N : Nat} {sets : Int} {C : Value × Int × Int → Prop} {O : Nat → Prop} (h : OrS pl PT IT M W ab n N sets C O w) (hk : Keep (fun k => k = ab) w w') (n1 : PT ≠ pl.T) (n2 : IT ≠ pl.T) (hr : ∀ v mp, RowA pl w ab v mp sets → RowA pl' w' ab v mp sets) : OrS pl' PT IT M W ab n N sets C O w' := by
  obtain ⟨⟨v, mp, Q, F, S, h1, h2, h3⟩, h4, h5⟩ := h
  have hSab := h1.sub ab (.inl rfl)
  refine ⟨⟨v, mp, Q, F, S, ?_, fun k hk2 => ?_, h3⟩, h4.trans (hk.bel (fun k hk => by rw [hk]; exact (h2 ab hSab).1) h4.size), fun k hk2 => Nat.lt_of_lt_of_le (h5 k hk2) hk.size⟩
  · obtain ⟨⟨g1, ⟨cs, g2, g3⟩, g4, g5⟩, q2, q3, q4, q5, q6⟩ := h1
    refine ⟨⟨hr v mp g1, ⟨cs, own_keep g2 hk (fun k e e2 => own_ne g2 g1 n1 (by rw [← e2]; exact e)), g3⟩, fun i hi => (g4 i hi).keep hk (fun e => row_apart (g4 i hi) g1 n2 e), g5⟩, q2, ?_, q4, q5, q6⟩
    rcases q3 with q3 | ⟨mb, e, hs, q3⟩
    · exact .inl q3
    · exact .inr ⟨mb, e, hs, q3.keep hk (fun e => q3.ne_row g1 e)⟩
  · obtain ⟨g1, g2, g3⟩ := h2 k hk2
    exact ⟨g1, Nat.lt_of_lt_of_le g2 hk.size, g3⟩
/-- Others' blocks have changed, and there are more of them. -/
theorem OrS.keepO {κ : Type} {K : KTy κ} {pl : Pl} {PT IT : TypeId} {M : MTyK K (Option Nat)} {W w w' : World} {ab n N : Nat} {sets : Int} {C : Value × Int × Int → Prop} {O O' : Nat → Prop} {G : Nat → Prop} (h : OrS pl PT IT M W ab n N sets C O w) (hk : Keep G w w') (hG : ∀ k, G k → O k ∧ W.heap.size ≤ k) (hO : ∀ k, O' k → k < w'.heap.size ∧ (O k ∨ w.heap.size ≤ k)) : OrS pl PT IT M W ab n N sets C O' w' := by
  obtain ⟨⟨v, mp, Q, F, S, h1, h2, h3⟩, h4, h5⟩ := h
  refine ⟨⟨v, mp, Q, F, S, h1.keep hk (fun k hs hg => (h2 k hs).2.2 (hG k hg).1), fun k hk2 => ?_, h3⟩, h4.trans (hk.bel (fun k hg => (hG k hg).2) h4.size), fun k hk2 => (hO k hk2).1⟩
  obtain ⟨g1, g2, g3⟩ := h2 k hk2
  refine ⟨g1, Nat.lt_of_lt_of_le g2 hk.size, fun hk3 => ?_⟩
  rcases (hO k hk3).2 with h | h
  · exact g3 h
  · omega
end PlV
end Go.Proofs.Ytcdgmhglpcokdaa
