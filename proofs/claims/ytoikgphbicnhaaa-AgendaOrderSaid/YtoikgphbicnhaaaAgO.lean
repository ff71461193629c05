/- An agenda by what it holds: a set of keys, ticks and turns (written by genago.py). -/
import Derived.Test.YtoikgphbicnhaaaAgZ
namespace Go.Proofs.Ytoikgphbicnhaaa
open Go.RowKit Go.Maps

def cn (q : It) : Value × Int × Int := (q.k, q.a, q.t)
def CQ (n : Nat) (Q : Nat → It) (x : Value × Int × Int) : Prop := ∃ i, i < n ∧ cn (Q i) = x
theorem CQ.same {n : Nat} {Q Q' : Nat → It} (h : SameQ n Q Q') (x : Value × Int × Int) : CQ n Q' x ↔ CQ n Q x := by
  constructor
  · rintro ⟨i, hi, e⟩
    obtain ⟨j, hj, e2⟩ := h.1 i hi
    exact ⟨j, hj, by rw [← e2]; exact e⟩
  · rintro ⟨i, hi, e⟩
    obtain ⟨j, hj, e2⟩ := h.2 i hi
    exact ⟨j, hj, by rw [← e2]; exact e⟩
theorem CQ.ext (n : Nat) (Q : Nat → It) (it : It) (x : Value × Int × Int) : CQ (n + 1) (ext Q n it) x ↔ CQ n Q x ∨ x = cn it := by
  constructor
  · rintro ⟨i, hi, e⟩
    by_cases h : i = n
    · subst h
      rw [ext_n] at e
      exact .inr e.symm
    · rw [ext_lt Q it (by omega)] at e
      exact .inl ⟨i, by omega, e⟩
  · rintro (⟨i, hi, e⟩ | rfl)
    · exact ⟨i, by omega, by rw [ext_lt Q it hi]; exact e⟩
    · exact ⟨n, by omega, by rw [ext_n]⟩
theorem CQ.without {n R : Nat} {Q Q' : Nat → It} (h : Without n Q R Q') (hk : ∀ i, i < n + 1 → (Q i).k = (Q R).k → i = R) (x : Value × Int × Int) : CQ n Q' x ↔ CQ (n + 1) Q x ∧ x.1 ≠ (Q R).k := by
  constructor
  · rintro ⟨i, hi, e⟩
    obtain ⟨j, hj, hne, e2⟩ := h.1 i hi
    rw [e2] at e
    exact ⟨⟨j, hj, e⟩, fun e3 => hne (hk j hj (by rw [← e] at e3; exact e3))⟩
  · rintro ⟨⟨j, hj, e⟩, hne⟩
    obtain ⟨i, hi, e2⟩ := h.2 j hj (fun e3 => hne (by rw [← e, e3]; rfl))
    exact ⟨i, hi, by rw [e2]; exact e⟩
/-- An agenda made behind W. -/
structure OrS {κ : Type} {K : KTy κ} (TA PT IT : TypeId) (M : MTyK K (Option Nat)) (W : World) (ab n N : Nat) (sets : Int) (C : Value × Int × Int → Prop) (w : World) : Prop where
  ex : ∃ v mp Q F S, AgX TA PT IT M w ab n N v mp sets Q F S ∧ (∀ k, S k → W.heap.size ≤ k) ∧ ∀ x, CQ n Q x ↔ C x
  bel : Below W.heap.size W w
section
variable {κ : Type} {K : KTy κ} {TA PT IT : TypeId} {M : MTyK K (Option Nat)} {W w w' : World} {ab n N R : Nat} {v mp : Value} {sets : Int} {Q : Nat → It} {F : κ → Option Nat} {S : Nat → Prop} {C : Value × Int × Int → Prop}
theorem AgX.keyInj (h : AgX TA PT IT M w ab n N v mp sets Q F S) {i j : Nat} (hi : i < n) (hj : j < n) (e : (Q i).k = (Q j).k) : i = j := by
  obtain ⟨k1, o1, e1, f1⟩ := h.fof i hi
  obtain ⟨k2, o2, e2, f2⟩ := h.fof j hj
  have hk := K.kv_inj o1 o2 (by rw [← e1, ← e2]; exact e)
  rw [hk, f2] at f1
  injection f1 with f1
  exact h.s.inj i hi j hj f1.symm
theorem AgX.noKey {k : κ} (h : AgX TA PT IT M w ab n N v mp sets Q F S) (hC : ∀ x, CQ n Q x → x.1 ≠ K.kv k) : F k = none := by
  cases e : F k with
  | none => rfl
  | some b =>
    obtain ⟨i, hi, e1, _⟩ := h.fto k b e
    exact absurd e1 (hC (cn (Q i)) ⟨i, hi, rfl⟩)
theorem AgX.hasKey {k : κ} (hk : K.ok k) (h : AgX TA PT IT M w ab n N v mp sets Q F S) {i : Nat} (hi : i < n) (e : (Q i).k = K.kv k) : F k = some (Q i).b := by
  obtain ⟨k1, o1, e1, f1⟩ := h.fof i hi
  rw [K.kv_inj hk o1 (by rw [← e, ← e1])]
  exact f1
theorem OrS.below (h : OrS TA PT IT M W ab n N sets C w) (hb : Below w.heap.size w w') : OrS TA PT IT M W ab n N sets C w' := by
  obtain ⟨⟨v, mp, Q, F, S, h1, h2, h3⟩, h4⟩ := h
  exact ⟨⟨v, mp, Q, F, S, h1.below hb, h2, h3⟩, h4.trans (hb.mono h4.size)⟩
theorem OrS.next {n' N' : Nat} {v' mp' : Value} {sets' : Int} {Q' : Nat → It} {F' : κ → Option Nat} {C' : Value × Int × Int → Prop} (hb : Below W.heap.size W w) (hS : ∀ k, S k → W.heap.size ≤ k) (hx : AgX TA PT IT M w' ab n' N' v' mp' sets' Q' F' (newS S w w')) (hk : Keep S w w') (hC : ∀ x, CQ n' Q' x ↔ C' x) : OrS TA PT IT M W ab n' N' sets' C' w' :=
  ⟨⟨v', mp', Q', F', _, hx, fun k hg => by
    rcases hg with hg | hg
    · exact hS k hg
    · have := hb.size
      omega, hC⟩, hb.trans (hk.bel hS hb.size)⟩
theorem OrS.mono {C' : Value × Int × Int → Prop} (h : OrS TA PT IT M W ab n N sets C w) (hC : ∀ x, C x ↔ C' x) : OrS TA PT IT M W ab n N sets C' w := by
  obtain ⟨⟨v, mp, Q, F, S, h1, h2, h3⟩, h4⟩ := h
  exact ⟨⟨v, mp, Q, F, S, h1, h2, fun x => (h3 x).trans (hC x)⟩, h4⟩
end
theorem onewS (W w : World) (hb : Below W.heap.size W w) :
    Calls Try.prog 10 #[] w fun e w' => ∃ ab, e = .returned (.pointer (some ⟨ab, 0, none⟩)) ∧ OrS 90 100 102 MPS W ab 0 0 0 (fun _ => False) w' := by
  refine (anewS w).mono ?_
  rintro e w' ⟨ab, rfl, hx, hb'⟩
  exact ⟨ab, rfl, ⟨⟨_, _, _, _, _, hx, fun k hk => by
    rcases hk with hk | hk
    · exact hk.elim
    · have := hb.size
      omega, fun x => ⟨fun ⟨i, hi, _⟩ => absurd hi (Nat.not_lt_zero i), fun h => h.elim⟩⟩, hb.trans (hb'.mono hb.size)⟩⟩
theorem olenS (W w : World) (ab n N : Nat) (sets : Int) (C : Value × Int × Int → Prop) (h : OrS 90 100 102 MPS W ab n N sets C w) :
    Calls Try.prog 39 #[.pointer (some ⟨ab, 0, none⟩)] w fun e w' => e = .returned (.int .i64 (n : Int)) ∧ w' = w := by
  obtain ⟨⟨v, mp, Q, F, S, h1, h2, h3⟩, h4⟩ := h
  exact alenS ab n N v mp sets Q F S w h1
theorem osetSa (W w : World) (ab n N : Nat) (sets : Int) (C : Value × Int × Int → Prop) (h : OrS 90 100 102 MPS W ab n N sets C w) (hn : n ≤ 900) (hN : N ≤ 100000) (hs0 : 0 ≤ sets) (hs1 : sets ≤ 1000000) (k : ByteArray) (hk : KS.ok k) (A : Int) (hC : ∀ x, C x → x.1 ≠ .string k) :
    Calls Try.prog 37 #[.pointer (some ⟨ab, 0, none⟩), .string k, .int .i64 A] w fun e w' => e = .returned (.tuple #[]) ∧ OrS 90 100 102 MPS W ab (n + 1) (N + 1) (sets + 1) (fun x => C x ∨ x = (.string k, clampA A, sets + 1)) w' := by
  obtain ⟨⟨v, mp, Q, F, S, h1, h2, h3⟩, h4⟩ := h
  refine (asetaS ab n N v mp sets Q F S (by omega) hN hs0 hs1 k hk A w h1 (h1.noKey (fun x hx => hC x ((h3 x).1 hx)))).mono ?_
  rintro e w' ⟨rfl, v', mp', Q', ib, hx, hs, hkp⟩
  refine ⟨rfl, OrS.next h4 h2 hx hkp (fun x => ?_)⟩
  rw [CQ.same hs, CQ.ext, h3]
  rfl
theorem osetSb (W w : World) (ab n N : Nat) (sets : Int) (C : Value × Int × Int → Prop) (h : OrS 90 100 102 MPS W ab (n + 1) N sets C w) (hn : n ≤ 900) (hN : N ≤ 100000) (hs0 : 0 ≤ sets) (hs1 : sets ≤ 1000000) (k : ByteArray) (hk : KS.ok k) (A : Int) (y : Value × Int × Int) (hC : C y) (hy : y.1 = .string k) :
    Calls Try.prog 37 #[.pointer (some ⟨ab, 0, none⟩), .string k, .int .i64 A] w fun e w' => e = .returned (.tuple #[]) ∧ OrS 90 100 102 MPS W ab (n + 1) (N + 1) (sets + 1) (fun x => C x ∧ x.1 ≠ .string k ∨ x = (.string k, clampA A, sets + 1)) w' := by
  obtain ⟨⟨v, mp, Q, F, S, h1, h2, h3⟩, h4⟩ := h
  obtain ⟨R, hR, e⟩ := (h3 y).2 hC
  have hQ : (Q R).k = .string k := by rw [← hy, ← e]; rfl
  refine (asetbS ab n N v mp sets Q F S (by omega) hN hs0 hs1 k hk R hR hQ A w h1 (h1.hasKey hk hR hQ)).mono ?_
  rintro e w' ⟨rfl, v', mp', Q1, Q', ib, hx, hw, hs, hkp⟩
  refine ⟨rfl, OrS.next h4 h2 hx hkp (fun x => ?_)⟩
  rw [CQ.same hs, CQ.ext, CQ.without hw (fun i hi e => h1.keyInj hi hR e), h3, hQ]
  rfl
theorem opopSa (W w : World) (ab N : Nat) (sets : Int) (C : Value × Int × Int → Prop) (h : OrS 90 100 102 MPS W ab 0 N sets C w) (now : Int) :
    Calls Try.prog 38 #[.pointer (some ⟨ab, 0, none⟩), .int .i64 now] w fun e w' => e = .returned (.tuple #[.string ⟨#[]⟩, .int .i64 0, .bool false]) ∧ w' = w := by
  obtain ⟨⟨v, mp, Q, F, S, h1, h2, h3⟩, h4⟩ := h
  exact apopaS ab 0 N v mp sets Q F S (by omega) now w h1 (fun h => absurd h (Nat.lt_irrefl 0))
/-- The first: whoever it is, it is in C and the least. -/
theorem opopSb (W w : World) (ab n N : Nat) (sets : Int) (C : Value × Int × Int → Prop) (h : OrS 90 100 102 MPS W ab (n + 1) N sets C w) (hn : n ≤ 900) (now : Int) (hC : ∀ x, C x → x.2.1 ≤ now) :
    Calls Try.prog 38 #[.pointer (some ⟨ab, 0, none⟩), .int .i64 now] w fun e w' => ∃ k x, C x ∧ x.1 = .string k ∧ (∀ y, C y → x.2.1 < y.2.1 ∨ x.2.1 = y.2.1 ∧ x.2.2 ≤ y.2.2) ∧ e = .returned (.tuple #[.string k, .int .i64 x.2.1, .bool true]) ∧ OrS 90 100 102 MPS W ab n N sets (fun y => C y ∧ y.1 ≠ .string k) w' := by
  obtain ⟨⟨v, mp, Q, F, S, h1, h2, h3⟩, h4⟩ := h
  obtain ⟨k, ok, hQ, hF⟩ := h1.fof 0 (by omega)
  have hc : C (cn (Q 0)) := (h3 _).1 ⟨0, by omega, rfl⟩
  refine (apopbS ab n N v mp sets Q F S hn k ok now w h1 hQ hF (hC _ hc)).mono ?_
  rintro e w' ⟨rfl, v', mp', Q', hx, hw, hkp⟩
  refine ⟨k, cn (Q 0), hc, hQ, fun y hy => ?_, rfl, OrS.next h4 h2 hx hkp (fun x => ?_)⟩
  · obtain ⟨i, hi, e⟩ := (h3 y).2 hy
    have := (leI_iff _ _).1 (heap_least leI_refl leI_trans h1.hp i hi)
    rw [← e]
    exact this
  · rw [CQ.without hw (fun i hi e => h1.keyInj hi (by omega) e), h3, hQ]
    rfl
theorem onewN (W w : World) (hb : Below W.heap.size W w) :
    Calls Try.prog 14 #[] w fun e w' => ∃ ab, e = .returned (.pointer (some ⟨ab, 0, none⟩)) ∧ OrS 108 111 113 MPN W ab 0 0 0 (fun _ => False) w' := by
  refine (anewN w).mono ?_
  rintro e w' ⟨ab, rfl, hx, hb'⟩
  exact ⟨ab, rfl, ⟨⟨_, _, _, _, _, hx, fun k hk => by
    rcases hk with hk | hk
    · exact hk.elim
    · have := hb.size
      omega, fun x => ⟨fun ⟨i, hi, _⟩ => absurd hi (Nat.not_lt_zero i), fun h => h.elim⟩⟩, hb.trans (hb'.mono hb.size)⟩⟩
theorem olenN (W w : World) (ab n N : Nat) (sets : Int) (C : Value × Int × Int → Prop) (h : OrS 108 111 113 MPN W ab n N sets C w) :
    Calls Try.prog 17 #[.pointer (some ⟨ab, 0, none⟩)] w fun e w' => e = .returned (.int .i64 (n : Int)) ∧ w' = w := by
  obtain ⟨⟨v, mp, Q, F, S, h1, h2, h3⟩, h4⟩ := h
  exact alenN ab n N v mp sets Q F S w h1
theorem osetNa (W w : World) (ab n N : Nat) (sets : Int) (C : Value × Int × Int → Prop) (h : OrS 108 111 113 MPN W ab n N sets C w) (hn : n ≤ 900) (hN : N ≤ 100000) (hs0 : 0 ≤ sets) (hs1 : sets ≤ 1000000) (k : Int) (hk : KN.ok k) (A : Int) (hC : ∀ x, C x → x.1 ≠ .int .i64 k) :
    Calls Try.prog 15 #[.pointer (some ⟨ab, 0, none⟩), .int .i64 k, .int .i64 A] w fun e w' => e = .returned (.tuple #[]) ∧ OrS 108 111 113 MPN W ab (n + 1) (N + 1) (sets + 1) (fun x => C x ∨ x = (.int .i64 k, clampA A, sets + 1)) w' := by
  obtain ⟨⟨v, mp, Q, F, S, h1, h2, h3⟩, h4⟩ := h
  refine (asetaN ab n N v mp sets Q F S (by omega) hN hs0 hs1 k hk A w h1 (h1.noKey (fun x hx => hC x ((h3 x).1 hx)))).mono ?_
  rintro e w' ⟨rfl, v', mp', Q', ib, hx, hs, hkp⟩
  refine ⟨rfl, OrS.next h4 h2 hx hkp (fun x => ?_)⟩
  rw [CQ.same hs, CQ.ext, h3]
  rfl
theorem osetNb (W w : World) (ab n N : Nat) (sets : Int) (C : Value × Int × Int → Prop) (h : OrS 108 111 113 MPN W ab (n + 1) N sets C w) (hn : n ≤ 900) (hN : N ≤ 100000) (hs0 : 0 ≤ sets) (hs1 : sets ≤ 1000000) (k : Int) (hk : KN.ok k) (A : Int) (y : Value × Int × Int) (hC : C y) (hy : y.1 = .int .i64 k) :
    Calls Try.prog 15 #[.pointer (some ⟨ab, 0, none⟩), .int .i64 k, .int .i64 A] w fun e w' => e = .returned (.tuple #[]) ∧ OrS 108 111 113 MPN W ab (n + 1) (N + 1) (sets + 1) (fun x => C x ∧ x.1 ≠ .int .i64 k ∨ x = (.int .i64 k, clampA A, sets + 1)) w' := by
  obtain ⟨⟨v, mp, Q, F, S, h1, h2, h3⟩, h4⟩ := h
  obtain ⟨R, hR, e⟩ := (h3 y).2 hC
  have hQ : (Q R).k = .int .i64 k := by rw [← hy, ← e]; rfl
  refine (asetbN ab n N v mp sets Q F S (by omega) hN hs0 hs1 k hk R hR hQ A w h1 (h1.hasKey hk hR hQ)).mono ?_
  rintro e w' ⟨rfl, v', mp', Q1, Q', ib, hx, hw, hs, hkp⟩
  refine ⟨rfl, OrS.next h4 h2 hx hkp (fun x => ?_)⟩
  rw [CQ.same hs, CQ.ext, CQ.without hw (fun i hi e => h1.keyInj hi hR e), h3, hQ]
  rfl
theorem opopNa (W w : World) (ab N : Nat) (sets : Int) (C : Value × Int × Int → Prop) (h : OrS 108 111 113 MPN W ab 0 N sets C w) (now : Int) :
    Calls Try.prog 16 #[.pointer (some ⟨ab, 0, none⟩), .int .i64 now] w fun e w' => e = .returned (.tuple #[.int .i64 0, .int .i64 0, .bool false]) ∧ w' = w := by
  obtain ⟨⟨v, mp, Q, F, S, h1, h2, h3⟩, h4⟩ := h
  exact apopaN ab 0 N v mp sets Q F S (by omega) now w h1 (fun h => absurd h (Nat.lt_irrefl 0))
/-- The first: whoever it is, it is in C and the least. -/
theorem opopNb (W w : World) (ab n N : Nat) (sets : Int) (C : Value × Int × Int → Prop) (h : OrS 108 111 113 MPN W ab (n + 1) N sets C w) (hn : n ≤ 900) (now : Int) (hC : ∀ x, C x → x.2.1 ≤ now) :
    Calls Try.prog 16 #[.pointer (some ⟨ab, 0, none⟩), .int .i64 now] w fun e w' => ∃ k x, C x ∧ x.1 = .int .i64 k ∧ (∀ y, C y → x.2.1 < y.2.1 ∨ x.2.1 = y.2.1 ∧ x.2.2 ≤ y.2.2) ∧ e = .returned (.tuple #[.int .i64 k, .int .i64 x.2.1, .bool true]) ∧ OrS 108 111 113 MPN W ab n N sets (fun y => C y ∧ y.1 ≠ .int .i64 k) w' := by
  obtain ⟨⟨v, mp, Q, F, S, h1, h2, h3⟩, h4⟩ := h
  obtain ⟨k, ok, hQ, hF⟩ := h1.fof 0 (by omega)
  have hc : C (cn (Q 0)) := (h3 _).1 ⟨0, by omega, rfl⟩
  refine (apopbN ab n N v mp sets Q F S hn k ok now w h1 hQ hF (hC _ hc)).mono ?_
  rintro e w' ⟨rfl, v', mp', Q', hx, hw, hkp⟩
  refine ⟨k, cn (Q 0), hc, hQ, fun y hy => ?_, rfl, OrS.next h4 h2 hx hkp (fun x => ?_)⟩
  · obtain ⟨i, hi, e⟩ := (h3 y).2 hy
    have := (leI_iff _ _).1 (heap_least leI_refl leI_trans h1.hp i hi)
    rw [← e]
    exact this
  · rw [CQ.without hw (fun i hi e => h1.keyInj hi (by omega) e), h3, hQ]
    rfl
end Go.Proofs.Ytoikgphbicnhaaa
