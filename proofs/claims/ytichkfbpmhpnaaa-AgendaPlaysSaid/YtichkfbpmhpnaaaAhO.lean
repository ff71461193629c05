/- An agenda at any place by what it holds, beside blocks of others, at both kinds of keys (written by genaho.py). -/
import Derived.Test.YtichkfbpmhpnaaaAhZ
namespace Go.Proofs.Ytichkfbpmhpnaaa
open Go.RowKit Go.Maps
section PlV
variable {pl : Pl}
def cn (q : It) : Value × Int × Int := (q.k, q.a, q.t)
def CQ (n : Nat) (Q : Nat → It) (x : Value × Int × Int) : Prop := ∃ i, i < n ∧ cn (Q i) = x
theorem CQ.same {n : Nat} {Q Q' : Nat → It} (h : SameQ n Q Q') (x : Value × Int × Int) : CQ n Q' x ↔ CQ n Q x := by
  constructor
  · rintro ⟨i, hi, e⟩
    obtain ⟨j, hj, e2⟩ := h.1 i hi
    exact ⟨j, hj, by rw [← e2]; exact e⟩
  · rintro ⟨i, hi, e⟩
    obtain ⟨j, hj, e2⟩ := h.2 i hi
    exact ⟨j, hj, by rw [← e2]; exact e⟩
theorem CQ.ext (n : Nat) (Q : Nat → It) (it : It) (x : Value × Int × Int) : CQ (n + 1) (ext Q n it) x ↔ CQ n Q x ∨ x = cn it := by
  constructor
  · rintro ⟨i, hi, e⟩
    by_cases h : i = n
    · subst h
      rw [ext_n] at e
      exact .inr e.symm
    · rw [ext_lt Q it (by omega)] at e
      exact .inl ⟨i, by omega, e⟩
  · rintro (⟨i, hi, e⟩ | rfl)
    · exact ⟨i, by omega, by rw [ext_lt Q it hi]; exact e⟩
    · exact ⟨n, by omega, by rw [ext_n]⟩
theorem CQ.without {n R : Nat} {Q Q' : Nat → It} (h : Without n Q R Q') (hk : ∀ i, i < n + 1 → (Q i).k = (Q R).k → i = R) (x : Value × Int × Int) : CQ n Q' x ↔ CQ (n + 1) Q x ∧ x.1 ≠ (Q R).k := by
  constructor
  · rintro ⟨i, hi, e⟩
    obtain ⟨j, hj, hne, e2⟩ := h.1 i hi
    rw [e2] at e
    exact ⟨⟨j, hj, e⟩, fun e3 => hne (hk j hj (by rw [← e] at e3; exact e3))⟩
  · rintro ⟨⟨j, hj, e⟩, hne⟩
    obtain ⟨i, hi, e2⟩ := h.2 j hj (fun e3 => hne (by rw [← e, e3]; rfl))
    exact ⟨i, hi, by rw [e2]; exact e⟩
section
variable {κ : Type} {K : KTy κ} {pl : Pl} {PT IT : TypeId} {M : MTyK K (Option Nat)} {W w w' : World} {ab n N R : Nat} {v mp : Value} {sets : Int} {Q : Nat → It} {F : κ → Option Nat} {S : Nat → Prop} {C : Value × Int × Int → Prop}
theorem AgX.keyInj (h : AgX pl PT IT M w ab n N v mp sets Q F S) {i j : Nat} (hi : i < n) (hj : j < n) (e : (Q i).k = (Q j).k) : i = j := by
  obtain ⟨k1, o1, e1, f1⟩ := h.fof i hi
  obtain ⟨k2, o2, e2, f2⟩ := h.fof j hj
  have hk := K.kv_inj o1 o2 (by rw [← e1, ← e2]; exact e)
  rw [hk, f2] at f1
  injection f1 with f1
  exact h.s.inj i hi j hj f1.symm
theorem AgX.noKey {k : κ} (h : AgX pl PT IT M w ab n N v mp sets Q F S) (hC : ∀ x, CQ n Q x → x.1 ≠ K.kv k) : F k = none := by
  cases e : F k with
  | none => rfl
  | some b =>
    obtain ⟨i, hi, e1, _⟩ := h.fto k b e
    exact absurd e1 (hC (cn (Q i)) ⟨i, hi, rfl⟩)
theorem AgX.hasKey {k : κ} (hk : K.ok k) (h : AgX pl PT IT M w ab n N v mp sets Q F S) {i : Nat} (hi : i < n) (e : (Q i).k = K.kv k) : F k = some (Q i).b := by
  obtain ⟨k1, o1, e1, f1⟩ := h.fof i hi
  rw [K.kv_inj hk o1 (by rw [← e, ← e1])]
  exact f1
end
/-- An agenda made behind W, beside the blocks O. -/
structure OrS {κ : Type} {K : KTy κ} (pl : Pl) (PT IT : TypeId) (M : MTyK K (Option Nat)) (W : World) (ab n N : Nat) (sets : Int) (C : Value × Int × Int → Prop) (O : Nat → Prop) (w : World) : Prop where
  ex : ∃ v mp Q F S, AgX pl PT IT M w ab n N v mp sets Q F S ∧ (∀ k, S k → W.heap.size ≤ k ∧ k < w.heap.size ∧ ¬ O k) ∧ ∀ x, CQ n Q x ↔ C x
  bel : Below W.heap.size W w
  oth : ∀ k, O k → k < w.heap.size
section
variable {κ : Type} {K : KTy κ} {pl : Pl} {PT IT : TypeId} {M : MTyK K (Option Nat)} {W w w' : World} {ab n N : Nat} {v mp : Value} {sets : Int} {Q : Nat → It} {F : κ → Option Nat} {S : Nat → Prop} {C : Value × Int × Int → Prop} {O : Nat → Prop}
theorem OrS.belowO {O' : Nat → Prop} (h : OrS pl PT IT M W ab n N sets C O w) (hb : Below w.heap.size w w') (hO : ∀ k, O' k → k < w'.heap.size ∧ (O k ∨ w.heap.size ≤ k)) : OrS pl PT IT M W ab n N sets C O' w' := by
  obtain ⟨⟨v, mp, Q, F, S, h1, h2, h3⟩, h4, h5⟩ := h
  refine ⟨⟨v, mp, Q, F, S, h1.below hb, fun k hk => ?_, h3⟩, h4.trans (hb.mono h4.size), fun k hk => (hO k hk).1⟩
  obtain ⟨g1, g2, g3⟩ := h2 k hk
  have := hb.size
  refine ⟨g1, by omega, fun hk2 => ?_⟩
  rcases (hO k hk2).2 with h | h
  · exact g3 h
  · omega
theorem OrS.below (h : OrS pl PT IT M W ab n N sets C O w) (hb : Below w.heap.size w w') : OrS pl PT IT M W ab n N sets C O w' :=
  h.belowO hb (fun k hk => ⟨Nat.lt_of_lt_of_le (h.oth k hk) hb.size, .inl hk⟩)
theorem OrS.next {n' N' : Nat} {v' mp' : Value} {sets' : Int} {Q' : Nat → It} {F' : κ → Option Nat} {C' : Value × Int × Int → Prop} (hb : Below W.heap.size W w) (hO : ∀ k, O k → k < w.heap.size) (hS : ∀ k, S k → W.heap.size ≤ k ∧ k < w.heap.size ∧ ¬ O k) (hx : AgX pl PT IT M w' ab n' N' v' mp' sets' Q' F' (newS S w w')) (hk : Keep S w w') (hC : ∀ x, CQ n' Q' x ↔ C' x) : OrS pl PT IT M W ab n' N' sets' C' O w' ∧ Keep (fun k => ¬ O k) w w' := by
  have hz := hk.size
  have hz2 := hb.size
  refine ⟨⟨⟨v', mp', Q', F', _, hx, fun k hg => ?_, hC⟩, hb.trans (hk.bel (fun k hk => (hS k hk).1) hb.size), fun k hg => Nat.lt_of_lt_of_le (hO k hg) hz⟩, hk.more (fun k _ hg => (hS k hg).2.2)⟩
  rcases hg with hg | ⟨g1, g2⟩
  · obtain ⟨g1, g2, g3⟩ := hS k hg
    exact ⟨g1, by omega, g3⟩
  · exact ⟨by omega, g2, fun h => by have := hO k h; omega⟩
theorem OrS.mono {C' : Value × Int × Int → Prop} (h : OrS pl PT IT M W ab n N sets C O w) (hC : ∀ x, C x ↔ C' x) : OrS pl PT IT M W ab n N sets C' O w := by
  obtain ⟨⟨v, mp, Q, F, S, h1, h2, h3⟩, h4, h5⟩ := h
  exact ⟨⟨v, mp, Q, F, S, h1, h2, fun x => (h3 x).trans (hC x)⟩, h4, h5⟩
end
theorem CQ.succ (j : Nat) (Q : Nat → It) (x : Value × Int × Int) : CQ (j + 1) Q x ↔ CQ j Q x ∨ x = cn (Q j) := by
  constructor
  · rintro ⟨i, hi, e⟩
    by_cases h : i = j
    · subst h; exact .inr e.symm
    · exact .inl ⟨i, by omega, e⟩
  · rintro (⟨i, hi, e⟩ | e)
    · exact ⟨i, by omega, e⟩
    · exact ⟨j, by omega, e.symm⟩
theorem aatSa (ab n N : Nat) (v mp : Value) (sets : Int) (Q : Nat → It) (F : ByteArray → Option Nat) (S : Nat → Prop) (k : ByteArray) (hk : KS.ok k) (w : World) (h : AgX pl 102 104 MPS w ab n N v mp sets Q F S) (hF : F k = none) :
    Calls Try.prog 44 #[.pointer (some ⟨ab, pl.o, none⟩), .string k] w fun e w' => e = .returned (.tuple #[.int .i64 0, .bool false]) ∧ Below w.heap.size w w' := by
  have hfi := afindS ab n N v mp sets Q F S k hk w h
  rw [hF] at hfi
  have HFI : Hid (Calls Try.prog 85 #[.pointer (some ⟨ab, pl.o, none⟩), .string k] w fun e w' => e = .returned (.pointer none) ∧ Below w.heap.size w w') := hfi
  clear h hF hfi
  go_enter Try.func44, Try.ntmps44
  go_wp2_with fail
  refine HFI.out.mono ?_
  rintro e w1 ⟨rfl, hb⟩
  have HB := Lib.hid hb
  clear hb HFI
  go_wp2_with fail
  go_ret2
  exact ⟨rfl, HB.out⟩
theorem aatSb (ab n N : Nat) (v mp : Value) (sets : Int) (Q : Nat → It) (F : ByteArray → Option Nat) (S : Nat → Prop) (k : ByteArray) (hk : KS.ok k) (R : Nat) (hR : R < n) (w : World) (h : AgX pl 102 104 MPS w ab n N v mp sets Q F S) (hF : F k = some (Q R).b) :
    Calls Try.prog 44 #[.pointer (some ⟨ab, pl.o, none⟩), .string k] w fun e w' => e = .returned (.tuple #[.int .i64 (Q R).a, .bool true]) ∧ Below w.heap.size w w' := by
  have hfi := afindS ab n N v mp sets Q F S k hk w h
  rw [hF] at hfi
  obtain ⟨b, hb⟩ : ∃ b, (Q R).b = b := ⟨_, rfl⟩
  have HFI : Hid (Calls Try.prog 85 #[.pointer (some ⟨ab, pl.o, none⟩), .string k] w fun e w' => e = .returned (.pointer (some ⟨b, 0, none⟩)) ∧ Below w.heap.size w w') := by rw [← hb]; exact Lib.hid hfi
  have HX := Lib.hid h
  have HB0 := Lib.hid hb
  clear h hF hfi hb
  go_enter Try.func44, Try.ntmps44
  go_wp2_with fail
  refine HFI.out.mono ?_
  rintro e w1 ⟨rfl, hb⟩
  have c1 : w1.cell? ⟨b, 1, none⟩ = some (.int .i64 (Q R).a) := by
    have := ((HX.out.below hb).s.it R hR).cell 1
    rw [HB0.out] at this
    exact this
  have HB := Lib.hid hb
  clear hb HFI
  go_wp2_with fail
  go_ret2
  exact ⟨rfl, HB.out⟩
theorem onewS (W w : World) (hb : Below W.heap.size W w) (O : Nat → Prop) (hO : ∀ k, O k → k < w.heap.size) :
    Calls Try.prog 10 #[] w fun e w' => ∃ ab, e = .returned (.pointer (some ⟨ab, 0, none⟩)) ∧ OrS pl0S 102 104 MPS W ab 0 0 0 (fun _ => False) O w' ∧ Below w.heap.size w w' := by
  refine (anewS w).mono ?_
  rintro e w' ⟨ab, rfl, hx, hb'⟩
  refine ⟨ab, rfl, ⟨⟨_, _, _, _, _, hx, fun k hk => ?_, fun x => ⟨fun ⟨i, hi, _⟩ => absurd hi (Nat.not_lt_zero i), fun h => h.elim⟩⟩, hb.trans (hb'.mono hb.size), fun k hk => Nat.lt_of_lt_of_le (hO k hk) hb'.size⟩, hb'⟩
  rcases hk with hk | ⟨g1, g2⟩
  · exact hk.elim
  · have := hb.size
    exact ⟨by omega, g2, fun h => by have := hO k h; omega⟩
theorem olenS (W w : World) (ab n N : Nat) (sets : Int) (C : Value × Int × Int → Prop) (O : Nat → Prop) (h : OrS pl 102 104 MPS W ab n N sets C O w) :
    Calls Try.prog 37 #[.pointer (some ⟨ab, pl.o, none⟩)] w fun e w' => e = .returned (.int .i64 (n : Int)) ∧ w' = w := by
  obtain ⟨⟨v, mp, Q, F, S, h1, h2, h3⟩, h4, h5⟩ := h
  exact alenS ab n N v mp sets Q F S w h1
theorem osetSa (W w : World) (ab n N : Nat) (sets : Int) (C : Value × Int × Int → Prop) (O : Nat → Prop) (h : OrS pl 102 104 MPS W ab n N sets C O w) (hn : n ≤ 900) (hN : N ≤ 100000) (hs0 : 0 ≤ sets) (hs1 : sets ≤ 1000000) (k : ByteArray) (hk : KS.ok k) (A : Int) (hC : ∀ x, C x → x.1 ≠ .string k) :
    Calls Try.prog 35 #[.pointer (some ⟨ab, pl.o, none⟩), .string k, .int .i64 A] w fun e w' => e = .returned (.tuple #[]) ∧ OrS pl 102 104 MPS W ab (n + 1) (N + 1) (sets + 1) (fun x => C x ∨ x = (.string k, clampA A, sets + 1)) O w' ∧ Keep (fun k => ¬ O k) w w' := by
  obtain ⟨⟨v, mp, Q, F, S, h1, h2, h3⟩, h4, h5⟩ := h
  refine (asetaS ab n N v mp sets Q F S (by omega) hN hs0 hs1 k hk A w h1 (h1.noKey (fun x hx => hC x ((h3 x).1 hx)))).mono ?_
  rintro e w' ⟨rfl, v', mp', Q', ib, hx, hs, hkp⟩
  refine ⟨rfl, OrS.next h4 h5 h2 hx hkp (fun x => ?_)⟩
  rw [CQ.same hs, CQ.ext, h3]
  rfl
theorem osetSb (W w : World) (ab n N : Nat) (sets : Int) (C : Value × Int × Int → Prop) (O : Nat → Prop) (h : OrS pl 102 104 MPS W ab (n + 1) N sets C O w) (hn : n ≤ 900) (hN : N ≤ 100000) (hs0 : 0 ≤ sets) (hs1 : sets ≤ 1000000) (k : ByteArray) (hk : KS.ok k) (A : Int) (y : Value × Int × Int) (hC : C y) (hy : y.1 = .string k) :
    Calls Try.prog 35 #[.pointer (some ⟨ab, pl.o, none⟩), .string k, .int .i64 A] w fun e w' => e = .returned (.tuple #[]) ∧ OrS pl 102 104 MPS W ab (n + 1) (N + 1) (sets + 1) (fun x => C x ∧ x.1 ≠ .string k ∨ x = (.string k, clampA A, sets + 1)) O w' ∧ Keep (fun k => ¬ O k) w w' := by
  obtain ⟨⟨v, mp, Q, F, S, h1, h2, h3⟩, h4, h5⟩ := h
  obtain ⟨R, hR, e⟩ := (h3 y).2 hC
  have hQ : (Q R).k = .string k := by rw [← hy, ← e]; rfl
  refine (asetbS ab n N v mp sets Q F S (by omega) hN hs0 hs1 k hk R hR hQ A w h1 (h1.hasKey hk hR hQ)).mono ?_
  rintro e w' ⟨rfl, v', mp', Q1, Q', ib, hx, hw, hs, hkp⟩
  refine ⟨rfl, OrS.next h4 h5 h2 hx hkp (fun x => ?_)⟩
  rw [CQ.same hs, CQ.ext, CQ.without hw (fun i hi e => h1.keyInj hi hR e), h3, hQ]
  rfl
section
variable (W w : World) (ab n N : Nat) (sets : Int) (C : Value × Int × Int → Prop) (O : Nat → Prop)
theorem oatSa (h : OrS pl 102 104 MPS W ab n N sets C O w) (k : ByteArray) (hk : KS.ok k) (hC : ∀ x, C x → x.1 ≠ .string k) :
    Calls Try.prog 44 #[.pointer (some ⟨ab, pl.o, none⟩), .string k] w fun e w' => e = .returned (.tuple #[.int .i64 0, .bool false]) ∧ Below w.heap.size w w' := by
  obtain ⟨⟨v, mp, Q, F, S, h1, h2, h3⟩, h4, h5⟩ := h
  exact aatSa ab n N v mp sets Q F S k hk w h1 (h1.noKey (fun x hx => hC x ((h3 x).1 hx)))
theorem oatSb (h : OrS pl 102 104 MPS W ab n N sets C O w) (k : ByteArray) (hk : KS.ok k) (y : Value × Int × Int) (hC : C y) (hy : y.1 = .string k) :
    Calls Try.prog 44 #[.pointer (some ⟨ab, pl.o, none⟩), .string k] w fun e w' => e = .returned (.tuple #[.int .i64 y.2.1, .bool true]) ∧ Below w.heap.size w w' := by
  obtain ⟨⟨v, mp, Q, F, S, h1, h2, h3⟩, h4, h5⟩ := h
  obtain ⟨R, hR, e⟩ := (h3 y).2 hC
  have hQ : (Q R).k = .string k := by rw [← hy, ← e]; rfl
  have ha : y.2.1 = (Q R).a := by rw [← e]; rfl
  rw [ha]
  exact aatSb ab n N v mp sets Q F S k hk R hR w h1 (h1.hasKey hk hR hQ)
theorem ofirstS (h : OrS pl 102 104 MPS W ab n N sets C O w) (hn : n ≤ 1000) :
    Calls Try.prog 43 #[.pointer (some ⟨ab, pl.o, none⟩)] w fun e w' => (∃ at', e = .returned (.tuple #[.int .i64 at', .bool (decide (0 < n))]) ∧ (n = 0 → at' = 0) ∧ (0 < n → ∃ x, C x ∧ x.2.1 = at' ∧ ∀ y, C y → x.2.1 < y.2.1 ∨ x.2.1 = y.2.1 ∧ x.2.2 ≤ y.2.2)) ∧ w' = w := by
  obtain ⟨⟨v, mp, Q, F, S, h1, h2, h3⟩, h4, h5⟩ := h
  refine (afirstS ab n N v mp sets Q F S hn w h1).mono ?_
  rintro e w' ⟨rfl, rfl⟩
  refine ⟨⟨_, rfl, fun h0 => if_pos h0, fun h0 => ⟨cn (Q 0), (h3 _).1 ⟨0, h0, rfl⟩, ?_, fun y hy => ?_⟩⟩, rfl⟩
  · rw [if_neg (by omega)]; rfl
  · obtain ⟨i, hi, e⟩ := (h3 y).2 hy
    have := (leI_iff _ _).1 (heap_least leI_refl leI_trans h1.hp i hi)
    rw [← e]
    exact this
theorem odropSa (h : OrS pl 102 104 MPS W ab n N sets C O w) (k : ByteArray) (hk : KS.ok k) (hC : ∀ x, C x → x.1 ≠ .string k) :
    Calls Try.prog 40 #[.pointer (some ⟨ab, pl.o, none⟩), .string k] w fun e w' => e = .returned (.bool false) ∧ OrS pl 102 104 MPS W ab n N sets C O w' ∧ Keep (fun k => ¬ O k) w w' := by
  have h0 := h
  obtain ⟨⟨v, mp, Q, F, S, h1, h2, h3⟩, h4, h5⟩ := h
  refine (adropaS ab n N v mp sets Q F S k hk w h1 (h1.noKey (fun x hx => hC x ((h3 x).1 hx)))).mono ?_
  rintro e w' ⟨rfl, hb⟩
  exact ⟨rfl, h0.below hb, Keep.of_below hb⟩
theorem odropSb (h : OrS pl 102 104 MPS W ab (n + 1) N sets C O w) (hn : n ≤ 900) (k : ByteArray) (hk : KS.ok k) (y : Value × Int × Int) (hC : C y) (hy : y.1 = .string k) :
    Calls Try.prog 40 #[.pointer (some ⟨ab, pl.o, none⟩), .string k] w fun e w' => e = .returned (.bool true) ∧ OrS pl 102 104 MPS W ab n N sets (fun x => C x ∧ x.1 ≠ .string k) O w' ∧ Keep (fun k => ¬ O k) w w' := by
  obtain ⟨⟨v, mp, Q, F, S, h1, h2, h3⟩, h4, h5⟩ := h
  obtain ⟨R, hR, e⟩ := (h3 y).2 hC
  have hQ : (Q R).k = .string k := by rw [← hy, ← e]; rfl
  refine (adropbS ab n N v mp sets Q F S (by omega) k hk R hR hQ w h1 (h1.hasKey hk hR hQ)).mono ?_
  rintro e w' ⟨rfl, v', mp', Q', hx, hw, hkp⟩
  refine ⟨rfl, OrS.next h4 h5 h2 hx hkp (fun x => ?_)⟩
  rw [CQ.without hw (fun i hi e => h1.keyInj hi hR e), h3, hQ]
theorem opopSc (h : OrS pl 102 104 MPS W ab n N sets C O w) (hn : n ≤ 1000) (now : Int) (hC : ∀ x, C x → now < x.2.1) :
    Calls Try.prog 36 #[.pointer (some ⟨ab, pl.o, none⟩), .int .i64 now] w fun e w' => e = .returned (.tuple #[.string ⟨#[]⟩, .int .i64 0, .bool false]) ∧ w' = w := by
  obtain ⟨⟨v, mp, Q, F, S, h1, h2, h3⟩, h4, h5⟩ := h
  exact apopaS ab n N v mp sets Q F S hn now w h1 (fun h => hC (cn (Q 0)) ((h3 _).1 ⟨0, h, rfl⟩))
end
theorem opopSd (W w : World) (ab n N : Nat) (sets : Int) (C : Value × Int × Int → Prop) (O : Nat → Prop) (h : OrS pl 102 104 MPS W ab (n + 1) N sets C O w) (hn : n ≤ 900) (now : Int) (z : Value × Int × Int) (hz : C z) (hz2 : z.2.1 ≤ now) :
    Calls Try.prog 36 #[.pointer (some ⟨ab, pl.o, none⟩), .int .i64 now] w fun e w' => ∃ k x, C x ∧ x.1 = .string k ∧ (∀ y, C y → x.2.1 < y.2.1 ∨ x.2.1 = y.2.1 ∧ x.2.2 ≤ y.2.2) ∧ e = .returned (.tuple #[.string k, .int .i64 x.2.1, .bool true]) ∧ OrS pl 102 104 MPS W ab n N sets (fun y => C y ∧ y.1 ≠ .string k) O w' ∧ Keep (fun k => ¬ O k) w w' := by
  obtain ⟨⟨v, mp, Q, F, S, h1, h2, h3⟩, h4, h5⟩ := h
  obtain ⟨k, ok, hQ, hF⟩ := h1.fof 0 (by omega)
  have hc : C (cn (Q 0)) := (h3 _).1 ⟨0, by omega, rfl⟩
  have hle : ∀ y, C y → (Q 0).a < y.2.1 ∨ (Q 0).a = y.2.1 ∧ (Q 0).t ≤ y.2.2 := fun y hy => by
    obtain ⟨i, hi, e⟩ := (h3 y).2 hy
    have := (leI_iff _ _).1 (heap_least leI_refl leI_trans h1.hp i hi)
    rw [← e]
    exact this
  refine (apopbS ab n N v mp sets Q F S hn k ok now w h1 hQ hF (by have := hle z hz; omega)).mono ?_
  rintro e w' ⟨rfl, v', mp', Q', hx, hw, hkp⟩
  refine ⟨k, cn (Q 0), hc, hQ, hle, rfl, OrS.next h4 h5 h2 hx hkp (fun x => ?_)⟩
  rw [CQ.without hw (fun i hi e => h1.keyInj hi (by omega) e), h3, hQ]
  rfl
set_option maxHeartbeats 2000000 in
set_option maxRecDepth 100000 in
theorem ocloneS (W w : World) (ab n N : Nat) (sets : Int) (C : Value × Int × Int → Prop) (O : Nat → Prop) (h : OrS pl 102 104 MPS W ab n N sets C O w) (hn : n ≤ 900) :
    Calls Try.prog 13 #[.pointer (some ⟨ab, pl.o, none⟩)] w fun e w' => ∃ cb, e = .returned (.pointer (some ⟨cb, 0, none⟩)) ∧ OrS pl0S 102 104 MPS w cb n n sets C O w' := by
  obtain ⟨⟨v, mp, Q, F, S, h1, h2, h3⟩, h4, h5⟩ := h
  obtain ⟨a, c, rfl⟩ := h1.slice
  have HOO := Lib.hid h5
  have HX := Lib.hid h1
  have H3 := Lib.hid h3
  obtain ⟨w0, hw0⟩ : ∃ w0, w.alloc (.cells #[.slice none 0 0, .map none, .int .i64 sets] 90) = w0 := ⟨_, rfl⟩
  obtain ⟨cb, hcb⟩ : ∃ cb, w.heap.size = cb := ⟨_, rfl⟩
  have hr : Row w0 cb 90 #[.slice none 0 0, .map none, .int .i64 sets] := by rw [← hw0, ← hcb]; exact Row.new _ _ _
  have hb0 : Below w.heap.size w w0 := by rw [← hw0]; exact below_alloc _ _
  have H0 : Hid (OrS pl0S 102 104 MPS w cb 0 0 sets (CQ 0 Q) O w0) := ⟨⟨_, _, fun _ => ⟨0, .int .i64 0, 0, 0⟩, fun _ => none, (fun k => k = cb), ⟨⟨hr, ⟨[], World.ownsRow_nil _ _ _ _, fun i hi => by omega⟩, fun i hi => by omega, fun i hi => by omega⟩, fun i _ hi => by omega, .inl ⟨rfl, rfl⟩, fun k b e => (by cases e), fun i hi => by omega, fun k hk => by
    rcases hk with hk | hk | ⟨i, hi, _⟩
    · exact hk
    · cases hk
    · omega⟩, fun k hk => by rw [hk]; exact ⟨by rw [hcb]; exact Nat.le_refl _, hr.lt, fun h => by have := h5 _ h; omega⟩, fun x => ⟨fun ⟨i, hi, _⟩ => absurd hi (Nat.not_lt_zero i), fun ⟨i, hi, _⟩ => absurd hi (Nat.not_lt_zero i)⟩⟩, hb0, fun k hk => Nat.lt_of_lt_of_le (h5 k hk) hb0.size⟩
  have s2 := h1.c2
  have s0 : w0.cell? ⟨ab, pl.o, none⟩ = some (.slice a n c) := (h1.below hb0).c0
  clear h1 h2 h3 h4 h5 hr hb0
  go_enter Try.func13, Try.ntmps13
  go_wp2_with fail
  go_loopw [18] (fun i wr => ∃ (t : Nat), t ≤ n ∧ i = .int .i64 (t : Int) ∧ Hid (OrS pl0S 102 104 MPS w cb t t sets (CQ t Q) O wr)) (fun i _ => n - (intOf i).toNat)
  case atStart => exact ⟨0, Nat.zero_le _, rfl, H0⟩
  case round =>
    obtain ⟨t, ht, rfl, hS⟩ := hrel
    by_cases hlt : t < n
    · have j1 : (t : Int) < (n : Int) := by omega
      have hxr := HX.out.below hS.out.bel
      obtain ⟨g, c', hv, hnc, hcm, hm⟩ := hxr.s.open (by omega)
      injection hv with hv1 hv2 hv3
      subst hv1 hv3
      have y0 := hm.cell hlt
      unfold ptI at y0
      obtain ⟨kk, ok, hkk, _⟩ := HX.out.fof t hlt
      have hrow := hxr.s.it t hlt
      have x0 : wr.cell? ⟨(Q t).b, 0, none⟩ = some (.string kk) := by rw [← show (Q t).k = .string kk from hkk]; exact hrow.cell 0
      have x1 : wr.cell? ⟨(Q t).b, 1, none⟩ = some (.int .i64 (Q t).a) := hrow.cell 1
      have x2 : wr.cell? ⟨(Q t).b, 2, none⟩ = some (.int .i64 (Q t).t) := hrow.cell 2
      have x3 : wr.cell? ⟨(Q t).b, 3, none⟩ = some (.int .i64 (t : Int)) := hrow.cell 3
      obtain ⟨⟨v2, mp2, Q2, F2, S2, g1, g2, g3⟩, g4, g5⟩ := hS.out
      have hF2 : F2 kk = none := g1.noKey (fun x hx e => by
        obtain ⟨i, hi, e2⟩ := (g3 x).1 hx
        have : (Q i).k = (Q t).k := by
          rw [← e2] at e
          exact Eq.trans e hkk.symm
        have := HX.out.keyInj (by omega) hlt this
        omega)
      have HIN := Lib.hid (ainsS cb t t v2 mp2 sets Q2 F2 (fun x => S2 x ∨ x = wr.heap.size) wr.heap.size kk (Q t).a (Q t).t (t : Int) (by omega) (by omega) ok (wr.alloc (.cells #[.string kk, .int .i64 (Q t).a, .int .i64 (Q t).t, .int .i64 (t : Int)] 104)) ((g1.below (below_alloc _ _)).more (fun x h => .inl h)) (Row.new wr _ _) (fun i hi e => by
        have := (g1.s.it i hi).lt
        omega) hF2 (.inr rfl))
      have hz9 : wr.heap.size < (wr.alloc (.cells #[.string kk, .int .i64 (Q t).a, .int .i64 (Q t).t, .int .i64 (t : Int)] 104)).heap.size := (Row.new wr _ _).lt
      have HFL : Hid (∀ k, (S2 k ∨ k = wr.heap.size) → w.heap.size ≤ k ∧ k < (wr.alloc (.cells #[.string kk, .int .i64 (Q t).a, .int .i64 (Q t).t, .int .i64 (t : Int)] 104)).heap.size ∧ ¬ O k) := fun k hk => by
        rcases hk with hk | hk
        · obtain ⟨q1, q2, q3⟩ := g2 k hk
          exact ⟨q1, by omega, q3⟩
        · rw [hk]; exact ⟨g4.size, hz9, fun h => by have := g5 _ h; omega⟩
      have HOL : Hid (∀ k, O k → k < (wr.alloc (.cells #[.string kk, .int .i64 (Q t).a, .int .i64 (Q t).t, .int .i64 (t : Int)] 104)).heap.size) := fun k hk => by have := g5 k hk; omega
      have HBL : Hid (Below w.heap.size w (wr.alloc (.cells #[.string kk, .int .i64 (Q t).a, .int .i64 (Q t).t, .int .i64 (t : Int)] 104))) := g4.trans ((below_alloc _ _).mono g4.size)
      have HG3 := Lib.hid g3
      have HKK : Hid ((Q t).k = .string kk) := hkk
      clear g1 g2 g3 g4 g5 hz9 hF2 hrow hm hxr hkk ok
      obtain ⟨ib, hib⟩ : ∃ ib, (Q t).b = ib := ⟨_, rfl⟩
      obtain ⟨ia, hia⟩ : ∃ ia, (Q t).a = ia := ⟨_, rfl⟩
      obtain ⟨it, hit⟩ : ∃ it, (Q t).t = it := ⟨_, rfl⟩
      have HCN : Hid (cn (Q t) = (.string kk, ia, it)) := by unfold cn; rw [HKK.out, hia, hit]; exact Lib.hid rfl
      rw [hib] at x0 x1 x2 x3 y0
      rw [hia] at x1 HIN HBL HFL HOL
      rw [hit] at x2 HIN HBL HFL HOL
      clear hib hia hit
      go_wp2_with fail
      refine HIN.out.mono ?_
      rintro e w4 ⟨rfl, v4, mp4, Q4, hx4, hs4, hk4⟩
      have H4 : Hid (OrS pl0S 102 104 MPS w cb (t + 1) (t + 1) sets (CQ (t + 1) Q) O w4) := (OrS.next HBL.out HOL.out HFL.out hx4 hk4 (fun x => by
        rw [CQ.same hs4, CQ.ext, HG3.out, CQ.succ, HCN.out]
        rfl)).1
      clear hx4 hs4 hk4 HIN
      go_wp2_with fail
      go_roundw
      case rel => exact ⟨t + 1, hlt, by go_num, H4⟩
      case measure => simp [intOf]; omega
    · have hte : t = n := by omega
      subst hte
      clear hlt ht H0
      go_wp2_with fail
      go_ret
      exact ⟨cb, rfl, hS.out.mono (H3.out)⟩
theorem olenN (W w : World) (ab n N : Nat) (sets : Int) (C : Value × Int × Int → Prop) (O : Nat → Prop) (h : OrS pl 196 198 MPN W ab n N sets C O w) :
    Calls Try.prog 189 #[.pointer (some ⟨ab, pl.o, none⟩)] w fun e w' => e = .returned (.int .i64 (n : Int)) ∧ w' = w := by
  obtain ⟨⟨v, mp, Q, F, S, h1, h2, h3⟩, h4, h5⟩ := h
  exact alenN ab n N v mp sets Q F S w h1
theorem osetNa (W w : World) (ab n N : Nat) (sets : Int) (C : Value × Int × Int → Prop) (O : Nat → Prop) (h : OrS pl 196 198 MPN W ab n N sets C O w) (hn : n ≤ 900) (hN : N ≤ 100000) (hs0 : 0 ≤ sets) (hs1 : sets ≤ 1000000) (k : Int) (hk : KN.ok k) (A : Int) (hC : ∀ x, C x → x.1 ≠ .int .i64 k) :
    Calls Try.prog 103 #[.pointer (some ⟨ab, pl.o, none⟩), .int .i64 k, .int .i64 A] w fun e w' => e = .returned (.tuple #[]) ∧ OrS pl 196 198 MPN W ab (n + 1) (N + 1) (sets + 1) (fun x => C x ∨ x = (.int .i64 k, clampA A, sets + 1)) O w' ∧ Keep (fun k => ¬ O k) w w' := by
  obtain ⟨⟨v, mp, Q, F, S, h1, h2, h3⟩, h4, h5⟩ := h
  refine (asetaN ab n N v mp sets Q F S (by omega) hN hs0 hs1 k hk A w h1 (h1.noKey (fun x hx => hC x ((h3 x).1 hx)))).mono ?_
  rintro e w' ⟨rfl, v', mp', Q', ib, hx, hs, hkp⟩
  refine ⟨rfl, OrS.next h4 h5 h2 hx hkp (fun x => ?_)⟩
  rw [CQ.same hs, CQ.ext, h3]
  rfl
theorem osetNb (W w : World) (ab n N : Nat) (sets : Int) (C : Value × Int × Int → Prop) (O : Nat → Prop) (h : OrS pl 196 198 MPN W ab (n + 1) N sets C O w) (hn : n ≤ 900) (hN : N ≤ 100000) (hs0 : 0 ≤ sets) (hs1 : sets ≤ 1000000) (k : Int) (hk : KN.ok k) (A : Int) (y : Value × Int × Int) (hC : C y) (hy : y.1 = .int .i64 k) :
    Calls Try.prog 103 #[.pointer (some ⟨ab, pl.o, none⟩), .int .i64 k, .int .i64 A] w fun e w' => e = .returned (.tuple #[]) ∧ OrS pl 196 198 MPN W ab (n + 1) (N + 1) (sets + 1) (fun x => C x ∧ x.1 ≠ .int .i64 k ∨ x = (.int .i64 k, clampA A, sets + 1)) O w' ∧ Keep (fun k => ¬ O k) w w' := by
  obtain ⟨⟨v, mp, Q, F, S, h1, h2, h3⟩, h4, h5⟩ := h
  obtain ⟨R, hR, e⟩ := (h3 y).2 hC
  have hQ : (Q R).k = .int .i64 k := by rw [← hy, ← e]; rfl
  refine (asetbN ab n N v mp sets Q F S (by omega) hN hs0 hs1 k hk R hR hQ A w h1 (h1.hasKey hk hR hQ)).mono ?_
  rintro e w' ⟨rfl, v', mp', Q1, Q', ib, hx, hw, hs, hkp⟩
  refine ⟨rfl, OrS.next h4 h5 h2 hx hkp (fun x => ?_)⟩
  rw [CQ.same hs, CQ.ext, CQ.without hw (fun i hi e => h1.keyInj hi hR e), h3, hQ]
  rfl
section
variable (W w : World) (ab n N : Nat) (sets : Int) (C : Value × Int × Int → Prop) (O : Nat → Prop)
theorem ofirstN (h : OrS pl 196 198 MPN W ab n N sets C O w) (hn : n ≤ 1000) :
    Calls Try.prog 107 #[.pointer (some ⟨ab, pl.o, none⟩)] w fun e w' => (∃ at', e = .returned (.tuple #[.int .i64 at', .bool (decide (0 < n))]) ∧ (n = 0 → at' = 0) ∧ (0 < n → ∃ x, C x ∧ x.2.1 = at' ∧ ∀ y, C y → x.2.1 < y.2.1 ∨ x.2.1 = y.2.1 ∧ x.2.2 ≤ y.2.2)) ∧ w' = w := by
  obtain ⟨⟨v, mp, Q, F, S, h1, h2, h3⟩, h4, h5⟩ := h
  refine (afirstN ab n N v mp sets Q F S hn w h1).mono ?_
  rintro e w' ⟨rfl, rfl⟩
  refine ⟨⟨_, rfl, fun h0 => if_pos h0, fun h0 => ⟨cn (Q 0), (h3 _).1 ⟨0, h0, rfl⟩, ?_, fun y hy => ?_⟩⟩, rfl⟩
  · rw [if_neg (by omega)]; rfl
  · obtain ⟨i, hi, e⟩ := (h3 y).2 hy
    have := (leI_iff _ _).1 (heap_least leI_refl leI_trans h1.hp i hi)
    rw [← e]
    exact this
theorem odropNa (h : OrS pl 196 198 MPN W ab n N sets C O w) (k : Int) (hk : KN.ok k) (hC : ∀ x, C x → x.1 ≠ .int .i64 k) :
    Calls Try.prog 104 #[.pointer (some ⟨ab, pl.o, none⟩), .int .i64 k] w fun e w' => e = .returned (.bool false) ∧ OrS pl 196 198 MPN W ab n N sets C O w' ∧ Keep (fun k => ¬ O k) w w' := by
  have h0 := h
  obtain ⟨⟨v, mp, Q, F, S, h1, h2, h3⟩, h4, h5⟩ := h
  refine (adropaN ab n N v mp sets Q F S k hk w h1 (h1.noKey (fun x hx => hC x ((h3 x).1 hx)))).mono ?_
  rintro e w' ⟨rfl, hb⟩
  exact ⟨rfl, h0.below hb, Keep.of_below hb⟩
theorem odropNb (h : OrS pl 196 198 MPN W ab (n + 1) N sets C O w) (hn : n ≤ 900) (k : Int) (hk : KN.ok k) (y : Value × Int × Int) (hC : C y) (hy : y.1 = .int .i64 k) :
    Calls Try.prog 104 #[.pointer (some ⟨ab, pl.o, none⟩), .int .i64 k] w fun e w' => e = .returned (.bool true) ∧ OrS pl 196 198 MPN W ab n N sets (fun x => C x ∧ x.1 ≠ .int .i64 k) O w' ∧ Keep (fun k => ¬ O k) w w' := by
  obtain ⟨⟨v, mp, Q, F, S, h1, h2, h3⟩, h4, h5⟩ := h
  obtain ⟨R, hR, e⟩ := (h3 y).2 hC
  have hQ : (Q R).k = .int .i64 k := by rw [← hy, ← e]; rfl
  refine (adropbN ab n N v mp sets Q F S (by omega) k hk R hR hQ w h1 (h1.hasKey hk hR hQ)).mono ?_
  rintro e w' ⟨rfl, v', mp', Q', hx, hw, hkp⟩
  refine ⟨rfl, OrS.next h4 h5 h2 hx hkp (fun x => ?_)⟩
  rw [CQ.without hw (fun i hi e => h1.keyInj hi hR e), h3, hQ]
theorem opopNc (h : OrS pl 196 198 MPN W ab n N sets C O w) (hn : n ≤ 1000) (now : Int) (hC : ∀ x, C x → now < x.2.1) :
    Calls Try.prog 106 #[.pointer (some ⟨ab, pl.o, none⟩), .int .i64 now] w fun e w' => e = .returned (.tuple #[.int .i64 0, .int .i64 0, .bool false]) ∧ w' = w := by
  obtain ⟨⟨v, mp, Q, F, S, h1, h2, h3⟩, h4, h5⟩ := h
  exact apopaN ab n N v mp sets Q F S hn now w h1 (fun h => hC (cn (Q 0)) ((h3 _).1 ⟨0, h, rfl⟩))
end
theorem opopNd (W w : World) (ab n N : Nat) (sets : Int) (C : Value × Int × Int → Prop) (O : Nat → Prop) (h : OrS pl 196 198 MPN W ab (n + 1) N sets C O w) (hn : n ≤ 900) (now : Int) (z : Value × Int × Int) (hz : C z) (hz2 : z.2.1 ≤ now) :
    Calls Try.prog 106 #[.pointer (some ⟨ab, pl.o, none⟩), .int .i64 now] w fun e w' => ∃ k x, C x ∧ x.1 = .int .i64 k ∧ (∀ y, C y → x.2.1 < y.2.1 ∨ x.2.1 = y.2.1 ∧ x.2.2 ≤ y.2.2) ∧ e = .returned (.tuple #[.int .i64 k, .int .i64 x.2.1, .bool true]) ∧ OrS pl 196 198 MPN W ab n N sets (fun y => C y ∧ y.1 ≠ .int .i64 k) O w' ∧ Keep (fun k => ¬ O k) w w' := by
  obtain ⟨⟨v, mp, Q, F, S, h1, h2, h3⟩, h4, h5⟩ := h
  obtain ⟨k, ok, hQ, hF⟩ := h1.fof 0 (by omega)
  have hc : C (cn (Q 0)) := (h3 _).1 ⟨0, by omega, rfl⟩
  have hle : ∀ y, C y → (Q 0).a < y.2.1 ∨ (Q 0).a = y.2.1 ∧ (Q 0).t ≤ y.2.2 := fun y hy => by
    obtain ⟨i, hi, e⟩ := (h3 y).2 hy
    have := (leI_iff _ _).1 (heap_least leI_refl leI_trans h1.hp i hi)
    rw [← e]
    exact this
  refine (apopbN ab n N v mp sets Q F S hn k ok now w h1 hQ hF (by have := hle z hz; omega)).mono ?_
  rintro e w' ⟨rfl, v', mp', Q', hx, hw, hkp⟩
  refine ⟨k, cn (Q 0), hc, hQ, hle, rfl, OrS.next h4 h5 h2 hx hkp (fun x => ?_)⟩
  rw [CQ.without hw (fun i hi e => h1.keyInj hi (by omega) e), h3, hQ]
  rfl
set_option maxHeartbeats 2000000 in
set_option maxRecDepth 100000 in
theorem ocloneN (W w : World) (ab n N : Nat) (sets : Int) (C : Value × Int × Int → Prop) (O : Nat → Prop) (h : OrS pl 196 198 MPN W ab n N sets C O w) (hn : n ≤ 900) :
    Calls Try.prog 81 #[.pointer (some ⟨ab, pl.o, none⟩)] w fun e w' => ∃ cb, e = .returned (.pointer (some ⟨cb, 0, none⟩)) ∧ OrS pl0N 196 198 MPN w cb n n sets C O w' := by
  obtain ⟨⟨v, mp, Q, F, S, h1, h2, h3⟩, h4, h5⟩ := h
  obtain ⟨a, c, rfl⟩ := h1.slice
  have HOO := Lib.hid h5
  have HX := Lib.hid h1
  have H3 := Lib.hid h3
  obtain ⟨w0, hw0⟩ : ∃ w0, w.alloc (.cells #[.slice none 0 0, .map none, .int .i64 sets] 149) = w0 := ⟨_, rfl⟩
  obtain ⟨cb, hcb⟩ : ∃ cb, w.heap.size = cb := ⟨_, rfl⟩
  have hr : Row w0 cb 149 #[.slice none 0 0, .map none, .int .i64 sets] := by rw [← hw0, ← hcb]; exact Row.new _ _ _
  have hb0 : Below w.heap.size w w0 := by rw [← hw0]; exact below_alloc _ _
  have H0 : Hid (OrS pl0N 196 198 MPN w cb 0 0 sets (CQ 0 Q) O w0) := ⟨⟨_, _, fun _ => ⟨0, .int .i64 0, 0, 0⟩, fun _ => none, (fun k => k = cb), ⟨⟨hr, ⟨[], World.ownsRow_nil _ _ _ _, fun i hi => by omega⟩, fun i hi => by omega, fun i hi => by omega⟩, fun i _ hi => by omega, .inl ⟨rfl, rfl⟩, fun k b e => (by cases e), fun i hi => by omega, fun k hk => by
    rcases hk with hk | hk | ⟨i, hi, _⟩
    · exact hk
    · cases hk
    · omega⟩, fun k hk => by rw [hk]; exact ⟨by rw [hcb]; exact Nat.le_refl _, hr.lt, fun h => by have := h5 _ h; omega⟩, fun x => ⟨fun ⟨i, hi, _⟩ => absurd hi (Nat.not_lt_zero i), fun ⟨i, hi, _⟩ => absurd hi (Nat.not_lt_zero i)⟩⟩, hb0, fun k hk => Nat.lt_of_lt_of_le (h5 k hk) hb0.size⟩
  have s2 := h1.c2
  have s0 : w0.cell? ⟨ab, pl.o, none⟩ = some (.slice a n c) := (h1.below hb0).c0
  clear h1 h2 h3 h4 h5 hr hb0
  go_enter Try.func81, Try.ntmps81
  go_wp2_with fail
  go_loopw [18] (fun i wr => ∃ (t : Nat), t ≤ n ∧ i = .int .i64 (t : Int) ∧ Hid (OrS pl0N 196 198 MPN w cb t t sets (CQ t Q) O wr)) (fun i _ => n - (intOf i).toNat)
  case atStart => exact ⟨0, Nat.zero_le _, rfl, H0⟩
  case round =>
    obtain ⟨t, ht, rfl, hS⟩ := hrel
    by_cases hlt : t < n
    · have j1 : (t : Int) < (n : Int) := by omega
      have hxr := HX.out.below hS.out.bel
      obtain ⟨g, c', hv, hnc, hcm, hm⟩ := hxr.s.open (by omega)
      injection hv with hv1 hv2 hv3
      subst hv1 hv3
      have y0 := hm.cell hlt
      unfold ptI at y0
      obtain ⟨kk, ok, hkk, _⟩ := HX.out.fof t hlt
      have hrow := hxr.s.it t hlt
      have x0 : wr.cell? ⟨(Q t).b, 0, none⟩ = some (.int .i64 kk) := by rw [← show (Q t).k = .int .i64 kk from hkk]; exact hrow.cell 0
      have x1 : wr.cell? ⟨(Q t).b, 1, none⟩ = some (.int .i64 (Q t).a) := hrow.cell 1
      have x2 : wr.cell? ⟨(Q t).b, 2, none⟩ = some (.int .i64 (Q t).t) := hrow.cell 2
      have x3 : wr.cell? ⟨(Q t).b, 3, none⟩ = some (.int .i64 (t : Int)) := hrow.cell 3
      obtain ⟨⟨v2, mp2, Q2, F2, S2, g1, g2, g3⟩, g4, g5⟩ := hS.out
      have hF2 : F2 kk = none := g1.noKey (fun x hx e => by
        obtain ⟨i, hi, e2⟩ := (g3 x).1 hx
        have : (Q i).k = (Q t).k := by
          rw [← e2] at e
          exact Eq.trans e hkk.symm
        have := HX.out.keyInj (by omega) hlt this
        omega)
      have HIN := Lib.hid (ainsN cb t t v2 mp2 sets Q2 F2 (fun x => S2 x ∨ x = wr.heap.size) wr.heap.size kk (Q t).a (Q t).t (t : Int) (by omega) (by omega) ok (wr.alloc (.cells #[.int .i64 kk, .int .i64 (Q t).a, .int .i64 (Q t).t, .int .i64 (t : Int)] 198)) ((g1.below (below_alloc _ _)).more (fun x h => .inl h)) (Row.new wr _ _) (fun i hi e => by
        have := (g1.s.it i hi).lt
        omega) hF2 (.inr rfl))
      have hz9 : wr.heap.size < (wr.alloc (.cells #[.int .i64 kk, .int .i64 (Q t).a, .int .i64 (Q t).t, .int .i64 (t : Int)] 198)).heap.size := (Row.new wr _ _).lt
      have HFL : Hid (∀ k, (S2 k ∨ k = wr.heap.size) → w.heap.size ≤ k ∧ k < (wr.alloc (.cells #[.int .i64 kk, .int .i64 (Q t).a, .int .i64 (Q t).t, .int .i64 (t : Int)] 198)).heap.size ∧ ¬ O k) := fun k hk => by
        rcases hk with hk | hk
        · obtain ⟨q1, q2, q3⟩ := g2 k hk
          exact ⟨q1, by omega, q3⟩
        · rw [hk]; exact ⟨g4.size, hz9, fun h => by have := g5 _ h; omega⟩
      have HOL : Hid (∀ k, O k → k < (wr.alloc (.cells #[.int .i64 kk, .int .i64 (Q t).a, .int .i64 (Q t).t, .int .i64 (t : Int)] 198)).heap.size) := fun k hk => by have := g5 k hk; omega
      have HBL : Hid (Below w.heap.size w (wr.alloc (.cells #[.int .i64 kk, .int .i64 (Q t).a, .int .i64 (Q t).t, .int .i64 (t : Int)] 198))) := g4.trans ((below_alloc _ _).mono g4.size)
      have HG3 := Lib.hid g3
      have HKK : Hid ((Q t).k = .int .i64 kk) := hkk
      clear g1 g2 g3 g4 g5 hz9 hF2 hrow hm hxr hkk ok
      obtain ⟨ib, hib⟩ : ∃ ib, (Q t).b = ib := ⟨_, rfl⟩
      obtain ⟨ia, hia⟩ : ∃ ia, (Q t).a = ia := ⟨_, rfl⟩
      obtain ⟨it, hit⟩ : ∃ it, (Q t).t = it := ⟨_, rfl⟩
      have HCN : Hid (cn (Q t) = (.int .i64 kk, ia, it)) := by unfold cn; rw [HKK.out, hia, hit]; exact Lib.hid rfl
      rw [hib] at x0 x1 x2 x3 y0
      rw [hia] at x1 HIN HBL HFL HOL
      rw [hit] at x2 HIN HBL HFL HOL
      clear hib hia hit
      go_wp2_with fail
      refine HIN.out.mono ?_
      rintro e w4 ⟨rfl, v4, mp4, Q4, hx4, hs4, hk4⟩
      have H4 : Hid (OrS pl0N 196 198 MPN w cb (t + 1) (t + 1) sets (CQ (t + 1) Q) O w4) := (OrS.next HBL.out HOL.out HFL.out hx4 hk4 (fun x => by
        rw [CQ.same hs4, CQ.ext, HG3.out, CQ.succ, HCN.out]
        rfl)).1
      clear hx4 hs4 hk4 HIN
      go_wp2_with fail
      go_roundw
      case rel => exact ⟨t + 1, hlt, by go_num, H4⟩
      case measure => simp [intOf]; omega
    · have hte : t = n := by omega
      subst hte
      clear hlt ht H0
      go_wp2_with fail
      go_ret
      exact ⟨cb, rfl, hS.out.mono (H3.out)⟩
section
variable {κ : Type} {K : KTy κ} {pl pl' : Pl} {PT IT : TypeId} {M : MTyK K (Option Nat)} {W w w' : World} {ab ab' n N : Nat} {sets : Int} {C : Value × Int × Int → Prop} {O : Nat → Prop}
/-- The cells around the agenda have changed. -/
theorem OrS.rest (h : OrS pl PT IT M W ab n N sets C O w) (hk : Keep (fun k => k = ab) w w') (n1 : PT ≠ pl.T) (n2 : IT ≠ pl.T) (hr : ∀ v mp, RowA pl w ab v mp sets → RowA pl' w' ab v mp sets) : OrS pl' PT IT M W ab n N sets C O w' := by
  obtain ⟨⟨v, mp, Q, F, S, h1, h2, h3⟩, h4, h5⟩ := h
  have hSab := h1.sub ab (.inl rfl)
  refine ⟨⟨v, mp, Q, F, S, ?_, fun k hk2 => ?_, h3⟩, h4.trans (hk.bel (fun k hk => by rw [hk]; exact (h2 ab hSab).1) h4.size), fun k hk2 => Nat.lt_of_lt_of_le (h5 k hk2) hk.size⟩
  · obtain ⟨⟨g1, ⟨cs, g2, g3⟩, g4, g5⟩, q2, q3, q4, q5, q6⟩ := h1
    refine ⟨⟨hr v mp g1, ⟨cs, own_keep g2 hk (fun k e e2 => own_ne g2 g1 n1 (by rw [← e2]; exact e)), g3⟩, fun i hi => (g4 i hi).keep hk (fun e => row_apart (g4 i hi) g1 n2 e), g5⟩, q2, ?_, q4, q5, q6⟩
    rcases q3 with q3 | ⟨mb, e, hs, q3⟩
    · exact .inl q3
    · exact .inr ⟨mb, e, hs, q3.keep hk (fun e => q3.ne_row g1 e)⟩
  · obtain ⟨g1, g2, g3⟩ := h2 k hk2
    exact ⟨g1, Nat.lt_of_lt_of_le g2 hk.size, g3⟩
end
end PlV
end Go.Proofs.Ytichkfbpmhpnaaa
