/- Idle connections in memory; forget. -/
import Derived.Test.YtcdgmhglpcokdaaIdB
namespace Go.Proofs.Ytcdgmhglpcokdaa
open Go.RowKit Go.Maps

/-- Where the times lie. -/
def plI (a b : Int) (wmv bmv : Value) : Pl := ⟨68, 4, [.int .i64 a, .int .i64 b, wmv, bmv], [], rfl, by decide, by decide, by decide, by decide⟩
theorem OrS.preCell {κ : Type} {K : KTy κ} {pl : Pl} {PT IT : TypeId} {M : MTyK K (Option Nat)} {W w : World} {ab n N : Nat} {sets : Int} {C : Value × Int × Int → Prop} {O : Nat → Prop} (h : OrS pl PT IT M W ab n N sets C O w) (j : Nat) (hj : j < pl.o) : w.cell? ⟨ab, j, none⟩ = pl.pre[j]? ∧ w.frozen? ⟨ab, j, none⟩ = false := by
  obtain ⟨⟨v, mp, Q, F, S, h1, h2, h3⟩, h4, h5⟩ := h
  have hr : Row w ab pl.T (pl.cs v mp sets) := h1.s.ag
  refine ⟨?_, hr.free j⟩
  rw [hr.cell]
  unfold Pl.cs
  rw [List.getElem?_toArray, List.getElem?_append_left (by rw [pl.ho]; exact hj)]
/-- Blocks of its own, beside the times'. -/
def OwnI (wmv bmv : Value) (G : ByteArray → Option SlT) : Nat → Prop := fun k => wmv = .map (some k) ∨ bmv = .map (some k) ∨ ∃ nm n c, G nm = some (some (k, n, c))
def OI (X : Nat → Prop) (wmv bmv : Value) (G : ByteArray → Option SlT) : Nat → Prop := fun k => X k ∨ OwnI wmv bmv G k
/-- The maps, and the rows of numbers. -/
structure IdM (w : World) (wmv bmv : Value) (N : Nat) (L : List Cn) (F : Int → Option ByteArray) (G : ByteArray → Option SlT) : Prop where
  mp : (wmv = .map none ∧ bmv = .map none ∧ L = []) ∨ ∃ wb bk, wmv = .map (some wb) ∧ bmv = .map (some bk) ∧ wb ≠ bk ∧ MapK MWI w wb N G ∧ MapC MBI w bk N L.length F
  fF : ∀ c nm, F c = some nm ↔ ∃ e ∈ L, e.cn = c ∧ e.nm = nm
  no : ∀ nm, G nm = none → ofI L nm = []
  yes : ∀ nm z, G nm = some z → ∃ b c cs, z = some (b, (ofI L nm).length, c) ∧ 0 < (ofI L nm).length ∧ Row w b 3 cs ∧ cs.size = c ∧ c ≤ maxLen ∧ Fst cs (ofI L nm)
  inj : ∀ nm nm' b n c n' c', G nm = some (some (b, n, c)) → G nm' = some (some (b, n', c')) → nm = nm'
/-- Idle connections in memory: LA: those that have times; L: those that wait. -/
structure IdS (W : World) (X : Nat → Prop) (ab : Nat) (a b : Int) (N : Nat) (sets : Int) (LA L : List Cn) (w : World) : Prop where
  ex : ∃ wmv bmv F G, OrS (plI a b wmv bmv) 97 99 MPN W ab LA.length N sets (CI LA) (OI X wmv bmv G) w ∧ IdM w wmv bmv N L F G ∧ ∀ k, OwnI wmv bmv G k → W.heap.size ≤ k ∧ ¬ X k
theorem IdM.keep {P : Nat → Prop} {w w' : World} {wmv bmv : Value} {N : Nat} {L : List Cn} {F : Int → Option ByteArray} {G : ByteArray → Option SlT} (h : IdM w wmv bmv N L F G) (hk : Keep P w w') (hP : ∀ k, OwnI wmv bmv G k → ¬ P k) : IdM w' wmv bmv N L F G := by
  obtain ⟨h1, h2, h3, h4, h5⟩ := h
  refine ⟨?_, h2, h3, fun nm z hz => ?_, h5⟩
  · rcases h1 with h1 | ⟨wb, bk, e1, e2, hne, m1, m2⟩
    · exact .inl h1
    · exact .inr ⟨wb, bk, e1, e2, hne, m1.keep hk (hP _ (.inl e1)), m2.keep hk (hP _ (.inr (.inl e2)))⟩
  · obtain ⟨b, c, cs, rfl, q1, q2, q3⟩ := h4 nm z hz
    exact ⟨b, c, cs, rfl, q1, q2.keep hk (hP _ (.inr (.inr ⟨nm, _, _, hz⟩))), q3⟩
theorem IdS.bel {W w : World} {X : Nat → Prop} {ab N : Nat} {a b sets : Int} {LA L : List Cn} (h : IdS W X ab a b N sets LA L w) : Below W.heap.size W w := by
  obtain ⟨wmv, bmv, F, G, h1, _⟩ := h.ex
  exact h1.bel
theorem IdS.oth {W w : World} {X : Nat → Prop} {ab N : Nat} {a b sets : Int} {LA L : List Cn} (h : IdS W X ab a b N sets LA L w) : ∀ k, X k → k < w.heap.size := by
  obtain ⟨wmv, bmv, F, G, h1, _⟩ := h.ex
  exact fun k hk => h1.oth k (.inl hk)
/-- Others have made blocks; what is others' may be told anew. -/
theorem IdS.belowX {W w w' : World} {X X' : Nat → Prop} {ab N : Nat} {a b sets : Int} {LA L : List Cn} (h : IdS W X ab a b N sets LA L w) (hb : Below w.heap.size w w') (hX : ∀ k, X' k → k < w'.heap.size ∧ (X k ∨ w.heap.size ≤ k)) : IdS W X' ab a b N sets LA L w' := by
  obtain ⟨wmv, bmv, F, G, h1, h2, h3⟩ := h.ex
  refine ⟨wmv, bmv, F, G, h1.belowO hb (fun k hk => ?_), h2.keep (P := fun _ => False) (.of_below hb) (fun _ _ h => h), fun k hk => ⟨(h3 k hk).1, fun hx => ?_⟩⟩
  · rcases hk with hk | hk
    · obtain ⟨q1, q2⟩ := hX k hk
      exact ⟨q1, q2.imp (.inl ·) id⟩
    · exact ⟨Nat.lt_of_lt_of_le (h1.oth k (.inr hk)) hb.size, .inl (.inr hk)⟩
  · rcases (hX k hx).2 with q | q
    · exact (h3 k hk).2 q
    · have := h1.oth k (.inr hk)
      omega
theorem IdS.below {W w w' : World} {X : Nat → Prop} {ab N : Nat} {a b sets : Int} {LA L : List Cn} (h : IdS W X ab a b N sets LA L w) (hb : Below w.heap.size w w') : IdS W X ab a b N sets LA L w' :=
  h.belowX hb (fun k hk => ⟨Nat.lt_of_lt_of_le (h.oth k hk) hb.size, .inl hk⟩)
/-- A backend's slice. -/
theorem IdM.look {w : World} {wmv bmv : Value} {N : Nat} {L : List Cn} {F : Int → Option ByteArray} {G : ByteArray → Option SlT} (h : IdM w wmv bmv N L F G) {nm : ByteArray} (hn : nm.size ≤ maxLen) : ∃ z : SlT, (Instr.lookup 61 wmv (.string nm) false).run Try.prog w = .ok (slV z) w ∧ (z = none ∧ ofI L nm = [] ∨ ∃ b c cs, z = some (b, (ofI L nm).length, c) ∧ G nm = some z ∧ 0 < (ofI L nm).length ∧ Row w b 3 cs ∧ cs.size = c ∧ c ≤ maxLen ∧ Fst cs (ofI L nm)) := by
  rcases h.mp with ⟨e1, e2, e3⟩ | ⟨wb, bk, e1, e2, hne, m1, m2⟩
  · refine ⟨none, ?_, .inl ⟨rfl, by rw [e3]; rfl⟩⟩
    rw [e1]
    exact look_nilK MWI w (s := nm) hn
  · have hl := m1.look (s := nm) hn
    rw [← e1] at hl
    cases hz : G nm with
    | none =>
      rw [hz] at hl
      exact ⟨none, hl, .inl ⟨rfl, h.no nm hz⟩⟩
    | some z =>
      rw [hz] at hl
      obtain ⟨b, c, cs, rfl, q⟩ := h.yes nm z hz
      exact ⟨some (b, (ofI L nm).length, c), hl, .inr ⟨b, c, cs, rfl, rfl, q⟩⟩
theorem OrS.moreNI {κ : Type} {K : KTy κ} {pl : Pl} {PT IT : TypeId} {M : MTyK K (Option Nat)} {W w : World} {ab n N : Nat} {sets : Int} {C : Value × Int × Int → Prop} {O : Nat → Prop} (h : OrS pl PT IT M W ab n N sets C O w) {N' : Nat} (hN : N ≤ N') : OrS pl PT IT M W ab n N' sets C O w := by
  obtain ⟨⟨v, mp, Q, F, S, h1, h2, h3⟩, h4, h5⟩ := h
  refine ⟨⟨v, mp, Q, F, S, ?_, h2, h3⟩, h4, h5⟩
  obtain ⟨g1, g2, g3, g4, g5, g6⟩ := h1
  refine ⟨g1, g2, ?_, g4, g5, g6⟩
  rcases g3 with g3 | ⟨mb, e, hs, g3⟩
  · exact .inl g3
  · exact .inr ⟨mb, e, hs, g3.mono hN⟩
theorem IdM.moreN {w : World} {wmv bmv : Value} {N N' : Nat} {L : List Cn} {F : Int → Option ByteArray} {G : ByteArray → Option SlT} (h : IdM w wmv bmv N L F G) (hN : N ≤ N') : IdM w wmv bmv N' L F G := by
  obtain ⟨h1, h2, h3, h4, h5⟩ := h
  refine ⟨?_, h2, h3, h4, h5⟩
  rcases h1 with h1 | ⟨wb, bk, e1, e2, hne, m1, m2⟩
  · exact .inl h1
  · exact .inr ⟨wb, bk, e1, e2, hne, m1.mono hN, m2.mono hN⟩
/-- One that waited is forgotten. -/
theorem IdM.forgot {w w' : World} {wb bk N : Nat} {L : List Cn} {F : Int → Option ByteArray} {G : ByteArray → Option SlT} {sets : Int} (h : IdM w (.map (some wb)) (.map (some bk)) N L F G) (hg : GoodI sets L) {e : Cn} (he : e ∈ L) (hne : wb ≠ bk) {b n c : Nat} {cs' : Array Value} (hG : G e.nm = some (some (b, n, c))) (hk : Keep (fun k => k = wb ∨ k = bk ∨ k = b) w w')
    {G' : ByteArray → Option SlT} (hG' : G' = updK G e.nm (if (without (ofI L e.nm) e.cn).length = 0 then none else some (some (b, (without (ofI L e.nm) e.cn).length, c)))) (m1 : MapK MWI w' wb N G') (m2 : MapC MBI w' bk N (L.length - 1) (updK F e.cn none)) (hr : Row w' b 3 cs') (hsz : cs'.size = c) (hf : Fst cs' (without (ofI L e.nm) e.cn)) :
    IdM w' (.map (some wb)) (.map (some bk)) N (dropI L e.cn) (updK F e.cn none) G' := by
  have hofe : ofI (dropI L e.cn) e.nm = without (ofI L e.nm) e.cn := ofI_drop L e.cn e.nm
  have hlen := dropI_len hg.key ⟨e, he, rfl⟩
  have hcm : c ≤ maxLen := by
    obtain ⟨b', c', cs, hz, _, _, _, q4, _⟩ := h.yes e.nm _ hG
    injection hz with hz
    injection hz with _ hz
    injection hz with _ hz
    omega
  rcases h.mp with ⟨e1, _⟩ | ⟨wb', bk', e1, e2, _, m3, m4⟩
  · cases e1
  injection e1 with e1
  injection e1 with e1
  injection e2 with e2
  injection e2 with e2
  subst e1 e2
  refine ⟨.inr ⟨wb, bk, rfl, rfl, hne, m1, by rw [show (dropI L e.cn).length = L.length - 1 by omega]; exact m2⟩, fun c nm => ?_, fun nm hn => ?_, fun nm z hz => ?_, fun nm nm' b1 n1 c1 n2 c2 h1 h2 => ?_⟩
  · by_cases hc : c = e.cn
    · subst hc
      rw [updK_same]
      exact ⟨(fun h => by cases h), fun ⟨f, hf, h1, h2⟩ => absurd h1 (mem_dropI.1 hf).2⟩
    · rw [updK_other F _ hc, h.fF]
      constructor
      · rintro ⟨f, hf, rfl, h2⟩; exact ⟨f, mem_dropI.2 ⟨hf, hc⟩, rfl, h2⟩
      · rintro ⟨f, hf, h1, h2⟩; exact ⟨f, (mem_dropI.1 hf).1, h1, h2⟩
  · by_cases hx : nm = e.nm
    · subst hx
      rw [hG', updK_same] at hn
      rw [hofe]
      split at hn
      · rename_i h0; exact List.eq_nil_of_length_eq_zero h0
      · cases hn
    · rw [hG', updK_other G _ hx] at hn
      rw [hg.ofI_other he (fun e2 => hx e2.symm)]
      exact h.no nm hn
  · by_cases hx : nm = e.nm
    · subst hx
      rw [hG', updK_same] at hz
      split at hz
      · cases hz
      · rename_i h0
        injection hz with hz
        subst hz
        rw [hofe]
        exact ⟨b, c, cs', rfl, by omega, hr, hsz, hcm, hf⟩
    · rw [hG', updK_other G _ hx] at hz
      obtain ⟨b1, c1, cs1, rfl, q1, q2, q3⟩ := h.yes nm z hz
      rw [hg.ofI_other he (fun e2 => hx e2.symm)]
      refine ⟨b1, c1, cs1, rfl, q1, q2.keep hk (fun hb => ?_), q3⟩
      rcases hb with hb | hb | hb
      · exact m3.ne_row q2 hb.symm
      · exact m4.k.ne_row q2 hb.symm
      · subst hb
        exact hx (h.inj nm e.nm _ _ _ _ _ hz hG)
  · have aux : ∀ nm b n c, G' nm = some (some (b, n, c)) → ∃ n' , G nm = some (some (b, n', c)) := fun nm b n c hh => by
      by_cases hx : nm = e.nm
      · subst hx
        rw [hG', updK_same] at hh
        split at hh
        · cases hh
        · injection hh with hh
          injection hh with hh
          injection hh with h1 hh
          injection hh with h2 h3
          subst h1 h3
          exact ⟨_, hG⟩
      · rw [hG', updK_other G _ hx] at hh
        exact ⟨n, hh⟩
    obtain ⟨n3, h3⟩ := aux _ _ _ _ h1
    obtain ⟨n4, h4⟩ := aux _ _ _ _ h2
    exact h.inj _ _ _ _ _ _ _ h3 h4
end Go.Proofs.Ytcdgmhglpcokdaa
