/- A slice of acts on idle connections that is handed in. -/
import Derived.Test.YtcdgmhglpcokdaaRec
import Derived.Test.YtcdgmhglpcokdaaIdJ
import Derived.Deep.Slices
import Derived.Deep.MidRow
import Derived.WideKeyArgs
import Derived.DataReads
namespace Go.Proofs.Ytcdgmhglpcokdaa
open Go.ChangeShapes Go.WideShapes Go.ChangeAt Go.RowKit

/-- An act out of its four cells. -/
def iactOf (cs : List Value) : IAct := match cs with
  | [.int _ a, .int _ b, .int _ d, .string s] => ⟨a, b, d, s⟩
  | _ => ⟨0, 0, 0, ⟨#[]⟩⟩
theorem iacts_open {H : Type} {enc : TypeId × Value → H} {P : Program} {t e u i : TypeId} {W : World} {base : Nat} {held : Bool} (ht : P.underlying t = some (.slice e)) (hu : (P.underlying e).map fieldsOf = some [(i, 0), (i, 1), (i, 2), (u, 3)]) (hs : P.underlying u = some .string) (hi : P.underlying i = some (.int .i64)) (hc : P.cellsOf u = 1) (hci : P.cellsOf i = 1) (ce : P.cellsOf e = 4)
    {r : Reach} {b0 : Nat} {v : Value} {d : DataW H} {ps : List MemPlace} (hval : Value.okWide P W r b0 t v) (hd : DataW.Trod enc P W base (fun _ => true) held t v d ps) :
    ∃ a c cs, v = .slice a cs.length c ∧ IsIacts W a c cs ∧ cs.length ≤ maxLen := by
  obtain ⟨a, l, c, rfl⟩ := okWide_slice ht hval
  obtain ⟨fuel, hf⟩ := hd
  obtain ⟨fa, hfa, hm⟩ := fieldsOf_struct hu (List.cons_ne_nil _ _)
  rcases Go.Deep.open_slice ht hf with ⟨hcs, _⟩ | ⟨a', l', c', m, n, D, Pl, hcs, _, hl, hmx, hme, _, hcell⟩
  · simp [Value.cells] at hcs
    obtain ⟨rfl, rfl, rfl⟩ := hcs
    exact ⟨none, 0, [], rfl, .inl rfl, by simp⟩
  · simp [Value.cells] at hcs
    obtain ⟨rfl, h1, h2⟩ := hcs
    subst h1 h2
    simp only [if_true] at hme
    subst hme
    have each : ∀ j, j < l → ∃ (x y z : Int) (s : ByteArray), W.cell? ((a'.add (j * 4)).add 0) = some (.int .i64 x) ∧ W.cell? ((a'.add (j * 4)).add 1) = some (.int .i64 y) ∧ W.cell? ((a'.add (j * 4)).add 2) = some (.int .i64 z) ∧ W.cell? ((a'.add (j * 4)).add 3) = some (.string s) ∧ (Lit.int .i64 y).wf = true := by
      intro j hj
      obtain ⟨cs', k1, k2⟩ := hcell j (by omega)
      rw [ce] at k1
      obtain ⟨_, hlen, hcl⟩ := World.cells?_some k1
      obtain ⟨xs, k, _, _, _, hxl, hfd⟩ := DataW.trod_struct hfa k2
      have hget : ∀ (q : Nat) (ty : TypeId) (o : Nat), [(i, 0), (i, 1), (i, 2), (u, 3)][q]? = some (ty, o) → ∃ fl : Field, fa[q]? = some fl ∧ fl.type = ty ∧ fl.offset = o := by
        intro q ty o hq
        rw [← hm, List.getElem?_map] at hq
        obtain ⟨fl, h1, h2⟩ := Option.map_eq_some_iff.1 hq
        simp only [Prod.mk.injEq] at h2
        exact ⟨fl, by simpa using h1, h2.1, h2.2⟩
      obtain ⟨f0, g0, t0, o0⟩ := hget 0 _ _ rfl
      obtain ⟨f1, g1, t1, o1⟩ := hget 1 _ _ rfl
      obtain ⟨f2, g2, t2, o2⟩ := hget 2 _ _ rfl
      obtain ⟨f3, g3, t3, o3⟩ := hget 3 _ _ rfl
      have e0 := hfd 0 f0 g0
      have e1 := hfd 1 f1 g1
      have e2 := hfd 2 f2 g2
      have e3 := hfd 3 f3 g3
      rw [t0, o0, hci] at e0
      rw [t1, o1, hci] at e1
      rw [t2, o2, hci] at e2
      rw [t3, o3, hc] at e3
      have hxs : xs.length = 4 := by
        rw [hxl]
        have := congrArg List.length hm
        simpa using this
      match xs, hxs, cs', hlen with
      | [y0, y1, y2, y3], _, [v0, v1, v2, v3], _ =>
        obtain ⟨x, q0, _, _⟩ := DataW.trod_int hi e0
        obtain ⟨y, q1, _, hwf⟩ := DataW.trod_int hi e1
        obtain ⟨z, q2, _, _⟩ := DataW.trod_int hi e2
        obtain ⟨s, q3, _, _⟩ := DataW.trod_string hs e3
        simp at q0 q1 q2 q3
        subst q0 q1 q2 q3
        exact ⟨x, y, z, s, hcl 0 (by omega), hcl 1 (by omega), hcl 2 (by omega), hcl 3 (by omega), hwf⟩
    have hch : ∃ F : Nat → IAct, ∀ j, j < l → W.cell? ((a'.add (j * 4)).add 0) = some (.int .i64 (F j).k) ∧ W.cell? ((a'.add (j * 4)).add 1) = some (.int .i64 (F j).c) ∧ W.cell? ((a'.add (j * 4)).add 2) = some (.int .i64 (F j).n) ∧ W.cell? ((a'.add (j * 4)).add 3) = some (.string (F j).nm) ∧ (Lit.int .i64 (F j).c).wf = true := by
      refine ⟨fun j => iactOf [(W.cell? ((a'.add (j * 4)).add 0)).getD undef, (W.cell? ((a'.add (j * 4)).add 1)).getD undef, (W.cell? ((a'.add (j * 4)).add 2)).getD undef, (W.cell? ((a'.add (j * 4)).add 3)).getD undef], fun j hj => ?_⟩
      obtain ⟨x, y, z, s, p0, p1, p2, p3, p4⟩ := each j hj
      have e : iactOf [(W.cell? ((a'.add (j * 4)).add 0)).getD undef, (W.cell? ((a'.add (j * 4)).add 1)).getD undef, (W.cell? ((a'.add (j * 4)).add 2)).getD undef, (W.cell? ((a'.add (j * 4)).add 3)).getD undef] = ⟨x, y, z, s⟩ := by rw [p0, p1, p2, p3]; rfl
      simp only [e]
      exact ⟨p0, p1, p2, p3, p4⟩
    obtain ⟨F, hF⟩ := hch
    obtain ⟨cs, hcs⟩ : ∃ cs : List IAct, cs = (List.range l).map F := ⟨_, rfl⟩
    have hlen : cs.length = l := by rw [hcs]; simp
    refine ⟨some a', m, cs, by rw [hlen], ?_, by rw [hlen]; omega⟩
    by_cases h0 : l = 0
    · left; rw [hcs, h0]; rfl
    · right
      have c0 := (hF 0 (by omega)).1
      have ha0 : (a'.add (0 * 4)).add 0 = a' := by simp [Addr.add]
      rw [ha0] at c0
      have hs0 := World.cell?_spot c0
      obtain ⟨bk, o, sp⟩ := a'
      simp only at hs0
      subst hs0
      refine ⟨bk, o, rfl, World.block_lt_of_cell? W _ c0, by rw [hlen]; exact hl, fun j f hj => ?_⟩
      have hjl : j < l := by
        rcases Nat.lt_or_ge j l with h | h
        · exact h
        · rw [List.getElem?_eq_none (by omega)] at hj; cases hj
      have g := hF j hjl
      rw [hcs] at hj
      simp only [List.getElem?_map, List.getElem?_range hjl, Option.map_some, Option.some.injEq] at hj
      subst hj
      rw [Addr.add_mid, Addr.add_mid, Addr.add_mid, Addr.add_mid, Addr.add_mid] at g
      exact g
end Go.Proofs.Ytcdgmhglpcokdaa
