/- Packed: LawRa, FldsO, MsgO, MsgP, ToO. -/
import Derived.Deep.SlicePairs
import Derived.Deep.MidRow
import Derived.WideKeyArgs
import Derived.DataReads
import Derived.KernelRfl
import Derived.Test.YtbbphklhnngjmaaGreatDoorS08
import Derived.Test.YtbbphklhnngjmaaGreatDoorS09
import Derived.Test.YtbbphklhnngjmaaGreatDoorV02
import Derived.Test.YtbbphklhnngjmaaGreatDoorV03
/- The walk of the statement RewriteAnswers. -/
namespace Go.Proofs.YtbbphklhnngjmaaGreatDoor
open Go.RowKit

theorem lawRewriteAnswers (kc : Int) (tt bb : ByteArray) (kk : Int) (me co : ByteArray) (cl : Bool) (a : Option Addr) (c : Nat) (fs : List Fld) (hfl : fs.length ≤ 9223372036854775807) (w : World) (hw : LaidS w) (hf : IsFlds w a c fs) :
    Calls Tryz.prog 6 #[.agg #[.int .i64 kc, .string tt, .slice a fs.length c, .string bb, .int .i64 kk, .string me, .string co, .bool cl]] w fun e w' => e = .returned (.bool true) ∧ Below w.heap.size w w' := by
  cases cl
  · exact lawRaF kc tt bb kk me co a c fs hfl w hw hf
  · exact lawRaT kc tt bb kk me co a c fs hfl w hw hf
end Go.Proofs.YtbbphklhnngjmaaGreatDoor

/- A slice of fields that is handed in. -/
namespace Go.Proofs.YtbbphklhnngjmaaGreatDoor
open Go.ChangeShapes Go.WideShapes Go.ChangeAt Go.RowKit

/-- A string's bytes. -/
def strL (v : Value) : List UInt8 := match v with
  | .string s => s.data.toList
  | _ => []
theorem strL_bs (s : ByteArray) : Value.string (bs (strL (.string s))) = .string s := by
  cases s; rfl
end Go.Proofs.YtbbphklhnngjmaaGreatDoor

/- A message that is handed in by value: strings, numbers, a slice of fields. -/
namespace Go.Proofs.YtbbphklhnngjmaaGreatDoor
open Go.ChangeShapes Go.WideShapes Go.ChangeAt Go.RowKit

/-- A slice of fields, out of its cell. -/
theorem flds_cell {H : Type} {enc : TypeId × Value → H} {P : Program} {t e u : TypeId} {W : World} {base : Nat} {held : Bool} (ht : P.underlying t = some (.slice e)) (hu : (P.underlying e).map fieldsOf = some [(u, 0), (u, 1)]) (hs : P.underlying u = some .string) (hc : P.cellsOf u = 1) (ce : P.cellsOf e = 2)
    {fuel : Nat} {cl : List Value} {x : DataW H × List MemPlace} (hf : DataW.trod enc P W base (fun _ => true) held fuel t cl = some x) :
    ∃ a c fs, cl = [.slice a fs.length c] ∧ IsFlds W a c fs ∧ fs.length ≤ maxLen := by
  obtain ⟨fa, hfa, hm⟩ := fieldsOf_struct hu (List.cons_ne_nil _ _)
  obtain ⟨fl, hfl⟩ : ∃ fl, fl = fa.toList := ⟨_, rfl⟩
  rw [← hfl] at hm
  have hl2 : fl.length = 2 := by have := congrArg List.length hm; simpa using this
  match fl, hl2 with
  | [f0, f1], _ =>
    simp only [List.map_cons, List.map_nil, List.cons.injEq, Prod.mk.injEq, and_true] at hm
    obtain ⟨⟨t0, o0⟩, t1, o1⟩ := hm
    have hfa2 : fa = #[f0, f1] := by rw [← Array.toArray_toList (xs := fa), ← hfl]
    rw [hfa2] at hfa
    rcases Go.Deep.open_slice_pairs ht hfa ce o0 o1 (by rw [t0]; exact hc) (by rw [t1]; exact hc) hf with ⟨hcs, _⟩ | ⟨a', l', c', m, n, V0, V1, D0, D1, P0, P1, hcs, _, hl, hmx, hme, _, hcell⟩
    · exact ⟨none, 0, [], hcs, .inl rfl, by simp⟩
    · simp only [if_true] at hme
      subst hme
      obtain ⟨fs, hfs⟩ : ∃ fs : List Fld, fs = (List.range l').map fun i => (strL (V0 i), strL (V1 i)) := ⟨_, rfl⟩
      have hlen : fs.length = l' := by rw [hfs]; simp
      refine ⟨some a', m, fs, by rw [hlen]; exact hcs, ?_, by rw [hlen]; omega⟩
      by_cases h0 : l' = 0
      · left; rw [hfs, h0]; rfl
      · right
        have c0 := (hcell 0 (by omega)).1
        have hs0 := World.cell?_spot c0
        have ha0 : a'.add (0 * 2) = a' := by simp [Addr.add]
        rw [ha0] at hs0 c0
        obtain ⟨bk, o, sp⟩ := a'
        simp only at hs0
        subst hs0
        refine ⟨bk, o, rfl, World.block_lt_of_cell? W _ c0, by rw [hlen]; exact hl, fun j f hj => ?_⟩
        have hjl : j < l' := by
          rcases Nat.lt_or_ge j l' with h | h
          · exact h
          · rw [List.getElem?_eq_none (by omega)] at hj; cases hj
        obtain ⟨g0, g1, g2, g3⟩ := hcell j (by omega)
        rw [t0] at g2
        rw [t1] at g3
        obtain ⟨s0, e0, _, _⟩ := DataW.trod_string hs g2
        obtain ⟨s1, e1, _, _⟩ := DataW.trod_string hs g3
        simp only [List.cons.injEq, and_true] at e0 e1
        rw [hfs] at hj
        simp only [List.getElem?_map, List.getElem?_range hjl, Option.map_some, Option.some.injEq] at hj
        subst hj
        rw [Addr.add_mid] at g0 g1
        rw [e0] at g0
        rw [e1] at g1
        refine ⟨?_, ?_⟩
        · simp only [e0]
          rw [strL_bs]; exact g0
        · simp only [e1]
          rw [strL_bs, Nat.add_assoc]; exact g1
theorem refUm : (Tryz.prog.underlying 53).map fieldsOf = some [(9, 0), (9, 1)] := by kernel_rfl
theorem refCm : Tryz.prog.cellsOf 53 = 2 := by kernel_rfl
theorem cellsSm : Tryz.prog.cellsOf 9 = 1 := by kernel_rfl
theorem cellsIm : Tryz.prog.cellsOf 3 = 1 := by kernel_rfl
theorem cellsFm : Tryz.prog.cellsOf 22 = 1 := by kernel_rfl
end Go.Proofs.YtbbphklhnngjmaaGreatDoor

/- A response that is handed in by value. -/
namespace Go.Proofs.YtbbphklhnngjmaaGreatDoor
open Go.ChangeShapes Go.WideShapes Go.ChangeAt Go.RowKit

theorem msgRU : (Tryz.prog.underlying 24).map fieldsOf = some [(3, 0), (9, 1), (22, 2), (9, 3), (3, 4)] := by kernel_rfl
theorem msgRC : Tryz.prog.cellsOf 24 = 5 := by kernel_rfl
end Go.Proofs.YtbbphklhnngjmaaGreatDoor

/- A response with a method, a cookie and a close that is handed in by value. -/
namespace Go.Proofs.YtbbphklhnngjmaaGreatDoor
open Go.ChangeShapes Go.WideShapes Go.ChangeAt Go.RowKit

theorem rec_trod {H : Type} {enc : TypeId × Value → H} {P : Program} {t : TypeId} {W : World} {base : Nat} {sp : Nat → Bool} {held : Bool} {l : List (TypeId × Nat)} (hu : (P.underlying t).map fieldsOf = some l) (hl : l ≠ []) {fuel : Nat} {cl : List Value} {x : DataW H × List MemPlace}
    (hf : DataW.trod enc P W base sp held fuel t cl = some x) :
    ∃ (xs : List (DataW H × List MemPlace)) (n : Nat), cl.length = P.cellsOf t ∧ xs.length = l.length ∧
      ∀ (i : Nat) (u : TypeId) (o : Nat), l[i]? = some (u, o) → DataW.trod enc P W base sp held n u ((cl.drop o).take (P.cellsOf u)) = xs[i]? := by
  obtain ⟨fs, hs, rfl⟩ := fieldsOf_struct hu hl
  obtain ⟨xs, n, _, hx, h1, h2, h3⟩ := DataW.trod_struct hs hf
  refine ⟨xs, n, h1, by simpa using h2, fun i u o hi => ?_⟩
  rw [List.getElem?_map] at hi
  obtain ⟨f, hf', he⟩ := Option.map_eq_some_iff.1 hi
  simp only [Prod.mk.injEq] at he
  obtain ⟨rfl, rfl⟩ := he
  exact h3 i f (by simpa using hf')
set_option maxRecDepth 100000 in
theorem msgR_cells {H : Type} {enc : TypeId × Value → H} {W : World} {base : Nat} {held : Bool} {fuel : Nat} {cl : List Value} {x : DataW H × List MemPlace} (hd : DataW.trod enc Tryz.prog W base (fun _ => true) held fuel 24 cl = some x) :
    ∃ (m : Int) (t b : ByteArray) (k : Int) (a : Option Addr) (c : Nat) (fs : List Fld), cl = [.int .i64 m, .string t, .slice a fs.length c, .string b, .int .i64 k] ∧ IsFlds W a c fs ∧ fs.length ≤ maxLen := by
  obtain ⟨xs, q, hc, hx, hf⟩ := rec_trod msgRU (List.cons_ne_nil _ _) hd
  rw [msgRC] at hc
  have f0 := hf 0 _ _ rfl
  have f1 := hf 1 _ _ rfl
  have f2 := hf 2 _ _ rfl
  have f3 := hf 3 _ _ rfl
  have f4 := hf 4 _ _ rfl
  match xs, hx with
  | [y0, y1, y2, y3, y4], _ =>
    rw [cellsSm] at f1 f3
    rw [cellsIm] at f0 f4
    rw [cellsFm] at f2
    obtain ⟨m, e0, _, _⟩ := DataW.trod_int Tryz.underlying3 f0
    obtain ⟨t, e1, _, _⟩ := DataW.trod_string Tryz.underlying9 f1
    obtain ⟨a, c, fs, e2, hfs, hlen⟩ := flds_cell Tryz.underlying22 refUm Tryz.underlying9 cellsSm refCm f2
    obtain ⟨b, e3, _, _⟩ := DataW.trod_string Tryz.underlying9 f3
    obtain ⟨k, e4, _, _⟩ := DataW.trod_int Tryz.underlying3 f4
    have g0 := one_cellR e0
    have g1 := one_cellR e1
    have g2 := one_cellR e2
    have g3 := one_cellR e3
    have g4 := one_cellR e4
    match cl, hc with
    | [z0, z1, z2, z3, z4], _ =>
      obtain rfl : z0 = _ := Option.some.inj g0
      obtain rfl : z1 = _ := Option.some.inj g1
      obtain rfl : z2 = _ := Option.some.inj g2
      obtain rfl : z3 = _ := Option.some.inj g3
      obtain rfl : z4 = _ := Option.some.inj g4
      exact ⟨m, t, b, k, a, c, fs, rfl, hfs, hlen⟩
theorem toU : (Tryz.prog.underlying 67).map fieldsOf = some [(24, 0), (9, 5), (9, 6), (4, 7)] := by kernel_rfl
theorem toC : Tryz.prog.cellsOf 67 = 8 := by kernel_rfl
theorem cellsBm : Tryz.prog.cellsOf 4 = 1 := by kernel_rfl
set_option maxRecDepth 100000 in
theorem to_open {H : Type} {enc : TypeId × Value → H} {W : World} {base : Nat} {held : Bool} {r : Reach} {b0 : Nat} {v : Value} {d : DataW H} {ps : List MemPlace} (hval : Value.okWide Tryz.prog W r b0 67 v) (hd : DataW.Trod enc Tryz.prog W base (fun _ => true) held 67 v d ps) :
    ∃ (m : Int) (t b : ByteArray) (k : Int) (me co : ByteArray) (cl : Bool) (a : Option Addr) (c : Nat) (fs : List Fld), v = .agg #[.int .i64 m, .string t, .slice a fs.length c, .string b, .int .i64 k, .string me, .string co, .bool cl] ∧ IsFlds W a c fs ∧ fs.length ≤ maxLen := by
  obtain ⟨cs, xs, q, rfl, hc, rfl, rfl, hx, hf⟩ := rec_open toU (List.cons_ne_nil _ _) hval hd
  rw [toC] at hc
  have f0 := hf 0 _ _ rfl
  have f1 := hf 1 _ _ rfl
  have f2 := hf 2 _ _ rfl
  have f3 := hf 3 _ _ rfl
  match xs, hx with
  | [y0, y1, y2, y3], _ =>
    rw [cellsSm] at f1 f2
    rw [cellsBm] at f3
    rw [msgRC] at f0
    obtain ⟨m, t, b, k, a, c, fs, e0, hfs, hlen⟩ := msgR_cells f0
    obtain ⟨me, e1, _, _⟩ := DataW.trod_string Tryz.underlying9 f1
    obtain ⟨co, e2, _, _⟩ := DataW.trod_string Tryz.underlying9 f2
    obtain ⟨cl, e3, _⟩ := DataW.trod_bool Tryz.underlying4 f3
    have g1 := one_cellR e1
    have g2 := one_cellR e2
    have g3 := one_cellR e3
    obtain ⟨l, hl⟩ : ∃ l, l = cs.toList := ⟨_, rfl⟩
    rw [← hl] at hc e0 g1 g2 g3
    match l, hc with
    | [z0, z1, z2, z3, z4, z5, z6, z7], _ =>
      obtain rfl : z5 = _ := Option.some.inj g1
      obtain rfl : z6 = _ := Option.some.inj g2
      obtain rfl : z7 = _ := Option.some.inj g3
      simp only [List.drop_zero, List.take_succ_cons, List.take_zero, List.cons.injEq, and_true] at e0
      obtain ⟨rfl, rfl, rfl, rfl, rfl⟩ := e0
      refine ⟨m, t, b, k, me, co, cl, a, c, fs, ?_, hfs, hlen⟩
      rw [← Array.toArray_toList (xs := cs), ← hl]
end Go.Proofs.YtbbphklhnngjmaaGreatDoor

