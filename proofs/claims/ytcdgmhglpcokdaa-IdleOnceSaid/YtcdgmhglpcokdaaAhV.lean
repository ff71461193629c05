/- An agenda in memory: its heap and its map; find, Len, First, New (written by genagv.py). -/
import Derived.Test.YtcdgmhglpcokdaaAhQ
import Derived.Test.YtcdgmhglpcokdaaAgA
import Derived.Test.YtcdgmhglpcokdaaMpK
namespace Go.Proofs.Ytcdgmhglpcokdaa
open Go.RowKit Go.Maps
section PlV
variable {pl : Pl}

/-- Keys that are strings. -/
def KS : KTy ByteArray where
  t := 9
  kv := fun s => .string s
  kl := fun s => .string s.data.toList
  ok := fun s => s.size ≤ maxLen
  keyed := string_keyed Try.underlying9
  key := fun s hs => WideMaps.keyOf_string_mk Try.underlying9 hs
  inj := fun a b e => by
    injection e with e
    exact ByteArray.ext (Array.ext' e)
  lit := fun s => by unfold WideAt.IsKeyLit; trivial
/-- Keys that are whole numbers. -/
def KN : KTy Int where
  t := 3
  kv := fun s => .int .i64 s
  kl := fun s => .int .i64 s
  ok := fun s => (Lit.int .i64 s).wf = true
  keyed := int_keyed Try.underlying3
  key := fun s hs => keyOf_int_mk Try.underlying3 hs
  inj := fun a b e => by
    injection e with e
  lit := fun s => by unfold WideAt.IsKeyLit; trivial
def ptV (o : Option Nat) : Value := .pointer (o.map (fun b => ⟨b, 0, none⟩))
def ptD : Option Nat → DataW Unit
  | none => .lit (.bool false)
  | some b => .lit (.int .i64 b)
def ptR : Value → Option (DataW Unit × List MemPlace)
  | .pointer none => some (ptD none, [])
  | .pointer (some ⟨b, 0, none⟩) => some (ptD (some b), [])
  | _ => none
theorem ptR_inv (v : Value) (z : DataW Unit × List MemPlace) (h : ptR v = some z) : ∃ a, v = ptV a ∧ z = (ptD a, []) := by
  unfold ptR at h
  split at h
  · injection h with h; exact ⟨none, rfl, h.symm⟩
  · rename_i b
    injection h with h; exact ⟨some b, rfl, h.symm⟩
  · cases h
theorem ptD_inj (a b : Option Nat) (h : ptD a = ptD b) : a = b := by
  cases a <;> cases b
  · rfl
  · unfold ptD at h; injection h with h; cases h
  · unfold ptD at h; injection h with h; cases h
  · unfold ptD at h; injection h with h; injection h with _ h; rw [Int.ofNat.inj h]
theorem ptR_eq (a : Option Nat) : ptR (ptV a) = some (ptD a, []) := by cases a <;> rfl
def MPS : MTyK KS (Option Nat) where
  R := ptR
  mv := ptV
  md := ptD
  z0 := none
  T := 76
  e := 107
  hR := ptR_eq
  inv := ptR_inv
  inj := ptD_inj
  hT := Try.underlying76
  hz := fun w => by kernel_rfl
def MPN : MTyK KN (Option Nat) where
  R := ptR
  mv := ptV
  md := ptD
  z0 := none
  T := 64
  e := 97
  hR := ptR_eq
  inv := ptR_inv
  inj := ptD_inj
  hT := Try.underlying64
  hz := fun w => by kernel_rfl
/-- An agenda: n items Q; F: the item of each key; S: its blocks are among these. -/
structure AgX {κ : Type} {K : KTy κ} (pl : Pl) (PT IT : TypeId) (M : MTyK K (Option Nat)) (w : World) (ab n N : Nat) (v mp : Value) (sets : Int) (Q : Nat → It) (F : κ → Option Nat) (S : Nat → Prop) : Prop where
  s : AgS pl PT IT w ab v n mp sets Q
  hp : HeapAt leI Q n
  m : (mp = .map none ∧ F = fun _ => none) ∨ ∃ mb, mp = .map (some mb) ∧ S mb ∧ MapK M w mb N (fun k => (F k).map some)
  fto : ∀ k b, F k = some b → ∃ i, i < n ∧ (Q i).k = K.kv k ∧ (Q i).b = b ∧ K.ok k
  fof : ∀ i, i < n → ∃ k, K.ok k ∧ (Q i).k = K.kv k ∧ F k = some (Q i).b
  sub : ∀ k, AgG ab v Q n k → S k
/-- S and the blocks that are new. -/
def newS (S : Nat → Prop) (w w' : World) : Nat → Prop := fun k => S k ∨ w.heap.size ≤ k ∧ k < w'.heap.size
section
variable {κ : Type} {K : KTy κ} {pl : Pl} {PT IT : TypeId} {M : MTyK K (Option Nat)} {w w' : World} {ab n N : Nat} {v mp : Value} {sets : Int} {Q : Nat → It} {F : κ → Option Nat} {S : Nat → Prop}
theorem AgX.keep {G : Nat → Prop} (h : AgX pl PT IT M w ab n N v mp sets Q F S) (hk : Keep G w w') (hg : ∀ k, S k → ¬ G k) : AgX pl PT IT M w' ab n N v mp sets Q F S := by
  obtain ⟨h1, h2, h3, h4, h5, h6⟩ := h
  refine ⟨h1.keep hk (fun k e => hg k (h6 k e)), h2, ?_, h4, h5, h6⟩
  rcases h3 with h3 | ⟨mb, e, hs, h3⟩
  · exact .inl h3
  · exact .inr ⟨mb, e, hs, h3.keep hk (hg mb hs)⟩
theorem AgX.below (h : AgX pl PT IT M w ab n N v mp sets Q F S) (hb : Below w.heap.size w w') : AgX pl PT IT M w' ab n N v mp sets Q F S :=
  h.keep (G := fun _ => False) (.of_below hb) (fun _ _ h => h)
theorem AgX.more {S' : Nat → Prop} (h : AgX pl PT IT M w ab n N v mp sets Q F S) (hs : ∀ k, S k → S' k) : AgX pl PT IT M w ab n N v mp sets Q F S' := by
  obtain ⟨h1, h2, h3, h4, h5, h6⟩ := h
  refine ⟨h1, h2, ?_, h4, h5, fun k e => hs k (h6 k e)⟩
  rcases h3 with h3 | ⟨mb, e, h7, h3⟩
  · exact .inl h3
  · exact .inr ⟨mb, e, hs mb h7, h3⟩
theorem AgX.c0 (h : AgX pl PT IT M w ab n N v mp sets Q F S) : w.cell? ⟨ab, pl.o, none⟩ = some v := h.s.ag.c0
theorem AgX.c1 (h : AgX pl PT IT M w ab n N v mp sets Q F S) : w.cell? ⟨ab, pl.o + 1, none⟩ = some mp := h.s.ag.c1
theorem AgX.c2 (h : AgX pl PT IT M w ab n N v mp sets Q F S) : w.cell? ⟨ab, pl.o + 2, none⟩ = some (.int .i64 sets) := h.s.ag.c2
theorem AgX.slice (h : AgX pl PT IT M w ab n N v mp sets Q F S) : ∃ a c, v = .slice a n c := by
  obtain ⟨cs, h1, _⟩ := h.s.own
  exact own_slice h1
theorem AgX.look (h : AgX pl PT IT M w ab n N v mp sets Q F S) (k : κ) (hk : K.ok k) : (Instr.lookup M.T mp (K.kv k) false).run Try.prog w = .ok (M.mv (((F k).map some).getD M.z0)) w := by
  rcases h.m with ⟨rfl, h3⟩ | ⟨mb, rfl, _, h3⟩
  · rw [look_nilK M w hk, h3]; rfl
  · exact h3.look hk
end
theorem afindS (ab n N : Nat) (v mp : Value) (sets : Int) (Q : Nat → It) (F : ByteArray → Option Nat) (S : Nat → Prop) (k : ByteArray) (hk : KS.ok k) (w : World) (h : AgX pl 107 106 MPS w ab n N v mp sets Q F S) :
    Calls Try.prog 57 #[.pointer (some ⟨ab, pl.o, none⟩), .string k] w fun e w' => e = .returned (ptV (F k)) ∧ Below w.heap.size w w' := by
  have HF := Lib.hid (findS k w)
  have HX := Lib.hid h
  clear h
  go_enter Try.func57, Try.ntmps57
  go_wp2_with fail
  refine HF.out.mono ?_
  rintro e w1 ⟨rfl, hb⟩
  have hlk := (HX.out.below hb).look k hk
  have c1 := (HX.out.below hb).c1
  have hv : MPS.mv (((F k).map some).getD MPS.z0) = ptV (F k) := by cases F k <;> rfl
  rw [hv] at hlk
  have hlk2 : (Instr.lookup 76 mp (.string k) false).run Try.prog w1 = .ok (ptV (F k)) w1 := hlk
  have HB := Lib.hid hb
  clear hb hlk hv HF
  go_wp2_with fail
  go_ret
  exact ⟨rfl, HB.out⟩
theorem alenS (ab n N : Nat) (v mp : Value) (sets : Int) (Q : Nat → It) (F : ByteArray → Option Nat) (S : Nat → Prop) (w : World) (h : AgX pl 107 106 MPS w ab n N v mp sets Q F S) :
    Calls Try.prog 97 #[.pointer (some ⟨ab, pl.o, none⟩)] w fun e w' => e = .returned (.int .i64 (n : Int)) ∧ w' = w := by
  have c0 := h.c0
  obtain ⟨a, c, rfl⟩ := h.slice
  clear h
  go_enter Try.func97, Try.ntmps97
  go_wp2_with fail
  go_ret
  exact ⟨rfl, rfl⟩
theorem afirstS (ab n N : Nat) (v mp : Value) (sets : Int) (Q : Nat → It) (F : ByteArray → Option Nat) (S : Nat → Prop) (hn : n ≤ 1000) (w : World) (h : AgX pl 107 106 MPS w ab n N v mp sets Q F S) :
    Calls Try.prog 33 #[.pointer (some ⟨ab, pl.o, none⟩)] w fun e w' => e = .returned (.tuple #[.int .i64 (if n = 0 then 0 else (Q 0).a), .bool (decide (0 < n))]) ∧ w' = w := by
  have c0 := h.c0
  by_cases hn0 : n = 0
  · subst hn0
    obtain ⟨a, c, rfl⟩ := h.slice
    clear h
    simp only [if_true]
    go_enter Try.func33, Try.ntmps33
    go_wp2_with fail
    go_ret2
    exact ⟨rfl, rfl⟩
  · obtain ⟨g, c, rfl, hnc, hcm, hm⟩ := h.s.open (by omega)
    have c4 := hm.cell (i := 0) (by omega)
    have c5 : w.cell? ⟨(Q 0).b, 1, none⟩ = some (.int .i64 (Q 0).a) := (h.s.it 0 (by omega)).cell 1
    have hne : ((n : Int) == 0) = false := by simp; omega
    have hpo : (0 : Int) < (n : Int) := by omega
    unfold ptI at c4
    rw [if_neg hn0, decide_eq_true (show 0 < n by omega)]
    clear h hm
    go_enter Try.func33, Try.ntmps33
    go_wp2_with fail
    go_ret2
    exact ⟨rfl, rfl⟩
def pl0S : Pl := ⟨78, 0, [], [], rfl, by decide, by decide, by decide, by decide⟩
theorem afindN (ab n N : Nat) (v mp : Value) (sets : Int) (Q : Nat → It) (F : Int → Option Nat) (S : Nat → Prop) (k : Int) (hk : KN.ok k) (w : World) (h : AgX pl 97 99 MPN w ab n N v mp sets Q F S) :
    Calls Try.prog 42 #[.pointer (some ⟨ab, pl.o, none⟩), .int .i64 k] w fun e w' => e = .returned (ptV (F k)) ∧ Below w.heap.size w w' := by
  have HF := Lib.hid (findN k w)
  have HX := Lib.hid h
  clear h
  go_enter Try.func42, Try.ntmps42
  go_wp2_with fail
  refine HF.out.mono ?_
  rintro e w1 ⟨rfl, hb⟩
  have hlk := (HX.out.below hb).look k hk
  have c1 := (HX.out.below hb).c1
  have hv : MPN.mv (((F k).map some).getD MPN.z0) = ptV (F k) := by cases F k <;> rfl
  rw [hv] at hlk
  have hlk2 : (Instr.lookup 64 mp (.int .i64 k) false).run Try.prog w1 = .ok (ptV (F k)) w1 := hlk
  have HB := Lib.hid hb
  clear hb hlk hv HF
  go_wp2_with fail
  go_ret
  exact ⟨rfl, HB.out⟩
theorem alenN (ab n N : Nat) (v mp : Value) (sets : Int) (Q : Nat → It) (F : Int → Option Nat) (S : Nat → Prop) (w : World) (h : AgX pl 97 99 MPN w ab n N v mp sets Q F S) :
    Calls Try.prog 93 #[.pointer (some ⟨ab, pl.o, none⟩)] w fun e w' => e = .returned (.int .i64 (n : Int)) ∧ w' = w := by
  have c0 := h.c0
  obtain ⟨a, c, rfl⟩ := h.slice
  clear h
  go_enter Try.func93, Try.ntmps93
  go_wp2_with fail
  go_ret
  exact ⟨rfl, rfl⟩
theorem afirstN (ab n N : Nat) (v mp : Value) (sets : Int) (Q : Nat → It) (F : Int → Option Nat) (S : Nat → Prop) (hn : n ≤ 1000) (w : World) (h : AgX pl 97 99 MPN w ab n N v mp sets Q F S) :
    Calls Try.prog 92 #[.pointer (some ⟨ab, pl.o, none⟩)] w fun e w' => e = .returned (.tuple #[.int .i64 (if n = 0 then 0 else (Q 0).a), .bool (decide (0 < n))]) ∧ w' = w := by
  have c0 := h.c0
  by_cases hn0 : n = 0
  · subst hn0
    obtain ⟨a, c, rfl⟩ := h.slice
    clear h
    simp only [if_true]
    go_enter Try.func92, Try.ntmps92
    go_wp2_with fail
    go_ret2
    exact ⟨rfl, rfl⟩
  · obtain ⟨g, c, rfl, hnc, hcm, hm⟩ := h.s.open (by omega)
    have c4 := hm.cell (i := 0) (by omega)
    have c5 : w.cell? ⟨(Q 0).b, 1, none⟩ = some (.int .i64 (Q 0).a) := (h.s.it 0 (by omega)).cell 1
    have hne : ((n : Int) == 0) = false := by simp; omega
    have hpo : (0 : Int) < (n : Int) := by omega
    unfold ptI at c4
    rw [if_neg hn0, decide_eq_true (show 0 < n by omega)]
    clear h hm
    go_enter Try.func92, Try.ntmps92
    go_wp2_with fail
    go_ret2
    exact ⟨rfl, rfl⟩
def pl0N : Pl := ⟨66, 0, [], [], rfl, by decide, by decide, by decide, by decide⟩
end PlV
end Go.Proofs.Ytcdgmhglpcokdaa
