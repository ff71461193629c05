/- Maps of names to numbers; a rotor in memory. -/
import Derived.Test.YtcmjcpgfnkhnoaaKeepN
import Derived.Test.YtcmjcpgfnkhnoaaCut
import Derived.Maps.OwnSet
namespace Go.Proofs.Ytcmjcpgfnkhnoaa
open Go.RowKit Go.Maps

theorem lawS : Keyed Try.prog 9 := string_keyed Try.underlying9
theorem zeroI (w : World) : (zeroValue 3).run Try.prog w = .ok (.int .i64 0) w := by kernel_rfl
/-- One number changed. -/
def upd (f : ByteArray → Int) (s : ByteArray) (c : Int) : ByteArray → Int := fun x => if x = s then c else f x
theorem upd_same (f : ByteArray → Int) (s : ByteArray) (c : Int) : upd f s c s = c := if_pos rfl
theorem upd_other (f : ByteArray → Int) {s x : ByteArray} (c : Int) (h : x ≠ s) : upd f s c x = f x := if_neg h
theorem upd_id (f : ByteArray → Int) (s : ByteArray) : upd f s (f s) = f := by
  funext x; unfold upd; split
  · rename_i h; rw [h]
  · rfl
/-- A map that reads as these numbers. -/
def MapI (w : World) (b n : Nat) (f : ByteArray → Int) : Prop :=
  ∃ D : DataW Unit, w.ownsMap Try.prog 9 (plainElem Try.prog 3) b n D ∧ ∀ s : ByteArray, D.atKey (.string s.data.toList) (.lit (.int .i64 0)) = .lit (.int .i64 (f s))
theorem key_ne {x s : ByteArray} (h : x ≠ s) : (Lit.string x.data.toList) ≠ (Lit.string s.data.toList) := by
  intro e
  injection e with e
  exact h (ByteArray.ext (Array.ext' e))
theorem MapI.lt {w : World} {b n : Nat} {f : ByteArray → Int} (h : MapI w b n f) : b < w.heap.size := by
  obtain ⟨D, ho, _⟩ := h
  exact ho.lt
theorem MapI.same {w w' : World} {b n : Nat} {f : ByteArray → Int} (h : MapI w b n f) (hb : w'.heap[b]? = w.heap[b]?) : MapI w' b n f := by
  obtain ⟨D, ⟨es, clock, hm, F, hs, hD⟩, r⟩ := h
  exact ⟨D, ⟨es, clock, hb.trans hm, F, hs, hD⟩, r⟩
theorem MapI.mono {w : World} {b n m : Nat} {f : ByteArray → Int} (h : MapI w b n f) (hm : n ≤ m) : MapI w b m f := by
  obtain ⟨D, ho, r⟩ := h
  exact ⟨D, ho.mono hm, r⟩
theorem MapI.keep {w w' : World} {G : Nat → Prop} {b n : Nat} {f : ByteArray → Int} (h : MapI w b n f) (hk : Keep G w w') (hg : ¬ G b) : MapI w' b n f := h.same (hk.block b h.lt hg)
theorem MapI.look {w : World} {b n : Nat} {f : ByteArray → Int} (h : MapI w b n f) {s : ByteArray} (hs : s.size ≤ maxLen) : (Instr.lookup 41 (.map (some b)) (.string s) false).run Try.prog w = .ok (.int .i64 (f s)) w := by
  obtain ⟨D, ho, r⟩ := h
  obtain ⟨c, hrun, hat, _⟩ := ho.lookup_int lawS Try.underlying41 Try.underlying3 (zeroI _) (WideMaps.keyOf_string_mk Try.underlying9 hs)
  rw [r s] at hat
  injection hat with e
  injection e with _ e
  rw [hrun, e]
theorem MapI.wf {w : World} {b n : Nat} {f : ByteArray → Int} (h : MapI w b n f) {s : ByteArray} (hs : s.size ≤ maxLen) : (Lit.int .i64 (f s)).wf = true := by
  obtain ⟨D, ho, r⟩ := h
  obtain ⟨c, hrun, hat, hw⟩ := ho.lookup_int lawS Try.underlying41 Try.underlying3 (zeroI _) (WideMaps.keyOf_string_mk Try.underlying9 hs)
  rw [r s] at hat
  injection hat with e
  injection e with _ e
  rw [e]; exact hw
theorem MapI.new (w : World) : MapI (w.alloc (.map #[] 0)) w.heap.size 0 (fun _ => 0) :=
  ⟨_, World.ownsMap_made w _ _ _, fun _ => rfl⟩
theorem put_reads {D : DataW Unit} {f : ByteArray → Int} (hD : IsMap D) (r : ∀ s : ByteArray, D.atKey (.string s.data.toList) (.lit (.int .i64 0)) = .lit (.int .i64 (f s))) (s : ByteArray) (c : Int) (x : ByteArray) :
    (D.put (.string s.data.toList) (.lit (.int .i64 c))).atKey (.string x.data.toList) (.lit (.int .i64 0)) = .lit (.int .i64 (upd f s c x)) := by
  by_cases h : x = s
  · subst h
    rw [upd_same, atKey_put_same hD (by unfold WideAt.IsKeyLit; trivial)]
  · rw [upd_other f c h, atKey_put_other (key_ne h), r x]
theorem del_reads {D : DataW Unit} {f : ByteArray → Int} (r : ∀ s : ByteArray, D.atKey (.string s.data.toList) (.lit (.int .i64 0)) = .lit (.int .i64 (f s))) (s : ByteArray) (x : ByteArray) :
    (D.del (.string s.data.toList)).atKey (.string x.data.toList) (.lit (.int .i64 0)) = .lit (.int .i64 (upd f s 0 x)) := by
  by_cases h : x = s
  · subst h
    rw [upd_same, atKey_del_same]
  · rw [upd_other f 0 h, atKey_del_other (key_ne h), r x]
theorem MapI.drop {w : World} {b n : Nat} {f : ByteArray → Int} (h : MapI w b n f) {s : ByteArray} (hs : s.size ≤ maxLen) (ty : TypeId) :
    ∃ w', (Builtin.delete_ #[41, 9] ty #[.map (some b), .string s]).run Try.prog w = .ok (.tuple #[]) w' ∧ MapI w' b n (upd f s 0) ∧ w.grownBy w' (some b) := by
  obtain ⟨D, ho, r⟩ := h
  obtain ⟨w', hrun, ho', ht⟩ := ho.drop lawS Try.underlying41 (WideMaps.keyOf_string_mk Try.underlying9 hs) ty
  exact ⟨w', hrun, ⟨_, ho', del_reads r s⟩, ht.grown⟩
theorem MapI.store {w : World} {b n : Nat} {f : ByteArray → Int} (h : MapI w b n f) (hn : n < maxLen) {s : ByteArray} (hs : s.size ≤ maxLen) {c : Int} (hc : (Lit.int .i64 c).wf = true) :
    ∃ w', (Instr.mapUpdate 41 (.map (some b)) (.string s) (.int .i64 c)).run Try.prog w = .ok () w' ∧ MapI w' b (n + 1) (upd f s c) ∧ w.grownBy w' (some b) := by
  obtain ⟨D, ho, r⟩ := h
  obtain ⟨w', hrun, ho', ht⟩ := ho.store lawS Try.underlying41 hn (WideMaps.keyOf_string_mk Try.underlying9 hs) (plainElem_int Try.underlying3 hc)
  exact ⟨w', hrun, ⟨_, ho', put_reads ho.isMap r s c⟩, ht.grown⟩

/-- The blocks of a rotor. -/
def RG (rb : Nat) (v : Option Nat) : Nat → Prop := fun k => k = rb ∨ v = some k
/-- A rotor with these marks. -/
def Rot (w : World) (rb : Nat) (v : Option Nat) (n : Nat) (f : ByteArray → Int) : Prop :=
  Row w rb 59 #[.map v] ∧ ((v = none ∧ f = fun _ => 0) ∨ ∃ bm, v = some bm ∧ bm ≠ rb ∧ MapI w bm n f)
/-- The map is the same, or new. -/
def Fresh (w : World) (v v' : Option Nat) : Prop := v' = v ∨ ∃ b, v' = some b ∧ w.heap.size ≤ b
theorem Rot.lt {w : World} {rb n : Nat} {v : Option Nat} {f : ByteArray → Int} (h : Rot w rb v n f) : rb < w.heap.size := h.1.lt
theorem Rot.glt {w : World} {rb n : Nat} {v : Option Nat} {f : ByteArray → Int} (h : Rot w rb v n f) {k : Nat} (hk : RG rb v k) : k < w.heap.size := by
  rcases hk with rfl | hk
  · exact h.1.lt
  · rcases h.2 with ⟨h1, _⟩ | ⟨bm, h1, _, h2⟩
    · rw [h1] at hk; cases hk
    · rw [h1] at hk; injection hk with hk; rw [← hk]; exact h2.lt
theorem Rot.keep {w w' : World} {G : Nat → Prop} {rb n : Nat} {v : Option Nat} {f : ByteArray → Int} (h : Rot w rb v n f) (hk : Keep G w w') (hg : ∀ k, RG rb v k → ¬ G k) : Rot w' rb v n f := by
  refine ⟨h.1.keep hk (hg rb (.inl rfl)), ?_⟩
  rcases h.2 with h1 | ⟨bm, h1, h2, h3⟩
  · exact .inl h1
  · exact .inr ⟨bm, h1, h2, h3.keep hk (hg bm (.inr h1))⟩
theorem Rot.below {w w' : World} {rb n : Nat} {v : Option Nat} {f : ByteArray → Int} (h : Rot w rb v n f) (hb : Below w.heap.size w w') : Rot w' rb v n f :=
  h.keep (G := fun _ => False) (.of_below hb) (fun _ _ h => h)
theorem Rot.mono {w : World} {rb n m : Nat} {v : Option Nat} {f : ByteArray → Int} (h : Rot w rb v n f) (hm : n ≤ m) : Rot w rb v m f := by
  refine ⟨h.1, ?_⟩
  rcases h.2 with h1 | ⟨bm, h1, h2, h3⟩
  · exact .inl h1
  · exact .inr ⟨bm, h1, h2, h3.mono hm⟩
theorem fresh_keep {a b c : World} {rb : Nat} {v v1 v2 : Option Nat} (h1 : Keep (RG rb v) a b) (f1 : Fresh a v v1) (h2 : Keep (RG rb v1) b c) (f2 : Fresh b v1 v2) : Keep (RG rb v) a c ∧ Fresh a v v2 := by
  have hs := h1.size
  refine ⟨⟨h2.os.trans h1.os, h2.tape.trans h1.tape, h2.output.trans h1.output, Nat.le_trans h1.size h2.size, fun k hk hn => ?_⟩, ?_⟩
  · refine (h2.block k (by omega) fun hg => hn ?_).trans (h1.block k hk hn)
    rcases hg with hg | hg
    · exact .inl hg
    · rcases f1 with rfl | ⟨b', hb', hlt⟩
      · exact .inr hg
      · rw [hb'] at hg; injection hg with hg; omega
  · rcases f2 with rfl | ⟨b', hb', hlt⟩
    · exact f1
    · exact .inr ⟨b', hb', by omega⟩
end Go.Proofs.Ytcmjcpgfnkhnoaa
