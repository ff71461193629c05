/- strings.SplitSeq's calls; a loop over its iterator, as a law. -/
import Derived.Test.YtneagccakoakpaaDoorSeqA
namespace Go.Proofs.YtneagccakoakpaaDoor
open Go.RowKit

attribute [local go_sem] Oper.semAt_some

/-- The iterator's value. -/
def seqV (h : Nat) : Value := .func (.func 107) #[] #[.pointer (some ⟨h + 1, 0, none⟩), .pointer (some ⟨h, 0, none⟩), .pointer (some ⟨h + 2, 0, none⟩)]
theorem seqBox_new (w : World) (c : UInt8) (s : ByteArray) :
    SeqBox (((w.alloc (.cells #[.string s] 9)).alloc (.cells #[.string ⟨#[c]⟩] 9)).alloc (.cells #[.int .i64 0] 3)) w.heap.size c s := by
  refine ⟨((Boxed.new w 9 (.string s)).alloc _).alloc _, ?_, ?_⟩
  · have := (Boxed.new (w.alloc (.cells #[.string s] 9)) 9 (.string ⟨#[c]⟩)).alloc (.cells #[.int .i64 0] 3)
    rw [World.size_alloc] at this
    exact this
  · have := Boxed.new ((w.alloc (.cells #[.string s] 9)).alloc (.cells #[.string ⟨#[c]⟩] 9)) 3 (.int .i64 0)
    rw [World.size_alloc, World.size_alloc] at this
    exact this
set_option maxHeartbeats 1000000 in
theorem split91 (s : ByteArray) (c : UInt8) (w : World) :
    Calls Tryd.prog 91 #[.string s, .string ⟨#[c]⟩, .int .i64 0] w fun e w' => e = .returned (seqV w.heap.size) ∧ SeqBox w' w.heap.size c s ∧ Below w.heap.size w w' ∧ w'.heap.size = w.heap.size + 3 := by
  have hbx := Lib.hid (seqBox_new w c s)
  have hbl := (((Below.refl w.heap.size w).alloc (Nat.le_refl _) (.cells #[.string s] 9)).alloc (by simp) (.cells #[.string ⟨#[c]⟩] 9)).alloc (by simp; omega) (.cells #[.int .i64 0] 3)
  have HBL := Lib.hid hbl
  clear hbl
  go_enter Tryd.func91, Tryd.ntmps91
  go_wp2_with fail
  go_ret
  exact ⟨rfl, hbx.out, HBL.out, by simp⟩
set_option maxHeartbeats 1000000 in
theorem split68 (s : ByteArray) (c : UInt8) (w : World) :
    Calls Tryd.prog 68 #[.string s, .string ⟨#[c]⟩] w fun e w' => e = .returned (seqV w.heap.size) ∧ SeqBox w' w.heap.size c s ∧ Below w.heap.size w w' ∧ w'.heap.size = w.heap.size + 3 := by
  have HS := Lib.hid (split91 s c w)
  generalize seqV w.heap.size = v at *
  go_enter Tryd.func68, Tryd.ntmps68
  go_wp2_with fail
  refine HS.out.mono ?_
  rintro e w1 ⟨rfl, h1, h2, h3⟩
  go_wp2_with fail
  go_ret
  exact ⟨rfl, h1, h2, h3⟩

/-- How a round's body may be left. -/
def roundEnd (B h : Nat) (I Ix : List (List UInt8) → World → Prop) (xs : List (List UInt8)) (W : World) : Exit → Act → World → Prop
  | .normal, _, W' => KeepsFrom B W W' ∧ (∀ b, h ≤ b → b < h + 3 → W'.heap[b]? = W.heap[b]?) ∧ I xs W'
  | .ret, _, W' => KeepsFrom B W W' ∧ Ix xs W'
  | .exit _, _, _ => False
  | .goto _, _, _ => False
  | .panic _, _, _ => False
  | .outgrown, _, _ => False
/-- What the loop itself and the iterator turn: the iterator's text, blocks that the loop has laid. -/
def Minds (B h : Nat) (I : List (List UInt8) → World → Prop) : Prop :=
  ∀ pre A C row, I pre A → A.grownBy C row → (∀ r, row = some r → r = h ∨ (B ≤ r ∧ ∃ o : Obj, A.heap[r]? = some o ∧ o.isCells = false)) → I pre C
theorem Minds.put {B h : Nat} {I : List (List UInt8) → World → Prop} (hI : Minds B h I) {pre : List (List UInt8)} {W : World} {l : Nat} {o : Obj} (o' : Obj) (hi : I pre W) (hB : B ≤ l) (hl : W.heap[l]? = some o) (ho : o.isCells = false) : I pre (W.putObj l o') :=
  hI pre W _ (some l) hi (grownBy_putObj' W l o') (fun r e => by injection e with e; subst e; exact .inr ⟨hB, o, hl, ho⟩)
theorem Minds.new {B h : Nat} {I : List (List UInt8) → World → Prop} (hI : Minds B h I) {pre : List (List UInt8)} {W : World} (o : Obj) (hi : I pre W) : I pre (W.alloc o) :=
  hI pre W _ none hi (World.grownBy_alloc W o none) (fun r e => by cases e)
theorem Minds.text {B h : Nat} {I : List (List UInt8) → World → Prop} (hI : Minds B h I) {pre : List (List UInt8)} {W : World} (v : Value) (hi : I pre W) : I pre (W.setCell ⟨h, 0, none⟩ v) :=
  hI pre W _ (some h) hi (grownBy_setCell' W h v) (fun r e => by injection e with e; exact .inl e.symm)
theorem SeqBox.alloc {W : World} {h : Nat} {c : UInt8} {t : ByteArray} (hb : SeqBox W h c t) (o : Obj) : SeqBox (W.alloc o) h c t := ⟨hb.txt.alloc o, hb.sep.alloc o, hb.sav.alloc o⟩
theorem heap_set_other (W : World) (h k : Nat) (v : Value) (hk : k ≠ h) : (W.setCell ⟨h, 0, none⟩ v).heap[k]? = W.heap[k]? := Below.heap_setCell W ⟨h, 0, none⟩ v k hk

set_option maxHeartbeats 2000000 in
/-- **A loop over strings.SplitSeq.** -/
theorem range_split {g : Operand} {p : Tmp} {assign body : Code} {Q : Exit → Act → World → Prop} {a : Act} {w : World} (n h : Nat) (c : UInt8) (s0 : ByteArray) (hs0 : s0.size ≤ 4000000000)
    (hg : a.eval g = seqV h) (hb : SeqBox w h c s0) (hh : h + 3 ≤ w.heap.size)
    (I Ix : List (List UInt8) → World → Prop) (hI : Minds w.heap.size h I) (hIx : Minds w.heap.size h Ix) (hM : ∀ pre W, I pre W → MaxL W) (h0 : I [] w) (a₁ : List UInt8 → Act)
    (hassign : ∀ (l : Nat) (x : List UInt8) (W : World) (K : Act → World → Prop), K (a₁ x) W →
      assign.wpIn (Fence.wide.inRound l) (n - 1 - 1) Tryd.prog (Exit.then K (fun _ _ _ => False)) { tmps := a.tmps.setIfInBounds p (.string ⟨x.toArray⟩), defers := [] } W)
    (hbody : ∀ (l : Nat) (pre : List (List UInt8)) (x : List UInt8) (W : World), I pre W → w.heap.size + 2 ≤ W.heap.size → pre.length < (parts c s0.data.toList).length → x.length ≤ s0.size →
      body.wpIn (Fence.wide.inRound l) (n - 1 - 1) Tryd.prog (roundEnd w.heap.size h I Ix (pre ++ [x]) W) (a₁ x) W)
    (hdone : ∀ (W : World), I (parts c s0.data.toList) W → W.heap[w.heap.size]? = some (.deferred (some [])) → w.heap.size + 2 ≤ W.heap.size → Q .normal { a with defers := { target := .collected w.heap.size, args := #[] } :: a.defers } W)
    (hstop : ∀ (pre : List (List UInt8)) (W : World), Ix pre W → W.heap[w.heap.size]? = some (.deferred (some [])) → w.heap.size + 2 ≤ W.heap.size → Code.ret.wpIn Fence.wide n Tryd.prog Q { a with defers := { target := .collected w.heap.size, args := #[] } :: a.defers } W) :
    (Code.rangeFunc g #[p] assign body).wpIn Fence.wide n Tryd.prog Q a w := by
  refine wpIn_rangeFunc fun fn hfn => ?_
  obtain ⟨mk, hmk⟩ : ∃ mk : LoopState → Option Code → Loop, mk = fun st j => { state := st, pending := j, fn, tmps := a.tmps, params := #[p], assign, body, defers := w.heap.size } := ⟨_, rfl⟩
  obtain ⟨L, hL⟩ : ∃ L, L = w.heap.size + 1 := ⟨_, rfl⟩
  obtain ⟨W1, hW1⟩ : ∃ W1, W1 = (w.alloc (.deferred (some []))).alloc (.loop (mk .ready none)) := ⟨_, rfl⟩
  have hsz1 : W1.heap.size = w.heap.size + 2 := by rw [hW1]; simp
  have r1 : W1.heap[L]? = some (.loop (mk .ready none)) := by
    rw [hW1, hL]
    have := World.alloc_heap_new (w.alloc (.deferred (some []))) (.loop (mk .ready none))
    rwa [World.size_alloc] at this
  have k1 : W1.heap[w.heap.size]? = some (.deferred (some [])) := by
    rw [hW1]
    exact (Below.heap_alloc _ _ _ (by simp)).trans (World.alloc_heap_new w _)
  have i1 : I [] W1 := by rw [hW1]; exact hI.new _ (hI.new _ h0)
  have b1 : SeqBox W1 h c s0 := by rw [hW1]; exact (hb.alloc _).alloc _
  refine ⟨L, [{ target := .collected w.heap.size, args := #[] }], W1, { target := .fn (.func 107) #[.pointer (some ⟨h + 1, 0, none⟩), .pointer (some ⟨h, 0, none⟩), .pointer (some ⟨h + 2, 0, none⟩)], args := #[.func (.yield L) #[] #[]] }, W1, 107,
    #[.func (.yield L) #[] #[], .pointer (some ⟨h + 1, 0, none⟩), .pointer (some ⟨h, 0, none⟩), .pointer (some ⟨h + 2, 0, none⟩)], W1, ?_, ?_, fun _ _ => trivial, ?_, (fun e => by cases e), ?_⟩
  · rw [hW1, hL, hmk]; exact run_enterLoop_outer _ _ _ _ _
  · unfold seqV at hg
    simp only [resolve, hg]
    simp [go_sem]
  · have eg : ∀ args w, (callFunc 107 args).run Tryd.prog w = .ok (.enter 107 args) w := enters_of Tryd.func107 (by kernel_rfl) rfl
    simp [invoke, go_sem, eg]
  · have fin : ∀ (jump : Option Code) (W W3 : World), W.heap[L]? = some (.loop (mk .ready none)) → W.heap[w.heap.size]? = some (.deferred (some [])) → KeepsFrom w.heap.size (W.putObj L (.loop (mk .busy none))) W3 →
        (Instr.endRound L jump).run Tryd.prog W3 = .ok (.bool jump.isNone) (W3.putObj L (.loop (mk (if jump.isNone then .ready else .done) jump))) ∧ W3.heap[L]? = some (.loop (mk .busy none)) ∧
        (W3.putObj L (.loop (mk (if jump.isNone then .ready else .done) jump))).heap[L]? = some (.loop (mk (if jump.isNone then .ready else .done) jump)) ∧
        (W3.putObj L (.loop (mk (if jump.isNone then .ready else .done) jump))).heap[w.heap.size]? = some (.deferred (some [])) := by
      intro jump W W3 hl hk hkp
      have hlt := (Array.getElem?_eq_some_iff.1 hl).1
      have hl3 := hkp.same L _ (by omega) (World.putObj_heap_same hlt) rfl
      have hk3 := hkp.same w.heap.size _ (Nat.le_refl _) ((World.putObj_heap_other (by omega)).trans hk) rfl
      have hrun := run_endRound (P := Tryd.prog) jump hl3
      refine ⟨?_, hl3, World.putObj_heap_same (Array.getElem?_eq_some_iff.1 hl3).1, (World.putObj_heap_other (by omega)).trans hk3⟩
      rw [hrun, hmk]
    refine (split107 (n - 1) L h c s0 hs0
      (fun pre W => I pre W ∧ W.heap[L]? = some (.loop (mk .ready none)) ∧ W.heap[w.heap.size]? = some (.deferred (some [])))
      (fun pre W => Ix pre W ∧ W.heap[L]? = some (.loop (mk .done (some .ret))) ∧ W.heap[w.heap.size]? = some (.deferred (some [])))
      (fun pre W v ⟨hi, hl, hk⟩ => ⟨hI.text v hi, (heap_set_other W h L v (by omega)).trans hl, (heap_set_other W h _ v (by omega)).trans hk⟩)
      (fun pre W hj => hM pre W hj.1) ?_ W1 b1 ⟨i1, r1, k1⟩).mono ?_
    · rintro pre x W ⟨hi, hl, hk⟩ hpl hxl
      have hlt := (Array.getElem?_eq_some_iff.1 hl).1
      have hy := run_yield (P := Tryd.prog) (args := #[.string ⟨x.toArray⟩]) hl (by rw [hmk]; rfl)
      have hfn2 : (mk .ready none).fn = fn := by rw [hmk]
      have has : (mk .ready none).assign = assign := by rw [hmk]
      have hbo : (mk .ready none).body = body := by rw [hmk]
      have htm : ((mk .ready none).params.zip #[.string ⟨x.toArray⟩]).foldl (fun tmps (t, v) => tmps.setIfInBounds t v) (mk .ready none).tmps = a.tmps.setIfInBounds p (.string ⟨x.toArray⟩) := by rw [hmk]; simp
      rw [hfn2, has, hbo, htm] at hy
      have hbusy : ({ mk .ready none with state := .busy } : Loop) = mk .busy none := by rw [hmk]
      refine ⟨fn, _, assign, body, hy, roundIn_of_wpIn hfn (hassign L x W _ ⟨_, run_beginRound hl (by rw [hmk]), ?_⟩)⟩
      rw [hbusy]
      refine wpIn_mono (hbody L pre x _ (hI.put _ hi (by omega) hl rfl) (by rw [World.putObj_size]; omega) hpl hxl) ?_
      rintro e a3 W3 hp
      cases e with
      | normal =>
        obtain ⟨hk3, hbx, hi3⟩ := hp
        obtain ⟨hr, hl3, hl4, hk4⟩ := fin none W W3 hl hk hk3
        refine ⟨_, _, hr, .inl ⟨rfl, ⟨hI.put _ hi3 (by omega) hl3 rfl, hl4, hk4⟩, fun b h1 h2 => ?_⟩⟩
        rw [World.putObj_heap_other (by omega), hbx b h1 h2, World.putObj_heap_other (by omega)]
      | ret =>
        obtain ⟨hk3, hi3⟩ := hp
        obtain ⟨hr, hl3, hl4, hk4⟩ := fin (some .ret) W W3 hl hk hk3
        exact ⟨_, _, hr, .inr ⟨rfl, hIx.put _ hi3 (by omega) hl3 rfl, hl4, hk4⟩⟩
      | exit id => exact hp.elim
      | goto t => exact hp.elim
      | panic ch => exact hp.elim
      | outgrown => exact hp.elim
    · rintro e W2 ⟨⟨v, rfl⟩, (⟨hi, hl, hk⟩ | ⟨pre, hi, hl, hk⟩)⟩
      · have hlt := (Array.getElem?_eq_some_iff.1 hl).1
        have hrun := run_endLoop (P := Tryd.prog) hl (by rw [hmk]; simp)
        exact ⟨none, _, by rw [hrun, hmk], hdone _ (hI.put _ hi (by omega) hl rfl) ((World.putObj_heap_other (by omega)).trans hk) (by rw [World.putObj_size]; omega)⟩
      · have hlt := (Array.getElem?_eq_some_iff.1 hl).1
        have hrun := run_endLoop (P := Tryd.prog) hl (by rw [hmk]; simp)
        exact ⟨some .ret, _, by rw [hrun, hmk], hstop pre _ (hIx.put _ hi (by omega) hl rfl) ((World.putObj_heap_other (by omega)).trans hk) (by rw [World.putObj_size]; omega)⟩
end Go.Proofs.YtneagccakoakpaaDoor
