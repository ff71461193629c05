/- rotor.New, Mark, add. -/
import Derived.Test.YtcmjcpgfnkhnoaaRoA
import Derived.WalkSpells
namespace Go.Proofs.Ytcmjcpgfnkhnoaa
open Go.RowKit Go.Maps

theorem new8 (w : World) : Calls Try.prog 8 #[] w fun e w' => e = .returned (.pointer (some ⟨w.heap.size, 0, none⟩)) ∧ Rot w' w.heap.size none 0 (fun _ => 0) ∧ Below w.heap.size w w' := by
  have hr := Row.new w 59 #[.map none]
  have hb := below_alloc w (.cells #[.map none] 59)
  have HR := Lib.hid hr
  have HB := Lib.hid hb
  clear hr hb
  go_enter Try.func8, Try.ntmps8
  go_wp2_with fail
  go_ret
  exact ⟨rfl, ⟨HR.out, .inl ⟨rfl, rfl⟩⟩, HB.out⟩
theorem look_none (w : World) {s : ByteArray} (hs : s.size ≤ maxLen) : (Instr.lookup 41 (.map none) (.string s) false).run Try.prog w = .ok (.int .i64 0) w :=
  Maps.look_nil false lawS Try.underlying41 (zeroI w) (WideMaps.keyOf_string_mk Try.underlying9 hs)
theorem mark11 (rb n : Nat) (v : Option Nat) (f : ByteArray → Int) (s : ByteArray) (hs : s.size ≤ maxLen) (w : World) (h : Rot w rb v n f) :
    Calls Try.prog 11 #[.pointer (some ⟨rb, 0, none⟩), .string s] w fun e w' => e = .returned (.int .i64 (f s)) ∧ w' = w := by
  have c0 := h.1.cell 0
  have c0' : w.cell? ⟨rb, 0, none⟩ = some (.map v) := c0
  clear c0
  obtain ⟨_, ⟨rfl, rfl⟩ | ⟨bm, rfl, _, hm⟩⟩ := h
  · have hl := fun W => look_none W hs
    go_enter Try.func11, Try.ntmps11
    go_wp2_with fail
    go_ret
    exact ⟨rfl, rfl⟩
  · have hl := hm.look hs
    clear hm
    go_enter Try.func11, Try.ntmps11
    go_wp2_with fail
    go_ret
    exact ⟨rfl, rfl⟩
/-- A number that int holds. -/
def In64 (c : Int) : Prop := -9223372036854775808 ≤ c ∧ c ≤ 9223372036854775807
theorem In64.wf {c : Int} (h : In64 c) : (Lit.int .i64 c).wf = true := WalkArith.wf_i64 h

section
variable {P : Program} (w : World) {ops : Array Oper} {rest : List Oper} {o : Oper} {a : Act} {Q : Exit → Act → World → Prop}
/-- 'm[k] = c' at the operation. -/
theorem wpl_store (hg : o.guard = none) (m x v : Operand) (hop : o.op = Op.mapUpdate 41 m x v) (b n : Nat) (f : ByteArray → Int)
    (hm : a.eval m = .map (some b)) (hown : MapI w b n f) (hn : n < maxLen) (s : ByteArray) (c : Int) (hx : a.eval x = .string s) (hv : a.eval v = .int .i64 c) (hs : s.size ≤ maxLen) (hc : In64 c)
    (hK : ∀ w', MapI w' b (n + 1) (upd f s c) → w.grownBy w' (some b) → wpList Try.prog ops Q rest (a.put o.dst undef) w') :
    wpList Try.prog ops Q (o :: rest) a w := by
  refine wpList_plain hg fun K' hK' => ?_
  obtain ⟨w', hrun, r1, r2⟩ := hown.store hn hs hc.wf
  unfold Oper.wp
  simp [execOp, hop, hm, hx, hv, hrun, Result.andThen]
  exact hK' _ _ (hK w' r1 r2)
/-- 'delete(m, k)' at the operation. -/
theorem wpl_drop (hg : o.guard = none) (m x : Operand) (hop : o.op = Op.call { callee := Callee.builtin Builtin.delete, args := #[m, x], argTypes := #[41, 9] }) (b n : Nat) (f : ByteArray → Int)
    (hm : a.eval m = .map (some b)) (hown : MapI w b n f) (s : ByteArray) (hx : a.eval x = .string s) (hs : s.size ≤ maxLen)
    (hK : ∀ w', MapI w' b n (upd f s 0) → w.grownBy w' (some b) → wpList Try.prog ops Q rest (a.put o.dst (.tuple #[])) w') :
    wpList Try.prog ops Q (o :: rest) a w := by
  refine wpList_plain hg fun K' hK' => ?_
  obtain ⟨w', hrun, r1, r2⟩ := hown.drop hs o.type
  unfold Oper.wp
  simp [execOp, hop, resolve, invoke, builtin, hm, hx, hrun, Result.andThen]
  exact hK' _ _ (hK w' r1 r2)
/-- 'delete(nil, k)' at the operation. -/
theorem wpl_drop_nil (hg : o.guard = none) (m x : Operand) (hop : o.op = Op.call { callee := Callee.builtin Builtin.delete, args := #[m, x], argTypes := #[41, 9] })
    (hm : a.eval m = .map none) (s : ByteArray) (hx : a.eval x = .string s) (hs : s.size ≤ maxLen)
    (hK : wpList Try.prog ops Q rest (a.put o.dst (.tuple #[])) w) :
    wpList Try.prog ops Q (o :: rest) a w := by
  refine wpList_plain hg fun K' hK' => ?_
  have hrun := Maps.drop_nil (w := w) lawS Try.underlying41 (WideMaps.keyOf_string_mk Try.underlying9 hs) o.type
  unfold Oper.wp
  simp [execOp, hop, resolve, invoke, builtin, hm, hx, hrun, Result.andThen]
  exact hK' _ _ hK
end

/-- What add leaves. -/
def AddPost (rb : Nat) (v : Option Nat) (n : Nat) (f : ByteArray → Int) (w w' : World) : Prop := ∃ v', Rot w' rb v' n f ∧ Keep (RG rb v) w w' ∧ Fresh w v v'
theorem qMap (w : World) (r : Option Nat) : (binOp .eql 41 (.map r) (.map none)).run Try.prog w = .ok (.bool r.isNone) w := run_eql_map_nil w _ _ _ r Try.underlying41
set_option maxRecDepth 100000 in
theorem add27_n0 (rb : Nat) (s : ByteArray) (hs : s.size ≤ maxLen) (w : World) (h : Row w rb 59 #[.map none]) :
    Calls Try.prog 27 #[.pointer (some ⟨rb, 0, none⟩), .string s, .int .i64 0] w fun e w' => e = .returned (.tuple #[]) ∧ w' = w := by
  have c0' : w.cell? ⟨rb, 0, none⟩ = some (.map none) := h.cell 0
  have hl := fun W => look_none W hs
  go_enter Try.func27, Try.ntmps27
  go_wp2_with (at_delete; refine wpl_drop_nil _ rfl _ _ rfl rfl _ rfl hs ?_)
  refine bodyPost_ret (v := .tuple #[]) (results_none rfl _ _ _) rfl ?_
  exact ⟨rfl, rfl⟩
set_option maxRecDepth 100000 in
theorem add27_nk (rb : Nat) (s : ByteArray) (hs : s.size ≤ maxLen) (k : Int) (hk1 : -9223372036854775808 ≤ k) (hk2 : k ≤ 9223372036854775807) (h0 : k ≠ 0) (w : World) (h : Row w rb 59 #[.map none]) :
    Calls Try.prog 27 #[.pointer (some ⟨rb, 0, none⟩), .string s, .int .i64 k] w fun e w' => e = .returned (.tuple #[]) ∧ AddPost rb none 1 (upd (fun _ => 0) s k) w w' := by
  have c0' : w.cell? ⟨rb, 0, none⟩ = some (.map none) := h.cell 0
  have hf : w.frozen? ⟨rb, 0, none⟩ = false := h.free 0
  have hl := fun W => look_none W hs
  have hq := qMap
  have hlt := h.lt
  have hmm := @run_makeMap Try.prog
  have R1 := (h.put 0 (.map (some w.heap.size))).alloc (.map #[] 0)
  have M1 := MapI.new (w.setCell ⟨rb, 0, none⟩ (.map (some w.heap.size)))
  rw [show (w.setCell ⟨rb, 0, none⟩ (.map (some w.heap.size))).heap.size = w.heap.size by simp [World.setCell]] at M1
  have K1 : Keep (RG rb none) w ((w.setCell ⟨rb, 0, none⟩ (.map (some w.heap.size))).alloc (.map #[] 0)) := (Keep.setCell w (p := ⟨rb, 0, none⟩) (.inl rfl) _).trans (Keep.alloc _ _)
  have HM := Lib.hid M1
  have HR := Lib.hid R1
  have HK := Lib.hid K1
  clear R1 M1 K1
  go_enter Try.func27, Try.ntmps27
  go_wp2_with (at_mapUpdate; go_loud (refine wpl_store _ rfl _ _ _ rfl w.heap.size 0 _ rfl HM.out (by unfold maxLen; omega) s k rfl rfl hs ⟨hk1, hk2⟩ ?_; intro w2 m2 g2))
  go_end0
  have hk2 := HK.out
  refine ⟨rfl, some w.heap.size, ⟨HR.out.grown g2 (by intro e; injection e with e; omega), .inr ⟨_, rfl, by omega, m2⟩⟩, ?_, .inr ⟨_, rfl, Nat.le_refl _⟩⟩
  exact ⟨g2.os.trans hk2.os, g2.tape.trans hk2.tape, g2.output.trans hk2.output, Nat.le_trans hk2.size g2.size, fun j hj hn => (g2.block j (Nat.lt_of_lt_of_le hj hk2.size) (by intro e; injection e with e; omega)).trans (hk2.block j hj hn)⟩
set_option maxRecDepth 100000 in
theorem add27_s (rb bm n : Nat) (f : ByteArray → Int) (s : ByteArray) (hs : s.size ≤ maxLen) (k c : Int) (hc : f s + k = c) (hk1 : -9223372036854775808 ≤ c) (hk2 : c ≤ 9223372036854775807) (hn : n < maxLen) (w : World) (h : Row w rb 59 #[.map (some bm)]) (hne : bm ≠ rb) (hm : MapI w bm n f) :
    Calls Try.prog 27 #[.pointer (some ⟨rb, 0, none⟩), .string s, .int .i64 k] w fun e w' => e = .returned (.tuple #[]) ∧ AddPost rb (some bm) (n + 1) (upd f s c) w w' := by
  have c0' : w.cell? ⟨rb, 0, none⟩ = some (.map (some bm)) := h.cell 0
  have hl := hm.look hs
  have hq := qMap
  have HM := Lib.hid hm
  have HN : Hid (n < maxLen) := hn
  clear hm
  by_cases h0 : c = 0
  · subst h0
    go_enter Try.func27, Try.ntmps27
    go_wp2_with (at_delete; refine wpl_drop _ rfl _ _ rfl bm n f rfl HM.out s rfl hs ?_; intro w2 m2 g2)
    refine bodyPost_ret (v := .tuple #[]) (results_none rfl _ _ _) rfl ?_
    refine ⟨rfl, some bm, ⟨h.grown g2 (by intro e; injection e with e; omega), .inr ⟨_, rfl, hne, m2.mono (by omega)⟩⟩, .grown g2 (fun k hk => .inr hk), .inl rfl⟩
  · go_enter Try.func27, Try.ntmps27
    go_wp2_with (at_mapUpdate; refine wpl_store _ rfl _ _ _ rfl bm n f rfl HM.out HN.out s c rfl rfl hs ⟨hk1, hk2⟩ ?_; intro w2 m2 g2)
    go_end0
    refine ⟨rfl, some bm, ⟨h.grown g2 (by intro e; injection e with e; omega), .inr ⟨_, rfl, hne, m2⟩⟩, .grown g2 (fun k hk => .inr hk), .inl rfl⟩
end Go.Proofs.Ytcmjcpgfnkhnoaa
