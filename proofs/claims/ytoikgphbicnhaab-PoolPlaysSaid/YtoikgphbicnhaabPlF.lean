/- pool: Reweight, Drain, Undrain, Remove; Get, Drained, New. -/
import Derived.Test.YtoikgphbicnhaabPlE
namespace Go.Proofs.Ytoikgphbicnhaab
open Go.RowKit Go.Maps Go.Shelf Go.Sort

set_option maxHeartbeats 1000000 in
theorem cmd46 (g1 : Nat) (lb1 : Array Value) (eg : ∀ args w, (callFunc g1 args).run Try.prog w = .ok (.enter g1 args) w) (W : World) (bx fb : Nat) (b b' : Bk) (E : Int) (hr : Row W bx 33 (bkC b)) (hf : W.cell? ⟨fb, 0, none⟩ = some (.func (.func g1) #[] lb1))
    (hby : Calls Try.prog g1 (#[.pointer (some ⟨bx, 0, none⟩)] ++ lb1) W fun e W' => e = .returned (.int .i64 E) ∧ Row W' bx 33 (bkC b') ∧ Keep (fun k => k = bx) W W') :
    Calls Try.prog 46 (#[.pointer (some ⟨bx, 0, none⟩)] ++ #[.pointer (some ⟨fb, 0, none⟩)]) W fun e W' => e = .returned (.int .i64 (if b.st = 2 then 6 else E)) ∧ Row W' bx 33 (bkC (if b.st = 2 then b else b')) ∧ Keep (fun k => k = bx) W W' := by
  obtain ⟨c0, c1, c2, c3, c4⟩ := bk_cells W bx b hr
  have HH := Lib.hid hr
  have HBY := Lib.hid hby
  clear hr hby
  by_cases h1 : b.st = 2
  · rw [if_pos h1, if_pos h1]
    rw [h1] at c3
    clear h1
    go_enter Try.func46, Try.ntmps46
    go_wp2_with fail
    go_ret
    exact ⟨rfl, HH.out, Keep.refl _ _⟩
  · rw [if_neg h1, if_neg h1]
    have t1 : (b.st == 2) = false := by simp [h1]
    generalize b.st = st at *
    clear h1
    go_enter Try.func46, Try.ntmps46
    go_wp2_with fail
    refine HBY.out.mono ?_
    rintro e w2 ⟨rfl, h2, h3⟩
    go_wp2_with fail
    go_ret
    exact ⟨rfl, h2, h3⟩
theorem st_nm {hh : Bk → Bk} (hnm : ∀ b, (hh b).nm = b.nm) (b : Bk) : (if b.st = 2 then b else hh b).nm = b.nm := by
  split
  · rfl
  · exact hnm b
theorem cmd_good {l : List Bk} {s : ByteArray} {b b' : Bk} (h : Good l) (hf : fndB l s = some b) (h1 : b.st ≠ 2 → Good (putB l b')) : Good (putB l (if b.st = 2 then b else b')) := by
  obtain ⟨h0, a1, h2, h3, h4, h5, h6⟩ := h.of hf
  split
  · exact h.put a1 h2 h3 h4 h5
  · rename_i e; exact h1 e
set_option maxHeartbeats 1000000 in
theorem command35 (g1 : Nat) (lb1 : Array Value) (eg : ∀ args w, (callFunc g1 args).run Try.prog w = .ok (.enter g1 args) w) (hh : Bk → Bk) (E : Bk → Int) (pb n : Nat) (hn : n < maxLen) (F : Nat → Prop) (l : List Bk) (s : ByteArray) (hs1 : s.size ≤ maxLen) (w : World) (h : PoolM w pb n F l)
    (hnm : ∀ b, (hh b).nm = b.nm) (hgo : ∀ b, fndB l s = some b → Good (putB l (hh b)))
    (hby : ∀ b, fndB l s = some b → ∀ (W : World) (bx : Nat), Keep (fun _ => False) w W → w.heap.size ≤ bx → Row W bx 33 (bkC b) → Calls Try.prog g1 (#[.pointer (some ⟨bx, 0, none⟩)] ++ lb1) W fun e W' => e = .returned (.int .i64 (E b)) ∧ Row W' bx 33 (bkC (hh b)) ∧ Keep (fun k => k = bx) W W') :
    Calls Try.prog 35 #[.pointer (some ⟨pb, 0, none⟩), .string s, .func (.func g1) #[] lb1] w fun e w' => e = .returned (.int .i64 (chE l s fun b => if b.st = 2 then 6 else E b)) ∧ PoolTo w pb (n + 1) F (chL l s fun b => if b.st = 2 then b else hh b) w' := by
  have hrow := Row.new w 66 #[.func (.func g1) #[] lb1]
  have hb := below_alloc w (.cells #[.func (.func g1) #[] lb1] 66)
  have hsz : (w.alloc (.cells #[.func (.func g1) #[] lb1] 66)).heap.size = w.heap.size + 1 := World.size_alloc _ _
  obtain ⟨W1, hW1⟩ : ∃ W1, W1 = w.alloc (.cells #[.func (.func g1) #[] lb1] 66) := ⟨_, rfl⟩
  rw [← hW1] at hrow hb hsz
  have hc := changeP 46 #[.pointer (some ⟨w.heap.size, 0, none⟩)] (enters_of Try.func46 (by kernel_rfl) rfl) (fun _ => False) (fun _ => True) (fun b => if b.st = 2 then b else hh b) (fun b => if b.st = 2 then 6 else E b) pb n hn F l s hs1 W1 (h.below hb) (fun b _ => st_nm hnm b) (fun b hf => cmd_good h.good hf (fun _ => hgo b hf)) (fun _ h => h.elim) (fun _ _ _ _ _ => trivial)
    (fun b hf W bx hk hbx hr => (cmd46 g1 lb1 eg W bx w.heap.size b (hh b) (E b) hr ((hrow.keep hk (fun h => h)).cell 0) (hby b hf W bx ((Keep.of_below hb).trans hk) (by omega) hr)).mono (by rintro e W' ⟨h1, h2, h3⟩; exact ⟨h1, h2, h3.more (fun k _ e => .inl e), trivial⟩))
  have HC := Lib.hid hc
  have HB := Lib.hid hb
  clear hc hb hrow h hsz hby hgo
  generalize chE l s (fun b => if b.st = 2 then 6 else E b) = EE at *
  generalize chL l s (fun b => if b.st = 2 then b else hh b) = LL at *
  go_enter Try.func35, Try.ntmps35
  go_wp2_with fail
  rw [← hW1]
  clear hW1
  refine HC.out.mono ?_
  rintro e w2 ⟨rfl, F', h1, h2, h3, _⟩
  have HP := Lib.hid (PoolTo.before ⟨F', h1, h2.more (fun k _ hh => hh.elim id False.elim), h3⟩ HB.out)
  clear h1 h2 h3
  go_wp2_with fail
  go_ret
  exact ⟨rfl, HP.out⟩
def tn1 (k : Int) (b : Bk) : Bk := if b.st = 2 then b else { b with st := k }
def tn1E (b : Bk) : Int := if b.st = 2 then 6 else 0
def rw2 (u : Int) (b : Bk) : Bk := if b.st = 2 then b else rw1 u b
def rw2E (u : Int) (b : Bk) : Int := if b.st = 2 then 6 else rw1E u b
theorem turn37 (k : Int) (hk : k = 0 ∨ k = 1 ∨ k = 2) (pb n : Nat) (hn : n < maxLen) (F : Nat → Prop) (l : List Bk) (s : ByteArray) (hs1 : s.size ≤ maxLen) (w : World) (h : PoolM w pb n F l) :
    Calls Try.prog 37 #[.pointer (some ⟨pb, 0, none⟩), .string s, .int .i64 k] w fun e w' => e = .returned (.int .i64 (chE l s tn1E)) ∧ PoolTo w pb (n + 1) F (chL l s (tn1 k)) w' := by
  have hrow := Row.new w 3 #[.int .i64 k]
  have hb := below_alloc w (.cells #[.int .i64 k] 3)
  have hsz : (w.alloc (.cells #[.int .i64 k] 3)).heap.size = w.heap.size + 1 := World.size_alloc _ _
  obtain ⟨W1, hW1⟩ : ∃ W1, W1 = w.alloc (.cells #[.int .i64 k] 3) := ⟨_, rfl⟩
  rw [← hW1] at hrow hb hsz
  have hc := command35 47 #[.pointer (some ⟨w.heap.size, 0, none⟩)] (enters_of Try.func47 (by kernel_rfl) rfl) (fun b => { b with st := k }) (fun _ => 0) pb n hn F l s hs1 W1 (h.below hb) (fun _ => rfl)
    (fun b hf => by obtain ⟨h0, a1, h2, h3, h4, h5, h6⟩ := h.good.of hf; exact h.good.put a1 h2 h3 hk h5)
    (fun b hf W bx hk hbx hr => turn47 W bx w.heap.size k b hr ((hrow.keep hk (fun h => h)).cell 0))
  have HC : Hid (Calls Try.prog 35 #[.pointer (some ⟨pb, 0, none⟩), .string s, .func (.func 47) #[] #[.pointer (some ⟨w.heap.size, 0, none⟩)]] W1 fun e w' => e = .returned (.int .i64 (chE l s tn1E)) ∧ PoolTo W1 pb (n + 1) F (chL l s (tn1 k)) w') := hc
  have HB := Lib.hid hb
  clear hc hb hrow h hsz
  generalize chE l s tn1E = EE at *
  generalize chL l s (tn1 k) = LL at *
  go_enter Try.func37, Try.ntmps37
  go_wp2_with fail
  rw [← hW1]
  clear hW1
  refine HC.out.mono ?_
  rintro e w2 ⟨rfl, h1⟩
  have HP := Lib.hid (PoolTo.before h1 HB.out)
  clear h1
  go_wp2_with fail
  go_ret
  exact ⟨rfl, HP.out⟩
theorem rew18 (k : Int) (pb n : Nat) (hn : n < maxLen) (F : Nat → Prop) (l : List Bk) (s : ByteArray) (hs1 : s.size ≤ maxLen) (w : World) (h : PoolM w pb n F l) :
    Calls Try.prog 18 #[.pointer (some ⟨pb, 0, none⟩), .string s, .int .i64 k] w fun e w' => e = .returned (.int .i64 (chE l s (rw2E k))) ∧ PoolTo w pb (n + 1) F (chL l s (rw2 k)) w' := by
  have hrow := Row.new w 3 #[.int .i64 k]
  have hb := below_alloc w (.cells #[.int .i64 k] 3)
  have hsz : (w.alloc (.cells #[.int .i64 k] 3)).heap.size = w.heap.size + 1 := World.size_alloc _ _
  obtain ⟨W1, hW1⟩ : ∃ W1, W1 = w.alloc (.cells #[.int .i64 k] 3) := ⟨_, rfl⟩
  rw [← hW1] at hrow hb hsz
  have hc := command35 36 #[.pointer (some ⟨w.heap.size, 0, none⟩)] (enters_of Try.func36 (by kernel_rfl) rfl) (rw1 k) (rw1E k) pb n hn F l s hs1 W1 (h.below hb) (rw1_nm k)
    (fun b hf => good_rw1 h.good hf k)
    (fun b hf W bx hk hbx hr => rew36 W bx w.heap.size k b hr ((hrow.keep hk (fun h => h)).cell 0))
  have HC : Hid (Calls Try.prog 35 #[.pointer (some ⟨pb, 0, none⟩), .string s, .func (.func 36) #[] #[.pointer (some ⟨w.heap.size, 0, none⟩)]] W1 fun e w' => e = .returned (.int .i64 (chE l s (rw2E k))) ∧ PoolTo W1 pb (n + 1) F (chL l s (rw2 k)) w') := hc
  have HB := Lib.hid hb
  clear hc hb hrow h hsz
  generalize chE l s (rw2E k) = EE at *
  generalize chL l s (rw2 k) = LL at *
  go_enter Try.func18, Try.ntmps18
  go_wp2_with fail
  rw [← hW1]
  clear hW1
  refine HC.out.mono ?_
  rintro e w2 ⟨rfl, h1⟩
  have HP := Lib.hid (PoolTo.before h1 HB.out)
  clear h1
  go_wp2_with fail
  go_ret
  exact ⟨rfl, HP.out⟩
theorem drain19 (pb n : Nat) (hn : n < maxLen) (F : Nat → Prop) (l : List Bk) (s : ByteArray) (hs1 : s.size ≤ maxLen) (w : World) (h : PoolM w pb n F l) :
    Calls Try.prog 19 #[.pointer (some ⟨pb, 0, none⟩), .string s] w fun e w' => e = .returned (.int .i64 (chE l s tn1E)) ∧ PoolTo w pb (n + 1) F (chL l s (tn1 1)) w' := by
  have HC := Lib.hid (turn37 1 (by decide) pb n hn F l s hs1 w h)
  clear h
  generalize chE l s tn1E = EE at *
  generalize chL l s (tn1 1) = LL at *
  go_enter Try.func19, Try.ntmps19
  go_wp2_with fail
  refine HC.out.mono ?_
  rintro e w2 ⟨rfl, h1⟩
  go_wp2_with fail
  go_ret
  exact ⟨rfl, h1⟩
theorem undrain20 (pb n : Nat) (hn : n < maxLen) (F : Nat → Prop) (l : List Bk) (s : ByteArray) (hs1 : s.size ≤ maxLen) (w : World) (h : PoolM w pb n F l) :
    Calls Try.prog 20 #[.pointer (some ⟨pb, 0, none⟩), .string s] w fun e w' => e = .returned (.int .i64 (chE l s tn1E)) ∧ PoolTo w pb (n + 1) F (chL l s (tn1 0)) w' := by
  have HC := Lib.hid (turn37 0 (by decide) pb n hn F l s hs1 w h)
  clear h
  generalize chE l s tn1E = EE at *
  generalize chL l s (tn1 0) = LL at *
  go_enter Try.func20, Try.ntmps20
  go_wp2_with fail
  refine HC.out.mono ?_
  rintro e w2 ⟨rfl, h1⟩
  go_wp2_with fail
  go_ret
  exact ⟨rfl, h1⟩
theorem remove21 (pb n : Nat) (hn : n < maxLen) (F : Nat → Prop) (l : List Bk) (s : ByteArray) (hs1 : s.size ≤ maxLen) (w : World) (h : PoolM w pb n F l) :
    Calls Try.prog 21 #[.pointer (some ⟨pb, 0, none⟩), .string s] w fun e w' => e = .returned (.int .i64 (chE l s tn1E)) ∧ PoolTo w pb (n + 1) F (chL l s (tn1 2)) w' := by
  have HC := Lib.hid (turn37 2 (by decide) pb n hn F l s hs1 w h)
  clear h
  generalize chE l s tn1E = EE at *
  generalize chL l s (tn1 2) = LL at *
  go_enter Try.func21, Try.ntmps21
  go_wp2_with fail
  refine HC.out.mono ?_
  rintro e w2 ⟨rfl, h1⟩
  go_wp2_with fail
  go_ret
  exact ⟨rfl, h1⟩
theorem pnew8 (w : World) : Calls Try.prog 8 #[] w fun e w' => e = .returned (.pointer (some ⟨w.heap.size, 0, none⟩)) ∧ PoolM w' w.heap.size 0 (fun k => k = w.heap.size) [] ∧ Below w.heap.size w w' := by
  have hr := Row.new w 54 #[.map none, .slice none 0 0]
  have hb := below_alloc w (.cells #[.map none, .slice none 0 0] 54)
  have HR := Lib.hid hr
  have HB := Lib.hid hb
  clear hr hb
  go_enter Try.func8, Try.ntmps8
  go_wp2_with fail
  go_ret
  exact ⟨rfl, ⟨Good.nil, by simp, .inl ⟨rfl, rfl, HR.out⟩⟩, HB.out⟩
/-- What a pool's map gives for a name. -/
theorem PoolM.look {w : World} {pb n : Nat} {F : Nat → Prop} {l : List Bk} (h : PoolM w pb n F l) {s : ByteArray} (hs : s.size ≤ maxLen) : ∃ v, w.cell? ⟨pb, 0, none⟩ = some (.map v) ∧ (∀ w' : World, Below w.heap.size w w' → (Instr.lookup 52 (.map v) (.string s) true).run Try.prog w' = .ok (.tuple #[bkV ((fndB l s).getD bk0), .bool (fndB l s).isSome]) w' ∧ (Instr.lookup 52 (.map v) (.string s) false).run Try.prog w' = .ok (bkV ((fndB l s).getD bk0)) w') := by
  obtain ⟨hg, hlen, ⟨rfl, rfl, hnil⟩ | ⟨bm, g, nc, rfl, hmem⟩⟩ := h
  · exact ⟨none, hnil.cell 0, fun w' _ => ⟨look_ok_nilO MB w' hs, look_nilO MB w' hs⟩⟩
  · exact ⟨some bm, hmem.row.cell 0, fun w' hb => ⟨(hmem.map.below hb).look_ok hs, (hmem.map.below hb).look hs⟩⟩
set_option maxHeartbeats 1000000 in
theorem get12 (pb n : Nat) (F : Nat → Prop) (l : List Bk) (s : ByteArray) (hs1 : s.size ≤ maxLen) (w : World) (h : PoolM w pb n F l) :
    Calls Try.prog 12 #[.pointer (some ⟨pb, 0, none⟩), .string s] w fun e w' => e = .returned (.tuple #[bkV ((fndB l s).getD bk0), .bool (fndB l s).isSome]) ∧ Below w.heap.size w w' := by
  obtain ⟨v, c0, hl⟩ := h.look hs1
  have hlt : pb < w.heap.size := World.block_lt_of_cell? w _ c0
  have HL := Lib.hid hl
  clear hl h
  generalize (fndB l s).isSome = q at *
  generalize (fndB l s).getD bk0 = b at *
  obtain ⟨nm, wt, cp, st, bz⟩ := b
  simp only [bkV, bkC] at HL ⊢
  have hb1 := below_alloc w (.cells #[.string ⟨#[]⟩, .int .i64 0, .int .i64 0, .int .i64 0, .int .i64 0] 33)
  have h1 := (HL.out _ hb1).1
  go_enter Try.func12, Try.ntmps12
  go_wp2_with fail
  have hA := Row.new w 33 #[.string nm, .int .i64 wt, .int .i64 cp, .int .i64 st, .int .i64 bz]
  have hB := hA.alloc (.cells #[.string nm, .int .i64 wt, .int .i64 cp, .int .i64 st, .int .i64 bz] 33)
  obtain ⟨d0, d1, d2, d3, d4⟩ := bk_cells _ _ ⟨nm, wt, cp, st, bz⟩ hB
  refine bodyPost_ret (v := .tuple #[.agg #[.string nm, .int .i64 wt, .int .i64 cp, .int .i64 st, .int .i64 bz], .bool q]) (by simp [results, Try.results12, go_sem, d0, d1, d2, d3, d4]) rfl ?_
  exact ⟨rfl, (below_alloc w _).alloc (by simp) _⟩
/-- Is a backend drained? -/
def drB (b : Bk) : Bool := b.st == 1 && b.bz == 0
set_option maxHeartbeats 1000000 in
theorem drained23 (pb n : Nat) (F : Nat → Prop) (l : List Bk) (s : ByteArray) (hs1 : s.size ≤ maxLen) (w : World) (h : PoolM w pb n F l) :
    Calls Try.prog 23 #[.pointer (some ⟨pb, 0, none⟩), .string s] w fun e w' => e = .returned (.bool (drB ((fndB l s).getD bk0))) ∧ Below w.heap.size w w' := by
  obtain ⟨v, c0, hl⟩ := h.look hs1
  have h1 := (hl w (Below.refl _ _)).2
  clear hl h
  generalize (fndB l s).getD bk0 = b at *
  obtain ⟨nm, wt, cp, st, bz⟩ := b
  unfold drB
  simp only [bkV, bkC] at h1 ⊢
  have HB := Lib.hid (below_alloc w (.cells #[.string nm, .int .i64 wt, .int .i64 cp, .int .i64 st, .int .i64 bz] 33))
  by_cases h2 : st = 1
  · subst h2
    rw [show ((1 : Int) == 1) = true from rfl, Bool.true_and]
    go_enter Try.func23, Try.ntmps23
    go_wp2_with fail
    go_ret
    exact ⟨rfl, HB.out⟩
  · have t1 : (st == 1) = false := by simp [h2]
    rw [t1, Bool.false_and]
    clear h2
    go_enter Try.func23, Try.ntmps23
    go_wp2_with fail
    go_ret
    exact ⟨rfl, HB.out⟩
end Go.Proofs.Ytoikgphbicnhaab
