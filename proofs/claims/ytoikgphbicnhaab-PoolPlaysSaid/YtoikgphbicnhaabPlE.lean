/- pool: Take, Give, Reweight, Drain, Undrain, Remove. -/
import Derived.Test.YtoikgphbicnhaabPlD
namespace Go.Proofs.Ytoikgphbicnhaab
open Go.RowKit Go.Maps Go.Shelf Go.Sort

/-- A call on one backend, as lists. -/
def chE (l : List Bk) (s : ByteArray) (h : Bk → Int) : Int := match fndB l s with
  | none => 6
  | some b => h b
def chL (l : List Bk) (s : ByteArray) (h : Bk → Bk) : List Bk := match fndB l s with
  | none => l
  | some b => putB l (h b)
def nmsB (l : List Bk) : List ByteArray := l.map (·.nm)
/-- A pool in memory: F its blocks, n a bound of its map's entries. -/
def PoolM (w : World) (pb n : Nat) (F : Nat → Prop) (l : List Bk) : Prop :=
  Good l ∧ l.length ≤ 1024 ∧ ((l = [] ∧ F = (fun k => k = pb) ∧ PNil w pb) ∨ ∃ bm g nc, F = PF pb bm g ∧ PMem w pb bm g nc n (nmsB l) (fndB l))
/-- What a call leaves. -/
def PoolTo (w : World) (pb n : Nat) (F : Nat → Prop) (l : List Bk) (w' : World) : Prop :=
  ∃ F', PoolM w' pb n F' l ∧ Keep F w w' ∧ ∀ k, F' k → F k ∨ w.heap.size ≤ k
section
variable {w w' : World} {pb n m : Nat} {F : Nat → Prop} {l : List Bk}
theorem PoolM.good (h : PoolM w pb n F l) : Good l := h.1
theorem PoolM.below (h : PoolM w pb n F l) (hb : Below w.heap.size w w') : PoolM w' pb n F l := by
  obtain ⟨h1, h2, ⟨a, b, c⟩ | ⟨bm, g, nc, a, b⟩⟩ := h
  · exact ⟨h1, h2, .inl ⟨a, b, Row.below c hb⟩⟩
  · exact ⟨h1, h2, .inr ⟨bm, g, nc, a, b.below hb⟩⟩
theorem PoolM.keep {G : Nat → Prop} (h : PoolM w pb n F l) (hk : Keep G w w') (hg : ∀ k, F k → ¬ G k) : PoolM w' pb n F l := by
  obtain ⟨h1, h2, ⟨a, rfl, c⟩ | ⟨bm, g, nc, rfl, b⟩⟩ := h
  · exact ⟨h1, h2, .inl ⟨a, rfl, Row.keep c hk (hg _ rfl)⟩⟩
  · exact ⟨h1, h2, .inr ⟨bm, g, nc, rfl, b.keep hk (hg _ (.inl rfl)) (hg _ (.inr (.inl rfl))) (hg _ (.inr (.inr rfl)))⟩⟩
theorem PoolM.mono (h : PoolM w pb n F l) (hm : n ≤ m) : PoolM w pb m F l := by
  obtain ⟨h1, h2, ⟨a, b, c⟩ | ⟨bm, g, nc, a, b⟩⟩ := h
  · exact ⟨h1, h2, .inl ⟨a, b, c⟩⟩
  · exact ⟨h1, h2, .inr ⟨bm, g, nc, a, b.mono hm⟩⟩
theorem PoolM.lt (h : PoolM w pb n F l) {k : Nat} (hk : F k) : k < w.heap.size := by
  obtain ⟨h1, h2, ⟨a, rfl, c⟩ | ⟨bm, g, nc, rfl, b⟩⟩ := h
  · subst hk; exact Row.lt c
  · rcases hk with rfl | rfl | rfl
    · exact b.row.lt
    · exact b.map.lt
    · exact b.glt
theorem PoolM.to (h : PoolM w pb n F l) (hb : Below w.heap.size w w') : PoolTo w pb n F l w' := ⟨F, h.below hb, Keep.of_below hb, fun _ h => .inl h⟩
theorem PoolTo.mono (h : PoolTo w pb n F l w') (hm : n ≤ m) : PoolTo w pb m F l w' := by
  obtain ⟨F', h1, h2, h3⟩ := h
  exact ⟨F', h1.mono hm, h2, h3⟩
theorem PoolTo.below {w2 : World} (h : PoolTo w pb n F l w') (hb : Below w'.heap.size w' w2) : PoolTo w pb n F l w2 := by
  obtain ⟨F', h1, h2, h3⟩ := h
  exact ⟨F', h1.below hb, h2.trans (Keep.of_below hb), h3⟩
theorem PoolTo.before {w0 : World} (h : PoolTo w pb n F l w') (hb : Below w0.heap.size w0 w) : PoolTo w0 pb n F l w' := by
  obtain ⟨F', h1, h2, h3⟩ := h
  exact ⟨F', h1, (Keep.of_below hb).trans h2, fun k hk => (h3 k hk).imp id (fun e => Nat.le_trans hb.size e)⟩
end
theorem nms_set {l : List Bk} {b b' : Bk} {s : ByteArray} (hg : ∀ x ∈ l, live x = true) (_hf : fndB l s = some b) (hn : b'.nm = s) : swN (nmsB l) s b' = nmsB (putB l b') := by
  unfold swN
  split
  · rename_i h
    rw [putB_live hg h]; exact (setB_nm l b').symm
  · rename_i h
    rw [putB_dead hg (by simpa using h), hn]
    unfold butN nmsB
    rw [List.filter_map]; rfl
theorem fnd_set {l : List Bk} {b b' : Bk} {s : ByteArray} (hg : ∀ x ∈ l, live x = true) (hf : fndB l s = some b) (hn : b'.nm = s) : swF (updO (fndB l) s (some b')) s b' = fndB (putB l b') := by
  funext x
  subst hn
  rw [fndB_put hg hf x]
  unfold swF
  by_cases h1 : live b' = true
  · rw [if_pos h1]
    by_cases h2 : x = b'.nm
    · subst h2; rw [updO_same]; simp [h1]
    · rw [updO_other _ _ h2]; simp [h2]
  · rw [if_neg h1]
    by_cases h2 : x = b'.nm
    · subst h2; rw [updO_same]; simp [h1]
    · rw [updO_other _ _ h2, updO_other _ _ h2]; simp [h2]
theorem putB_len (l : List Bk) (b : Bk) : (putB l b).length ≤ l.length := by
  unfold putB
  refine Nat.le_trans (List.length_filter_le _ _) ?_
  rw [setB_len]; exact Nat.le_refl _
/-- change, as lists. -/
theorem changeP (g0 : Nat) (lb : Array Value) (eg : ∀ args w, (callFunc g0 args).run Try.prog w = .ok (.enter g0 args) w) (X : Nat → Prop) (Z : World → Prop) (hh : Bk → Bk) (E : Bk → Int)
    (pb n : Nat) (hn : n < maxLen) (F : Nat → Prop) (l : List Bk) (s : ByteArray) (hs1 : s.size ≤ maxLen) (w : World) (h : PoolM w pb n F l)
    (hnm : ∀ b, fndB l s = some b → (hh b).nm = b.nm) (hgo : ∀ b, fndB l s = some b → Good (putB l (hh b)))
    (hX : ∀ k, X k → k < w.heap.size ∧ ¬ F k) (hZ : ∀ W W', w.heap.size ≤ W.heap.size → Z W → Keep F W W' → Z W')
    (hby : ∀ b, fndB l s = some b → ByOk g0 lb X Z w b (hh b) (E b)) :
    Calls Try.prog 30 #[.pointer (some ⟨pb, 0, none⟩), .string s, .func (.func g0) #[] lb] w fun e w' => e = .returned (.int .i64 (chE l s E)) ∧ ∃ F', PoolM w' pb (n + 1) F' (chL l s hh) ∧ Keep (fun k => F k ∨ X k) w w' ∧ (∀ k, F' k → F k ∨ w.heap.size ≤ k) ∧ ((fndB l s = none ∧ Below w.heap.size w w') ∨ Z w') := by
  have h0 := h
  obtain ⟨hg, hlen, ⟨rfl, rfl, hnil⟩ | ⟨bm, g, nc, rfl, hmem⟩⟩ := h
  · refine (change30_nil g0 lb pb s hs1 w hnil).mono ?_
    rintro e w' ⟨rfl, hb⟩
    exact ⟨rfl, _, (h0.below hb).mono (Nat.le_succ n), Keep.of_below hb, fun _ h => .inl h, .inl ⟨rfl, hb⟩⟩
  · cases hf : fndB l s with
    | none =>
      refine (change30_no g0 lb pb bm g nc n (nmsB l) (fndB l) s hs1 hf w hmem).mono ?_
      rintro e w' ⟨rfl, hb⟩
      have e1 : chE l s E = 6 := by unfold chE; rw [hf]
      have e2 : chL l s hh = l := by unfold chL; rw [hf]
      rw [e1, e2]
      exact ⟨rfl, _, (h0.below hb).mono (Nat.le_succ n), Keep.of_below hb, fun _ h => .inl h, .inl ⟨rfl, hb⟩⟩
    | some b =>
      have e1 : chE l s E = E b := by unfold chE; rw [hf]
      have e2 : chL l s hh = putB l (hh b) := by unfold chL; rw [hf]
      rw [e1, e2]
      have hbn := (fndB_mem hf).2
      refine (change30 g0 lb eg X Z pb bm g nc n hn (nmsB l) (fndB l) s hs1 (by unfold nmsB; simp; omega) b (hh b) (E b) hf w hmem hX hZ (hby b hf)).mono ?_
      rintro e w' ⟨rfl, hm, hk, hz⟩
      have q1 := nms_set hg.lv hf ((hnm b hf).trans hbn)
      have q2 := fnd_set hg.lv hf ((hnm b hf).trans hbn)
      rw [q1, q2] at hm
      exact ⟨rfl, _, ⟨hgo b hf, Nat.le_trans (putB_len _ _) hlen, .inr ⟨bm, g, nc, rfl, hm⟩⟩, hk, fun _ h => .inl h, .inr hz⟩
theorem tk1_nm (b : Bk) : (tk1 b).nm = b.nm := by
  unfold tk1
  split
  · rfl
  · split <;> rfl
theorem gv1_nm (b : Bk) : (gv1 b).nm = b.nm := by unfold gv1; split <;> rfl
theorem rw1_nm (u : Int) (b : Bk) : (rw1 u b).nm = b.nm := by unfold rw1; split <;> rfl
section
variable {l : List Bk} {s : ByteArray} {b : Bk}
theorem good_tk1 (h : Good l) (hf : fndB l s = some b) : Good (putB l (tk1 b)) := by
  obtain ⟨h0, h1, h2, h3, h4, h5, h6⟩ := h.of hf
  unfold tk1
  split
  · exact h.put h1 h2 h3 h4 h5
  · split
    · exact h.put h1 h2 h3 h4 h5
    · exact h.put (b := { b with bz := b.bz + 1 }) (by simp; omega) h2 h3 h4 h5
theorem good_gv1 (h : Good l) (hf : fndB l s = some b) : Good (putB l (gv1 b)) := by
  obtain ⟨h0, h1, h2, h3, h4, h5, h6⟩ := h.of hf
  unfold gv1
  split
  · exact h.put h1 h2 h3 h4 h5
  · exact h.put (b := { b with bz := b.bz - 1 }) (by simp; omega) h2 h3 h4 h5
theorem good_rw1 (h : Good l) (hf : fndB l s = some b) (u : Int) : Good (putB l (rw1 u b)) := by
  obtain ⟨h0, h1, h2, h3, h4, h5, h6⟩ := h.of hf
  unfold rw1
  split
  · rename_i hu; exact h.put h1 h2 hu h4 h5
  · exact h.put h1 h2 h3 h4 h5
end
theorem Keep.false {G : Nat → Prop} {w w' : World} (h : Keep (fun _ => False) w w') : Keep G w w' := h.more (fun _ _ h => h.elim)
theorem take14 (pb n : Nat) (hn : n < maxLen) (F : Nat → Prop) (l : List Bk) (s : ByteArray) (hs1 : s.size ≤ maxLen) (w : World) (h : PoolM w pb n F l) :
    Calls Try.prog 14 #[.pointer (some ⟨pb, 0, none⟩), .string s] w fun e w' => e = .returned (.int .i64 (chE l s tk1E)) ∧ PoolTo w pb (n + 1) F (chL l s tk1) w' := by
  have hc := changeP 31 #[] (enters_of Try.func31 (by kernel_rfl) rfl) (fun _ => False) (fun _ => True) tk1 tk1E pb n hn F l s hs1 w h (fun b _ => tk1_nm b) (fun b hf => good_tk1 h.good hf) (fun _ h => h.elim) (fun _ _ _ _ _ => trivial)
    (fun b hf W bx hk hbx hr => (take31 W bx b (by have := h.good.of hf; omega) hr).mono (by rintro e W' ⟨h1, h2, h3⟩; exact ⟨h1, h2, h3.more (fun k _ e => .inl e), trivial⟩))
  have HC := Lib.hid hc
  clear hc h
  generalize chE l s tk1E = E at *
  go_enter Try.func14, Try.ntmps14
  go_wp2_with fail
  refine HC.out.mono ?_
  rintro e w2 ⟨rfl, F', h1, h2, h3, _⟩
  go_wp2_with fail
  go_ret
  exact ⟨rfl, F', h1, h2.more (fun k _ hh => hh.elim id False.elim), h3⟩
/-- Give: is it drained? -/
def chD (l : List Bk) (s : ByteArray) : Bool := match fndB l s with
  | none => false
  | some b => gv1D b
theorem give15 (pb n : Nat) (hn : n < maxLen) (F : Nat → Prop) (l : List Bk) (s : ByteArray) (hs1 : s.size ≤ maxLen) (w : World) (h : PoolM w pb n F l) :
    Calls Try.prog 15 #[.pointer (some ⟨pb, 0, none⟩), .string s] w fun e w' => e = .returned (.tuple #[.bool (chD l s), .int .i64 (chE l s gv1E)]) ∧ PoolTo w pb (n + 1) F (chL l s gv1) w' := by
  have hrow := Row.new w 4 #[.bool false]
  have hb := below_alloc w (.cells #[.bool false] 4)
  have hsz : (w.alloc (.cells #[.bool false] 4)).heap.size = w.heap.size + 1 := World.size_alloc _ _
  obtain ⟨W1, hW1⟩ : ∃ W1, W1 = w.alloc (.cells #[.bool false] 4) := ⟨_, rfl⟩
  rw [← hW1] at hrow hb hsz
  have h1 := h.below hb
  have hlt : ∀ k, F k → k < w.heap.size := fun k hk => h.lt hk
  have hc := changeP 32 #[.pointer (some ⟨w.heap.size, 0, none⟩)] (enters_of Try.func32 (by kernel_rfl) rfl) (fun k => k = w.heap.size) (fun W => Row W w.heap.size 4 #[.bool (chD l s)]) gv1 gv1E pb n hn F l s hs1 W1 h1 (fun b _ => gv1_nm b) (fun b hf => good_gv1 h.good hf)
    (fun k hk => by subst hk; exact ⟨by omega, fun hf => by have := hlt _ hf; omega⟩)
    (fun W W' hsz2 hz hk => hz.keep hk (fun hf => by have := hlt _ hf; omega))
    (fun b hf W bx hk hbx hr => (give32 W bx w.heap.size b (by have := h.good.of hf; omega) hr (hrow.keep hk (fun h => h)) (by omega)).mono (by
      rintro e W' ⟨h1, h2, h3, h4⟩
      exact ⟨h1, h2, h3.more (fun k _ e => e), by unfold chD; rw [hf]; exact h4⟩))
  have HC := Lib.hid hc
  have HB := Lib.hid hb
  have HR := Lib.hid hrow
  have HD : Hid (fndB l s = none → chD l s = false) := fun e => by unfold chD; rw [e]
  have HW := Lib.hid hW1
  have HLT : Hid (∀ k, F k → k < w.heap.size) := hlt
  clear hc hb hrow h1 hsz hlt h
  generalize chE l s gv1E = E at *
  generalize chD l s = q at *
  go_enter Try.func15, Try.ntmps15
  go_wp2_with fail
  rw [← hW1]
  clear hW1
  refine HC.out.mono ?_
  rintro e w2 ⟨rfl, F', h1, h2, h3, h4⟩
  have hd0 : Row w2 w.heap.size 4 #[.bool q] := by
    rcases h4 with ⟨h5, h6⟩ | h5
    · rw [HD.out h5]; exact HR.out.below h6
    · exact h5
  have c0 : w2.cell? ⟨w.heap.size, 0, none⟩ = some (.bool q) := hd0.cell 0
  have HP := Lib.hid (show PoolTo w pb (n + 1) F (chL l s gv1) w2 from ⟨F', h1, (show Keep F w w2 from by
      have hk := h2
      have hs := hk.size
      have hbb := HB.out
      exact ⟨hk.os.trans hbb.os, hk.tape.trans hbb.tape, hk.output.trans hbb.output, Nat.le_trans hbb.size hs, fun k hk1 hk2 => (hk.block k (Nat.lt_of_lt_of_le hk1 hbb.size) (fun hh => hh.elim hk2 (fun e => by omega))).trans (hbb.block k hk1)⟩), fun k hk => (h3 k hk).imp id (fun e => Nat.le_trans HB.out.size e)⟩)
  clear h1 h2 h3 h4 hd0
  go_wp2_with fail
  refine bodyPost_ret (v := .tuple #[.bool q, .int .i64 E]) (by simp [results, Try.results15, go_sem]) rfl ?_
  exact ⟨rfl, HP.out⟩
end Go.Proofs.Ytoikgphbicnhaab
