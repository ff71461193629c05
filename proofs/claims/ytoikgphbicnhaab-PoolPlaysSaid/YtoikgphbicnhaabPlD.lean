/- pool.change. -/
import Derived.Test.YtoikgphbicnhaabPlC
import Derived.Shelf.Abstract
namespace Go.Proofs.Ytoikgphbicnhaab
open Go.RowKit Go.Maps Go.Shelf Go.Sort

theorem sweep42 (pb bm g nc n : Nat) (ns : List ByteArray) (f : ByteArray → Option Bk) (s : ByteArray) (hs1 : s.size ≤ maxLen) (hl : ns.length ≤ 1000000) (b : Bk) (hf : f s = some b) (u : FrameMode) (w : World) (h : PMem w pb bm g nc n ns f) :
    CallsD Try.prog 42 #[.pointer (some ⟨pb, 0, none⟩), .string s] u w fun e u' w' => u' = u ∧ e = .returned (.tuple #[]) ∧ PMem w' pb bm g nc n (swN ns s b) (swF f s b) ∧ Keep (PF pb bm g) w w' := by
  obtain ⟨nm, wt, cp, st, bz⟩ := b
  unfold swN swF
  by_cases h1 : st = 2
  · subst h1
    by_cases h2 : 0 < bz
    · have e : live ⟨nm, wt, cp, 2, bz⟩ = true := by simp [live, h2]
      rw [e, if_pos rfl, if_pos rfl]
      refine (sweep_l2 pb bm g nc n ns f s hs1 hl nm wt cp bz h2 hf u w h).mono ?_
      rintro e u' w' ⟨h1, h2, h3, h4⟩
      exact ⟨h1, h2, h3, Keep.of_below h4⟩
    · have e : live ⟨nm, wt, cp, 2, bz⟩ = false := by simp [live]; omega
      rw [e, if_neg (by simp), if_neg (by simp)]
      exact sweep_d pb bm g nc n ns f s hs1 hl nm wt cp bz h2 hf u w h
  · have e : live ⟨nm, wt, cp, st, bz⟩ = true := by simp [live, h1]
    rw [e, if_pos rfl, if_pos rfl]
    refine (sweep_l1 pb bm g nc n ns f s hs1 hl nm wt cp st bz h1 hf u w h).mono ?_
    rintro e u' w' ⟨h1, h2, h3, h4⟩
    exact ⟨h1, h2, h3, Keep.of_below h4⟩
theorem keep_new {w w2 : World} {o : Obj} {F X : Nat → Prop} (h : Keep (fun k => k = w.heap.size ∨ X k) (w.alloc o) w2) : Keep (fun k => F k ∨ X k) w w2 := by
  have hs : (w.alloc o).heap.size = w.heap.size + 1 := World.size_alloc _ _
  have h1 := h.size
  refine ⟨h.os, h.tape, h.output, by omega, fun k hk hn => (h.block k (by omega) (fun hh => hh.elim (fun e => by omega) (fun hx => hn (.inr hx)))).trans ((below_alloc w o).block k hk)⟩
set_option maxRecDepth 100000 in
set_option maxHeartbeats 2000000 in
theorem change30 (g0 : Nat) (lb : Array Value) (eg : ∀ args w, (callFunc g0 args).run Try.prog w = .ok (.enter g0 args) w) (X : Nat → Prop) (Z : World → Prop)
    (pb bm g nc n : Nat) (hn : n < maxLen) (ns : List ByteArray) (f : ByteArray → Option Bk) (s : ByteArray) (hs1 : s.size ≤ maxLen) (hl : ns.length ≤ 1000000) (b b' : Bk) (E : Int) (hf : f s = some b) (w : World) (h : PMem w pb bm g nc n ns f)
    (hX : ∀ k, X k → k < w.heap.size ∧ ¬ PF pb bm g k) (hZ : ∀ W W', w.heap.size ≤ W.heap.size → Z W → Keep (PF pb bm g) W W' → Z W')
    (hby : ByOk g0 lb X Z w b b' E) :
    Calls Try.prog 30 #[.pointer (some ⟨pb, 0, none⟩), .string s, .func (.func g0) #[] lb] w fun e w' => e = .returned (.int .i64 E) ∧ PMem w' pb bm g nc (n + 1) (swN ns s b') (swF (updO f s (some b')) s b') ∧ Keep (fun k => PF pb bm g k ∨ X k) w w' ∧ Z w' := by
  have HM0 := Lib.hid h
  have HS := Lib.hid hs1
  have HX := Lib.hid hX
  have HZ := Lib.hid hZ
  have HBY := Lib.hid hby
  have c0 : w.cell? ⟨pb, 0, none⟩ = some (.map (some bm)) := h.row.cell 0
  have k1 := h.map.look_ok hs1
  rw [hf] at k1
  obtain ⟨nm, wt, cp, st, bz⟩ := b
  simp only [Option.getD_some, Option.isSome_some, MB, bkV, bkC] at k1
  have HL := Lib.hid hl
  have HN := Lib.hid hn
  clear h hs1 hX hZ hby hf hl hn
  go_enter_defers Try.func30, Try.ntmps30
  go_wp2_with fail
  refine (HBY.out _ w.heap.size (Keep.alloc _ _) (Nat.le_refl _) (Row.new w _ _)).mono ?_
  rintro e w2 ⟨rfl, hr2, hk2, hz2⟩
  have hma := HM0.out.below (below_alloc w (.cells #[.string nm, .int .i64 wt, .int .i64 cp, .int .i64 st, .int .i64 bz] 33))
  have q1 := HM0.out.row.lt
  have q2 := HM0.out.map.lt
  have q3 := HM0.out.glt
  have HM2 : Hid (PMem w2 pb bm g nc n ns f) := hma.keep hk2 (fun hh => hh.elim (fun e => by omega) (fun hx => (HX.out _ hx).2 (.inl rfl))) (fun hh => hh.elim (fun e => by omega) (fun hx => (HX.out _ hx).2 (.inr (.inl rfl)))) (fun hh => hh.elim (fun e => by omega) (fun hx => (HX.out _ hx).2 (.inr (.inr rfl))))
  have HK2 : Hid (Keep (fun k => PF pb bm g k ∨ X k) w w2) := keep_new hk2
  have HZ2 := Lib.hid hz2
  have HR2 := Lib.hid hr2
  have HS2 : Hid (w.heap.size ≤ w2.heap.size) := HK2.out.size
  obtain ⟨nm', wt', cp', st', bz'⟩ := b'
  obtain ⟨d0, d1, d2, d3, d4⟩ := bk_cells w2 _ _ hr2
  simp only at d0 d1 d2 d3 d4
  have p0 : w2.cell? ⟨pb, 0, none⟩ = some (.map (some bm)) := HM2.out.row.cell 0
  clear hma hk2 hz2 hr2 c0 k1 q1 q2 q3
  go_wp2_with fail
  refine region_tail 6 (by kernel_rfl) (by kernel_rfl) ?_
  simp only [List.take_succ_cons, List.take_zero, List.drop_succ_cons, List.drop_zero]
  repeat still_step
  refine still_tail_nil ?_
  go_wp2_with (at_mapUpdate; refine wpl_storeO MB _ rfl _ _ _ rfl bm n f rfl (HM2.out.map.same rfl) HN.out s ⟨nm', wt', cp', st', bz'⟩ rfl rfl HS.out ?_; intro w3 m3 g3)
  have hM3 : PMem w3 pb bm g nc (n + 1) ns (updO f s (some ⟨nm', wt', cp', st', bz'⟩)) := ⟨(HM2.out.row.drew).grown g3.grown (fun e => HM2.out.gne.2.1 (Option.some.inj e)), m3, own_grown (own_drewP HM2.out.own) g3.grown (fun k hk e => HM2.out.gne.2.2 ((Option.some.inj e).trans (Option.some.inj hk).symm))⟩
  have hK23 : Keep (PF pb bm g) w2 w3 := (Keep.drew w2).trans (Keep.turned g3 (.inr (.inl rfl)))
  show Leaves _ _ _ _ _ _ _
  refine leaves_cons (f := 42) (args := #[.pointer (some ⟨pb, 0, none⟩), .string s]) (by simp) (by simp [go_sem]) ?_
  refine (sweep42 pb bm g nc (n + 1) ns _ s HS.out HL.out ⟨nm', wt', cp', st', bz'⟩ (updO_same _ _ _) _ w3 hM3).mono ?_
  rintro e u' w4 ⟨rfl, rfl, hm4, hk4⟩
  have hk24 := hK23.trans hk4
  simp [Leaves, settle, results, Try.results30, go_sem]
  exact ⟨hm4, HK2.out.trans (hk24.more (fun k _ hh => .inl hh)), HZ.out _ _ HS2.out HZ2.out hk24⟩
set_option maxHeartbeats 1000000 in
theorem change30_no (g0 : Nat) (lb : Array Value) (pb bm g nc n : Nat) (ns : List ByteArray) (f : ByteArray → Option Bk) (s : ByteArray) (hs1 : s.size ≤ maxLen) (hf : f s = none) (w : World) (h : PMem w pb bm g nc n ns f) :
    Calls Try.prog 30 #[.pointer (some ⟨pb, 0, none⟩), .string s, .func (.func g0) #[] lb] w fun e w' => e = .returned (.int .i64 6) ∧ Below w.heap.size w w' := by
  have c0 : w.cell? ⟨pb, 0, none⟩ = some (.map (some bm)) := h.row.cell 0
  have k1 := h.map.look_ok hs1
  rw [hf] at k1
  simp only [Option.getD_none, Option.isSome_none, MB, bkV, bkC, bk0] at k1
  have HB := Lib.hid (below_alloc w (.cells #[.string ⟨#[]⟩, .int .i64 0, .int .i64 0, .int .i64 0, .int .i64 0] 33))
  clear h hs1 hf
  go_enter Try.func30, Try.ntmps30
  go_wp2_with fail
  go_ret
  exact ⟨rfl, HB.out⟩
/-- A pool without a map. -/
def PNil (w : World) (pb : Nat) : Prop := Row w pb 54 #[.map none, .slice none 0 0]
set_option maxHeartbeats 1000000 in
theorem change30_nil (g0 : Nat) (lb : Array Value) (pb : Nat) (s : ByteArray) (hs1 : s.size ≤ maxLen) (w : World) (h : PNil w pb) :
    Calls Try.prog 30 #[.pointer (some ⟨pb, 0, none⟩), .string s, .func (.func g0) #[] lb] w fun e w' => e = .returned (.int .i64 6) ∧ Below w.heap.size w w' := by
  have c0 : w.cell? ⟨pb, 0, none⟩ = some (.map none) := h.cell 0
  have k1 := look_ok_nilO MB w hs1
  simp only [MB, bkV, bkC, bk0] at k1
  have HB := Lib.hid (below_alloc w (.cells #[.string ⟨#[]⟩, .int .i64 0, .int .i64 0, .int .i64 0, .int .i64 0] 33))
  clear h hs1
  go_enter Try.func30, Try.ntmps30
  go_wp2_with fail
  go_ret
  exact ⟨rfl, HB.out⟩
end Go.Proofs.Ytoikgphbicnhaab
