/- pool.sweep, walked (written by genplc.py). -/
import Derived.Test.YtoikgphbicnhaabPlB
namespace Go.Proofs.Ytoikgphbicnhaab
open Go.RowKit Go.Maps Go.Shelf Go.Sort

theorem infoBk : (Try.prog.info? 33).map (·.size) = some 5 := by kernel_rfl
/-- What lies in memory of a pool whose map is there. -/
structure PMem (w : World) (pb bm g nc n : Nat) (ns : List ByteArray) (f : ByteArray → Option Bk) : Prop where
  row : Row w pb 54 #[.map (some bm), .slice (some ⟨g, 0, none⟩) ns.length nc]
  map : MapO MB w bm n f
  own : w.ownsRow 0 9 1 (.slice (some ⟨g, 0, none⟩) ns.length nc) ns.length (ns.map Value.string)
section
variable {w w' : World} {pb bm g nc n : Nat} {ns : List ByteArray} {f : ByteArray → Option Bk}
theorem PMem.below (h : PMem w pb bm g nc n ns f) (hb : Below w.heap.size w w') : PMem w' pb bm g nc n ns f := ⟨h.row.below hb, h.map.below hb, own_bel h.own hb⟩
theorem PMem.glt (h : PMem w pb bm g nc n ns f) : g < w.heap.size := own_lt h.own rfl
theorem PMem.keep {G : Nat → Prop} (h : PMem w pb bm g nc n ns f) (hk : Keep G w w') (h1 : ¬ G pb) (h2 : ¬ G bm) (h3 : ¬ G g) : PMem w' pb bm g nc n ns f :=
  ⟨h.row.keep hk h1, h.map.keep hk h2, own_keep h.own hk (fun k hk2 => by injection hk2 with e; rw [← e]; exact h3)⟩
theorem PMem.mono {m : Nat} (h : PMem w pb bm g nc n ns f) (hm : n ≤ m) : PMem w pb bm g nc m ns f := ⟨h.row, h.map.mono hm, h.own⟩
theorem PMem.gne (h : PMem w pb bm g nc n ns f) : g ≠ pb ∧ bm ≠ pb ∧ bm ≠ g :=
  ⟨fun e => own_ne h.own h.row (by decide) (by rw [e]; rfl), h.map.ne_row h.row, fun e => h.map.ne_own h.own (by rw [e]; rfl)⟩
end
/-- The blocks of a pool. -/
def PF (pb bm g : Nat) : Nat → Prop := fun k => k = pb ∨ k = bm ∨ k = g
/-- What sweep leaves. -/
def swF (f : ByteArray → Option Bk) (s : ByteArray) (b : Bk) : ByteArray → Option Bk := if live b = true then f else updO f s none
def swN (ns : List ByteArray) (s : ByteArray) (b : Bk) : List ByteArray := if live b = true then ns else butN ns s
theorem own_drewP {w : World} {base : Nat} {e : TypeId} {n m : Nat} {v : Value} {xs : List Value} (h : w.ownsRow base e n v m xs) : w.drew.ownsRow base e n v m xs := h
theorem MxS.bel1 {W w : World} {ns : List NewR} {L : Nat → Bool} {x : Nat → Value} (h : MxS W [] ns L x w) : Below W.heap.size W w := h.bel0
set_option maxRecDepth 100000 in
set_option maxHeartbeats 1000000 in
theorem sweep_l1 (pb bm g nc n : Nat) (ns : List ByteArray) (f : ByteArray → Option Bk) (s : ByteArray) (hs1 : s.size ≤ maxLen) (hl : ns.length ≤ 1000000) (nm : ByteArray) (wt cp st bz : Int) (h1 : st ≠ 2) (hf : f s = some ⟨nm, wt, cp, st, bz⟩) (u : FrameMode) (w : World) (h : PMem w pb bm g nc n ns f) :
    CallsD Try.prog 42 #[.pointer (some ⟨pb, 0, none⟩), .string s] u w fun e u' w' => u' = u ∧ e = .returned (.tuple #[]) ∧ PMem w' pb bm g nc n ns f ∧ Below w.heap.size w w' := by
  have HM0 := Lib.hid h
  have HB0 := Lib.hid (below_alloc w (.cells #[.string s] 9))
  have HN0 := Lib.hid (Row.new w 9 #[.string s])
  have HS := Lib.hid hs1
  have HF := Lib.hid hf
  clear h hs1 hf
  have HLN := Lib.hid hl
  go_enter_d Try.func42, Try.ntmps42
  go_wp2_with fail
  obtain ⟨W, hW⟩ : ∃ W, W = w.alloc (.cells #[.string s] 9) := ⟨_, rfl⟩
  obtain ⟨nb, hnb⟩ : ∃ nb, nb = w.heap.size := ⟨_, rfl⟩
  rw [← hW, ← hnb]
  have HM : Hid (PMem W pb bm g nc n ns f) := by rw [hW]; exact HM0.out.below HB0.out
  have HN : Hid (Row W nb 9 #[.string s]) := by rw [hW, hnb]; exact HN0.out
  have HB : Hid (Below w.heap.size w W) := by rw [hW]; exact HB0.out
  have HGL : Hid (g < nb ∧ bm < nb) := by rw [hnb]; exact ⟨HM0.out.glt, HM0.out.map.lt⟩
  clear HM0 HB0 HN0 hW hnb
  refine region_mixt 8 [some (.pointer (some ⟨pb, 0, none⟩)), some (.pointer (some ⟨pb, 0, none⟩)), some (.pointer (some ⟨pb, 0, none⟩)), some (.map (some bm)), some (.string s), some (.agg #[.string nm, .int .i64 wt, .int .i64 cp, .int .i64 st, .int .i64 bz]), none, none]
    [[false, false, false, false, false, false, false, false], [true, false, false, false, false, false, false, false], [false, true, false, false, false, false, false, false], [false, false, true, false, false, false, false, false], [false, false, false, false, false, false, false, false], [false, false, false, true, true, false, false, false], [false, false, false, false, false, false, false, false], [true, true, true, true, true, true, true, false]]
    (fun LL xx w9 => MxS W [] [⟨6, 7, 33, #[.string ⟨#[]⟩, .int .i64 0, .int .i64 0, .int .i64 0, .int .i64 0], #[.string nm, .int .i64 wt, .int .i64 cp, .int .i64 st, .int .i64 bz]⟩] LL xx w9)
    (by kernel_rfl) (by kernel_rfl) (by kernel_rfl) (by kernel_rfl) (by kernel_rfl) (by decide) ?_ ?_ ?_
  · intro x
    exact MxS.start (by simp)
  · simp only [List.take_succ_cons, List.take_zero]
    refine ⟨?_, ?_, ?_, ?_, ?_, ?_, ?_, ?_, trivial⟩
    all_goals
      intro L x w9 hS hl hp K9 hK9
      have hs : MxS W [] [⟨6, 7, 33, #[.string ⟨#[]⟩, .int .i64 0, .int .i64 0, .int .i64 0, .int .i64 0], #[.string nm, .int .i64 wt, .int .i64 cp, .int .i64 st, .int .i64 bz]⟩] L x w9 := hS
      clear hS
      replace hK9 := hK9.out
      simp only [actMix, pickV, List.tail_cons, List.headD_cons, Act.put, List.setIfInBounds_toArray, List.set_cons_zero, List.set_cons_succ] at hK9 ⊢
    · clear hp
      go_simp
      with_reducible refine hK9 _ ?_
      exact hs.next 0 _ (by simp [MxI])
    · clear hp
      go_simp
      with_reducible refine hK9 _ ?_
      exact hs.next 1 _ (by simp [MxI])
    · clear hp
      go_simp
      with_reducible refine hK9 _ ?_
      exact hs.next 2 _ (by simp [MxI])
    · clear hp
      have c0 : w9.cell? ⟨pb, 0, none⟩ = some (.map (some bm)) := (HM.out.below hs.bel1).row.cell 0
      go_simp
      with_reducible refine hK9 _ ?_
      exact hs.next 3 _ (by simp [MxI])
    · clear hp
      have c0 : w9.cell? ⟨nb, 0, none⟩ = some (.string s) := (hs.row HN.out (by simp)).cell 0
      go_simp
      with_reducible refine hK9 _ ?_
      exact hs.next 4 _ (by simp [MxI])
    · clear hp
      have c0 := (HM.out.below hs.bel1).map.look HS.out
      rw [HF.out] at c0
      simp only [Option.getD_some, MB, bkV, bkC] at c0
      go_simp
      with_reducible refine hK9 _ ?_
      exact hs.next 5 _ (by simp [MxI])
    · clear hp
      go_simp
      with_reducible refine hK9 _ _ ?_
      exact hs.alloc (n := ⟨6, 7, 33, #[.string ⟨#[]⟩, .int .i64 0, .int .i64 0, .int .i64 0, .int .i64 0], #[.string nm, .int .i64 wt, .int .i64 cp, .int .i64 st, .int .i64 bz]⟩) (by simp) hl (by simp) (by simp) (by simp)
    · have hA := allL_mem hp 6 (by decide +kernel)
      obtain ⟨bA, hxA, hgA, hrA⟩ := hs.new ⟨6, 7, 33, #[.string ⟨#[]⟩, .int .i64 0, .int .i64 0, .int .i64 0, .int .i64 0], #[.string nm, .int .i64 wt, .int .i64 cp, .int .i64 st, .int .i64 bz]⟩ (by simp) hA
      clear hp
      simp only at hxA hrA hl
      rw [hl, if_neg (by simp)] at hrA
      rw [hxA] at hK9 ⊢
      rw [if_pos (by rfl)]
      refine wp_store_row 33 _ _ rfl bA #[.string nm, .int .i64 wt, .int .i64 cp, .int .i64 st, .int .i64 bz] rfl rfl 33 #[.string ⟨#[]⟩, .int .i64 0, .int .i64 0, .int .i64 0, .int .i64 0] hrA infoBk rfl (by simp [Value.oneCell']) ?_
      simp only [Act.put]
      with_reducible refine hK9 undef _ ?_
      exact hs.write (n := ⟨6, 7, 33, #[.string ⟨#[]⟩, .int .i64 0, .int .i64 0, .int .i64 0, .int .i64 0], #[.string nm, .int .i64 wt, .int .i64 cp, .int .i64 st, .int .i64 bz]⟩) (by simp) hxA hA (by simp) (by simp) (by simp) _ (by simp)
  intro L x w9 hS hL
  have hs : MxS W [] [⟨6, 7, 33, #[.string ⟨#[]⟩, .int .i64 0, .int .i64 0, .int .i64 0, .int .i64 0], #[.string nm, .int .i64 wt, .int .i64 cp, .int .i64 st, .int .i64 bz]⟩] L x w9 := hS
  clear hS
  simp only [actMix, pickV, List.tail_cons, List.headD_cons, Act.put, List.setIfInBounds_toArray, List.set_cons_zero, List.set_cons_succ, List.replicate_succ, List.replicate_zero, List.drop_succ_cons, List.drop_zero, List.take_succ_cons, List.take_zero]
  obtain ⟨bb, hbb, hbg, hbr⟩ := hs.new _ (List.mem_singleton.2 rfl) (hL 6 (by decide))
  rw [hL 7 (by decide), if_pos rfl] at hbr
  have HBR := Lib.hid hbr
  have HM9 := Lib.hid (HM.out.below hs.bel1)
  have HN9 := Lib.hid (HN.out.below hs.bel1)
  have HB9 := Lib.hid (HB.out.trans (hs.bel1.mono HB.out.size))
  simp only at hbb
  rw [hbb]
  have b3 : w9.cell? ⟨bb, 3, none⟩ = some (.int .i64 st) := hbr.cell 3
  have b4 : w9.cell? ⟨bb, 4, none⟩ = some (.int .i64 bz) := hbr.cell 4
  clear hs hL hbb hbg hbr HM HN HB
  have t1 : (st != 2) = true := by simp [h1]
  go_wp2_with fail
  refine bodyPost_ret (v := .tuple #[]) (results_none rfl _ _ _) rfl ?_
  exact ⟨rfl, HM9.out, HB9.out⟩
set_option maxRecDepth 100000 in
set_option maxHeartbeats 1000000 in
theorem sweep_l2 (pb bm g nc n : Nat) (ns : List ByteArray) (f : ByteArray → Option Bk) (s : ByteArray) (hs1 : s.size ≤ maxLen) (hl : ns.length ≤ 1000000) (nm : ByteArray) (wt cp bz : Int) (h2 : 0 < bz) (hf : f s = some ⟨nm, wt, cp, 2, bz⟩) (u : FrameMode) (w : World) (h : PMem w pb bm g nc n ns f) :
    CallsD Try.prog 42 #[.pointer (some ⟨pb, 0, none⟩), .string s] u w fun e u' w' => u' = u ∧ e = .returned (.tuple #[]) ∧ PMem w' pb bm g nc n ns f ∧ Below w.heap.size w w' := by
  have HM0 := Lib.hid h
  have HB0 := Lib.hid (below_alloc w (.cells #[.string s] 9))
  have HN0 := Lib.hid (Row.new w 9 #[.string s])
  have HS := Lib.hid hs1
  have HF := Lib.hid hf
  clear h hs1 hf
  have HLN := Lib.hid hl
  go_enter_d Try.func42, Try.ntmps42
  go_wp2_with fail
  obtain ⟨W, hW⟩ : ∃ W, W = w.alloc (.cells #[.string s] 9) := ⟨_, rfl⟩
  obtain ⟨nb, hnb⟩ : ∃ nb, nb = w.heap.size := ⟨_, rfl⟩
  rw [← hW, ← hnb]
  have HM : Hid (PMem W pb bm g nc n ns f) := by rw [hW]; exact HM0.out.below HB0.out
  have HN : Hid (Row W nb 9 #[.string s]) := by rw [hW, hnb]; exact HN0.out
  have HB : Hid (Below w.heap.size w W) := by rw [hW]; exact HB0.out
  have HGL : Hid (g < nb ∧ bm < nb) := by rw [hnb]; exact ⟨HM0.out.glt, HM0.out.map.lt⟩
  clear HM0 HB0 HN0 hW hnb
  refine region_mixt 8 [some (.pointer (some ⟨pb, 0, none⟩)), some (.pointer (some ⟨pb, 0, none⟩)), some (.pointer (some ⟨pb, 0, none⟩)), some (.map (some bm)), some (.string s), some (.agg #[.string nm, .int .i64 wt, .int .i64 cp, .int .i64 2, .int .i64 bz]), none, none]
    [[false, false, false, false, false, false, false, false], [true, false, false, false, false, false, false, false], [false, true, false, false, false, false, false, false], [false, false, true, false, false, false, false, false], [false, false, false, false, false, false, false, false], [false, false, false, true, true, false, false, false], [false, false, false, false, false, false, false, false], [true, true, true, true, true, true, true, false]]
    (fun LL xx w9 => MxS W [] [⟨6, 7, 33, #[.string ⟨#[]⟩, .int .i64 0, .int .i64 0, .int .i64 0, .int .i64 0], #[.string nm, .int .i64 wt, .int .i64 cp, .int .i64 2, .int .i64 bz]⟩] LL xx w9)
    (by kernel_rfl) (by kernel_rfl) (by kernel_rfl) (by kernel_rfl) (by kernel_rfl) (by decide) ?_ ?_ ?_
  · intro x
    exact MxS.start (by simp)
  · simp only [List.take_succ_cons, List.take_zero]
    refine ⟨?_, ?_, ?_, ?_, ?_, ?_, ?_, ?_, trivial⟩
    all_goals
      intro L x w9 hS hl hp K9 hK9
      have hs : MxS W [] [⟨6, 7, 33, #[.string ⟨#[]⟩, .int .i64 0, .int .i64 0, .int .i64 0, .int .i64 0], #[.string nm, .int .i64 wt, .int .i64 cp, .int .i64 2, .int .i64 bz]⟩] L x w9 := hS
      clear hS
      replace hK9 := hK9.out
      simp only [actMix, pickV, List.tail_cons, List.headD_cons, Act.put, List.setIfInBounds_toArray, List.set_cons_zero, List.set_cons_succ] at hK9 ⊢
    · clear hp
      go_simp
      with_reducible refine hK9 _ ?_
      exact hs.next 0 _ (by simp [MxI])
    · clear hp
      go_simp
      with_reducible refine hK9 _ ?_
      exact hs.next 1 _ (by simp [MxI])
    · clear hp
      go_simp
      with_reducible refine hK9 _ ?_
      exact hs.next 2 _ (by simp [MxI])
    · clear hp
      have c0 : w9.cell? ⟨pb, 0, none⟩ = some (.map (some bm)) := (HM.out.below hs.bel1).row.cell 0
      go_simp
      with_reducible refine hK9 _ ?_
      exact hs.next 3 _ (by simp [MxI])
    · clear hp
      have c0 : w9.cell? ⟨nb, 0, none⟩ = some (.string s) := (hs.row HN.out (by simp)).cell 0
      go_simp
      with_reducible refine hK9 _ ?_
      exact hs.next 4 _ (by simp [MxI])
    · clear hp
      have c0 := (HM.out.below hs.bel1).map.look HS.out
      rw [HF.out] at c0
      simp only [Option.getD_some, MB, bkV, bkC] at c0
      go_simp
      with_reducible refine hK9 _ ?_
      exact hs.next 5 _ (by simp [MxI])
    · clear hp
      go_simp
      with_reducible refine hK9 _ _ ?_
      exact hs.alloc (n := ⟨6, 7, 33, #[.string ⟨#[]⟩, .int .i64 0, .int .i64 0, .int .i64 0, .int .i64 0], #[.string nm, .int .i64 wt, .int .i64 cp, .int .i64 2, .int .i64 bz]⟩) (by simp) hl (by simp) (by simp) (by simp)
    · have hA := allL_mem hp 6 (by decide +kernel)
      obtain ⟨bA, hxA, hgA, hrA⟩ := hs.new ⟨6, 7, 33, #[.string ⟨#[]⟩, .int .i64 0, .int .i64 0, .int .i64 0, .int .i64 0], #[.string nm, .int .i64 wt, .int .i64 cp, .int .i64 2, .int .i64 bz]⟩ (by simp) hA
      clear hp
      simp only at hxA hrA hl
      rw [hl, if_neg (by simp)] at hrA
      rw [hxA] at hK9 ⊢
      rw [if_pos (by rfl)]
      refine wp_store_row 33 _ _ rfl bA #[.string nm, .int .i64 wt, .int .i64 cp, .int .i64 2, .int .i64 bz] rfl rfl 33 #[.string ⟨#[]⟩, .int .i64 0, .int .i64 0, .int .i64 0, .int .i64 0] hrA infoBk rfl (by simp [Value.oneCell']) ?_
      simp only [Act.put]
      with_reducible refine hK9 undef _ ?_
      exact hs.write (n := ⟨6, 7, 33, #[.string ⟨#[]⟩, .int .i64 0, .int .i64 0, .int .i64 0, .int .i64 0], #[.string nm, .int .i64 wt, .int .i64 cp, .int .i64 2, .int .i64 bz]⟩) (by simp) hxA hA (by simp) (by simp) (by simp) _ (by simp)
  intro L x w9 hS hL
  have hs : MxS W [] [⟨6, 7, 33, #[.string ⟨#[]⟩, .int .i64 0, .int .i64 0, .int .i64 0, .int .i64 0], #[.string nm, .int .i64 wt, .int .i64 cp, .int .i64 2, .int .i64 bz]⟩] L x w9 := hS
  clear hS
  simp only [actMix, pickV, List.tail_cons, List.headD_cons, Act.put, List.setIfInBounds_toArray, List.set_cons_zero, List.set_cons_succ, List.replicate_succ, List.replicate_zero, List.drop_succ_cons, List.drop_zero, List.take_succ_cons, List.take_zero]
  obtain ⟨bb, hbb, hbg, hbr⟩ := hs.new _ (List.mem_singleton.2 rfl) (hL 6 (by decide))
  rw [hL 7 (by decide), if_pos rfl] at hbr
  have HBR := Lib.hid hbr
  have HM9 := Lib.hid (HM.out.below hs.bel1)
  have HN9 := Lib.hid (HN.out.below hs.bel1)
  have HB9 := Lib.hid (HB.out.trans (hs.bel1.mono HB.out.size))
  simp only at hbb
  rw [hbb]
  have b3 : w9.cell? ⟨bb, 3, none⟩ = some (.int .i64 2) := hbr.cell 3
  have b4 : w9.cell? ⟨bb, 4, none⟩ = some (.int .i64 bz) := hbr.cell 4
  clear hs hL hbb hbg hbr HM HN HB
  go_wp2_with fail
  refine bodyPost_ret (v := .tuple #[]) (results_none rfl _ _ _) rfl ?_
  exact ⟨rfl, HM9.out, HB9.out⟩
set_option maxRecDepth 100000 in
set_option maxHeartbeats 1000000 in
theorem sweep_d (pb bm g nc n : Nat) (ns : List ByteArray) (f : ByteArray → Option Bk) (s : ByteArray) (hs1 : s.size ≤ maxLen) (hl : ns.length ≤ 1000000) (nm : ByteArray) (wt cp bz : Int) (h2 : ¬ 0 < bz) (hf : f s = some ⟨nm, wt, cp, 2, bz⟩) (u : FrameMode) (w : World) (h : PMem w pb bm g nc n ns f) :
    CallsD Try.prog 42 #[.pointer (some ⟨pb, 0, none⟩), .string s] u w fun e u' w' => u' = u ∧ e = .returned (.tuple #[]) ∧ PMem w' pb bm g nc n (butN ns s) (updO f s none) ∧ Keep (PF pb bm g) w w' := by
  have HM0 := Lib.hid h
  have HB0 := Lib.hid (below_alloc w (.cells #[.string s] 9))
  have HN0 := Lib.hid (Row.new w 9 #[.string s])
  have HS := Lib.hid hs1
  have HF := Lib.hid hf
  clear h hs1 hf
  have HLN := Lib.hid hl
  go_enter_d Try.func42, Try.ntmps42
  go_wp2_with fail
  obtain ⟨W, hW⟩ : ∃ W, W = w.alloc (.cells #[.string s] 9) := ⟨_, rfl⟩
  obtain ⟨nb, hnb⟩ : ∃ nb, nb = w.heap.size := ⟨_, rfl⟩
  rw [← hW, ← hnb]
  have HM : Hid (PMem W pb bm g nc n ns f) := by rw [hW]; exact HM0.out.below HB0.out
  have HN : Hid (Row W nb 9 #[.string s]) := by rw [hW, hnb]; exact HN0.out
  have HB : Hid (Below w.heap.size w W) := by rw [hW]; exact HB0.out
  have HGL : Hid (g < nb ∧ bm < nb) := by rw [hnb]; exact ⟨HM0.out.glt, HM0.out.map.lt⟩
  clear HM0 HB0 HN0 hW hnb
  refine region_mixt 8 [some (.pointer (some ⟨pb, 0, none⟩)), some (.pointer (some ⟨pb, 0, none⟩)), some (.pointer (some ⟨pb, 0, none⟩)), some (.map (some bm)), some (.string s), some (.agg #[.string nm, .int .i64 wt, .int .i64 cp, .int .i64 2, .int .i64 bz]), none, none]
    [[false, false, false, false, false, false, false, false], [true, false, false, false, false, false, false, false], [false, true, false, false, false, false, false, false], [false, false, true, false, false, false, false, false], [false, false, false, false, false, false, false, false], [false, false, false, true, true, false, false, false], [false, false, false, false, false, false, false, false], [true, true, true, true, true, true, true, false]]
    (fun LL xx w9 => MxS W [] [⟨6, 7, 33, #[.string ⟨#[]⟩, .int .i64 0, .int .i64 0, .int .i64 0, .int .i64 0], #[.string nm, .int .i64 wt, .int .i64 cp, .int .i64 2, .int .i64 bz]⟩] LL xx w9)
    (by kernel_rfl) (by kernel_rfl) (by kernel_rfl) (by kernel_rfl) (by kernel_rfl) (by decide) ?_ ?_ ?_
  · intro x
    exact MxS.start (by simp)
  · simp only [List.take_succ_cons, List.take_zero]
    refine ⟨?_, ?_, ?_, ?_, ?_, ?_, ?_, ?_, trivial⟩
    all_goals
      intro L x w9 hS hl hp K9 hK9
      have hs : MxS W [] [⟨6, 7, 33, #[.string ⟨#[]⟩, .int .i64 0, .int .i64 0, .int .i64 0, .int .i64 0], #[.string nm, .int .i64 wt, .int .i64 cp, .int .i64 2, .int .i64 bz]⟩] L x w9 := hS
      clear hS
      replace hK9 := hK9.out
      simp only [actMix, pickV, List.tail_cons, List.headD_cons, Act.put, List.setIfInBounds_toArray, List.set_cons_zero, List.set_cons_succ] at hK9 ⊢
    · clear hp
      go_simp
      with_reducible refine hK9 _ ?_
      exact hs.next 0 _ (by simp [MxI])
    · clear hp
      go_simp
      with_reducible refine hK9 _ ?_
      exact hs.next 1 _ (by simp [MxI])
    · clear hp
      go_simp
      with_reducible refine hK9 _ ?_
      exact hs.next 2 _ (by simp [MxI])
    · clear hp
      have c0 : w9.cell? ⟨pb, 0, none⟩ = some (.map (some bm)) := (HM.out.below hs.bel1).row.cell 0
      go_simp
      with_reducible refine hK9 _ ?_
      exact hs.next 3 _ (by simp [MxI])
    · clear hp
      have c0 : w9.cell? ⟨nb, 0, none⟩ = some (.string s) := (hs.row HN.out (by simp)).cell 0
      go_simp
      with_reducible refine hK9 _ ?_
      exact hs.next 4 _ (by simp [MxI])
    · clear hp
      have c0 := (HM.out.below hs.bel1).map.look HS.out
      rw [HF.out] at c0
      simp only [Option.getD_some, MB, bkV, bkC] at c0
      go_simp
      with_reducible refine hK9 _ ?_
      exact hs.next 5 _ (by simp [MxI])
    · clear hp
      go_simp
      with_reducible refine hK9 _ _ ?_
      exact hs.alloc (n := ⟨6, 7, 33, #[.string ⟨#[]⟩, .int .i64 0, .int .i64 0, .int .i64 0, .int .i64 0], #[.string nm, .int .i64 wt, .int .i64 cp, .int .i64 2, .int .i64 bz]⟩) (by simp) hl (by simp) (by simp) (by simp)
    · have hA := allL_mem hp 6 (by decide +kernel)
      obtain ⟨bA, hxA, hgA, hrA⟩ := hs.new ⟨6, 7, 33, #[.string ⟨#[]⟩, .int .i64 0, .int .i64 0, .int .i64 0, .int .i64 0], #[.string nm, .int .i64 wt, .int .i64 cp, .int .i64 2, .int .i64 bz]⟩ (by simp) hA
      clear hp
      simp only at hxA hrA hl
      rw [hl, if_neg (by simp)] at hrA
      rw [hxA] at hK9 ⊢
      rw [if_pos (by rfl)]
      refine wp_store_row 33 _ _ rfl bA #[.string nm, .int .i64 wt, .int .i64 cp, .int .i64 2, .int .i64 bz] rfl rfl 33 #[.string ⟨#[]⟩, .int .i64 0, .int .i64 0, .int .i64 0, .int .i64 0] hrA infoBk rfl (by simp [Value.oneCell']) ?_
      simp only [Act.put]
      with_reducible refine hK9 undef _ ?_
      exact hs.write (n := ⟨6, 7, 33, #[.string ⟨#[]⟩, .int .i64 0, .int .i64 0, .int .i64 0, .int .i64 0], #[.string nm, .int .i64 wt, .int .i64 cp, .int .i64 2, .int .i64 bz]⟩) (by simp) hxA hA (by simp) (by simp) (by simp) _ (by simp)
  intro L x w9 hS hL
  have hs : MxS W [] [⟨6, 7, 33, #[.string ⟨#[]⟩, .int .i64 0, .int .i64 0, .int .i64 0, .int .i64 0], #[.string nm, .int .i64 wt, .int .i64 cp, .int .i64 2, .int .i64 bz]⟩] L x w9 := hS
  clear hS
  simp only [actMix, pickV, List.tail_cons, List.headD_cons, Act.put, List.setIfInBounds_toArray, List.set_cons_zero, List.set_cons_succ, List.replicate_succ, List.replicate_zero, List.drop_succ_cons, List.drop_zero, List.take_succ_cons, List.take_zero]
  obtain ⟨bb, hbb, hbg, hbr⟩ := hs.new _ (List.mem_singleton.2 rfl) (hL 6 (by decide))
  rw [hL 7 (by decide), if_pos rfl] at hbr
  have HBR := Lib.hid hbr
  have HM9 := Lib.hid (HM.out.below hs.bel1)
  have HN9 := Lib.hid (HN.out.below hs.bel1)
  have HB9 := Lib.hid (HB.out.trans (hs.bel1.mono HB.out.size))
  simp only at hbb
  rw [hbb]
  have b3 : w9.cell? ⟨bb, 3, none⟩ = some (.int .i64 2) := hbr.cell 3
  have b4 : w9.cell? ⟨bb, 4, none⟩ = some (.int .i64 bz) := hbr.cell 4
  clear hs hL hbb hbg hbr HM HN HB
  have t2 : decide (0 < bz) = false := decide_eq_false (by omega)
  go_wp2_with fail
  have c0 : w9.cell? ⟨pb, 0, none⟩ = some (.map (some bm)) := HM9.out.row.cell 0
  have n0 : w9.cell? ⟨nb, 0, none⟩ = some (.string s) := HN9.out.cell 0
  refine region_tail 5 (by kernel_rfl) (by kernel_rfl) ?_
  simp only [List.take_succ_cons, List.take_zero, List.drop_succ_cons, List.drop_zero]
  repeat still_step
  refine still_tail_nil ?_
  go_wp2_with (at_delete; refine wpl_dropO MB _ rfl _ _ rfl bm n f rfl (HM9.out.map.same rfl) s rfl HS.out ?_; intro w2 m2 g2; have HP2 := Lib.hid (PMem.mk ((HM9.out.row.drew).grown g2.grown (fun e => HM9.out.gne.2.1 (Option.some.inj e))) m2 (own_grown (own_drewP HM9.out.own) g2.grown (fun k hk e => HM9.out.gne.2.2 ((Option.some.inj e).trans (Option.some.inj hk).symm)))); have HN2 := Lib.hid ((HN9.out.drew).grown g2.grown (fun e => by have h1 := HGL.out.2; have h2 := Option.some.inj e; omega)); have HK2 : Hid (Keep (PF pb bm g) w w2) := ((Keep.of_below HB9.out).trans (Keep.drew _)).trans (Keep.turned g2 (.inr (.inl rfl))); clear m2 g2; have c1 := HP2.out.row.cell 1; simp at c1)
  refine (del48 g nc nb ns s w2 hl (by have := HGL.out.1; omega) (HN2.out.cell 0) HP2.out.own).mono ?_
  rintro e w3 ⟨rfl, ho3, hg3⟩
  have hR3 := HP2.out.row.grown hg3 (fun e => HP2.out.gne.1 (Option.some.inj e))
  have HM3 := Lib.hid (HP2.out.map.grown hg3 (fun e => HP2.out.gne.2.2 (Option.some.inj e).symm))
  have HK3 := Lib.hid (HK2.out.trans (Keep.grown (G := PF pb bm g) hg3 (fun k hk => .inr (.inr (Option.some.inj hk).symm))))
  have HR3 := Lib.hid hR3
  have HO3 := Lib.hid ho3
  have f3 := hR3.free 1
  have d3 : w3.cell? ⟨pb, 1, none⟩ = some (.slice (some ⟨g, 0, none⟩) ns.length nc) := hR3.cell 1
  clear ho3 hg3 hR3
  go_wp2_with fail
  refine bodyPost_end (v := .tuple #[]) (results_none rfl _ _ _) rfl ?_
  exact ⟨rfl, ⟨HR3.out.put 1 _, HM3.out.far (HP2.out.gne.2.1) _, own_set HO3.out HR3.out (by decide) _⟩, HK3.out.trans (Keep.setCell (G := PF pb bm g) _ (p := ⟨pb, 1, none⟩) (.inl rfl) _)⟩
end Go.Proofs.Ytoikgphbicnhaab
