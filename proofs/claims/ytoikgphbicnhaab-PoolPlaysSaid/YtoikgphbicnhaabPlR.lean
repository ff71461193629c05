/- The reference's pool: Find and put. -/
import Derived.Test.YtoikgphbicnhaabPlK
namespace Go.Proofs.Ytoikgphbicnhaab
open Go.RowKit Go.Maps Go.Shelf Go.Sort

theorem putB_self {l : List Bk} (hg : Good l) {s : ByteArray} {b : Bk} (hf : fndB l s = some b) : putB l b = l := by
  obtain ⟨h1, h2⟩ := fndB_mem hf
  rw [putB_live hg.lv (hg.lv b h1)]
  unfold setB
  conv => rhs; rw [← List.map_id l]
  apply List.map_congr_left
  intro x hx
  split
  · rename_i e
    have h3 := fndB_of_mem hg.ap hx
    have h4 := fndB_of_mem hg.ap h1
    rw [e, h4] at h3
    injection h3
  · rfl
theorem infoRk : (Try.prog.info? 61).map (fun i => (i.zero, i.size, i.bytes)) = some (some (.agg #[.string ⟨#[]⟩, .int .i64 0, .int .i64 0, .int .i64 0, .int .i64 0]), 5, 48) := by kernel_rfl
theorem rk_new (w : World) (b : Bk) : ∀ (k : Nat) u, (bkL b)[k]? = some u → (w.alloc (.cells #[.string b.nm, .int .i64 b.wt, .int .i64 b.cp, .int .i64 b.st, .int .i64 b.bz] 61)).cell? ((⟨w.heap.size, 0, none⟩ : Addr).add k) = some u := by
  intro k u hu
  rw [Addr.add_mid, Nat.zero_add, (Row.new w 61 #[.string b.nm, .int .i64 b.wt, .int .i64 b.cp, .int .i64 b.st, .int .i64 b.bz]).cell]
  simpa [bkL] using hu
theorem fnd_take {l : List Bk} {s : ByteArray} {j : Nat} (hj : j < l.length) (h : fndB (l.take j) s = none) : fndB (l.take (j + 1)) s = if l[j].nm = s then some l[j] else none := by
  rw [List.take_add_one, List.getElem?_eq_getElem hj, Option.toList_some, fndB_append, h, fndB_cons, fndB_nil]; rfl
theorem fnd_hit {l : List Bk} {s : ByteArray} {j : Nat} (hj : j < l.length) (h : fndB (l.take j) s = none) (e : l[j].nm = s) : fndB l s = some l[j] := by
  have h1 := fnd_take hj h
  rw [if_pos e] at h1
  have h2 : fndB (l.take (j + 1) ++ l.drop (j + 1)) s = some l[j] := by rw [fndB_append, h1]; rfl
  rw [List.take_append_drop] at h2
  exact h2
set_option maxHeartbeats 2000000 in
set_option maxRecDepth 100000 in
theorem rfind39 (a : Option Addr) (c : Nat) (l : List Bk) (hl : l.length ≤ 1100) (s : ByteArray) (w : World) (h : IsBks w a c l) :
    Calls Try.prog 39 #[.slice a l.length c, .string s] w fun e w' => e = .returned (.tuple #[bkV ((fndB l s).getD bk0), .bool (fndB l s).isSome]) ∧ Below w.heap.size w w' := by
  have HI := Lib.hid h
  have HB0 : Hid (Below w.heap.size w (w.alloc (.cells #[.string ⟨#[]⟩, .int .i64 0, .int .i64 0, .int .i64 0, .int .i64 0] 61))) := below_alloc w _
  have HR0 := Lib.hid (Row.new w 61 #[.string ⟨#[]⟩, .int .i64 0, .int .i64 0, .int .i64 0, .int .i64 0])
  obtain ⟨rb, hrb⟩ : ∃ rb, rb = w.heap.size := ⟨_, rfl⟩
  have HRB : Hid (w.heap.size ≤ rb) := by rw [hrb]; exact Nat.le_refl _
  clear h
  go_enter Try.func39, Try.ntmps39
  go_wp2_with fail
  rw [← hrb] at HR0 ⊢
  clear hrb
  go_loopw [10] (fun i wr => ∃ j : Nat, j ≤ l.length ∧ i = .int .i64 (j : Int) ∧ Hid (fndB (l.take j) s = none) ∧ Hid (Row wr rb 61 #[.string ⟨#[]⟩, .int .i64 0, .int .i64 0, .int .i64 0, .int .i64 0]) ∧ Hid (Below w.heap.size w wr)) (fun i _ => l.length - (intOf i).toNat)
  case atStart => exact ⟨0, Nat.zero_le _, rfl, rfl, HR0, HB0⟩
  case round =>
    obtain ⟨j, hj, rfl, hno, hr, hb⟩ := hrel
    by_cases hjl : j < l.length
    · have j1 : (j : Int) < l.length := by omega
      obtain h0 | ⟨bk, oo, rfl, hbk, hcc, hcell⟩ := HI.out.below hb.out
      · subst h0; simp at hjl
      obtain ⟨x0, x1, x2, x3, x4⟩ := hcell j l[j] (by simp [hjl])
      have hbs := beq_same l[j].nm s
      have HST := Lib.hid (fnd_take hjl hno.out)
      have HHIT := Lib.hid (fnd_hit hjl hno.out)
      obtain ⟨E, hE⟩ : ∃ E, E = l[j] := ⟨_, rfl⟩
      rw [← hE] at x0 x1 x2 x3 x4 hbs HST HHIT
      obtain ⟨n1, w1, c1, s1, z1⟩ := E
      simp only at x0 x1 x2 x3 x4 hbs HST HHIT
      have HA := Lib.hid (hr.out.alloc (.cells #[.string n1, .int .i64 w1, .int .i64 c1, .int .i64 s1, .int .i64 z1] 61))
      have HBA := Lib.hid (hb.out.alloc hb.out.size (.cells #[.string n1, .int .i64 w1, .int .i64 c1, .int .i64 s1, .int .i64 z1] 61))
      clear hcell hE hr hb
      by_cases hn : n1 = s
      · rw [decide_eq_true hn] at hbs
        have hfin := HHIT.out hn
        have HFIN := Lib.hid hfin
        have r0 := HA.out.cell 0
        have r1 := HA.out.cell 1
        have r2 := HA.out.cell 2
        have r3 := HA.out.cell 3
        have r4 := HA.out.cell 4
        have q0 := HA.out.free 0
        have q1 := HA.out.free 1
        have q2 := HA.out.free 2
        have q3 := HA.out.free 3
        have q4 := HA.out.free 4
        have hlt := HA.out.lt
        clear hn hfin
        go_wp2_with fail
        have hrr := (((((HA.out).put 0 (.string n1)).put 1 (.int .i64 w1)).put 2 (.int .i64 c1)).put 3 (.int .i64 s1)).put 4 (.int .i64 z1)
        have d0 := hrr.cell 0
        have d1 := hrr.cell 1
        have d2 := hrr.cell 2
        have d3 := hrr.cell 3
        have d4 := hrr.cell 4
        simp only [Array.setIfInBounds, List.size_toArray, List.length_cons, List.length_nil] at d0 d1 d2 d3 d4
        have hbb := (((((HBA.out).setCell (p := ⟨rb, 0, none⟩) HRB.out (.string n1)).setCell (p := ⟨rb, 1, none⟩) HRB.out (.int .i64 w1)).setCell (p := ⟨rb, 2, none⟩) HRB.out (.int .i64 c1)).setCell (p := ⟨rb, 3, none⟩) HRB.out (.int .i64 s1)).setCell (p := ⟨rb, 4, none⟩) HRB.out (.int .i64 z1)
        refine bodyPost_ret (v := .tuple #[.agg #[.string n1, .int .i64 w1, .int .i64 c1, .int .i64 s1, .int .i64 z1], .bool true]) (by simp [results, Try.results39, go_sem, d0, d1, d2, d3, d4]) rfl ?_
        rw [HFIN.out]
        exact ⟨rfl, hbb⟩
      · rw [decide_eq_false hn] at hbs
        have hst := HST.out
        rw [if_neg hn] at hst
        have HNX := Lib.hid hst
        clear hn hst HHIT HST
        go_wp2_with fail
        go_roundw
        case rel => exact ⟨j + 1, hjl, by go_num, HNX, HA, HBA⟩
        case measure => simp [intOf]; omega
    · obtain rfl : j = l.length := by omega
      have hj0 : ¬ ((l.length : Int) < l.length) := by omega
      have hn := hno.out
      rw [List.take_of_length_le (Nat.le_refl _)] at hn
      have HN := Lib.hid hn
      have HR := hr
      have HB := hb
      have r0 := hr.out.cell 0
      have r1 := hr.out.cell 1
      have r2 := hr.out.cell 2
      have r3 := hr.out.cell 3
      have r4 := hr.out.cell 4
      have q0 := hr.out.free 0
      have q1 := hr.out.free 1
      have q2 := hr.out.free 2
      have q3 := hr.out.free 3
      have q4 := hr.out.free 4
      clear hn hno
      go_wp2_with fail
      have hrr := (((((HR.out).put 0 (.string ⟨#[]⟩)).put 1 (.int .i64 0)).put 2 (.int .i64 0)).put 3 (.int .i64 0)).put 4 (.int .i64 0)
      have d0 := hrr.cell 0
      have d1 := hrr.cell 1
      have d2 := hrr.cell 2
      have d3 := hrr.cell 3
      have d4 := hrr.cell 4
      simp only [Array.setIfInBounds, List.size_toArray, List.length_cons, List.length_nil] at d0 d1 d2 d3 d4
      have hbb := (((((HB.out).setCell (p := ⟨rb, 0, none⟩) HRB.out (.string ⟨#[]⟩)).setCell (p := ⟨rb, 1, none⟩) HRB.out (.int .i64 0)).setCell (p := ⟨rb, 2, none⟩) HRB.out (.int .i64 0)).setCell (p := ⟨rb, 3, none⟩) HRB.out (.int .i64 0)).setCell (p := ⟨rb, 4, none⟩) HRB.out (.int .i64 0)
      refine bodyPost_ret (v := .tuple #[.agg #[.string ⟨#[]⟩, .int .i64 0, .int .i64 0, .int .i64 0, .int .i64 0], .bool false]) (by simp [results, Try.results39, go_sem, d0, d1, d2, d3, d4]) rfl ?_
      rw [HN.out]
      exact ⟨rfl, hbb⟩
end Go.Proofs.Ytoikgphbicnhaab
