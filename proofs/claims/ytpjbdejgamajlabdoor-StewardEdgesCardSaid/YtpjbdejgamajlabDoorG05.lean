/- strconv.FormatFloat of a zero. -/
import Derived.Lib.AppendStr
import Derived.Laws.BytesArg
import Derived.Deep.MidRow
import Derived.Deep.AppendLies
import Derived.Laws.AppendOwn
import Derived.Laws.BytesString
import Derived.Laws.Cover4
import Derived.Test.YtpjbdejgamajlabDoorG00
namespace Go.Proofs.YtpjbdejgamajlabDoor
open Go.RowKit

theorem infoU8 : (Tryd.prog.info? 5).map (fun i => (i.zero, i.size, i.bytes)) = some (some (.int .u8 0), 1, 1) := by kernel_rfl
theorem one_cell (k : IntKind) (x : Int) : ∀ u ∈ [Value.int k x], u.oneCell' = true := by intro u hu; simp at hu; subst hu; rfl
theorem cell_one (w : World) (v : Value) (t : TypeId) : ∀ (j : Nat) u, [v][j]? = some u → (w.alloc (.cells #[v] t)).cell? ((⟨w.heap.size, 0, none⟩ : Addr).add j) = some u := by
  intro i u hu
  match i, hu with
  | 0, hu => obtain rfl : v = u := Option.some.inj hu; rw [Addr.add_mid]; simp
  | i + 1, hu => simp at hu

set_option maxRecDepth 100000 in
set_option maxHeartbeats 1000000 in
theorem fz_efg (B : Nat) (v : Value) (w : World) (hown : w.ownsRow B 5 1 v 0 []) (hB : B ≤ w.heap.size) :
    Calls Tryd.prog 93 #[v, .bool false, .slice none 0 0, .int .i64 0, .int .i64 0, .int .i64 (-1), .int .u8 103, .bool true] w fun e w' =>
      ∃ v', e = .returned v' ∧ w'.ownsRow B 5 1 v' 1 [.int .u8 48] ∧ Below B w w' := by
  obtain ⟨i0, hi, hz0, hz1, hz2⟩ := info_parts infoU8
  go_enter Tryd.func93, Tryd.ntmps93
  go_wp2_with (at_builtin; refine wpList_append_own _ rfl _ _ 62 rfl B 5 i0 (.int .u8 0) 1 1 Tryd.underlying62 hi hz0 hz1 hz2 rfl (by decide) _ _ _ rfl (hown.alloc _) ⟨w.heap.size, 0, none⟩ 1 1 [.int .u8 48] rfl rfl (cell_one _ _ _) (one_cell _ _) (by unfold maxLen; omega) (by omega) (by simp; omega) ?_)
  intro v' w1 hown' hgrow _
  have hb1 : Below B w w1 := ((Below.refl B w).alloc hB _).grown hgrow (by simp; omega) (fun k hk => (hown.lt k hk).1)
  go_wp2_with fail
  go_ret
  exact ⟨_, rfl, hown', hb1⟩
set_option maxRecDepth 100000 in
set_option maxHeartbeats 1000000 in
theorem fz_ftoa (B : Nat) (v : Value) (w : World) (hown : w.ownsRow B 5 1 v 0 []) (hB : B ≤ w.heap.size) :
    Calls Tryd.prog 78 #[v, .float .f64 0, .int .u8 103, .int .i64 (-1)] w fun e w' =>
      ∃ v', e = .returned v' ∧ w'.ownsRow B 5 1 v' 1 [.int .u8 48] ∧ Below B w w' := by
  have hb : ∀ w, (callFunc 90 #[.float .f64 0]).run Tryd.prog w = .ok (.value (.int .u64 0)) w := fun w => by
    rw [run_callFunc_extern Tryd.func90 (by kernel_rfl) (by kernel_rfl) (by kernel_rfl) (e := Extern.MathFloatBits.float64bits) (by kernel_rfl)]
    rfl
  have hE := fz_efg B v w.drew hown hB
  go_enter Tryd.func78, Tryd.ntmps78
  go_wp2_with fail
  refine region_tail 8 (by kernel_rfl) (by kernel_rfl) ?_
  simp only [List.take_succ_cons, List.take_zero, List.drop_succ_cons, List.drop_zero]
  iterate 8 still_step
  refine still_tail_nil ?_
  generalize hwd : w.drew = W at *
  have hbd : Below B w W := by subst hwd; exact (Below.refl B w).drew
  clear hwd
  go_wp2_with fail
  refine hE.mono ?_
  rintro e w' ⟨v', rfl, ho, hb⟩
  go_wp2_with fail
  go_ret
  exact ⟨_, rfl, ho, hbd.trans hb⟩
/-- A slice that owns these bytes reads back as the string. -/
theorem own_stringZ (w : World) (base : Nat) (v : Value) (l : List UInt8) (h : w.ownsRow base 5 1 v l.length (l.map fun c => Value.int .u8 (c.toNat : Int))) :
    (convert 62 9 v).run Tryd.prog w = .ok (.string ⟨l.toArray⟩) w := by
  obtain ⟨_, ⟨rfl, h0⟩ | ⟨g, cap, cur, rfl, _, hg, hcap, _, hcs, htk⟩⟩ := h
  · obtain rfl : l = [] := List.eq_nil_of_length_eq_zero h0
    rw [run_convert_bytes_string w _ _ 5 none 0 0 Tryd.underlying62 Tryd.underlying5 Tryd.underlying9]
    rfl
  · refine run_convert_bytes_back w 62 9 5 ⟨g, 0, none⟩ cap l Tryd.underlying62 Tryd.underlying5 Tryd.underlying9 fun j hj => ?_
    have hx : cur[j]? = some (.int .u8 (l[j].toNat : Int)) := by
      have h1 : (l.map fun c => Value.int .u8 (c.toNat : Int))[j]? = some (.int .u8 (l[j].toNat : Int)) := by simp [hj]
      rw [← htk, List.getElem?_take, if_pos (by omega)] at h1
      simpa using h1
    unfold Addr.add
    by_cases e0 : j = 0
    · subst e0; simp [World.cell?, hg, hx]
    · simp [e0, World.cell?, hg, hx]
/-- The row of bytes that FormatFloat makes. -/
theorem make24 (w : World) : ∃ cs, (∀ w', w' = w → (Instr.makeSlice 62 (.int .i64 0) (.int .i64 24)).run Tryd.prog w' = .ok (.slice (some ⟨w.heap.size, 0, none⟩) 0 24) (w.alloc (.cells cs 5))) ∧
    (w.alloc (.cells cs 5)).ownsRow w.heap.size 5 1 (.slice (some ⟨w.heap.size, 0, none⟩) 0 24) 0 [] := by
  obtain ⟨i0, hi, hz0, hz1, hz2⟩ := info_parts infoU8
  have h := run_make (P := Tryd.prog) w 62 5 i0 (.int .u8 0) Tryd.underlying62 hi hz0 .i64 .i64 0 24 (by decide) (by decide) (by rw [hz2]; decide) (by decide)
  rw [hz1] at h
  exact ⟨_, fun w' e => by rw [e]; exact h, World.ownsRow_made w _ 24 (Nat.le_refl _) (by decide) (size_madeCells _ _)⟩
set_option maxRecDepth 100000 in
set_option maxHeartbeats 1000000 in
theorem fz_format (w : World) :
    Calls Tryd.prog 62 #[.float .f64 0, .int .u8 103, .int .i64 (-1), .int .i64 64] w fun e w' =>
      e = .returned (.string ⟨#[48]⟩) ∧ Below w.heap.size w w' := by
  obtain ⟨cs, hm0, ho⟩ := make24 w
  have hm := hm0 w rfl
  clear hm0
  have hF := fz_ftoa w.heap.size _ _ ho (by simp)
  have hb : Below w.heap.size w (w.alloc (.cells cs 5)) := (Below.refl _ _).alloc (Nat.le_refl _) _
  clear ho
  generalize hW : w.alloc (.cells cs 5) = W at *
  clear hW
  go_enter Tryd.func62, Tryd.ntmps62
  go_wp2_with fail
  refine hF.mono ?_
  rintro e w1 ⟨v', rfl, ho1, hb1⟩
  have hc := own_stringZ w1 _ v' [48] ho1
  go_wp2_with fail
  go_ret
  exact ⟨rfl, hb.trans hb1⟩
theorem fz_text (w : World) :
    Calls Tryd.prog 41 #[.float .f64 0, .int .u8 103, .int .i64 (-1), .int .i64 64] w fun e w' =>
      e = .returned (.string ⟨#[48]⟩) ∧ Below w.heap.size w w' := by
  have hF := fz_format w
  go_enter Tryd.func41, Tryd.ntmps41
  go_wp2_with fail
  refine hF.mono ?_
  rintro e w1 ⟨rfl, hb⟩
  go_wp2_with fail
  go_ret
  exact ⟨rfl, hb⟩
/-- Text of the negative zero. -/
theorem text_minus (w : World) :
    Calls Tryd.prog 18 #[.float .f64 9223372036854775808] w fun e w' => e = .returned (.string ⟨#[48]⟩) ∧ Below w.heap.size w w' := by
  have hT := fz_text w
  have h1 := isnan6 9223372036854775808
  have h2 := isinf1 9223372036854775808
  have h3 := isinfm 9223372036854775808
  have h4 := plain3 9223372036854775808
  rw [show isN 9223372036854775808 = false by decide] at h1
  rw [show infP 9223372036854775808 = false by decide] at h2
  rw [show infM 9223372036854775808 = false by decide] at h3
  rw [show plainF 9223372036854775808 = 0 by decide] at h4
  go_enter Tryd.func18, Tryd.ntmps18
  go_wp2_with (first
    | (go_at_call 39; with_reducible refine (h1 _).mono ?_; rintro e w' ⟨rfl, rfl⟩)
    | (go_at_call 40; with_reducible refine (h2 _).mono ?_; rintro e w' ⟨rfl, rfl⟩)
    | (go_at_call 40; with_reducible refine (h3 _).mono ?_; rintro e w' ⟨rfl, rfl⟩)
    | (go_at_call 42; with_reducible refine (h4 _).mono ?_; rintro e w' ⟨rfl, rfl⟩)
    | (go_at_call 41; with_reducible refine hT.mono ?_; rintro e w1 ⟨rfl, hb⟩))
  go_ret
  exact ⟨rfl, hb⟩
end Go.Proofs.YtpjbdejgamajlabDoor

