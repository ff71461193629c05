/- draws: Push on an empty Draws; Left, Short; awake. -/
import Derived.Test.YtbgppkjcmgljnaaDrA
import Derived.Lib.Hide
namespace Go.Proofs.Ytbgppkjcmgljnaa
open Go.RowKit

theorem infoU64 : (Try.prog.info? 34).map (fun i => (i.zero, i.size, i.bytes)) = some (some (.int .u64 0), 1, 8) := by kernel_rfl
def u64s (ys : List Nat) : List Value := ys.map fun (x : Nat) => Value.int .u64 (x : Int)
theorem u64s_one (ys : List Nat) : ∀ u ∈ u64s ys, u.oneCell' = true := by
  intro u hu
  unfold u64s at hu
  rw [List.mem_map] at hu
  obtain ⟨x, _, rfl⟩ := hu
  rfl
/-- Where the numbers lie that are handed in. -/
def SrcAt (w : World) (a : Option Addr) (c : Nat) (ys : List Nat) : Prop :=
  (a = none ∧ ys = [] ∧ c = 0) ∨ ∃ ad, a = some ad ∧ ∀ (j : Nat) x, ys[j]? = some x → w.cell? (ad.add j) = some (.int .u64 (x : Int))
/-- An empty Draws. -/
structure FreshAt (w : World) (b : Nat) : Prop where
  lt : b < w.heap.size
  c0 : w.cell? ⟨b, 0, none⟩ = some (.slice none 0 0)
  c1 : w.cell? ⟨b, 1, none⟩ = some (.int .i64 0)
  f0 : w.frozen? ⟨b, 0, none⟩ = false
  f1 : w.frozen? ⟨b, 1, none⟩ = false
/-- What has been pushed is there. -/
theorem pushed {w w1 : World} {b : Nat} {v : Value} {ys : List Nat} (h : FreshAt w b) (hle : ∀ x ∈ ys, x < 18446744073709551616) (hown : w1.ownsRow w.heap.size 34 1 v ys.length (u64s ys)) (hg : w.grownBy w1 none) :
    DrawsAt (w1.setCell ⟨b, 0, none⟩ v) b w1.heap.size ys 0 ∧ ∀ B, B ≤ b → Below B w (w1.setCell ⟨b, 0, none⟩ v) := by
  obtain ⟨hlt, c0, c1, f0, f1⟩ := h
  have hb : w1.heap[b]? = w.heap[b]? := hg.block b hlt (fun e => by cases e)
  have k0 : w1.cell? ⟨b, 0, none⟩ = some (.slice none 0 0) := by rw [← c0]; simp only [World.cell?, hb]
  have k1 : w1.cell? ⟨b, 1, none⟩ = some (.int .i64 0) := by rw [← c1]; simp only [World.cell?, hb]
  have g0 : w1.frozen? ⟨b, 0, none⟩ = false := by rw [← f0]; simp only [World.frozen?, hb]
  have g1 : w1.frozen? ⟨b, 1, none⟩ = false := by rw [← f1]; simp only [World.frozen?, hb]
  have hs : w.heap.size ≤ w1.heap.size := hg.size
  refine ⟨⟨?_, ?_, by simp, ?_, ?_, ?_, hle⟩, fun B hB => ((Below.refl B w).grown hg (Nat.le_of_lt (Nat.lt_of_le_of_lt hB hlt)) (fun k hk => by cases hk)).setCell (p := ⟨b, 0, none⟩) hB _⟩
  · simp; omega
  · rcases hown.2 with ⟨rfl, h0⟩ | ⟨g, cap, cur, rfl, hbg, hgh, hn, _, _, _⟩
    · exact ⟨none, 0, by rw [World.cell?_setCell_same _ _ _ k0, h0], .inl (List.eq_nil_of_length_eq_zero h0)⟩
    · refine ⟨some ⟨g, 0, none⟩, cap, by rw [World.cell?_setCell_same _ _ _ k0], .inr ⟨g, 0, rfl, by omega, ?_, hn, fun j x hx => ?_⟩⟩
      · exact (Array.getElem?_eq_some_iff.1 hgh).1
      · rw [World.cell?_setCell_other _ _ _ _ (by intro e; injection e with e1 e2; omega)]
        have := hown.cells (g := g) rfl j (.int .u64 (x : Int)) (by unfold u64s; rw [List.getElem?_map, hx]; rfl)
        rwa [Addr.add_mid] at this
  · rw [World.cell?_setCell_other _ _ _ _ (by simp)]; exact k1
  · rw [World.frozen?_setCell]; exact g0
  · rw [World.frozen?_setCell]; exact g1
set_option maxHeartbeats 1000000 in
theorem push7 (b c : Nat) (a : Option Addr) (ys : List Nat) (hk : ys.length ≤ 1000) (hle : ∀ x ∈ ys, x < 18446744073709551616) (w : World) (h : FreshAt w b) (hsrc : SrcAt w a c ys) :
    Calls Try.prog 7 #[.pointer (some ⟨b, 0, none⟩), .slice a ys.length c] w fun e w' => e = .returned (.tuple #[]) ∧ (DrawsAt w' b w'.heap.size ys 0 ∧ ∀ B, B ≤ b → Below B w w') := by
  obtain ⟨i0, hi, hz0, hz1, hz2⟩ := info_parts infoU64
  have HF := Lib.hid h
  obtain ⟨hlt, c0, c1, f0, f1⟩ := h
  have ho : w.ownsRow w.heap.size 34 1 (.slice none 0 0) 0 [] := World.ownsRow_nil _ _ _ _
  have hb : ∀ w1, w.grownBy w1 none → w1.cell? ⟨b, 0, none⟩ = some (.slice none 0 0) ∧ w1.frozen? ⟨b, 0, none⟩ = false := fun w1 hg => by
    have hb : w1.heap[b]? = w.heap[b]? := hg.block b hlt (fun e => by cases e)
    exact ⟨by rw [← c0]; simp only [World.cell?, hb], by rw [← f0]; simp only [World.frozen?, hb]⟩
  have HB := Lib.hid hb
  clear hb
  rcases hsrc with ⟨rfl, rfl, rfl⟩ | ⟨ad, rfl, hc⟩
  · go_enter Try.func7, Try.ntmps7
    go_wp2_with (at_builtin; refine wpList_append_own_none rfl _ _ 22 rfl w.heap.size 34 i0 1 Try.underlying22 hi _ _ _ rfl ho rfl ?_)
    go_wp2_with fail
    go_end0
    have hp := pushed (w1 := w) (v := .slice none 0 0) (ys := []) HF.out hle ho ⟨rfl, rfl, rfl, Nat.le_refl _, fun _ _ _ => rfl⟩
    exact ⟨rfl, by simpa using hp⟩
  · have hnews : ∀ j u, (u64s ys)[j]? = some u → w.cell? (ad.add j) = some u := fun j u hu => by
      unfold u64s at hu
      rw [List.getElem?_map, Option.map_eq_some_iff] at hu
      obtain ⟨x, hx, rfl⟩ := hu
      exact hc j x hx
    clear hc
    go_enter Try.func7, Try.ntmps7
    go_wp2_with (at_builtin; refine wpList_append_own _ rfl _ _ 22 rfl w.heap.size 34 i0 (.int .u64 0) 1 8 Try.underlying22 hi hz0 hz1 hz2 rfl (by decide) _ _ _ rfl ho ad ys.length c (u64s ys) rfl (by simp [u64s]) hnews (u64s_one ys) (by unfold maxLen; omega) (by omega) (Nat.le_refl _) ?_)
    intro v' w1 hown' hgrow _
    obtain ⟨k0, kf⟩ := HB.out w1 hgrow
    obtain ⟨a', c', rfl⟩ : ∃ a' c', v' = .slice a' ys.length c' := by
      rcases hown'.2 with ⟨e, h0⟩ | ⟨g', cap, cur, e, _⟩
      · exact ⟨none, 0, by rw [h0]; exact e⟩
      · exact ⟨_, _, e⟩
    have hp := pushed HF.out hle hown' hgrow
    have hp := Lib.hid hp
    clear hown' hgrow
    go_wp2_with fail
    go_end0
    exact ⟨rfl, by simpa using hp.out⟩
theorem short9 (b M : Nat) (xs : List Nat) (s : Nat) (w : World) (h : DrawsAt w b M xs s) :
    Calls Try.prog 9 #[.pointer (some ⟨b, 0, none⟩)] w fun e w' => e = .returned (.int .i64 (s : Int)) ∧ w' = w := by
  have c1 := h.short
  clear h
  go_enter Try.func9, Try.ntmps9
  go_wp2_with fail
  go_ret
  exact ⟨rfl, rfl⟩
theorem left11 (b M : Nat) (xs : List Nat) (s : Nat) (w : World) (h : DrawsAt w b M xs s) :
    Calls Try.prog 11 #[.pointer (some ⟨b, 0, none⟩)] w fun e w' => e = .returned (.int .i64 (xs.length : Int)) ∧ w' = w := by
  obtain ⟨a, c, c0, _⟩ := h.cells
  clear h
  go_enter Try.func11, Try.ntmps11
  go_wp2_with fail
  go_ret
  exact ⟨rfl, rfl⟩
theorem new6 (w : World) :
    Calls Try.prog 6 #[] w fun e w' => e = .returned (.pointer (some ⟨w.heap.size, 0, none⟩)) ∧ (FreshAt w' w.heap.size ∧ Below w.heap.size w w') := by
  have hb : ∀ v, Below w.heap.size w (w.alloc v) := fun v => (Below.refl _ _).alloc (Nat.le_refl _) _
  go_enter Try.func6, Try.ntmps6
  go_wp2_with fail
  go_ret
  exact ⟨rfl, ⟨by simp, by simp, by simp, by simp, by simp⟩, hb _⟩
theorem cell_u64 (w : World) (T : TypeId) (x : Nat) (z : Int) (hz : z = (x : Int)) : SrcAt (w.alloc (.cells #[.int .u64 z] T)) (some ⟨w.heap.size, 0, none⟩) 1 [x] := by
  subst hz
  refine .inr ⟨_, rfl, fun j y hy => ?_⟩
  rw [Addr.add_mid]
  match j, hy with
  | 0, hy =>
    obtain rfl : x = y := by simpa using hy
    simp
  | j + 1, hy => simp at hy
theorem FreshAt.alloc {w : World} {b : Nat} (h : FreshAt w b) (o : Obj) : FreshAt (w.alloc o) b := by
  obtain ⟨hlt, c0, c1, f0, f1⟩ := h
  have hb : (w.alloc o).heap[b]? = w.heap[b]? := by
    show (w.heap.push o)[b]? = _
    rw [Array.getElem?_push_lt hlt, Array.getElem?_eq_getElem hlt]
  refine ⟨by simp; omega, ?_, ?_, ?_, ?_⟩
  · rw [← c0]; simp only [World.cell?, hb]
  · rw [← c1]; simp only [World.cell?, hb]
  · rw [← f0]; simp only [World.frozen?, hb]
  · rw [← f1]; simp only [World.frozen?, hb]
theorem push_one (b x : Nat) (z : Int) (hz : z = (x : Int)) (hx : x < 18446744073709551616) (w1 : World) (h : FreshAt w1 b) (T : TypeId) :
    Calls Try.prog 7 #[.pointer (some ⟨b, 0, none⟩), .slice (some ⟨w1.heap.size, 0, none⟩) 1 1] (w1.alloc (.cells #[.int .u64 z] T)) fun e w' =>
      e = .returned (.tuple #[]) ∧ (DrawsAt w' b w'.heap.size [x] 0 ∧ Below b w1 w') := by
  have hb : Below b w1 (w1.alloc (.cells #[.int .u64 z] T)) := (Below.refl _ _).alloc (Nat.le_of_lt h.lt) _
  refine (push7 b 1 (some ⟨w1.heap.size, 0, none⟩) [x] (by simp) (by simpa using hx) (w1.alloc (.cells #[.int .u64 z] T)) (h.alloc _) (cell_u64 w1 T x z hz)).mono ?_
  rintro e w' ⟨rfl, h1, h2⟩
  exact ⟨rfl, h1, hb.trans (h2 b (Nat.le_refl _))⟩
theorem pick_one (b x M : Nat) (hp : pickN [x] 10 = 5) (w : World) (h : DrawsAt w b M [x] 0) :
    Calls Try.prog 12 #[.pointer (some ⟨b, 0, none⟩), .int .i64 10] w fun e w' => e = .returned (.int .i64 5) ∧ (DrawsAt w' b M [] 0 ∧ Touch b w w') := by
  have q := pick12 b M 10 (by decide) (by decide) [x] 0 (by decide) w h
  rw [hp, lackN_cons] at q
  exact q
theorem pick_none (b M : Nat) (w : World) (h : DrawsAt w b M [] 0) :
    Calls Try.prog 12 #[.pointer (some ⟨b, 0, none⟩), .int .i64 10] w fun e w' => e = .returned (.int .i64 0) ∧ (DrawsAt w' b M [] 1 ∧ Touch b w w') := by
  have q := pick12 b M 10 (by decide) (by decide) [] 0 (by decide) w h
  rw [show pickN [] 10 = 0 by decide +kernel, lackN_nil] at q
  exact q
theorem left_one (b x s M : Nat) (w : World) (h : DrawsAt w b M [x] s) :
    Calls Try.prog 11 #[.pointer (some ⟨b, 0, none⟩)] w fun e w' => e = .returned (.int .i64 1) ∧ w' = w := left11 b M [x] s w h
theorem short_one (b M : Nat) (w : World) (h : DrawsAt w b M [] 1) :
    Calls Try.prog 9 #[.pointer (some ⟨b, 0, none⟩)] w fun e w' => e = .returned (.int .i64 1) ∧ w' = w := short9 b M [] 1 w h
set_option maxHeartbeats 1000000 in
set_option maxRecDepth 100000 in
theorem awake14 (w : World) : Calls Try.prog 5 #[] w fun e w' => e = .returned (.bool true) ∧ Below w.heap.size w w' := by
  obtain ⟨x, hz, hx, hpx⟩ : ∃ x : Nat, (9223372036854775808 : Int) = (x : Int) ∧ x < 18446744073709551616 ∧ pickN [x] 10 = 5 := ⟨9223372036854775808, by simp, by decide, by decide +kernel⟩
  have HP := Lib.hid (fun b w1 h T => push_one b x _ hz hx w1 h T)
  have HX := Lib.hid (fun b M w h => pick_one b x M hpx w h)
  clear hz hx hpx
  go_enter Try.func5, Try.ntmps5
  go_wp2_with fail
  refine (new6 w).mono ?_
  rintro e w1 ⟨rfl, hf, hb1⟩
  have HF := Lib.hid hf
  clear hf
  go_wp2_with fail
  with_reducible refine (HP.out _ w1 HF.out _).mono ?_
  rintro e w2 ⟨rfl, hd, hb2⟩
  have HD := Lib.hid hd
  clear hd HF HP
  go_wp2_with fail
  with_reducible refine (calls_flop (left_one _ x 0 _ w2 HD.out)).mono ?_
  rintro e w' ⟨rfl, rfl⟩
  go_wp2_with fail
  with_reducible refine (HX.out _ _ w2 HD.out).mono ?_
  rintro e w3 ⟨rfl, hd3, ht3⟩
  have HD3 := Lib.hid hd3
  clear hd3 HD HX
  go_wp2_with fail
  with_reducible refine (pick_none _ _ w3 HD3.out).mono ?_
  rintro e w4 ⟨rfl, hd4, ht4⟩
  have HD4 := Lib.hid hd4
  clear hd4 HD3
  go_wp2_with fail
  with_reducible refine (calls_flop (short_one _ _ w4 HD4.out)).mono ?_
  rintro e w' ⟨rfl, rfl⟩
  go_wp2_with fail
  go_ret
  have hbb := Nat.le_refl w.heap.size
  exact ⟨rfl, hb1.trans (hb2.trans ((ht3.below _ hbb).trans (ht4.below _ hbb)))⟩
end Go.Proofs.Ytbgppkjcmgljnaa
