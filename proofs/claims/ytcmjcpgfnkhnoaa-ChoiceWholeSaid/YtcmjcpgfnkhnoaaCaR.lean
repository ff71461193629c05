/- choice.Rank. -/
import Derived.Test.YtcmjcpgfnkhnoaaCaS
import Derived.Test.YtcmjcpgfnkhnoaaCaT
import Derived.Laws.MakeOwn
namespace Go.Proofs.Ytcmjcpgfnkhnoaa
open Go.RowKit

theorem infoI64 : (Try.prog.info? 3).map (fun i => (i.zero, i.size, i.bytes)) = some (some (.int .i64 0), 1, 8) := by kernel_rfl
/-- The row that Shuffle makes. -/
theorem makeI (n : Nat) (hn : n ≤ 4096) (w : World) : ∃ cs, (∀ w', w' = w → (Instr.makeSlice 70 (.int .i64 (n : Int)) (.int .i64 (n : Int))).run Try.prog w' = .ok (.slice (some ⟨w.heap.size, 0, none⟩) n n) (w.alloc (.cells cs 3))) ∧
    RowI (w.alloc (.cells cs 3)) w.heap.size n (fun _ => 0) := by
  obtain ⟨i0, hi, hz0, hz1, hz2⟩ := info_parts infoI64
  have h := run_make (P := Try.prog) w 70 3 i0 (.int .i64 0) Try.underlying70 hi hz0 .i64 .i64 n n (by omega) (by omega) (by rw [hz2]; omega) (by omega)
  rw [hz1, Int.toNat_natCast, Nat.mul_one] at h
  refine ⟨_, fun w' e => by rw [e]; exact h, fun j hj => ?_⟩
  have hm : (madeCells (Value.int .i64 0).cells n)[j]? = some (.int .i64 0) := by
    unfold madeCells
    rw [Array.getElem?_map, Array.getElem?_range, if_pos hj]
    have e : (Value.int .i64 0).cells = #[.int .i64 0] := rfl
    rw [e]
    simp [Nat.mod_one]
  have hh : (w.alloc (.cells (madeCells (Value.int .i64 0).cells n) 3)).heap[w.heap.size]? = some (.cells (madeCells (Value.int .i64 0).cells n) 3) := by
    show (w.heap.push _)[w.heap.size]? = _
    rw [Array.getElem?_push_size]
  constructor
  · simp only [World.cell?, hh]
    exact hm
  · simp only [World.frozen?, hh]
    simp
def fillF (i j : Nat) : Nat := if j < i then j else 0
theorem Srt.below {k : Nat → Int} {f : Nat → Nat} {n : Nat} (h : Srt k f n n) {i j : Nat} (hi : i ≤ j) (hj : j < n) : k (f i) ≤ k (f j) := by
  rcases Nat.lt_or_eq_of_le hi with h1 | h1
  · exact h.2 i j h1 hj
  · subst h1; exact Int.le_refl _
set_option maxHeartbeats 2000000 in
set_option maxRecDepth 100000 in
theorem stable43 (fb g n : Nat) (k : Nat → Int) (f0 : Nat → Nat) (hn : n ≤ 19) (hf0 : ∀ q, q < n → f0 q < n) (w : World) (h : FoundAt w fb g n k) (hr : RowI w g n f0) :
    Calls Try.prog 43 #[.slice (some ⟨g, 0, none⟩) n n, .int .i64 (n : Int), .func (.func 39) #[] #[.pointer (some ⟨fb, 0, none⟩)]] w fun e w' => e = .returned (.tuple #[]) ∧ ∃ f, Srt k f n n ∧ RowI w' g n f ∧ Keep (fun x => x = g) w w' := by
  have HI := Lib.hid (insert47 fb g n k f0 (by omega) hf0 w h hr)
  have n1 : ¬ (20 : Int) ≤ n := by omega
  have n2 : ¬ (20 : Int) < n := by omega
  clear h hr
  go_enter Try.func43, Try.ntmps43
  go_wp2_with fail
  go_loopw [7, 8] (fun z b wr => z = .int .i64 0 ∧ b = .int .i64 20 ∧ wr = w) (fun _ _ _ => 0)
  case atStart => exact ⟨rfl, rfl, rfl⟩
  case round =>
    obtain ⟨rfl, rfl, rfl⟩ := hrel
    go_wp2_with (go_at_call 47; refine HI.out.mono ?_; rintro e w2 ⟨rfl, f, h1, h2, h3⟩)
    have H1 := Lib.hid h1
    have H2 := Lib.hid h2
    have H3 := Lib.hid h3
    clear h1 h2 h3 HI
    go_loopw [6] (fun b wr => b = .int .i64 20 ∧ wr = w2) (fun _ _ => 0)
    case atStart => exact ⟨rfl, rfl⟩
    case round =>
      obtain ⟨rfl, rfl⟩ := hrel
      go_wp2_with fail
      go_end0
      exact ⟨rfl, f, H1.out, H2.out, H3.out⟩
theorem sort38 (fb g n : Nat) (k : Nat → Int) (f0 : Nat → Nat) (hn : n ≤ 19) (hf0 : ∀ q, q < n → f0 q < n) (w : World) (h : FoundAt w fb g n k) (hr : RowI w g n f0) :
    Calls Try.prog 38 #[.slice (some ⟨g, 0, none⟩) n n, .func (.func 39) #[] #[.pointer (some ⟨fb, 0, none⟩)]] w fun e w' => e = .returned (.tuple #[]) ∧ ∃ f, Srt k f n n ∧ RowI w' g n f ∧ Keep (fun x => x = g) w w' := by
  have HI := Lib.hid (stable43 fb g n k f0 hn hf0 w h hr)
  clear h hr
  go_enter Try.func38, Try.ntmps38
  go_wp2_with (go_at_call 43; refine HI.out.mono ?_; rintro e w2 ⟨rfl, f, h1, h2, h3⟩)
  go_end0
  exact ⟨rfl, f, h1, h2, h3⟩
/-- The place of a candidate's load, by its index. -/
noncomputable def tkAt (cs : List Cand) (i : Nat) : Int := (cs[i]?.map tk).getD 0
set_option maxHeartbeats 2000000 in
set_option maxRecDepth 100000 in
theorem rank28 (a : Option Addr) (c : Nat) (cs : List Cand) (hl : cs.length ≤ 19) (hok : ∀ x ∈ cs, Small x) (w : World) (hf : IsCands w a c cs) :
    Calls Try.prog 28 #[.slice a cs.length c] w fun e w' => ∃ g f, e = .returned (.slice (some ⟨g, 0, none⟩) cs.length cs.length) ∧ Srt (tkAt cs) f cs.length cs.length ∧ RowI w' g cs.length f ∧ Below w.heap.size w w' ∧ g < w'.heap.size := by
  have HL := Lib.hid (loads_time a c cs (by omega) hok w hf)
  clear hf
  generalize hn : cs.length = n at *
  go_enter Try.func28, Try.ntmps28
  go_wp2_with (go_at_call 30; refine HL.out.mono ?_; rintro e w1 ⟨a1, ys, rfl, hyl, hys, ho, hb⟩; obtain ⟨cc, hmk, hri⟩ := makeI n (by omega) (w1.alloc (.cells #[.slice a1 n n] 74)))
  have hri2 := hri
  obtain ⟨fb, hfb⟩ : ∃ fb, fb = w1.heap.size := ⟨_, rfl⟩
  have hs1 : (w1.alloc (.cells #[.slice a1 n n] 74)).heap.size = w1.heap.size + 1 := World.size_alloc _ _
  have hbw := hb.size
  have hB0 : Below w.heap.size w ((w1.alloc (.cells #[.slice a1 n n] 74)).alloc (.cells cc 3)) := (hb.alloc hbw _).alloc (by rw [hs1]; omega) _
  have hFA : FoundAt ((w1.alloc (.cells #[.slice a1 n n] 74)).alloc (.cells cc 3)) fb (fb + 1) n (tkAt cs) := by
    have hrow := ((Row.new w1 74 #[.slice a1 n n]).alloc (.cells cc 3)).cell 0
    rw [← hfb] at hrow
    refine ⟨by omega, by rw [World.size_alloc, hs1]; omega, a1, hrow, fun i hi => ?_⟩
    have ho2 := (ho.alloc (.cells #[.slice a1 n n] 74)).alloc (.cells cc 3)
    rcases ho.2 with ⟨h1, h2⟩ | ⟨g, cap, cur, h1, _, hg, _⟩
    · omega
    · injection h1 with h1 h2 h3
      subst h1
      have hglt : g < w1.heap.size := (Array.getElem?_eq_some_iff.1 hg).1
      have hcap : cap = n := h3.symm
      subst hcap
      have hc := ho2.cellAt i (by omega)
      have hyi : (cellsF64 ys)[i]? = some (.float .f64 (ys[i]?.getD 0)) := by
        unfold cellsF64
        rw [List.getElem?_map, List.getElem?_eq_getElem (by omega)]; rfl
      rw [hyi] at hc
      refine ⟨g, 0, _, rfl, by omega, by rw [World.size_alloc, hs1]; omega, by rw [Nat.zero_add]; exact hc, ?_⟩
      exact hys i hi
  rw [hs1, ← hfb] at hri
  have HFA := Lib.hid hFA
  have HRI := Lib.hid hri
  have HB0 := Lib.hid hB0
  have hfw : w.heap.size ≤ fb := by omega
  have HSZ : Hid (((w1.alloc (.cells #[.slice a1 n n] 74)).alloc (.cells cc 3)).heap.size = fb + 2) := by
    show _ = _
    rw [World.size_alloc, hs1, hfb]
  rw [← hfb]
  clear hFA hri hri2 hB0 ho hys hyl hb hmk hs1 hbw HL hfb
  generalize (w1.alloc (.cells #[.slice a1 n n] 74)).alloc (.cells cc 3) = w2 at *
  go_loopw [13] (fun iv wr => ∃ i : Nat, i ≤ n ∧ iv = .int .i64 (i : Int) ∧ Hid (RowI wr (fb + 1) n (fillF i)) ∧ Hid (Keep (fun x => x = fb + 1) w2 wr)) (fun iv _ => n - (intOf iv).toNat)
  case atStart => exact ⟨0, Nat.zero_le _, rfl, (show Hid (RowI w2 (fb + 1) n (fillF 0)) from fun j hj => HRI.out j hj), Keep.refl _ _⟩
  case round =>
    obtain ⟨i, hi, rfl, HR, HK⟩ := hrel
    by_cases hlt : i < n
    · obtain ⟨ci, fi⟩ := HR.out i hlt
      have hlt' : (i : Int) < n := by omega
      go_wp2_with fail
      go_roundw
      case rel =>
        refine ⟨i + 1, hlt, by go_num, ?_, HK.out.trans (Keep.setCell (G := fun x => x = fb + 1) wr (p := ⟨fb + 1, i, none⟩) rfl _)⟩
        intro j hj
        have h : _ ∧ _ := HR.out.set hlt i j hj
        simp only at h
        have e : (if j = i then i else fillF i j) = fillF (i + 1) j := by
          unfold fillF
          by_cases e1 : j = i
          · subst e1; rw [if_pos rfl, if_pos (by omega)]
          · by_cases e2 : j < i
            · rw [if_neg e1, if_pos e2, if_pos (by omega)]
            · rw [if_neg e1, if_neg e2, if_neg (by omega)]
        rw [e] at h
        exact h
      case measure => simp [intOf]; omega
    · have e0 : n = i := by omega
      subst e0
      have HR2 : Hid (RowI wr (fb + 1) n id) := by
        intro j hj
        have h := HR.out j hj
        rw [show fillF n j = j from if_pos hj] at h
        exact h
      have HSO := Lib.hid (sort38 fb (fb + 1) n (tkAt cs) id hl (fun _ h => h) wr (HFA.out.keep HK.out) HR2.out)
      have hne : ¬ ((n : Int) < n) := by omega
      clear HR HR2 hn
      go_wp2_with (go_at_call 38; refine HSO.out.mono ?_; rintro e w5 ⟨rfl, f, h1, h2, h3⟩)
      go_ret
      have hk5 := HK.out.trans h3
      refine ⟨fb + 1, f, rfl, h1, h2, HB0.out.trans (hk5.bel (fun k hk => by rw [hk]; omega) (by have := HSZ.out; omega)), by have := hk5.size; have := HSZ.out; omega⟩
end Go.Proofs.Ytcmjcpgfnkhnoaa
