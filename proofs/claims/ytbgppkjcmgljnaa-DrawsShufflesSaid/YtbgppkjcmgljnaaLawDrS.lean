/- The walk of the statement DrawsShuffles. -/
import Derived.Test.YtbgppkjcmgljnaaDrD
import Derived.Test.YtbgppkjcmgljnaaLawDrT
namespace Go.Proofs.Ytbgppkjcmgljnaa
open Go.RowKit

/-- A row of bools. -/
def RowB (w : World) (sb n : Nat) (g : Nat → Bool) : Prop := ∀ j, j < n → w.cell? ⟨sb, j, none⟩ = some (.bool (g j)) ∧ w.frozen? ⟨sb, j, none⟩ = false
theorem RowB.set {w : World} {sb n : Nat} {g : Nat → Bool} (h : RowB w sb n g) {k : Nat} (v : Bool) (hk : k < n) : RowB (w.setCell ⟨sb, k, none⟩ (.bool v)) sb n (fun j => if j = k then v else g j) := fun j hj => by
  rw [World.frozen?_setCell]
  refine ⟨?_, (h j hj).2⟩
  show _ = some (Value.bool (if j = k then v else g j))
  by_cases e : j = k
  · subst e; rw [World.cell?_setCell_same _ _ _ (h j hj).1, if_pos rfl]
  · rw [World.cell?_setCell_other _ _ _ _ (by intro e2; injection e2 with _ e3; exact e e3.symm), if_neg e]; exact (h j hj).1
theorem RowI.other {w : World} {lb n : Nat} {f : Nat → Nat} (h : RowI w lb n f) {sb k : Nat} (hne : lb ≠ sb) (v : Value) : RowI (w.setCell ⟨sb, k, none⟩ v) lb n f := fun j hj => by
  rw [World.frozen?_setCell, World.cell?_setCell_other _ _ _ _ (by intro e2; injection e2 with e3 _; exact hne e3.symm)]
  exact h j hj
theorem infoB : (Try.prog.info? 4).map (fun i => (i.zero, i.size, i.bytes)) = some (some (.bool false), 1, 1) := by kernel_rfl
theorem makeB (n : Nat) (hn : n ≤ 4096) (w : World) : ∃ cs, (∀ w', w' = w → (Instr.makeSlice 31 (.int .i64 (n : Int)) (.int .i64 (n : Int))).run Try.prog w' = .ok (.slice (some ⟨w.heap.size, 0, none⟩) n n) (w.alloc (.cells cs 4))) ∧
    RowB (w.alloc (.cells cs 4)) w.heap.size n (fun _ => false) := by
  obtain ⟨i0, hi, hz0, hz1, hz2⟩ := info_parts infoB
  have h := run_make (P := Try.prog) w 31 4 i0 (.bool false) Try.underlying31 hi hz0 .i64 .i64 n n (by omega) (by omega) (by rw [hz2]; omega) (by omega)
  rw [hz1, Int.toNat_natCast, Nat.mul_one] at h
  refine ⟨_, fun w' e => by rw [e]; exact h, fun j hj => ?_⟩
  have hm : (madeCells (Value.bool false).cells n)[j]? = some (.bool false) := by
    unfold madeCells
    rw [Array.getElem?_map, Array.getElem?_range, if_pos hj]
    have e : (Value.bool false).cells = #[.bool false] := rfl
    rw [e]
    simp [Nat.mod_one]
  have hh : (w.alloc (.cells (madeCells (Value.bool false).cells n) 4)).heap[w.heap.size]? = some (.cells (madeCells (Value.bool false).cells n) 4) := by
    show (w.heap.push _)[w.heap.size]? = _
    rw [Array.getElem?_push_size]
  constructor
  · simp only [World.cell?, hh]
    exact hm
  · simp only [World.frozen?, hh]
    simp
/-- The numbers that have come. -/
def seenF (f : Nat → Nat) (i k : Nat) : Bool := (List.range i).any fun a => f a == k
theorem seenF_no {f : Nat → Nat} {n i : Nat} (h : Inj f n) (hi : i < n) : seenF f i (f i) = false := by
  rw [seenF, List.any_eq_false]
  intro a ha
  rw [List.mem_range] at ha
  rw [beq_iff_eq]
  intro e
  have := h.2 a i (by omega) hi e
  omega
theorem seenF_succ (f : Nat → Nat) (i k : Nat) : (if k = f i then true else seenF f i k) = seenF f (i + 1) k := by
  unfold seenF
  rw [List.range_succ, List.any_append]
  by_cases e : k = f i
  · rw [if_pos e]; simp [e]
  · rw [if_neg e]; simp [Ne.symm e]
theorem clampI (n : Int) : ∃ N : Nat, N ≤ 100 ∧ (if (if (100 : Int) < n then (100 : Int) else n) > 0 then (if (100 : Int) < n then (100 : Int) else n) else 0) = (N : Int) := by
  by_cases h : (100 : Int) < n
  · exact ⟨100, Nat.le_refl _, by rw [if_pos h]; rfl⟩
  · rw [if_neg h]
    by_cases h0 : n > 0
    · exact ⟨n.toNat, by omega, by rw [if_pos h0]; omega⟩
    · exact ⟨0, by omega, by rw [if_neg h0]; rfl⟩

set_option maxHeartbeats 2000000 in
set_option maxRecDepth 100000 in
theorem lawDrawsShuffles (a : Option Addr) (c : Nat) (xs : List Nat) (n : Int) (w : World) (hx : IsU64s w a c xs) :
    Calls Try.prog 4 #[.slice a xs.length c, .int .i64 n] w fun e w' => e = .returned (.bool true) ∧ Below w.heap.size w w' := by
  have HA := Lib.hid (awake14 w)
  have HX := Lib.hid hx
  obtain ⟨k, hk9, hkl, hkt, hmin⟩ := take_min xs 100
  have hmin : (if (100 : Int) < (xs.length : Int) then (100 : Int) else (xs.length : Int)) = (k : Int) := hmin
  obtain ⟨N, hN, hcl⟩ := clampI n
  obtain ⟨mn, hmn⟩ : ∃ mn : Int, (if (100 : Int) < n then (100 : Int) else n) = mn := ⟨_, rfl⟩
  rw [hmn] at hcl
  have hle : ∀ x ∈ xs.take k, x < 18446744073709551616 := fun x h => hx.2 x (List.mem_of_mem_take h)
  have hkc : k ≤ c := by
    rcases hx.1 with ⟨_, h, _⟩ | ⟨_, _, h, _⟩
    · rw [h] at hkl; simp at hkl; omega
    · omega
  have HL := Lib.hid hle
  have HT := Lib.hid hkt
  clear hle hkt hx
  go_enter Try.func4, Try.ntmps4
  go_wp2_with fail
  refine HA.out.mono ?_
  rintro e w1 ⟨rfl, hb1⟩
  go_wp2_with fail
  refine (new6 w1).mono ?_
  rintro e w2 ⟨rfl, hf, hb2⟩
  have HF := Lib.hid hf
  clear hf
  have HP := push7 w1.heap.size c a (xs.take k) (by rw [HT.out]; omega) HL.out w2 HF.out (HX.out.src (hb1.trans (hb2.mono hb1.size)) k)
  rw [HT.out] at HP
  have HP := Lib.hid HP
  have hkl' : (k : Int) ≤ xs.length := by omega
  go_wp2_with fail
  refine HP.out.mono ?_
  rintro e w3 ⟨rfl, hd, hb3⟩
  have hbB : Below w.heap.size w w3 := hb1.trans (((hb2.trans (hb3 _ (Nat.le_refl _)))).mono hb1.size)
  have hz1 := hb1.size
  have hbl := hd.lt
  obtain ⟨cs, hmk0, hrb⟩ := makeB N (by omega) w3
  have hmk := hmk0 w3 rfl
  clear hmk0
  have hd4 := hd.alloc (.cells cs 4)
  have HB4 := Lib.hid (hbB.alloc hbB.size (.cells cs 4))
  have hzz : (w3.alloc (.cells cs 4)).heap.size = w3.heap.size + 1 := by simp
  clear hd hb1 hb2 hb3 HP HF HL hmin hkl' hkc hkl hk9 hbB
  generalize hw4 : w3.alloc (.cells cs 4) = w4 at *
  have HRB := Lib.hid hrb
  have HD4 := Lib.hid hd4
  clear hrb hd4 hw4
  obtain ⟨b, hb⟩ : ∃ b, b = w1.heap.size := ⟨_, rfl⟩
  obtain ⟨sb, hsb⟩ : ∃ sb, sb = w3.heap.size := ⟨_, rfl⟩
  have HSH := Lib.hid (shuffle10 w1.heap.size w3.heap.size N hN (xs.take k) 0 (by decide) w4 ⟨HD4.out.lt, by
    obtain ⟨a', c', h1, h2⟩ := HD4.out.cells
    exact ⟨a', c', h1, h2⟩, by omega, HD4.out.short, HD4.out.f0, HD4.out.f1, HD4.out.le⟩)
  go_wp2_with fail
  refine HSH.out.mono ?_
  rintro e w5 ⟨f, rfl, hri, hinj, hk5⟩
  have hne : w3.heap.size ≠ w1.heap.size := by omega
  have HRB5 : Hid (RowB w5 w3.heap.size N (seenF f 0)) := by
    intro j hj
    rw [hk5.cell _ _ hne (by omega), hk5.frozen _ _ (by omega)]
    exact HRB.out j hj
  have HB5 := Lib.hid (HB4.out.trans (hk5.below w.heap.size hz1))
  have hl4 : w3.heap.size < w4.heap.size := by omega
  have hl5 : w.heap.size ≤ w3.heap.size := by omega
  have HRI := Lib.hid hri
  have HINJ := Lib.hid hinj
  clear hri hinj hk5 HSH HRB HD4 HB4 hmk hzz hb hsb hne hbl hz1 hcl hmn
  go_wp2_with fail
  generalize w4.heap.size = lb at *
  generalize w3.heap.size = sb at *
  go_loopw [32] (fun iv wr => ∃ i : Nat, i ≤ N ∧ iv = .int .i64 (i : Int) ∧ Hid (RowB wr sb N (seenF f i)) ∧ Hid (RowI wr lb N f) ∧ Hid (Below w.heap.size w wr)) (fun iv _ => N - (intOf iv).toNat)
  case atStart => exact ⟨0, Nat.zero_le _, rfl, HRB5, HRI, HB5⟩
  case round =>
    clear HRB5 HRI HB5
    obtain ⟨i, hi, rfl, HRB, HRI, HB⟩ := hrel
    by_cases hlt : i < N
    · have ci := (HRI.out i hlt).1
      have hfn := HINJ.out.1 i hlt
      obtain ⟨cb, fb⟩ := HRB.out (f i) hfn
      have hno := seenF_no HINJ.out hlt
      rw [hno] at cb
      have hlt' : (i : Int) < N := by omega
      have hfn' : (f i : Int) < N := by omega
      have HE := Lib.hid (fun k => seenF_succ f i k)
      have HS := Lib.hid (HRB.out.set true hfn)
      generalize f i = v at *
      clear hno
      go_wp2_with fail
      go_roundw
      case rel =>
        refine ⟨i + 1, hlt, by go_num, ?_, HRI.out.other (by omega) _, HB.out.setCell (p := ⟨sb, v, none⟩) hl5 _⟩
        intro j hj
        have h : _ ∧ _ := HS.out j hj
        simp only [HE.out] at h
        exact h
      case measure => simp [intOf]; omega
    · obtain rfl : i = N := by omega
      go_wp2_with fail
      go_ret
      exact ⟨by simp, HB.out⟩
end Go.Proofs.Ytbgppkjcmgljnaa
