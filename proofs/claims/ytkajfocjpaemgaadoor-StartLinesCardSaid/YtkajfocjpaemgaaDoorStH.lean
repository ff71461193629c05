/- The fixed facts of start. -/
import Derived.Test.YtkajfocjpaemgaaDoorStC
import Derived.Test.YtkajfocjpaemgaaDoorStG
namespace Go.Proofs.YtkajfocjpaemgaaDoor
open Go.RowKit

/-- What start's statements ask of the world: the library's variables and the table of words. -/
def LaidS (w : World) : Prop := MaxL w ∧ Syn w ∧ Pow w ∧ Reas w
theorem LaidS.below {w w' : World} (h : LaidS w) (hb : Below w.heap.size w w') : LaidS w' :=
  ⟨h.1.below hb, h.2.1.below hb, h.2.2.1.below hb, h.2.2.2.below hb⟩
theorem preq_get : reqP [71, 69, 84, 32, 47, 97, 63, 98, 32, 72, 84, 84, 80, 47, 49, 46, 49] = some ([71, 69, 84], [47, 97, 63, 98]) := by decide +kernel
theorem pst_200 : stP [72, 84, 84, 80, 47, 49, 46, 49, 32, 50, 48, 48] = some (200, []) := by decide +kernel
theorem path_a : pathL [47, 97, 63, 98] = [47, 97] := by decide +kernel
theorem idem_get : idemB [71, 69, 84] = true := by decide +kernel
set_option maxHeartbeats 4000000 in
set_option maxRecDepth 100000 in
theorem awake7 (w : World) (hw : LaidS w) :
    Calls Tryd.prog 7 #[] w fun e w' => e = .returned (.bool true) ∧ Below w.heap.size w w' := by
  have HP := Lib.hid (preq9 ⟨#[71, 69, 84, 32, 47, 97, 63, 98, 32, 72, 84, 84, 80, 47, 49, 46, 49]⟩ (by decide) w hw.1)
  rw [show (⟨#[71, 69, 84, 32, 47, 97, 63, 98, 32, 72, 84, 84, 80, 47, 49, 46, 49]⟩ : ByteArray).data.toList = [71, 69, 84, 32, 47, 97, 63, 98, 32, 72, 84, 84, 80, 47, 49, 46, 49] from rfl, preq_get] at HP
  have HP2 : Hid (Calls Tryd.prog 9 #[.string ⟨#[71, 69, 84, 32, 47, 97, 63, 98, 32, 72, 84, 84, 80, 47, 49, 46, 49]⟩] w fun e w' => e = .returned (.tuple #[.agg #[.string ⟨#[71, 69, 84]⟩, .string ⟨#[47, 97, 63, 98]⟩], .int .i64 0]) ∧ Below w.heap.size w w') := HP.out
  have HS : Hid (∀ W, LaidS W → Calls Tryd.prog 13 #[.string ⟨#[72, 84, 84, 80, 47, 49, 46, 49, 32, 50, 48, 48]⟩] W fun e w' => e = .returned (.tuple #[.agg #[.int .i64 200, .string ⟨#[]⟩], .int .i64 0]) ∧ Below W.heap.size W w') := fun W hW => by
    have h := pst13 ⟨#[72, 84, 84, 80, 47, 49, 46, 49, 32, 50, 48, 48]⟩ (by decide) W hW.1 hW.2.1
    rw [show (⟨#[72, 84, 84, 80, 47, 49, 46, 49, 32, 50, 48, 48]⟩ : ByteArray).data.toList = [72, 84, 84, 80, 47, 49, 46, 49, 32, 50, 48, 48] from rfl, pst_200] at h
    exact h
  have HPA : Hid (∀ W, LaidS W → Calls Tryd.prog 20 #[.agg #[.string ⟨#[71, 69, 84]⟩, .string ⟨#[47, 97, 63, 98]⟩]] W fun e w' => e = .returned (.string ⟨#[47, 97]⟩) ∧ Below W.heap.size W w') := fun W hW => by
    have h := path20 [71, 69, 84] [47, 97, 63, 98] (by decide) W hW.1
    rw [path_a] at h
    exact h
  have HI : Hid (∀ W, Calls Tryd.prog 18 #[.agg #[.string ⟨#[71, 69, 84]⟩, .string ⟨#[47, 97, 63, 98]⟩]] W fun e w' => e = .returned (.bool true) ∧ Below W.heap.size W w') := fun W => by
    have h := idem18 [71, 69, 84] [47, 97, 63, 98] W
    rw [idem_get] at h
    exact h
  have HR : Hid (∀ W, LaidS W → Calls Tryd.prog 22 #[.int .i64 502] W fun e w' => e = .returned (.string ⟨#[66, 97, 100, 32, 71, 97, 116, 101, 119, 97, 121]⟩) ∧ Below W.heap.size W w') := fun W hW => by
    have h := reason22 502 W hW.2.2.2
    rw [reason_502] at h
    exact h
  have HW := Lib.hid hw
  clear hw HP
  go_enter Tryd.func7, Tryd.ntmps7
  go_wp2_with fail
  refine HP2.out.mono ?_
  rintro e w1 ⟨rfl, hb1⟩
  have W1 : Hid (LaidS w1) := HW.out.below hb1
  clear HW HP2
  go_wp2_with fail
  have L1 := below_alloc w1 (.cells #[.string ⟨#[71, 69, 84]⟩, .string ⟨#[47, 97, 63, 98]⟩] 25)
  have c0 : (w1.alloc (.cells #[.string ⟨#[71, 69, 84]⟩, .string ⟨#[47, 97, 63, 98]⟩] 25)).cell? ⟨w1.heap.size, 0, none⟩ = some (.string ⟨#[71, 69, 84]⟩) := by simp
  have c1 : (w1.alloc (.cells #[.string ⟨#[71, 69, 84]⟩, .string ⟨#[47, 97, 63, 98]⟩] 25)).cell? ⟨w1.heap.size, 1, none⟩ = some (.string ⟨#[47, 97, 63, 98]⟩) := by simp
  have z1 : w1.heap.size < (w1.alloc (.cells #[.string ⟨#[71, 69, 84]⟩, .string ⟨#[47, 97, 63, 98]⟩] 25)).heap.size := by simp
  have W2 : Hid (LaidS (w1.alloc (.cells #[.string ⟨#[71, 69, 84]⟩, .string ⟨#[47, 97, 63, 98]⟩] 25))) := W1.out.below L1
  have b2 := hb1.trans (L1.mono hb1.size)
  clear L1 W1 hb1
  generalize World.alloc w1 _ = w2 at *
  generalize w1.heap.size = B at *
  refine (HS.out w2 W2.out).mono ?_
  rintro e w3 ⟨rfl, hb3⟩
  have d0 : w3.cell? ⟨B, 0, none⟩ = some (.string ⟨#[71, 69, 84]⟩) := by rw [(bcell hb3).1 _ _ z1, c0]
  have d1 : w3.cell? ⟨B, 1, none⟩ = some (.string ⟨#[47, 97, 63, 98]⟩) := by rw [(bcell hb3).1 _ _ z1, c1]
  have z3 : B < w3.heap.size := Nat.lt_of_lt_of_le z1 hb3.size
  have W3 : Hid (LaidS w3) := W2.out.below hb3
  have b3 := b2.trans (hb3.mono b2.size)
  clear c0 c1 z1 W2 b2 hb3 HS
  have L3 := below_alloc w3 (.cells #[.int .i64 200, .string ⟨#[]⟩] 36)
  have e0 : (w3.alloc (.cells #[.int .i64 200, .string ⟨#[]⟩] 36)).cell? ⟨B, 0, none⟩ = some (.string ⟨#[71, 69, 84]⟩) := by rw [(bcell L3).1 _ _ z3, d0]
  have e1 : (w3.alloc (.cells #[.int .i64 200, .string ⟨#[]⟩] 36)).cell? ⟨B, 1, none⟩ = some (.string ⟨#[47, 97, 63, 98]⟩) := by rw [(bcell L3).1 _ _ z3, d1]
  have z4 : B < (w3.alloc (.cells #[.int .i64 200, .string ⟨#[]⟩] 36)).heap.size := Nat.lt_of_lt_of_le z3 L3.size
  have W4 : Hid (LaidS (w3.alloc (.cells #[.int .i64 200, .string ⟨#[]⟩] 36))) := W3.out.below L3
  have b4 := b3.trans (L3.mono b3.size)
  clear d0 d1 z3 W3 b3 L3
  go_wp2_with fail
  generalize World.alloc w3 _ = w4 at *
  refine (HPA.out w4 W4.out).mono ?_
  rintro e w5 ⟨rfl, hb5⟩
  have f0 : w5.cell? ⟨B, 0, none⟩ = some (.string ⟨#[71, 69, 84]⟩) := by rw [(bcell hb5).1 _ _ z4, e0]
  have f1 : w5.cell? ⟨B, 1, none⟩ = some (.string ⟨#[47, 97, 63, 98]⟩) := by rw [(bcell hb5).1 _ _ z4, e1]
  have W5 : Hid (LaidS w5) := W4.out.below hb5
  have b5 := b4.trans (hb5.mono b4.size)
  clear e0 e1 z4 W4 b4 hb5 HPA
  go_wp2_with fail
  refine (HI.out w5).mono ?_
  rintro e w6 ⟨rfl, hb6⟩
  have W6 : Hid (LaidS w6) := W5.out.below hb6
  have b6 := b5.trans (hb6.mono b5.size)
  clear f0 f1 W5 b5 hb6 HI
  go_wp2_with fail
  refine (HR.out w6 W6.out).mono ?_
  rintro e w7 ⟨rfl, hb7⟩
  go_wp2_with fail
  go_ret
  exact ⟨rfl, b6.trans (hb7.mono b6.size)⟩
end Go.Proofs.YtkajfocjpaemgaaDoor
