/- chunked: contracts at a machine's place; stewardlaw09.awake. -/
import Derived.Test.YtchpgdoidpllgaaDoorChD
import Derived.Test.YtchpgdoidpllgaaDoorDecH
import Derived.Test.YtchpgdoidpllgaaDoorAwakeO
namespace Go.Proofs.YtchpgdoidpllgaaDoor
open Go.RowKit

theorem doneS (G : Nat → Prop) (g : Nat) (m : Int) (σ : ChS) (w : World) (h : DecS G w g m σ) :
    Calls Tryd.prog 10 #[.pointer (some ⟨g, 0, none⟩)] w fun x w' => x = .returned (.bool σ.isDone) ∧ w = w' := by
  obtain ⟨m', st, ds, k, z, b, e, hr, hd⟩ := h
  exact done10 G g m' st ds k z b e _ (rep_isDone hr) w hd
theorem bodyS (G : Nat → Prop) (g : Nat) (m : Int) (σ : ChS) (w : World) (h : DecS G w g m σ) :
    Calls Tryd.prog 13 #[.pointer (some ⟨g, 0, none⟩)] w fun x w' => x = .returned (.string (bs σ.body)) ∧ w = w' := by
  obtain ⟨m', st, ds, k, z, b, e, hr, hd⟩ := h
  rw [rep_body hr]
  exact body13 G g m' st ds k z b e w hd
theorem newS (m : Int) (w : World) :
    Calls Tryd.prog 8 #[.int .i64 m] w fun x w' => x = .returned (.pointer (some ⟨w.heap.size, 0, none⟩)) ∧ DecS (fun j => j = w.heap.size) w' w.heap.size m (.size [] []) ∧ Below w.heap.size w w' ∧ w'.heap.size = w.heap.size + 1 := by
  refine (new8 m w).mono ?_
  rintro e w' ⟨rfl, hd, hb, hs⟩
  exact ⟨rfl, ⟨_, _, _, _, _, _, _, .size [] [] false rfl (Nat.zero_le _) (.inl rfl), hd⟩, hb, hs⟩
/-- What the library's variables hold, as far as these calls ask. -/
def LaidC (w : World) : Prop := Syn w ∧ Deb w
theorem LaidC.below {w w' : World} (h : LaidC w) (hb : Below w.heap.size w w') : LaidC w' := ⟨h.1.below hb, h.2.below hb⟩
set_option maxRecDepth 100000 in
set_option maxHeartbeats 2000000 in
theorem chawake6 (w : World) (hw : LaidC w) : Calls Tryd.prog 6 #[] w fun e w' => e = .returned (.bool true) ∧ Below w.heap.size w w' := by
  have HW := Lib.hid hw
  have HN := Lib.hid (newS 9 w)
  clear hw
  go_enter Tryd.func6, Tryd.ntmps6
  go_wp2_with fail
  with_reducible refine HN.out.mono ?_
  rintro e w1 ⟨rfl, hd1, hb1, hs1⟩
  have D1 : DecS (fun j => w.heap.size ≤ j) w1 w.heap.size 9 (.size [] []) := hd1.more (fun j _ h => Nat.le_of_eq h.symm)
  have hfl : Floor (fun j => w.heap.size ≤ j) w.heap.size := fun _ h => h
  have HF := Lib.hid (feed12 (fun j => w.heap.size ≤ j) w.heap.size 9 (by decide) (by decide) (.size [] []) [50, 13, 10, 97, 98, 13, 10, 48, 13, 10, 13, 10, 71, 69, 84] (by decide) w1 D1 (fun k hk => Nat.le_trans hb1.size hk) (fun w' hk => HW.out.1.below (hb1.trans (hk.bel hfl hb1.size))))
  rw [show bs [50, 13, 10, 97, 98, 13, 10, 48, 13, 10, 13, 10, 71, 69, 84] = ⟨#[50, 13, 10, 97, 98, 13, 10, 48, 13, 10, 13, 10, 71, 69, 84]⟩ from rfl] at HF
  have hl : chLeft 9 (.size [] []) [50, 13, 10, 97, 98, 13, 10, 48, 13, 10, 13, 10, 71, 69, 84] = [71, 69, 84] := by kernel_rfl
  have hr : chRun 9 (.size [] []) [50, 13, 10, 97, 98, 13, 10, 48, 13, 10, 13, 10, 71, 69, 84] = .done [97, 98] := by kernel_rfl
  unfold FeedTo at HF
  rw [hl, hr] at HF
  have HFL := Lib.hid hfl
  have HB1 := Lib.hid hb1
  clear hd1 D1 hl hr hfl hb1 HN hs1
  go_wp2_with fail
  with_reducible refine HF.out.mono ?_
  rintro e w2 ⟨rfl, hd2, hk2⟩
  have hb2 := HB1.out.trans (hk2.bel HFL.out HB1.out.size)
  have HD := Lib.hid (doneS _ _ _ _ w2 hd2)
  have HBO := Lib.hid (bodyS _ _ _ _ w2 hd2)
  have HE := Lib.hid (enc15 (some ⟨w2.heap.size, 0, none⟩) 2 [⟨#[97, 98]⟩, ⟨#[]⟩] (by decide) (by decide +kernel) _ (isStrs_new2 w2 ⟨#[97, 98]⟩ ⟨#[]⟩ 9) ((HW.out.2.below hb2).below (below_alloc w2 _)))
  have he : bs (encL (bytesOf [⟨#[97, 98]⟩, ⟨#[]⟩])) = ⟨#[50, 13, 10, 97, 98, 13, 10, 48, 13, 10, 13, 10]⟩ := by kernel_rfl
  rw [he] at HE
  have h1 : ChS.isDone (.done [97, 98]) = true := rfl
  have h2 : bs (ChS.body (.done [97, 98])) = ⟨#[97, 98]⟩ := rfl
  rw [h1] at HD
  rw [h2] at HBO
  have h3 : bs [71, 69, 84] = ⟨#[71, 69, 84]⟩ := rfl
  have h4 : (ChS.done [97, 98]).errOf = 0 := rfl
  rw [h3, h4]
  clear he h1 h2 h3 h4 hd2 hk2 HF HB1 HFL HW
  go_wp2_with fail
  with_reducible refine HD.out.mono ?_
  rintro e w' ⟨rfl, rfl⟩
  go_wp2_with fail
  with_reducible refine HBO.out.mono ?_
  rintro e w' ⟨rfl, rfl⟩
  go_wp2_with fail
  refine HE.out.mono ?_
  rintro e w3 ⟨rfl, hb3⟩
  have hb33 := (hb2.alloc hb2.size _).trans (hb3.mono (Nat.le_trans hb2.size (by simp)))
  go_wp2_with fail
  go_ret
  exact ⟨rfl, hb33⟩
end Go.Proofs.YtchpgdoidpllgaaDoor
