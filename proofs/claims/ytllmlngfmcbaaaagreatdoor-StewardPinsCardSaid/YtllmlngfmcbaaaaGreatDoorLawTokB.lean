/- stewardlaw04.TokenBack. -/
import Derived.Test.YtllmlngfmcbaaaaGreatDoorLawTokA
import Derived.BigQuiet
namespace Go.Proofs.YtllmlngfmcbaaaaGreatDoor
open Go.RowKit

set_option maxRecDepth 100000 in
set_option maxHeartbeats 8000000 in
theorem lawTokBack (key name : ByteArray) (u m : Int) (w : World) (hw : LaidT w) :
    Calls Tryz.prog 5 #[.agg #[.string key, .string name, .int .i64 u, .int .i64 m]] w fun e w' => e = .returned (.bool true) ∧ Below w.heap.size w w' := by
  have HA := Lib.hid awake9
  have HC1 : Hid (∀ W, Calls Tryz.prog 10 #[.string key, .int .i64 70] W fun e w' => e = .returned (.string (bs (key.data.toList.take 70))) ∧ W = w') := fun W => cut_l key 70 W
  have HC2 : Hid (∀ W, Calls Tryz.prog 10 #[.string name, .int .i64 40] W fun e w' => e = .returned (.string (bs (name.data.toList.take 40))) ∧ W = w') := fun W => cut_l name 40 W
  have hk : (key.data.toList.take 70).length ≤ 1000 := by simp; omega
  have hn : (name.data.toList.take 40).length ≤ 40 := by simp; omega
  generalize key.data.toList.take 70 = k at *
  generalize name.data.toList.take 40 = n at *
  have HS := Lib.hid (fun W h => sign11 k n hk (by omega) u W h)
  have L0 := below_alloc w (.cells #[.string key, .string name, .int .i64 u, .int .i64 m] 33)
  have W0 := Lib.hid (hw.below L0)
  have c0 : (w.alloc (.cells #[.string key, .string name, .int .i64 u, .int .i64 m] 33)).cell? ⟨w.heap.size, 0, none⟩ = some (.string key) := by simp
  have c1 : (w.alloc (.cells #[.string key, .string name, .int .i64 u, .int .i64 m] 33)).cell? ⟨w.heap.size, 1, none⟩ = some (.string name) := by simp
  have c2 : (w.alloc (.cells #[.string key, .string name, .int .i64 u, .int .i64 m] 33)).cell? ⟨w.heap.size, 2, none⟩ = some (.int .i64 u) := by simp
  have c3 : (w.alloc (.cells #[.string key, .string name, .int .i64 u, .int .i64 m] 33)).cell? ⟨w.heap.size, 3, none⟩ = some (.int .i64 m) := by simp
  have hlt : w.heap.size < (w.alloc (.cells #[.string key, .string name, .int .i64 u, .int .i64 m] 33)).heap.size := by simp
  have hem : (bs []).toList = [] := by rw [ByteArray.toList_eq]; rfl
  have hvs := ver_sign k n u m
  have hsl := signL_length k n u
  have hm1 : max 0 (min u 1099511627776) = ((clampT u : Nat) : Int) := by unfold clampT; omega
  have hm2 : max (min u 1099511627776) 0 = ((clampT u : Nat) : Int) := by unfold clampT; omega
  obtain ⟨mu, hmu⟩ : ∃ mu, min u 1099511627776 = mu := ⟨_, rfl⟩
  rw [hmu] at hm1 hm2
  clear hw
  generalize signL k n u = sg at *
  generalize clampT u = cl at *
  by_cases hnb : nameB n = true
  · rw [if_pos hnb] at hvs
    have HN := Lib.hid (fun W => rname_l n (by omega) true hnb W)
    by_cases hc : (cl : Int) < m
    · rw [if_pos hc] at hvs
      have HV := Lib.hid (fun W h => verify_at k sg hk (by omega) m [] 5 hvs W h)
      clear hvs hsl hnb hk hn
      generalize bs sg = SG at *
      generalize bs k = K at *
      generalize bs n = N at *
      generalize bs [] = E at *
      go_enter Tryz.func5, Tryz.ntmps5
      go_wp2_with fail
      generalize World.alloc w _ = w0 at *
      refine (HA.out w0 W0.out).mono ?_
      rintro e w1 ⟨rfl, hb1⟩
      have W1 := Lib.hid (W0.out.below hb1)
      have b1 := L0.trans (hb1.mono L0.size)
      have d0 : w1.cell? ⟨w.heap.size, 0, none⟩ = some (.string key) := by rw [(bcell hb1).1 _ _ hlt]; exact c0
      have d1 : w1.cell? ⟨w.heap.size, 1, none⟩ = some (.string name) := by rw [(bcell hb1).1 _ _ hlt]; exact c1
      have d2 : w1.cell? ⟨w.heap.size, 2, none⟩ = some (.int .i64 u) := by rw [(bcell hb1).1 _ _ hlt]; exact c2
      have d3 : w1.cell? ⟨w.heap.size, 3, none⟩ = some (.int .i64 m) := by rw [(bcell hb1).1 _ _ hlt]; exact c3
      clear c0 c1 c2 c3 hb1 L0
      go_wp2_with fail
      go_quiet (first | (go_at_call 10; with_reducible exact Calls.quiet_of_same (calls_flip (HC1.out _))) | (go_at_call 10; with_reducible exact Calls.quiet_of_same (calls_flip (HC2.out _))))
      have hdr : Below w1.heap.size w1 (w1.drewN nq) := ⟨rfl, rfl, rfl, Nat.le_refl _, fun _ _ => rfl⟩
      have W1' := Lib.hid (W1.out.below hdr)
      have b1' := b1.trans (hdr.mono b1.size)
      clear d0 d1 d2 d3 hdr b1 W1
      generalize w1.drewN nq = w2 at *
      go_wp2_with fail
      refine (HS.out w2 W1'.out).mono ?_
      rintro e w3 ⟨rfl, hb3⟩
      have W3 := Lib.hid (W1'.out.below hb3)
      have b3 := b1'.trans (hb3.mono b1'.size)
      clear hb3
      go_wp2_with fail
      refine (HV.out w3 W3.out).mono ?_
      rintro e w4 ⟨rfl, hb4⟩
      have b4 := b3.trans (hb4.mono b3.size)
      clear hb4
      go_wp2_with fail
      refine (HN.out w4).mono ?_
      rintro e w5 ⟨rfl, hb5⟩
      have b5 := b4.trans (hb5.mono b4.size)
      clear hb5
      go_wp2_with fail
      go_ret
      exact ⟨rfl, b5⟩
    · rw [if_neg hc] at hvs
      have HV := Lib.hid (fun W h => verify_at k sg hk (by omega) m n 0 hvs W h)
      have hcm : decide ((cl : Int) < m) = false := decide_eq_false hc
      have hrr : ((bs n).toList == (bs n).toList) = true := by simp
      clear hvs hsl hnb hk hn
      generalize bs sg = SG at *
      generalize bs k = K at *
      generalize bs n = N at *
      go_enter Tryz.func5, Tryz.ntmps5
      go_wp2_with fail
      generalize World.alloc w _ = w0 at *
      refine (HA.out w0 W0.out).mono ?_
      rintro e w1 ⟨rfl, hb1⟩
      have W1 := Lib.hid (W0.out.below hb1)
      have b1 := L0.trans (hb1.mono L0.size)
      have d0 : w1.cell? ⟨w.heap.size, 0, none⟩ = some (.string key) := by rw [(bcell hb1).1 _ _ hlt]; exact c0
      have d1 : w1.cell? ⟨w.heap.size, 1, none⟩ = some (.string name) := by rw [(bcell hb1).1 _ _ hlt]; exact c1
      have d2 : w1.cell? ⟨w.heap.size, 2, none⟩ = some (.int .i64 u) := by rw [(bcell hb1).1 _ _ hlt]; exact c2
      have d3 : w1.cell? ⟨w.heap.size, 3, none⟩ = some (.int .i64 m) := by rw [(bcell hb1).1 _ _ hlt]; exact c3
      clear c0 c1 c2 c3 hb1 L0
      go_wp2_with fail
      go_quiet (first | (go_at_call 10; with_reducible exact Calls.quiet_of_same (calls_flip (HC1.out _))) | (go_at_call 10; with_reducible exact Calls.quiet_of_same (calls_flip (HC2.out _))))
      have hdr : Below w1.heap.size w1 (w1.drewN nq) := ⟨rfl, rfl, rfl, Nat.le_refl _, fun _ _ => rfl⟩
      have W1' := Lib.hid (W1.out.below hdr)
      have b1' := b1.trans (hdr.mono b1.size)
      clear d0 d1 d2 d3 hdr b1 W1
      generalize w1.drewN nq = w2 at *
      go_wp2_with fail
      refine (HS.out w2 W1'.out).mono ?_
      rintro e w3 ⟨rfl, hb3⟩
      have W3 := Lib.hid (W1'.out.below hb3)
      have b3 := b1'.trans (hb3.mono b1'.size)
      clear hb3
      go_wp2_with fail
      refine (HV.out w3 W3.out).mono ?_
      rintro e w4 ⟨rfl, hb4⟩
      have b4 := b3.trans (hb4.mono b3.size)
      clear hb4
      go_wp2_with fail
      refine (HN.out w4).mono ?_
      rintro e w5 ⟨rfl, hb5⟩
      have b5 := b4.trans (hb5.mono b4.size)
      clear hb5
      go_wp2_with fail
      go_ret
      exact ⟨rfl, b5⟩
  · rw [if_neg hnb] at hvs
    have HN := Lib.hid (fun W => rname_l n (by omega) false (by simpa using hnb) W)
    have HV := Lib.hid (fun W h => verify_at k sg hk (by omega) m [] 2 hvs W h)
    clear hvs hsl hnb hk hn
    generalize bs sg = SG at *
    generalize bs k = K at *
    generalize bs n = N at *
    generalize bs [] = E at *
    go_enter Tryz.func5, Tryz.ntmps5
    go_wp2_with fail
    generalize World.alloc w _ = w0 at *
    refine (HA.out w0 W0.out).mono ?_
    rintro e w1 ⟨rfl, hb1⟩
    have W1 := Lib.hid (W0.out.below hb1)
    have b1 := L0.trans (hb1.mono L0.size)
    have d0 : w1.cell? ⟨w.heap.size, 0, none⟩ = some (.string key) := by rw [(bcell hb1).1 _ _ hlt]; exact c0
    have d1 : w1.cell? ⟨w.heap.size, 1, none⟩ = some (.string name) := by rw [(bcell hb1).1 _ _ hlt]; exact c1
    have d2 : w1.cell? ⟨w.heap.size, 2, none⟩ = some (.int .i64 u) := by rw [(bcell hb1).1 _ _ hlt]; exact c2
    have d3 : w1.cell? ⟨w.heap.size, 3, none⟩ = some (.int .i64 m) := by rw [(bcell hb1).1 _ _ hlt]; exact c3
    clear c0 c1 c2 c3 hb1 L0
    go_wp2_with fail
    go_quiet (first | (go_at_call 10; with_reducible exact Calls.quiet_of_same (calls_flip (HC1.out _))) | (go_at_call 10; with_reducible exact Calls.quiet_of_same (calls_flip (HC2.out _))))
    have hdr : Below w1.heap.size w1 (w1.drewN nq) := ⟨rfl, rfl, rfl, Nat.le_refl _, fun _ _ => rfl⟩
    have W1' := Lib.hid (W1.out.below hdr)
    have b1' := b1.trans (hdr.mono b1.size)
    clear d0 d1 d2 d3 hdr b1 W1
    generalize w1.drewN nq = w2 at *
    go_wp2_with fail
    refine (HS.out w2 W1'.out).mono ?_
    rintro e w3 ⟨rfl, hb3⟩
    have W3 := Lib.hid (W1'.out.below hb3)
    have b3 := b1'.trans (hb3.mono b1'.size)
    clear hb3
    go_wp2_with fail
    refine (HV.out w3 W3.out).mono ?_
    rintro e w4 ⟨rfl, hb4⟩
    have b4 := b3.trans (hb4.mono b3.size)
    clear hb4
    go_wp2_with fail
    refine (HN.out w4).mono ?_
    rintro e w5 ⟨rfl, hb5⟩
    have b5 := b4.trans (hb5.mono b4.size)
    clear hb5
    go_wp2_with fail
    go_ret
    exact ⟨rfl, b5⟩
end Go.Proofs.YtllmlngfmcbaaaaGreatDoor
