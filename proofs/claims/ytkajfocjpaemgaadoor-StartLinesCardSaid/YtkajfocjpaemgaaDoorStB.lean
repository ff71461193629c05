/- start: ParseRequest. -/
import Derived.Test.YtkajfocjpaemgaaDoorStA
namespace Go.Proofs.YtkajfocjpaemgaaDoor
open Go.RowKit

/-- What a parse returns: a pair of texts, or nothing and the error. -/
def reqO (o : Option Fld) : Value := match o with
  | some f => .tuple #[fldV f, .int .i64 0]
  | none => .tuple #[fldV ([], []), .int .i64 2]
set_option maxRecDepth 100000 in
set_option maxHeartbeats 2000000 in
theorem preq9 (s : ByteArray) (hs : s.size ≤ 4000000000) (w : World) (hw : MaxL w) :
    Calls Tryd.prog 9 #[.string s] w fun e w' => e = .returned (reqO (reqP s.data.toList)) ∧ Below w.heap.size w w' := by
  obtain ⟨R, hR⟩ : ∃ R, R = reqO (reqP s.data.toList) := ⟨_, rfl⟩
  rw [← hR]
  have hz := Lib.size_eq s
  have L0 := below_alloc w (.cells #[.string ⟨#[]⟩, .string ⟨#[]⟩] 25)
  have hmx := hw.below L0
  obtain ⟨a, ha⟩ : ∃ a, Lib.trimSuffix s.data.toList sfxL = a := ⟨_, rfl⟩
  obtain ⟨q0, h0⟩ : ∃ q, Lib.hasSuffix s.data.toList sfxL = q := ⟨_, rfl⟩
  have hal : a.length ≤ 4000000000 := by rw [← ha]; exact Nat.le_trans (Lib.trimSuffix_le _ _) (by omega)
  obtain ⟨m, t, q, hc⟩ : ∃ m t q, Lib.cut a [32] = (m, t, q) := ⟨_, _, _, rfl⟩
  have hmt := cut_lens 32 a m t q hc
  have hml : m.length ≤ 4000000000 := by omega
  have htl : t.length ≤ 4000000000 := by omega
  have hrv : reqP s.data.toList = if q0 = true ∧ tokB m = true ∧ tgtB t = true then some (m, t) else none := by
    unfold reqP
    simp only [ha, h0, hc]
  rw [hrv] at hR
  have HS := Lib.hid (fun W => sfx_c s hs a q0 ha h0 W)
  have HC := Lib.hid (cut_c 32 (bs a) (by rw [bs_size]; exact hal) m t q hc _ hmx)
  by_cases hq : q0 = true
  · subst hq
    obtain ⟨z, hzz⟩ : ∃ z, (if tokB m = true ∧ tgtB t = true then (0 : Int) else 2) = z := ⟨_, rfl⟩
    have HK := Lib.hid (fun W => check12 m t hml htl z hzz W)
    by_cases hv : tokB m = true ∧ tgtB t = true
    · rw [if_pos hv] at hzz
      rw [if_pos ⟨rfl, hv⟩] at hR
      subst hzz
      have HR := Lib.hid hR
      clear hR hrv hc ha h0 hz hw hmx hmt hml htl hal hv
      generalize bs a = A at *
      have hR2 : Hid (R = .tuple #[.agg #[.string (bs m), .string (bs t)], .int .i64 0]) := HR.out
      clear HR
      generalize bs m = M at *
      generalize bs t = T at *
      go_enter Tryd.func9, Tryd.ntmps9
      go_wp2_with fail
      refine (HS.out _).mono ?_
      rintro e w' ⟨rfl, rfl⟩
      go_wp2_with fail
      refine HC.out.mono ?_
      rintro e w1 ⟨rfl, hb1⟩
      have f1 := (bcell hb1).1 w.heap.size
      have z1 := (bcell hb1).2 w.heap.size
      have hs1 := hb1.size
      simp at hs1
      have c0 : w1.cell? ⟨w.heap.size, 0, none⟩ = some (.string ⟨#[]⟩) := by rw [f1 0 (by simp)]; simp
      have c1 : w1.cell? ⟨w.heap.size, 1, none⟩ = some (.string ⟨#[]⟩) := by rw [f1 1 (by simp)]; simp
      have d0 : w1.frozen? ⟨w.heap.size, 0, none⟩ = false := by rw [z1 0 (by simp)]; simp
      have d1 : w1.frozen? ⟨w.heap.size, 1, none⟩ = false := by rw [z1 1 (by simp)]; simp
      have b1 := L0.trans (hb1.mono (by simp))
      clear f1 z1 L0 HC HS hb1
      go_wp2_with fail
      have L1 := below_alloc w1 (.cells #[.string M, .string T] 25)
      have r0 : (w1.alloc (.cells #[.string M, .string T] 25)).cell? ⟨w1.heap.size, 0, none⟩ = some (.string M) := by simp
      have r1 : (w1.alloc (.cells #[.string M, .string T] 25)).cell? ⟨w1.heap.size, 1, none⟩ = some (.string T) := by simp
      have c10 : (w1.alloc (.cells #[.string M, .string T] 25)).cell? ⟨w.heap.size, 0, none⟩ = some (.string ⟨#[]⟩) := by rw [(bcell L1).1 _ _ (by omega), c0]
      have c11 : (w1.alloc (.cells #[.string M, .string T] 25)).cell? ⟨w.heap.size, 1, none⟩ = some (.string ⟨#[]⟩) := by rw [(bcell L1).1 _ _ (by omega), c1]
      have d10 : (w1.alloc (.cells #[.string M, .string T] 25)).frozen? ⟨w.heap.size, 0, none⟩ = false := by rw [(bcell L1).2 _ _ (by omega), d0]
      have d11 : (w1.alloc (.cells #[.string M, .string T] 25)).frozen? ⟨w.heap.size, 1, none⟩ = false := by rw [(bcell L1).2 _ _ (by omega), d1]
      have hsz : (w1.alloc (.cells #[.string M, .string T] 25)).heap.size = w1.heap.size + 1 := by simp
      have b2 := b1.trans (L1.mono b1.size)
      clear c0 c1 d0 d1 L1 b1
      generalize World.alloc w1 _ = w2 at *
      refine (HK.out w2).mono ?_
      rintro e w3 ⟨rfl, hb3⟩
      have f3 := (bcell hb3).1
      have z3 := (bcell hb3).2
      have s30 : w3.cell? ⟨w1.heap.size, 0, none⟩ = some (.string M) := by rw [f3 _ _ (by omega), r0]
      have s31 : w3.cell? ⟨w1.heap.size, 1, none⟩ = some (.string T) := by rw [f3 _ _ (by omega), r1]
      have c30 : w3.cell? ⟨w.heap.size, 0, none⟩ = some (.string ⟨#[]⟩) := by rw [f3 _ _ (by omega), c10]
      have c31 : w3.cell? ⟨w.heap.size, 1, none⟩ = some (.string ⟨#[]⟩) := by rw [f3 _ _ (by omega), c11]
      have d30 : w3.frozen? ⟨w.heap.size, 0, none⟩ = false := by rw [z3 _ _ (by omega), d10]
      have d31 : w3.frozen? ⟨w.heap.size, 1, none⟩ = false := by rw [z3 _ _ (by omega), d11]
      have b3 := b2.trans (hb3.mono b2.size)
      clear f3 z3 r0 r1 c10 c11 d10 d11 b2 hb3 HK
      go_wp2_with fail
      refine bodyPost_ret (v := .tuple #[.agg #[.string M, .string T], .int .i64 0]) (by simp [results, Tryd.results9, go_sem, c30, c31]) rfl ⟨by rw [hR2.out], ?_⟩
      exact (b3.setCell (p := ⟨w.heap.size, 0, none⟩) (Nat.le_refl _) _).setCell (p := ⟨w.heap.size, 1, none⟩) (Nat.le_refl _) _
    · rw [if_neg hv] at hzz
      rw [if_neg (fun h => hv h.2)] at hR
      subst hzz
      have HR := Lib.hid hR
      clear hR hrv hc ha h0 hz hw hmx hmt hml htl hal hv
      generalize bs a = A at *
      have hR2 : Hid (R = .tuple #[.agg #[.string ⟨#[]⟩, .string ⟨#[]⟩], .int .i64 2]) := HR.out
      clear HR
      generalize bs m = M at *
      generalize bs t = T at *
      go_enter Tryd.func9, Tryd.ntmps9
      go_wp2_with fail
      refine (HS.out _).mono ?_
      rintro e w' ⟨rfl, rfl⟩
      go_wp2_with fail
      refine HC.out.mono ?_
      rintro e w1 ⟨rfl, hb1⟩
      have f1 := (bcell hb1).1 w.heap.size
      have z1 := (bcell hb1).2 w.heap.size
      have hs1 := hb1.size
      simp at hs1
      have c0 : w1.cell? ⟨w.heap.size, 0, none⟩ = some (.string ⟨#[]⟩) := by rw [f1 0 (by simp)]; simp
      have c1 : w1.cell? ⟨w.heap.size, 1, none⟩ = some (.string ⟨#[]⟩) := by rw [f1 1 (by simp)]; simp
      have d0 : w1.frozen? ⟨w.heap.size, 0, none⟩ = false := by rw [z1 0 (by simp)]; simp
      have d1 : w1.frozen? ⟨w.heap.size, 1, none⟩ = false := by rw [z1 1 (by simp)]; simp
      have b1 := L0.trans (hb1.mono (by simp))
      clear f1 z1 L0 HC HS hb1
      go_wp2_with fail
      have L1 := below_alloc w1 (.cells #[.string M, .string T] 25)
      have c10 : (w1.alloc (.cells #[.string M, .string T] 25)).cell? ⟨w.heap.size, 0, none⟩ = some (.string ⟨#[]⟩) := by rw [(bcell L1).1 _ _ (by omega), c0]
      have c11 : (w1.alloc (.cells #[.string M, .string T] 25)).cell? ⟨w.heap.size, 1, none⟩ = some (.string ⟨#[]⟩) := by rw [(bcell L1).1 _ _ (by omega), c1]
      have d10 : (w1.alloc (.cells #[.string M, .string T] 25)).frozen? ⟨w.heap.size, 0, none⟩ = false := by rw [(bcell L1).2 _ _ (by omega), d0]
      have d11 : (w1.alloc (.cells #[.string M, .string T] 25)).frozen? ⟨w.heap.size, 1, none⟩ = false := by rw [(bcell L1).2 _ _ (by omega), d1]
      have hsz : (w1.alloc (.cells #[.string M, .string T] 25)).heap.size = w1.heap.size + 1 := by simp
      have b2 := b1.trans (L1.mono b1.size)
      clear c0 c1 d0 d1 L1 b1
      generalize World.alloc w1 _ = w2 at *
      refine (HK.out w2).mono ?_
      rintro e w3 ⟨rfl, hb3⟩
      have f3 := (bcell hb3).1
      have z3 := (bcell hb3).2
      have c30 : w3.cell? ⟨w.heap.size, 0, none⟩ = some (.string ⟨#[]⟩) := by rw [f3 _ _ (by omega), c10]
      have c31 : w3.cell? ⟨w.heap.size, 1, none⟩ = some (.string ⟨#[]⟩) := by rw [f3 _ _ (by omega), c11]
      have d30 : w3.frozen? ⟨w.heap.size, 0, none⟩ = false := by rw [z3 _ _ (by omega), d10]
      have d31 : w3.frozen? ⟨w.heap.size, 1, none⟩ = false := by rw [z3 _ _ (by omega), d11]
      have b3 := b2.trans (hb3.mono b2.size)
      clear f3 z3 c10 c11 d10 d11 b2 hb3 HK
      go_wp2_with fail
      refine bodyPost_ret (v := .tuple #[.agg #[.string ⟨#[]⟩, .string ⟨#[]⟩], .int .i64 2]) (by simp [results, Tryd.results9, go_sem, c30, c31]) rfl ⟨by rw [hR2.out], ?_⟩
      exact (b3.setCell (p := ⟨w.heap.size, 0, none⟩) (Nat.le_refl _) _).setCell (p := ⟨w.heap.size, 1, none⟩) (Nat.le_refl _) _
  · rw [if_neg (fun h => hq h.1)] at hR
    obtain rfl : q0 = false := by simpa using hq
    have hR2 : Hid (R = .tuple #[.agg #[.string ⟨#[]⟩, .string ⟨#[]⟩], .int .i64 2]) := hR
    clear hR hrv hc ha h0 hz hw hmx hmt hml htl hal hq
    generalize bs a = A at *
    generalize bs m = M at *
    generalize bs t = T at *
    go_enter Tryd.func9, Tryd.ntmps9
    go_wp2_with fail
    refine (HS.out _).mono ?_
    rintro e w' ⟨rfl, rfl⟩
    go_wp2_with fail
    refine HC.out.mono ?_
    rintro e w1 ⟨rfl, hb1⟩
    have f1 := (bcell hb1).1 w.heap.size
    have z1 := (bcell hb1).2 w.heap.size
    have hs1 := hb1.size
    simp at hs1
    have c0 : w1.cell? ⟨w.heap.size, 0, none⟩ = some (.string ⟨#[]⟩) := by rw [f1 0 (by simp)]; simp
    have c1 : w1.cell? ⟨w.heap.size, 1, none⟩ = some (.string ⟨#[]⟩) := by rw [f1 1 (by simp)]; simp
    have d0 : w1.frozen? ⟨w.heap.size, 0, none⟩ = false := by rw [z1 0 (by simp)]; simp
    have d1 : w1.frozen? ⟨w.heap.size, 1, none⟩ = false := by rw [z1 1 (by simp)]; simp
    have b1 := L0.trans (hb1.mono (by simp))
    clear f1 z1 L0 HC HS hb1
    have L1 := below_alloc w1 (.cells #[.string M, .string T] 25)
    have c10 : (w1.alloc (.cells #[.string M, .string T] 25)).cell? ⟨w.heap.size, 0, none⟩ = some (.string ⟨#[]⟩) := by rw [(bcell L1).1 _ _ (by omega), c0]
    have c11 : (w1.alloc (.cells #[.string M, .string T] 25)).cell? ⟨w.heap.size, 1, none⟩ = some (.string ⟨#[]⟩) := by rw [(bcell L1).1 _ _ (by omega), c1]
    have d10 : (w1.alloc (.cells #[.string M, .string T] 25)).frozen? ⟨w.heap.size, 0, none⟩ = false := by rw [(bcell L1).2 _ _ (by omega), d0]
    have d11 : (w1.alloc (.cells #[.string M, .string T] 25)).frozen? ⟨w.heap.size, 1, none⟩ = false := by rw [(bcell L1).2 _ _ (by omega), d1]
    have b2 := b1.trans (L1.mono b1.size)
    clear c0 c1 d0 d1 b1
    go_wp2_with fail
    generalize World.alloc w1 _ = w2 at *
    refine bodyPost_ret (v := .tuple #[.agg #[.string ⟨#[]⟩, .string ⟨#[]⟩], .int .i64 2]) (by simp [results, Tryd.results9, go_sem, c10, c11]) rfl ⟨by rw [hR2.out], ?_⟩
    exact (b2.setCell (p := ⟨w.heap.size, 0, none⟩) (Nat.le_refl _) _).setCell (p := ⟨w.heap.size, 1, none⟩) (Nat.le_refl _) _
end Go.Proofs.YtkajfocjpaemgaaDoor
