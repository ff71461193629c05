/- stewardlaw15.do: a Pick. -/
import Derived.Test.YtcmjcpgfnkhnoaaRpH
namespace Go.Proofs.Ytcmjcpgfnkhnoaa
open Go.RowKit Go.Maps

set_option maxHeartbeats 8000000 in
set_option maxRecDepth 100000 in
theorem do9_pick (rb : Nat) (v : Option Nat) (n : Nat) (hn : n ≤ 1000000) (xa : Option Addr) (xc : Nat) (x : List Ent) (hxl : x.length ≤ 50000) (M : Int) (hM0 : 0 ≤ M) (hM1 : M ≤ 100000000000) (hM : ∀ s, -M ≤ ofL x s ∧ ofL x s ≤ M) (la : Option Addr) (lc : Nat) (l : List Ent) (hfl : l.length ≤ 9223372036854775807) (w : World) (hS : ActS w rb v n xa xc x) (hl : IsEnts w la lc l) :
    Calls Try.prog 9 #[.pointer (some ⟨rb, 0, none⟩), .slice xa x.length xc, .agg #[.bool false, .slice la l.length lc]] w (ActPost w rb v n x M) := by
  have HS := Lib.hid hS
  have HL := Lib.hid hl
  have HMM := Lib.hid hM
  clear hS hl hM
  have HB1 := Lib.hid (below_alloc w (.cells #[.bool false, .slice la l.length lc] 31))
  go_enter Try.func9, Try.ntmps9
  have HL1 := Lib.hid (HL.out.below HB1.out)
  have HR1 := Lib.hid (Row.new w 31 #[.bool false, .slice la l.length lc])
  have hws : (w.alloc (.cells #[.bool false, .slice la l.length lc] 31)).heap.size = w.heap.size + 1 := World.size_alloc _ _
  have HWS := Lib.hid hws
  clear hws
  go_wp2_with fail
  refine (few10 la lc l 8 (by omega) hfl _ HL1.out).mono ?_
  rintro e w2 ⟨u, rfl, ho2, hb2⟩
  obtain ⟨ua, uc, rfl⟩ := own_slice ho2
  obtain ⟨_, hie2, hblk⟩ := isEnts_own ho2
  have hl8 := fewE_len l 8
  have hsz : ∀ e ∈ fewE l 8, e.1.size ≤ 12 := fun e he => fewE_size he
  have r2 : w2.cell? ⟨w.heap.size, 0, none⟩ = some (.bool false) := (HR1.out.below hb2).cell 0
  have HB2 := Lib.hid (HB1.out.trans (hb2.mono HB1.out.size))
  have HIE2 := Lib.hid hie2
  have HBK : Hid (∀ p, ua = some p → ¬ RG rb v p.block) := by
    intro p hp h
    have h1 := HS.out.rot.glt h
    have h2 := (hblk p hp).1
    rw [HWS.out] at h2
    omega
  have HSZ := Lib.hid hsz
  clear ho2 hie2 hblk hb2 hsz HL HL1 HR1 HWS HB1
  generalize fewE l 8 = F at *
  have HS2 := Lib.hid (HS.out.below HB2.out)
  have HNZ : Hid (∀ e ∈ F, e.1.size ≤ maxLen) := fun e he => by
    have := HSZ.out e he
    unfold maxLen; omega
  go_wp2_with fail
  refine (own16 ua uc F (by omega) _ HIE2.out).mono ?_
  rintro e w3 ⟨u3, rfl, ho3, hb3⟩
  obtain ⟨na, nc, rfl⟩ := own_slice ho3
  obtain ⟨_, hie3, _⟩ := isEnts_own ho3
  have HN3 := Lib.hid hie3
  have HS3 := Lib.hid (HS2.out.below hb3)
  have HIE3 := Lib.hid (HIE2.out.below hb3)
  have HB3 := Lib.hid (HB2.out.trans (hb3.mono HB2.out.size))
  clear ho3 hie3 hb3 r2 HIE2 HS2 HB2
  by_cases hF : F = []
  · subst hF
    go_wp2_with fail
    refine (pick15_nil na nc _ _).mono ?_
    rintro e w4 ⟨rfl, rfl⟩
    go_wp2_with fail
    refine (rpick23_nil _ ua uc _).mono ?_
    rintro e w5 ⟨rfl, hb5⟩
    have HB5 := Lib.hid hb5
    have HS5 := Lib.hid (HS3.out.below hb5)
    clear hb5
    go_wp2_with fail
    refine bodyPost_ret (v := .tuple #[.slice xa x.length xc, .bool true]) (by simp [results, Try.results9, go_sem]) rfl ⟨xa, xc, x, v, rfl, ⟨HS5.out.rot.mono (by omega), HS5.out.ap, HS5.out.ents, HS5.out.off, HS5.out.lt, HS5.out.sz⟩, (Keep.of_below HB3.out).trans (Keep.of_below HB5.out), .inl rfl, by omega, ?_⟩
    intro s
    have := HMM.out s
    omega
  · have HFN := Lib.hid hF
    clear hF
    go_wp2_with fail
    refine (pick15 rb v n (ofL x) M (by omega) HMM.out na nc F HFN.out (by omega) HNZ.out (by omega) _ HS3.out.rot HN3.out).mono ?_
    rintro e w4 ⟨rfl, v', hr4, hk4, hf4⟩
    have HIE4 := Lib.hid (HIE3.out.keep hk4 HBK.out)
    have HX4 := Lib.hid (HS3.out.ents.keep hk4 HS3.out.off)
    have HK4 : Hid (Keep (RG rb v) w w4) := (Keep.of_below HB3.out).trans hk4
    have HR4 := Lib.hid hr4
    have HFR : Hid (Fresh w v v') := by
      rcases hf4 with h | ⟨b, h, h2⟩
      · exact .inl h
      · exact .inr ⟨b, h, Nat.le_trans HB3.out.size h2⟩
    clear hk4 hr4 hf4 HIE3 HN3
    go_wp2_with fail
    refine (rpick23 xa xc x (by omega) M (by omega) HMM.out ua uc F HFN.out (by omega) _ HX4.out HIE4.out).mono ?_
    rintro e w5 ⟨ya, yc, rfl, hy5, hb5, hf5⟩
    have HY5 := Lib.hid hy5
    have HB5 := Lib.hid hb5
    have HF5 := Lib.hid hf5
    have hcl : (cnt F).length ≤ 8 := by
      have := once_len F
      unfold cnt; rw [List.length_map]; omega
    have hpl := pickL_len x (cnt F)
    have hst := strEq (turn (ofL x) (cnt F)) (turn (ofL x) (cnt F))
    rw [decide_eq_true rfl] at hst
    have HW : Hid (∀ e ∈ cnt F, 1 ≤ e.2 ∧ e.2 ≤ 65535) := by
      intro e h
      unfold cnt at h
      obtain ⟨y, _, rfl⟩ := List.mem_map.1 h
      exact lim_one _
    have HAC := Lib.hid (cnt_apart F)
    have HEN : Hid (cnt F ≠ []) := by
      have := once_ne HFN.out
      intro h
      unfold cnt at h
      exact this (List.map_eq_nil_iff.1 h)
    have HEZ : Hid (∀ e ∈ cnt F, e.1.size ≤ 12) := by
      intro e h
      unfold cnt at h
      obtain ⟨y, hy, rfl⟩ := List.mem_map.1 h
      exact HSZ.out y (once_sub hy)
    clear hy5 hb5 hf5
    generalize cnt F = E at *
    generalize hT : turn (ofL x) E = T at *
    clear hT
    go_wp2_with fail
    have hgl : ∀ {k}, RG rb v' k → k < w4.heap.size := fun h => HR4.out.glt h
    refine bodyPost_ret (v := .tuple #[.slice ya (pickL x E).length yc, .bool true]) (by simp [results, Try.results9, go_sem]) rfl ⟨ya, yc, pickL x E, v', rfl, ⟨?_, pickL_apart HS.out.ap _, HY5.out, ?_, fun p hp => (HF5.out p hp).2, pick_all (Q := fun s => s.size ≤ 12) HEN.out HS.out.sz HEZ.out⟩, HK4.out.trans (Keep.of_below HB5.out), HFR.out, by omega, ?_⟩
    · rw [ofL_pick]; exact (HR4.out.below HB5.out).mono (by omega)
    · intro p hp h
      have h1 := (HF5.out p hp).1
      have h2 := hgl h
      omega
    · intro s
      rw [ofL_pick]
      exact after_abs HAC.out HW.out hcl HMM.out s
end Go.Proofs.Ytcmjcpgfnkhnoaa
