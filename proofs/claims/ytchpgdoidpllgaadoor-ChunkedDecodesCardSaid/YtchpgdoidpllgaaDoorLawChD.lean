/- The walk of the statement ChunkedDecodes. -/
import Derived.Test.YtchpgdoidpllgaaDoorChF
import Derived.Test.YtchpgdoidpllgaaDoorCut
import Derived.Test.YtchpgdoidpllgaaDoorRegT
import Derived.Deep.Cut
namespace Go.Proofs.YtchpgdoidpllgaaDoor
open Go.RowKit

set_option maxRecDepth 100000 in
set_option maxHeartbeats 8000000 in
theorem lawChunkedDecodes (s0 : ByteArray) (a : Option Addr) (c : Nat) (xs : List Int) (hlen : xs.length ≤ 9223372036854775807) (m : Int) (hm0 : -9223372036854775808 ≤ m) (hm1 : m ≤ 9223372036854775807) (w : World) (hw : LaidC w) (hx : IsInts w a c xs) :
    Calls Tryd.prog 3 #[.string s0, .slice a xs.length c, .int .i64 m] w fun e w' => e = .returned (.bool true) ∧ Below w.heap.size w w' := by
  have HW := Lib.hid hw
  have HX := Lib.hid hx
  have HM0 := Lib.hid hm0
  have HM1 := Lib.hid hm1
  have hm0' := hm0
  clear hw hx hm0 hm1
  go_enter Tryd.func3, Tryd.ntmps3
  go_wp2_with fail
  with_reducible refine (chawake6 w HW.out).mono ?_
  rintro e w1 ⟨rfl, hb1⟩
  have X1 := Lib.hid (HX.out.below hb1)
  clear HX
  go_wp2_with fail
  refine (cut11 s0 200 w1).mono ?_
  rintro e w' ⟨rfl, rfl⟩
  obtain ⟨s, hs⟩ : ∃ s, s = cutS s0 200 := ⟨_, rfl⟩
  have hsz : s.size ≤ 200 := by rw [hs]; exact cutS_size _ _
  rw [← hs]
  clear hs
  go_wp2_with fail
  with_reducible refine (newS m w1).mono ?_
  rintro e w2 ⟨rfl, hd2, hb2, hs2⟩
  obtain ⟨g, hg⟩ : ∃ g, g = w1.heap.size := ⟨_, rfl⟩
  rw [← hg] at hd2 hs2 ⊢
  have hg1 : w.heap.size ≤ g := by rw [hg]; exact hb1.size
  have b2 := hb1.trans (hb2.mono hb1.size)
  have X2 := Lib.hid (X1.out.below hb2)
  have D2 := Lib.hid hd2
  clear hd2 hb2 hb1 X1 hg
  go_wp2_with fail
  with_reducible refine (parts9 s (by omega) a c xs hlen w2 X2.out).mono ?_
  rintro e w3 ⟨a3, c3, ps, rfl, hx3, hps, hpl, hbl, hb3⟩
  have b3 := b2.trans (hb3.mono b2.size)
  have D3 : Hid (DecS (fun j => j = g ∨ w3.heap.size ≤ j) w3 g m (.size [] [])) := (D2.out.below hb3).more (fun j _ h => .inl h)
  obtain ⟨p0, hp0⟩ : ∃ p0, p0 = w3.heap.size := ⟨_, rfl⟩
  rw [← hp0] at D3
  have h3s := hb3.size
  have hgp : g < p0 := by rw [hp0]; omega
  have HNG : Hid (∀ ad, a3 = some ad → ¬ (ad.block = g ∨ p0 ≤ ad.block)) := by
    intro ad had
    have := hbl ad had
    omega
  have HX3 := Lib.hid hx3
  have HPS := Lib.hid hps
  have HFL : Hid (Floor (fun j => j = g ∨ p0 ≤ j) w.heap.size) := by
    rintro k (rfl | hk)
    · exact hg1
    · have := b3.size; omega
  have hp3 : p0 ≤ w3.heap.size := by omega
  have HB3 := Lib.hid b3
  have hB0 : w.heap.size ≤ p0 := by omega
  clear hx3 hps hbl hb3 h3s D2 X2 b2 hs2
  go_wp2_with fail
  go_loopw [8, 29] (fun tv iv wr => ∃ (j : Nat) (t : ByteArray), j ≤ ps.length ∧ tv = .string t ∧ iv = .int .i64 (j : Int) ∧ Hid (t.data.toList = (bytesOf (ps.take j)).flatten) ∧ Hid (DecS (fun j => j = g ∨ p0 ≤ j) wr g m (chRun m (.size [] []) t.data.toList)) ∧ Hid (Keep (fun j => j = g ∨ p0 ≤ j) w3 wr)) (fun _ iv _ => ps.length - (intOf iv).toNat)
  case atStart => exact ⟨0, ⟨#[]⟩, by omega, rfl, rfl, rfl, D3.out, Keep.refl _ _⟩
  case round =>
    clear D3
    obtain ⟨j, t, hj, rfl, rfl, ht, hd, hk⟩ := hrel
    have hbel := HB3.out.trans (hk.out.bel HFL.out HB3.out.size)
    by_cases hlt : j < ps.length
    · have hx' := isStrs_keep HX3.out hk.out HNG.out
      obtain h0 | ⟨bk, o, rfl, hbk, hc, hcell⟩ := hx'
      · subst h0; simp at hlt
      have cj := hcell j ps[j] (by simp [hlt])
      have hft := bytesOf_take hlt
      have hfl := bytesOf_take_le ps (j + 1)
      obtain ⟨p, hp⟩ : ∃ p, p = ps[j] := ⟨_, rfl⟩
      rw [← hp] at cj hft
      rw [← ht.out] at hft
      rw [hft, HPS.out, List.length_append, ← Lib.size_eq, ← Lib.size_eq, ← Lib.size_eq] at hfl
      have htz : t.size ≤ 200 := by omega
      have hpz : p.size ≤ 200 := by omega
      have htp : (t ++ p).data.toList = t.data.toList ++ p.data.toList := by simp
      have htpz : (t ++ p).size = t.size + p.size := by rw [Lib.size_eq, htp, List.length_append, Lib.size_eq, Lib.size_eq]
      obtain ⟨n1, hT, hn1, hL1, hL2, hL3⟩ := took_read m t.data.toList p.data.toList
      obtain ⟨σ, hσ⟩ : ∃ σ, σ = chRun m (.size [] []) t.data.toList := ⟨_, rfl⟩
      have hbody : σ.body.length ≤ t.size := by
        have := run_body_le m t.data.toList (.size [] [])
        rw [hσ, Lib.size_eq]
        simpa [ChS.body] using this
      have hdd := hd.out
      rw [← hσ] at hT hL1 hL2 hL3 hdd
      obtain ⟨q0, hq0⟩ : ∃ q0, σ.isDone = q0 := ⟨_, rfl⟩
      obtain ⟨b0, n0, e0, hA0⟩ : ∃ b0 n0 e0, tookL m t.data.toList = (b0, n0, q0, e0) := ⟨_, _, _, by rw [← hq0, hσ, ← took_isDone]⟩
      have HA := Lib.hid (dec11 t (by omega) m HM0.out HM1.out wr)
      rw [hA0] at HA
      unfold tookV at HA
      simp only at HA
      have HDN := Lib.hid (doneS _ g m σ wr hdd)
      rw [hq0] at HDN
      obtain ⟨τ, hτ⟩ : ∃ τ, τ = chRun m σ p.data.toList := ⟨_, rfl⟩
      rw [← hτ] at hT hL2 hL3
      obtain ⟨q1, hq1⟩ : ∃ q1, τ.isDone = q1 := ⟨_, rfl⟩
      obtain ⟨E1, hE1⟩ : ∃ E1, τ.errOf = E1 := ⟨_, rfl⟩
      obtain ⟨B1, hB1⟩ : ∃ B1, bs τ.body = B1 := ⟨_, rfl⟩
      obtain ⟨X, hX⟩ : ∃ X, bs (chLeft m σ p.data.toList) = X := ⟨_, rfl⟩
      rw [hq0] at hL1 hL2
      rw [hq1] at hL2 hL3
      have HBt := Lib.hid (fun W => dec11 (t ++ p) (by omega) m HM0.out HM1.out W)
      rw [htp, hT, hE1, hq1] at HBt
      unfold tookV at HBt
      simp only at HBt
      rw [hB1] at HBt
      have hcase : q0 = true → q1 = true := fun h => by
        have := left_cases m t.data.toList p.data.toList q0 q1 (by rw [← hσ]; exact hq0) (by rw [← hσ, ← hτ]; exact hq1)
        exact this h
      have hx1 : q0 = true → X = p := fun h => by rw [← hX, hL1 h, bs_of]
      have hx2 : q0 = false → q1 = true → (t ++ p).extract n1 (t.size + p.size) = X := fun h h2 => by
        rw [← htpz, ← hX, ← hL2 h h2, ← bs_of ((t ++ p).extract n1 (t ++ p).size), extractL, htp, List.take_of_length_le (by rw [List.length_drop, List.length_append, ← Lib.size_eq, ← Lib.size_eq]; omega)]
      have hx3 : q1 = false → X = ⟨#[]⟩ := fun h => by rw [← hX, hL3 h]; rfl
      have hn1z : n1 ≤ t.size + p.size := by rw [List.length_append, ← Lib.size_eq, ← Lib.size_eq] at hn1; exact hn1
      have HFT := Lib.hid hft
      have HS := Lib.hid hσ
      have HTT := Lib.hid hτ
      have HDD := Lib.hid hdd
      have HQ1 := Lib.hid hq1
      have HE1 := Lib.hid hE1
      have HB1 := Lib.hid hB1
      have HXX := Lib.hid hX
      have HTP := Lib.hid htp
      have HX1 := Lib.hid hx1
      have HX2 := Lib.hid hx2
      have HX3' := Lib.hid hx3
      have HCS := Lib.hid hcase
      have HBD := Lib.hid hbody
      clear hcell hft hfl hp htp hT hn1 hL1 hL2 hL3 hbody hdd hσ hq0 hA0 hτ hq1 hE1 hB1 hX hcase hx1 hx2 hx3
      have j1 : (j : Int) < ps.length := by omega
      have hb0s : w.heap.size ≤ wr.heap.size := hbel.size
      have HBL := Lib.hid hbel
      clear hbel hbk
      go_wp2_with fail
      with_reducible refine HDN.out.mono ?_
      rintro e w' ⟨rfl, rfl⟩
      go_wp2_with fail
      with_reducible refine HA.out.mono ?_
      rintro e wA ⟨rfl, hbA⟩
      have HCA : Hid ((wA.alloc (.cells #[.string (bs b0), .int .i64 (n0 : Int), .bool q0, .int .i64 e0] 30)).cell? ⟨wA.heap.size, 2, none⟩ = some (.bool q0)) := by show _ = _; simp
      have hbA' := hbA.alloc hbA.size (.cells #[.string (bs b0), .int .i64 (n0 : Int), .bool q0, .int .i64 e0] 30)
      have hszA : (wA.alloc (.cells #[.string (bs b0), .int .i64 (n0 : Int), .bool q0, .int .i64 e0] 30)).heap.size = wA.heap.size + 1 := by simp
      go_wp2_with fail
      obtain ⟨bA, hbAe⟩ : ∃ bA, bA = wA.heap.size := ⟨_, rfl⟩
      have hbs := hbA.size
      rw [← hbAe] at hbs hszA HCA ⊢
      generalize wA.alloc (.cells #[.string (bs b0), .int .i64 (n0 : Int), .bool q0, .int .i64 e0] 30) = wB at *
      have hszB : wB.heap.size ≤ bA + 1 ∧ bA < wB.heap.size := by omega
      clear hbAe hszA
      have hdB : DecS (fun j => ((j = g ∨ p0 ≤ j) ∧ j < wr.heap.size) ∨ wB.heap.size ≤ j) wB g m σ := (HDD.out.less.below hbA').more (fun j _ h => .inl h)
      have hfl2 : Floor (fun j => ((j = g ∨ p0 ≤ j) ∧ j < wr.heap.size) ∨ wB.heap.size ≤ j) w.heap.size := by
        rintro k (⟨h, _⟩ | h)
        · exact HFL.out k h
        · omega
      have hbB := HBL.out.trans (hbA'.mono HBL.out.size)
      have HF := Lib.hid (feed12 (fun j => ((j = g ∨ p0 ≤ j) ∧ j < wr.heap.size) ∨ wB.heap.size ≤ j) g m HM0.out HM1.out σ p.data.toList (by have := HBD.out; rw [← Lib.size_eq]; omega) wB hdB (fun k hk => .inr hk) (fun w' hk => HW.out.1.below (hbB.trans (hk.bel hfl2 hbB.size))))
      unfold FeedTo at HF
      rw [bs_of, ← HTT.out, HXX.out, HE1.out] at HF
      have HFL2 := Lib.hid hfl2
      have HBB := Lib.hid hbB
      have HBA' := Lib.hid hbA'
      clear hdB hfl2 hbB hbA' hbA HDN HA
      with_reducible refine HF.out.mono ?_
      rintro e w4 ⟨rfl, hd4, hk4⟩
      have hsz4 := hk4.size
      have hcA4 := keep_cell hk4 HCA.out (by omega) (by rintro (⟨_, h⟩ | h) <;> omega)
      have hb4 := HBB.out.trans (hk4.bel HFL2.out HBB.out.size)
      have HD4 := Lib.hid hd4
      have HK4 := Lib.hid hk4
      clear hd4 hk4 HF HCA
      go_wp2_with fail
      with_reducible refine (HBt.out w4).mono ?_
      rintro e w5 ⟨rfl, hb5⟩
      have hsz5 := hb5.size
      have hcA5 : w5.cell? ⟨bA, 2, none⟩ = some (.bool q0) := by rw [(bcell hb5).1 _ _ (by omega)]; exact hcA4
      have hcA6 : (w5.alloc (.cells #[.string B1, .int .i64 (n1 : Int), .bool q1, .int .i64 E1] 30)).cell? ⟨bA, 2, none⟩ = some (.bool q0) := by
        rw [(bcell (below_alloc w5 _)).1 _ _ (by omega)]; exact hcA5
      have hb56 := hb5.alloc hb5.size (.cells #[.string B1, .int .i64 (n1 : Int), .bool q1, .int .i64 E1] 30)
      have cW0 : (w5.alloc (.cells #[.string B1, .int .i64 (n1 : Int), .bool q1, .int .i64 E1] 30)).cell? ⟨w5.heap.size, 0, none⟩ = some (.string B1) := by simp
      have cW1 : (w5.alloc (.cells #[.string B1, .int .i64 (n1 : Int), .bool q1, .int .i64 E1] 30)).cell? ⟨w5.heap.size, 1, none⟩ = some (.int .i64 (n1 : Int)) := by simp
      have cW2 : (w5.alloc (.cells #[.string B1, .int .i64 (n1 : Int), .bool q1, .int .i64 E1] 30)).cell? ⟨w5.heap.size, 2, none⟩ = some (.bool q1) := by simp
      have cW3 : (w5.alloc (.cells #[.string B1, .int .i64 (n1 : Int), .bool q1, .int .i64 E1] 30)).cell? ⟨w5.heap.size, 3, none⟩ = some (.int .i64 E1) := by simp
      go_upto_region 17 with fail
      clear hcA4 hcA5
      obtain ⟨bW, hbWe⟩ : ∃ bW, bW = w5.heap.size := ⟨_, rfl⟩
      rw [← hbWe] at cW0 cW1 cW2 cW3 ⊢
      generalize w5.alloc (.cells #[.string B1, .int .i64 (n1 : Int), .bool q1, .int .i64 E1] 30) = wX at *
      clear hbWe
      have HB56 := Lib.hid hb56
      have HD6 := Lib.hid (HD4.out.below hb56)
      have HDN := Lib.hid (fun W h => doneS (fun j => ((j = g ∨ p0 ≤ j) ∧ j < wr.heap.size) ∨ wB.heap.size ≤ j) g m τ W h)
      have HBN := Lib.hid (fun W h => bodyS (fun j => ((j = g ∨ p0 ≤ j) ∧ j < wr.heap.size) ∨ wB.heap.size ≤ j) g m τ W h)
      rw [HQ1.out] at HDN
      rw [HB1.out] at HBN
      have HREL : Hid (Hid (DecS (fun j => j = g ∨ p0 ≤ j) wX g m (chRun m (.size [] []) (t ++ p).data.toList)) ∧ Hid (Keep (fun j => j = g ∨ p0 ≤ j) w3 wX)) := by
        have hg2 : ∀ k, k < wB.heap.size → (((k = g ∨ p0 ≤ k) ∧ k < wr.heap.size) ∨ wB.heap.size ≤ k) → (k = g ∨ p0 ≤ k) := by
          rintro k hk (⟨h, _⟩ | h)
          · exact h
          · omega
        have hp00 : p0 ≤ wr.heap.size := Nat.le_trans hp3 hk.out.size
        refine ⟨?_, ?_⟩
        · show DecS _ _ _ _ _
          rw [HTP.out, chRun_app, ← HS.out, ← HTT.out]
          refine HD6.out.more ?_
          rintro k _ (⟨h, _⟩ | h)
          · exact h
          · right; omega
        · exact ((hk.out.trans (.of_below HBA'.out)).trans (HK4.out.more hg2)).trans (.of_below HB56.out)
      clear hb56 hb5 HD4 HK4 HBt HDD
      cases q0
      · cases q1
        · skip
          have DRW : Hid (Hid (DecS (fun j => j = g ∨ p0 ≤ j) wX.drew g m (chRun m (.size [] []) (t ++ p).data.toList)) ∧ Hid (Keep (fun j => j = g ∨ p0 ≤ j) w3 wX.drew)) := ⟨HREL.out.1.out.below ⟨rfl, rfl, rfl, Nat.le_refl _, fun _ _ => rfl⟩, HREL.out.2.out.trans (Keep.drew wX)⟩
          clear HREL
          obtain rfl := HX3'.out rfl
          go_wp2_with fail
          refine region_mixt 29 [some (.int .i64 E1), some (.pointer (some ⟨bW, 3, none⟩)), some (.int .i64 E1), some (.bool false), some (.bool false), some (.string ⟨#[]⟩), some (.string ⟨#[]⟩), some (.bool false), some (.bool false), some (.bool false), some (.pointer (some ⟨g, 0, none⟩)), some (.bool false), some (.pointer (some ⟨bW, 2, none⟩)), some (.bool false), some (.bool false), some (.bool false), some (.bool false), some (.pointer (some ⟨g, 0, none⟩)), some (.string B1), some (.pointer (some ⟨bW, 0, none⟩)), some (.string B1), some (.bool false), some (.bool false), some (.bool false), some (.bool false), some (.pointer (some ⟨bA, 2, none⟩)), some (.bool false), some (.bool false), some (.bool false)]
            [[false, false, false, false, false, false, false, false, false, false, false, false, false, false, false, false, false, false, false, false, false, false, false, false, false, false, false, false, false], [false, false, false, false, false, false, false, false, false, false, false, false, false, false, false, false, false, false, false, false, false, false, false, false, false, false, false, false, false], [false, true, false, false, false, false, false, false, false, false, false, false, false, false, false, false, false, false, false, false, false, false, false, false, false, false, false, false, false], [true, false, true, false, false, false, false, false, false, false, false, false, false, false, false, false, false, false, false, false, false, false, false, false, false, false, false, false, false], [false, false, false, true, false, false, false, false, false, false, false, false, false, false, false, false, false, false, false, false, false, false, false, false, false, false, false, false, false], [false, false, false, false, true, false, false, false, false, false, false, false, false, false, false, false, false, false, false, false, false, false, false, false, false, false, false, false, false], [false, false, false, false, true, false, false, false, false, false, false, false, false, false, false, false, false, false, false, false, false, false, false, false, false, false, false, false, false], [false, false, false, false, true, true, true, false, false, false, false, false, false, false, false, false, false, false, false, false, false, false, false, false, false, false, false, false, false], [false, false, false, false, true, false, false, true, false, false, false, false, false, false, false, false, false, false, false, false, false, false, false, false, false, false, false, false, false], [false, false, false, false, true, false, false, false, true, false, false, false, false, false, false, false, false, false, false, false, false, false, false, false, false, false, false, false, false], [false, false, false, false, false, false, false, false, false, true, false, false, false, false, false, false, false, false, false, false, false, false, false, false, false, false, false, false, false], [false, false, false, false, false, false, false, false, false, true, true, false, false, false, false, false, false, false, false, false, false, false, false, false, false, false, false, false, false], [false, false, false, false, false, false, false, false, false, true, false, false, false, false, false, false, false, false, false, false, false, false, false, false, false, false, false, false, false], [false, false, false, false, false, false, false, false, false, true, false, false, true, false, false, false, false, false, false, false, false, false, false, false, false, false, false, false, false], [false, false, false, false, false, false, false, false, false, true, false, true, false, true, false, false, false, false, false, false, false, false, false, false, false, false, false, false, false], [false, false, false, false, false, false, false, false, false, true, false, false, false, false, true, false, false, false, false, false, false, false, false, false, false, false, false, false, false], [false, false, false, false, false, false, false, false, false, false, false, true, false, false, false, true, false, false, false, false, false, false, false, false, false, false, false, false, false], [false, false, false, false, false, false, false, false, false, false, false, false, false, false, false, false, true, false, false, false, false, false, false, false, false, false, false, false, false], [false, false, false, false, false, false, false, false, false, false, false, false, false, false, false, false, true, true, false, false, false, false, false, false, false, false, false, false, false], [false, false, false, false, false, false, false, false, false, false, false, false, false, false, false, false, true, false, false, false, false, false, false, false, false, false, false, false, false], [false, false, false, false, false, false, false, false, false, false, false, false, false, false, false, false, true, false, false, true, false, false, false, false, false, false, false, false, false], [false, false, false, false, false, false, false, false, false, false, false, false, false, false, false, false, true, false, true, false, true, false, false, false, false, false, false, false, false], [false, false, false, false, false, false, false, false, false, false, false, false, false, false, false, false, true, false, false, false, false, true, false, false, false, false, false, false, false], [false, false, false, false, false, false, false, false, false, false, false, false, false, false, false, false, false, false, true, false, false, false, true, false, false, false, false, false, false], [false, false, false, false, false, false, false, false, false, false, false, false, false, false, false, false, false, false, false, false, false, false, false, true, false, false, false, false, false], [false, false, false, false, false, false, false, false, false, false, false, false, false, false, false, false, false, false, false, false, false, false, false, true, false, false, false, false, false], [false, false, false, false, false, false, false, false, false, false, false, false, false, false, false, false, false, false, false, false, false, false, false, true, false, true, false, false, false], [false, false, false, false, false, false, false, false, false, false, false, false, false, false, false, false, false, false, false, false, false, false, false, true, true, false, true, false, false], [false, false, false, false, false, false, false, false, false, false, false, false, false, false, false, false, false, false, false, false, false, false, false, true, false, false, false, true, false]]
            (fun L x w1 => w1 = wX.drew)
            (by kernel_rfl) (by kernel_rfl) (by kernel_rfl) (by kernel_rfl) (by kernel_rfl) (by decide) ?_ ?_ ?_
          · intro _
            rfl
          · simp only [List.take_succ_cons, List.take_zero]
            refine ⟨?_, ?_, ?_, ?_, ?_, ?_, ?_, ?_, ?_, ?_, ?_, ?_, ?_, ?_, ?_, ?_, ?_, ?_, ?_, ?_, ?_, ?_, ?_, ?_, ?_, ?_, ?_, ?_, ?_, trivial⟩
            all_goals
              intro L x w9 hS hl hp K9 hK9
              obtain rfl : w9 = wX.drew := hS
              clear hp hl
              replace hK9 := hK9.out
              simp only [actMix, pickV, List.tail_cons, List.headD_cons, Act.put, List.setIfInBounds_toArray, List.set_cons_zero, List.set_cons_succ] at hK9 ⊢
            · go_simp
              with_reducible refine hK9 _ ?_
              rfl
            · go_simp
              with_reducible refine hK9 _ ?_
              rfl
            · go_simp
              with_reducible refine hK9 _ ?_
              rfl
            · go_simp
              with_reducible refine hK9 _ ?_
              rfl
            · go_simp
              with_reducible refine hK9 _ ?_
              rfl
            · go_simp
              with_reducible refine hK9 _ ?_
              rfl
            · go_simp
              with_reducible refine hK9 _ ?_
              rfl
            · go_simp
              with_reducible refine hK9 _ ?_
              rfl
            · go_simp
              with_reducible refine hK9 _ ?_
              rfl
            · go_simp
              with_reducible refine hK9 _ ?_
              rfl
            · go_simp
              with_reducible refine hK9 _ ?_
              rfl
            · go_simp
              refine (HDN.out wX.drew (HD6.out.below ⟨rfl, rfl, rfl, Nat.le_refl _, fun _ _ => rfl⟩)).mono ?_
              rintro e9 w' ⟨rfl, rfl⟩
              with_reducible refine hK9 _ ?_
              rfl
            · go_simp
              with_reducible refine hK9 _ ?_
              rfl
            · go_simp
              with_reducible refine hK9 _ ?_
              rfl
            · go_simp
              with_reducible refine hK9 _ ?_
              rfl
            · go_simp
              with_reducible refine hK9 _ ?_
              rfl
            · go_simp
              with_reducible refine hK9 _ ?_
              rfl
            · go_simp
              with_reducible refine hK9 _ ?_
              rfl
            · go_simp
              refine (HBN.out wX.drew (HD6.out.below ⟨rfl, rfl, rfl, Nat.le_refl _, fun _ _ => rfl⟩)).mono ?_
              rintro e9 w' ⟨rfl, rfl⟩
              with_reducible refine hK9 _ ?_
              rfl
            · go_simp
              with_reducible refine hK9 _ ?_
              rfl
            · go_simp
              with_reducible refine hK9 _ ?_
              rfl
            · go_simp
              with_reducible refine hK9 _ ?_
              rfl
            · go_simp
              with_reducible refine hK9 _ ?_
              rfl
            · go_simp
              with_reducible refine hK9 _ ?_
              rfl
            · go_simp
              with_reducible refine hK9 _ ?_
              rfl
            · go_simp
              with_reducible refine hK9 _ ?_
              rfl
            · go_simp
              with_reducible refine hK9 _ ?_
              rfl
            · go_simp
              with_reducible refine hK9 _ ?_
              rfl
            · go_simp
              with_reducible refine hK9 _ ?_
              rfl
          intro L x w9 hS hL
          obtain rfl : w9 = wX.drew := hS
          clear hL
          simp only [actMix, pickV, List.tail_cons, List.headD_cons, Act.put, List.setIfInBounds_toArray, List.set_cons_zero, List.set_cons_succ, List.replicate_succ, List.replicate_zero, List.drop_succ_cons, List.drop_zero, List.take_succ_cons, List.take_zero]
          go_wp2_with fail
          go_roundw
          case rel => exact ⟨j + 1, t ++ p, by omega, rfl, by go_num, by show _ = _; rw [HTP.out, ← HFT.out], DRW.out.1, DRW.out.2⟩
          case measure => simp [intOf]; omega
        · skip
          have DRW : Hid (Hid (DecS (fun j => j = g ∨ p0 ≤ j) wX.drew g m (chRun m (.size [] []) (t ++ p).data.toList)) ∧ Hid (Keep (fun j => j = g ∨ p0 ≤ j) w3 wX.drew)) := ⟨HREL.out.1.out.below ⟨rfl, rfl, rfl, Nat.le_refl _, fun _ _ => rfl⟩, HREL.out.2.out.trans (Keep.drew wX)⟩
          clear HREL
          have hex := HX2.out rfl rfl
          go_wp2_with fail
          refine region_mixt 29 [some (.int .i64 E1), some (.pointer (some ⟨bW, 3, none⟩)), some (.int .i64 E1), some (.bool false), some (.bool false), some (.string X), some (.string X), some (.bool false), some (.bool false), some (.bool false), some (.pointer (some ⟨g, 0, none⟩)), some (.bool true), some (.pointer (some ⟨bW, 2, none⟩)), some (.bool true), some (.bool false), some (.bool false), some (.bool false), some (.pointer (some ⟨g, 0, none⟩)), some (.string B1), some (.pointer (some ⟨bW, 0, none⟩)), some (.string B1), some (.bool false), some (.bool false), some (.bool false), some (.bool false), some (.pointer (some ⟨bA, 2, none⟩)), some (.bool false), some (.bool false), some (.bool false)]
            [[false, false, false, false, false, false, false, false, false, false, false, false, false, false, false, false, false, false, false, false, false, false, false, false, false, false, false, false, false], [false, false, false, false, false, false, false, false, false, false, false, false, false, false, false, false, false, false, false, false, false, false, false, false, false, false, false, false, false], [false, true, false, false, false, false, false, false, false, false, false, false, false, false, false, false, false, false, false, false, false, false, false, false, false, false, false, false, false], [true, false, true, false, false, false, false, false, false, false, false, false, false, false, false, false, false, false, false, false, false, false, false, false, false, false, false, false, false], [false, false, false, true, false, false, false, false, false, false, false, false, false, false, false, false, false, false, false, false, false, false, false, false, false, false, false, false, false], [false, false, false, false, true, false, false, false, false, false, false, false, false, false, false, false, false, false, false, false, false, false, false, false, false, false, false, false, false], [false, false, false, false, true, false, false, false, false, false, false, false, false, false, false, false, false, false, false, false, false, false, false, false, false, false, false, false, false], [false, false, false, false, true, true, true, false, false, false, false, false, false, false, false, false, false, false, false, false, false, false, false, false, false, false, false, false, false], [false, false, false, false, true, false, false, true, false, false, false, false, false, false, false, false, false, false, false, false, false, false, false, false, false, false, false, false, false], [false, false, false, false, true, false, false, false, true, false, false, false, false, false, false, false, false, false, false, false, false, false, false, false, false, false, false, false, false], [false, false, false, false, false, false, false, false, false, true, false, false, false, false, false, false, false, false, false, false, false, false, false, false, false, false, false, false, false], [false, false, false, false, false, false, false, false, false, true, true, false, false, false, false, false, false, false, false, false, false, false, false, false, false, false, false, false, false], [false, false, false, false, false, false, false, false, false, true, false, false, false, false, false, false, false, false, false, false, false, false, false, false, false, false, false, false, false], [false, false, false, false, false, false, false, false, false, true, false, false, true, false, false, false, false, false, false, false, false, false, false, false, false, false, false, false, false], [false, false, false, false, false, false, false, false, false, true, false, true, false, true, false, false, false, false, false, false, false, false, false, false, false, false, false, false, false], [false, false, false, false, false, false, false, false, false, true, false, false, false, false, true, false, false, false, false, false, false, false, false, false, false, false, false, false, false], [false, false, false, false, false, false, false, false, false, false, false, true, false, false, false, true, false, false, false, false, false, false, false, false, false, false, false, false, false], [false, false, false, false, false, false, false, false, false, false, false, false, false, false, false, false, true, false, false, false, false, false, false, false, false, false, false, false, false], [false, false, false, false, false, false, false, false, false, false, false, false, false, false, false, false, true, true, false, false, false, false, false, false, false, false, false, false, false], [false, false, false, false, false, false, false, false, false, false, false, false, false, false, false, false, true, false, false, false, false, false, false, false, false, false, false, false, false], [false, false, false, false, false, false, false, false, false, false, false, false, false, false, false, false, true, false, false, true, false, false, false, false, false, false, false, false, false], [false, false, false, false, false, false, false, false, false, false, false, false, false, false, false, false, true, false, true, false, true, false, false, false, false, false, false, false, false], [false, false, false, false, false, false, false, false, false, false, false, false, false, false, false, false, true, false, false, false, false, true, false, false, false, false, false, false, false], [false, false, false, false, false, false, false, false, false, false, false, false, false, false, false, false, false, false, true, false, false, false, true, false, false, false, false, false, false], [false, false, false, false, false, false, false, false, false, false, false, false, false, false, false, false, false, false, false, false, false, false, false, true, false, false, false, false, false], [false, false, false, false, false, false, false, false, false, false, false, false, false, false, false, false, false, false, false, false, false, false, false, true, false, false, false, false, false], [false, false, false, false, false, false, false, false, false, false, false, false, false, false, false, false, false, false, false, false, false, false, false, true, false, true, false, false, false], [false, false, false, false, false, false, false, false, false, false, false, false, false, false, false, false, false, false, false, false, false, false, false, true, true, false, true, false, false], [false, false, false, false, false, false, false, false, false, false, false, false, false, false, false, false, false, false, false, false, false, false, false, true, false, false, false, true, false]]
            (fun L x w1 => w1 = wX.drew)
            (by kernel_rfl) (by kernel_rfl) (by kernel_rfl) (by kernel_rfl) (by kernel_rfl) (by decide) ?_ ?_ ?_
          · intro _
            rfl
          · simp only [List.take_succ_cons, List.take_zero]
            refine ⟨?_, ?_, ?_, ?_, ?_, ?_, ?_, ?_, ?_, ?_, ?_, ?_, ?_, ?_, ?_, ?_, ?_, ?_, ?_, ?_, ?_, ?_, ?_, ?_, ?_, ?_, ?_, ?_, ?_, trivial⟩
            all_goals
              intro L x w9 hS hl hp K9 hK9
              obtain rfl : w9 = wX.drew := hS
              clear hp hl
              replace hK9 := hK9.out
              simp only [actMix, pickV, List.tail_cons, List.headD_cons, Act.put, List.setIfInBounds_toArray, List.set_cons_zero, List.set_cons_succ] at hK9 ⊢
            · go_simp
              with_reducible refine hK9 _ ?_
              rfl
            · go_simp
              with_reducible refine hK9 _ ?_
              rfl
            · go_simp
              with_reducible refine hK9 _ ?_
              rfl
            · go_simp
              with_reducible refine hK9 _ ?_
              rfl
            · go_simp
              with_reducible refine hK9 _ ?_
              rfl
            · go_simp
              with_reducible refine hK9 _ ?_
              rfl
            · go_simp
              with_reducible refine hK9 _ ?_
              rfl
            · go_simp
              with_reducible refine hK9 _ ?_
              rfl
            · go_simp
              with_reducible refine hK9 _ ?_
              rfl
            · go_simp
              with_reducible refine hK9 _ ?_
              rfl
            · go_simp
              with_reducible refine hK9 _ ?_
              rfl
            · go_simp
              refine (HDN.out wX.drew (HD6.out.below ⟨rfl, rfl, rfl, Nat.le_refl _, fun _ _ => rfl⟩)).mono ?_
              rintro e9 w' ⟨rfl, rfl⟩
              with_reducible refine hK9 _ ?_
              rfl
            · go_simp
              with_reducible refine hK9 _ ?_
              rfl
            · go_simp
              with_reducible refine hK9 _ ?_
              rfl
            · go_simp
              with_reducible refine hK9 _ ?_
              rfl
            · go_simp
              with_reducible refine hK9 _ ?_
              rfl
            · go_simp
              with_reducible refine hK9 _ ?_
              rfl
            · go_simp
              with_reducible refine hK9 _ ?_
              rfl
            · go_simp
              refine (HBN.out wX.drew (HD6.out.below ⟨rfl, rfl, rfl, Nat.le_refl _, fun _ _ => rfl⟩)).mono ?_
              rintro e9 w' ⟨rfl, rfl⟩
              with_reducible refine hK9 _ ?_
              rfl
            · go_simp
              with_reducible refine hK9 _ ?_
              rfl
            · go_simp
              with_reducible refine hK9 _ ?_
              rfl
            · go_simp
              with_reducible refine hK9 _ ?_
              rfl
            · go_simp
              with_reducible refine hK9 _ ?_
              rfl
            · go_simp
              with_reducible refine hK9 _ ?_
              rfl
            · go_simp
              with_reducible refine hK9 _ ?_
              rfl
            · go_simp
              with_reducible refine hK9 _ ?_
              rfl
            · go_simp
              with_reducible refine hK9 _ ?_
              rfl
            · go_simp
              with_reducible refine hK9 _ ?_
              rfl
            · go_simp
              with_reducible refine hK9 _ ?_
              rfl
          intro L x w9 hS hL
          obtain rfl : w9 = wX.drew := hS
          clear hL
          simp only [actMix, pickV, List.tail_cons, List.headD_cons, Act.put, List.setIfInBounds_toArray, List.set_cons_zero, List.set_cons_succ, List.replicate_succ, List.replicate_zero, List.drop_succ_cons, List.drop_zero, List.take_succ_cons, List.take_zero]
          go_wp2_with fail
          go_roundw
          case rel => exact ⟨j + 1, t ++ p, by omega, rfl, by go_num, by show _ = _; rw [HTP.out, ← HFT.out], DRW.out.1, DRW.out.2⟩
          case measure => simp [intOf]; omega
      · obtain rfl := HCS.out rfl
        have DRW : Hid (Hid (DecS (fun j => j = g ∨ p0 ≤ j) wX.drew g m (chRun m (.size [] []) (t ++ p).data.toList)) ∧ Hid (Keep (fun j => j = g ∨ p0 ≤ j) w3 wX.drew)) := ⟨HREL.out.1.out.below ⟨rfl, rfl, rfl, Nat.le_refl _, fun _ _ => rfl⟩, HREL.out.2.out.trans (Keep.drew wX)⟩
        clear HREL
        obtain rfl := HX1.out rfl
        go_wp2_with fail
        refine region_mixt 29 [some (.int .i64 E1), some (.pointer (some ⟨bW, 3, none⟩)), some (.int .i64 E1), some (.bool false), some (.bool false), some (.string X), some (.string X), some (.bool false), some (.bool false), some (.bool false), some (.pointer (some ⟨g, 0, none⟩)), some (.bool true), some (.pointer (some ⟨bW, 2, none⟩)), some (.bool true), some (.bool false), some (.bool false), some (.bool false), some (.pointer (some ⟨g, 0, none⟩)), some (.string B1), some (.pointer (some ⟨bW, 0, none⟩)), some (.string B1), some (.bool false), some (.bool false), some (.bool false), some (.bool true), some (.pointer (some ⟨bA, 2, none⟩)), some (.bool true), some (.bool false), some (.bool false)]
          [[false, false, false, false, false, false, false, false, false, false, false, false, false, false, false, false, false, false, false, false, false, false, false, false, false, false, false, false, false], [false, false, false, false, false, false, false, false, false, false, false, false, false, false, false, false, false, false, false, false, false, false, false, false, false, false, false, false, false], [false, true, false, false, false, false, false, false, false, false, false, false, false, false, false, false, false, false, false, false, false, false, false, false, false, false, false, false, false], [true, false, true, false, false, false, false, false, false, false, false, false, false, false, false, false, false, false, false, false, false, false, false, false, false, false, false, false, false], [false, false, false, true, false, false, false, false, false, false, false, false, false, false, false, false, false, false, false, false, false, false, false, false, false, false, false, false, false], [false, false, false, false, true, false, false, false, false, false, false, false, false, false, false, false, false, false, false, false, false, false, false, false, false, false, false, false, false], [false, false, false, false, true, false, false, false, false, false, false, false, false, false, false, false, false, false, false, false, false, false, false, false, false, false, false, false, false], [false, false, false, false, true, true, true, false, false, false, false, false, false, false, false, false, false, false, false, false, false, false, false, false, false, false, false, false, false], [false, false, false, false, true, false, false, true, false, false, false, false, false, false, false, false, false, false, false, false, false, false, false, false, false, false, false, false, false], [false, false, false, false, true, false, false, false, true, false, false, false, false, false, false, false, false, false, false, false, false, false, false, false, false, false, false, false, false], [false, false, false, false, false, false, false, false, false, true, false, false, false, false, false, false, false, false, false, false, false, false, false, false, false, false, false, false, false], [false, false, false, false, false, false, false, false, false, true, true, false, false, false, false, false, false, false, false, false, false, false, false, false, false, false, false, false, false], [false, false, false, false, false, false, false, false, false, true, false, false, false, false, false, false, false, false, false, false, false, false, false, false, false, false, false, false, false], [false, false, false, false, false, false, false, false, false, true, false, false, true, false, false, false, false, false, false, false, false, false, false, false, false, false, false, false, false], [false, false, false, false, false, false, false, false, false, true, false, true, false, true, false, false, false, false, false, false, false, false, false, false, false, false, false, false, false], [false, false, false, false, false, false, false, false, false, true, false, false, false, false, true, false, false, false, false, false, false, false, false, false, false, false, false, false, false], [false, false, false, false, false, false, false, false, false, false, false, true, false, false, false, true, false, false, false, false, false, false, false, false, false, false, false, false, false], [false, false, false, false, false, false, false, false, false, false, false, false, false, false, false, false, true, false, false, false, false, false, false, false, false, false, false, false, false], [false, false, false, false, false, false, false, false, false, false, false, false, false, false, false, false, true, true, false, false, false, false, false, false, false, false, false, false, false], [false, false, false, false, false, false, false, false, false, false, false, false, false, false, false, false, true, false, false, false, false, false, false, false, false, false, false, false, false], [false, false, false, false, false, false, false, false, false, false, false, false, false, false, false, false, true, false, false, true, false, false, false, false, false, false, false, false, false], [false, false, false, false, false, false, false, false, false, false, false, false, false, false, false, false, true, false, true, false, true, false, false, false, false, false, false, false, false], [false, false, false, false, false, false, false, false, false, false, false, false, false, false, false, false, true, false, false, false, false, true, false, false, false, false, false, false, false], [false, false, false, false, false, false, false, false, false, false, false, false, false, false, false, false, false, false, true, false, false, false, true, false, false, false, false, false, false], [false, false, false, false, false, false, false, false, false, false, false, false, false, false, false, false, false, false, false, false, false, false, false, true, false, false, false, false, false], [false, false, false, false, false, false, false, false, false, false, false, false, false, false, false, false, false, false, false, false, false, false, false, true, false, false, false, false, false], [false, false, false, false, false, false, false, false, false, false, false, false, false, false, false, false, false, false, false, false, false, false, false, true, false, true, false, false, false], [false, false, false, false, false, false, false, false, false, false, false, false, false, false, false, false, false, false, false, false, false, false, false, true, true, false, true, false, false], [false, false, false, false, false, false, false, false, false, false, false, false, false, false, false, false, false, false, false, false, false, false, false, true, false, false, false, true, false]]
          (fun L x w1 => w1 = wX.drew)
          (by kernel_rfl) (by kernel_rfl) (by kernel_rfl) (by kernel_rfl) (by kernel_rfl) (by decide) ?_ ?_ ?_
        · intro _
          rfl
        · simp only [List.take_succ_cons, List.take_zero]
          refine ⟨?_, ?_, ?_, ?_, ?_, ?_, ?_, ?_, ?_, ?_, ?_, ?_, ?_, ?_, ?_, ?_, ?_, ?_, ?_, ?_, ?_, ?_, ?_, ?_, ?_, ?_, ?_, ?_, ?_, trivial⟩
          all_goals
            intro L x w9 hS hl hp K9 hK9
            obtain rfl : w9 = wX.drew := hS
            clear hp hl
            replace hK9 := hK9.out
            simp only [actMix, pickV, List.tail_cons, List.headD_cons, Act.put, List.setIfInBounds_toArray, List.set_cons_zero, List.set_cons_succ] at hK9 ⊢
          · go_simp
            with_reducible refine hK9 _ ?_
            rfl
          · go_simp
            with_reducible refine hK9 _ ?_
            rfl
          · go_simp
            with_reducible refine hK9 _ ?_
            rfl
          · go_simp
            with_reducible refine hK9 _ ?_
            rfl
          · go_simp
            with_reducible refine hK9 _ ?_
            rfl
          · go_simp
            with_reducible refine hK9 _ ?_
            rfl
          · go_simp
            with_reducible refine hK9 _ ?_
            rfl
          · go_simp
            with_reducible refine hK9 _ ?_
            rfl
          · go_simp
            with_reducible refine hK9 _ ?_
            rfl
          · go_simp
            with_reducible refine hK9 _ ?_
            rfl
          · go_simp
            with_reducible refine hK9 _ ?_
            rfl
          · go_simp
            refine (HDN.out wX.drew (HD6.out.below ⟨rfl, rfl, rfl, Nat.le_refl _, fun _ _ => rfl⟩)).mono ?_
            rintro e9 w' ⟨rfl, rfl⟩
            with_reducible refine hK9 _ ?_
            rfl
          · go_simp
            with_reducible refine hK9 _ ?_
            rfl
          · go_simp
            with_reducible refine hK9 _ ?_
            rfl
          · go_simp
            with_reducible refine hK9 _ ?_
            rfl
          · go_simp
            with_reducible refine hK9 _ ?_
            rfl
          · go_simp
            with_reducible refine hK9 _ ?_
            rfl
          · go_simp
            with_reducible refine hK9 _ ?_
            rfl
          · go_simp
            refine (HBN.out wX.drew (HD6.out.below ⟨rfl, rfl, rfl, Nat.le_refl _, fun _ _ => rfl⟩)).mono ?_
            rintro e9 w' ⟨rfl, rfl⟩
            with_reducible refine hK9 _ ?_
            rfl
          · go_simp
            with_reducible refine hK9 _ ?_
            rfl
          · go_simp
            with_reducible refine hK9 _ ?_
            rfl
          · go_simp
            with_reducible refine hK9 _ ?_
            rfl
          · go_simp
            with_reducible refine hK9 _ ?_
            rfl
          · go_simp
            with_reducible refine hK9 _ ?_
            rfl
          · go_simp
            with_reducible refine hK9 _ ?_
            rfl
          · go_simp
            with_reducible refine hK9 _ ?_
            rfl
          · go_simp
            with_reducible refine hK9 _ ?_
            rfl
          · go_simp
            with_reducible refine hK9 _ ?_
            rfl
          · go_simp
            with_reducible refine hK9 _ ?_
            rfl
        intro L x w9 hS hL
        obtain rfl : w9 = wX.drew := hS
        clear hL
        simp only [actMix, pickV, List.tail_cons, List.headD_cons, Act.put, List.setIfInBounds_toArray, List.set_cons_zero, List.set_cons_succ, List.replicate_succ, List.replicate_zero, List.drop_succ_cons, List.drop_zero, List.take_succ_cons, List.take_zero]
        go_wp2_with fail
        go_roundw
        case rel => exact ⟨j + 1, t ++ X, by omega, rfl, by go_num, by show _ = _; rw [HTP.out, ← HFT.out], DRW.out.1, DRW.out.2⟩
        case measure => simp [intOf]; omega
    · have j1 : ¬ (j : Int) < ps.length := by omega
      go_wp2_with fail
      go_ret
      exact ⟨rfl, hbel⟩
end Go.Proofs.YtchpgdoidpllgaaDoor
