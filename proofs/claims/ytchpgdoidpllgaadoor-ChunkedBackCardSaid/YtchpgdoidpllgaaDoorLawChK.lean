/- The walk of the statement ChunkedBack. -/
import Derived.Test.YtchpgdoidpllgaaDoorLawChB
namespace Go.Proofs.YtchpgdoidpllgaaDoor
open Go.RowKit

theorem flat_back {xs : List ByteArray} (j : Nat) : (bytesOf xs).flatten = (bytesOf (xs.take (j + 1))).flatten ++ (bytesOf (xs.drop (j + 1))).flatten := by
  conv => lhs; rw [← List.take_append_drop (j + 1) xs]
  unfold bytesOf
  rw [List.map_append, List.flatten_append]
set_option maxRecDepth 100000 in
set_option maxHeartbeats 4000000 in
theorem lawChunkedBack (a : Option Addr) (c : Nat) (xs0 : List ByteArray) (hlen : xs0.length ≤ 9223372036854775807) (more0 : ByteArray) (ca : Option Addr) (cc : Nat) (cuts : List Int) (hclen : cuts.length ≤ 9223372036854775807) (w : World) (hw : LaidC w) (hx : IsStrs w a c xs0) (hc : IsInts w ca cc cuts) :
    Calls Tryd.prog 4 #[.slice a xs0.length c, .string more0, .slice ca cuts.length cc] w fun e w' => e = .returned (.bool true) ∧ Below w.heap.size w w' := by
  have HW := Lib.hid hw
  have HWD : Hid (Deb w) := hw.2
  have HWS : Hid (Syn w) := hw.1
  have HX := Lib.hid hx
  have HC := Lib.hid hc
  clear hw hx hc
  go_enter Tryd.func4, Tryd.ntmps4
  go_wp2_with fail
  with_reducible refine (chawake6 w HW.out).mono ?_
  rintro e w1 ⟨rfl, hb1⟩
  have X1 := Lib.hid (HX.out.below hb1)
  clear HX
  go_wp2_with fail
  refine (few14n a c xs0 6 40 (by decide) hlen w1 X1.out).mono ?_
  rintro e w2 ⟨a2, c2, rfl, hx2, hac2, hb2⟩
  obtain ⟨ys, hys⟩ : ∃ ys, ys = fewS xs0 6 40 := ⟨_, rfl⟩
  have hyl : ys.length ≤ 6 := by rw [hys]; exact fewS_lenC xs0 6 40
  have hyz : ∀ y ∈ ys, y.size ≤ 40 := by rw [hys]; exact fun y hy => fewS_sizeC hy
  rw [← hys] at hx2 ⊢
  have hea := encA_bound ys hyz
  have hfa := flat_bound ys hyz
  have HPS := Lib.hid (parts_small hyz)
  have X2 := Lib.hid hx2
  have b2 := hb1.trans (hb2.mono hb1.size)
  clear hx2 hb1 hb2 hys hac2 X1 hyz
  go_wp2_with fail
  refine (cut11 more0 20 w2).mono ?_
  rintro e w' ⟨rfl, rfl⟩
  obtain ⟨mo, hmo⟩ : ∃ mo, mo = cutS more0 20 := ⟨_, rfl⟩
  have hmz : mo.size ≤ 20 := by rw [hmo]; exact cutS_size _ _
  rw [← hmo]
  clear hmo
  go_wp2_with fail
  go_loopw [7, 25] (fun sv iv wr => w2 = wr ∧ ∃ (j : Nat) (t : ByteArray), j ≤ ys.length ∧ iv = .int .i64 (j : Int) ∧ sv = .string t ∧ Hid (t.data.toList = (bytesOf (ys.take j)).flatten)) (fun _ i _ => ys.length - (intOf i).toNat)
  case atStart => exact ⟨rfl, 0, ⟨#[]⟩, by omega, rfl, rfl, rfl⟩
  case round =>
    obtain ⟨rfl, j, t, hj, rfl, rfl, ht⟩ := hrel
    by_cases hlt : j < ys.length
    · obtain h0 | ⟨bk, o, rfl, hbk, hc, hcell⟩ := X2.out
      · subst h0; simp at hlt
      have cj := hcell j ys[j] (by simp [hlt])
      have hft := bytesOf_take hlt
      have hfl := bytesOf_take_le ys (j + 1)
      obtain ⟨p, hp⟩ : ∃ p, p = ys[j] := ⟨_, rfl⟩
      rw [← hp, ← ht.out] at hft
      rw [← hp] at cj
      rw [hft, List.length_append, ← Lib.size_eq, ← Lib.size_eq] at hfl
      have HFT := Lib.hid hft
      clear hcell hp hft
      have j1 : (j : Int) < ys.length := by omega
      go_wp2_with fail
      go_roundw
      case rel => exact ⟨by trivial, j + 1, _, hlt, by go_num, rfl, by show _ = _; rw [HFT.out]; simp⟩
      case measure => simp [intOf]; omega
    · have hjl : j = ys.length := by omega
      have htf : t.data.toList = (bytesOf ys).flatten := by rw [ht.out, hjl, List.take_length]
      have htz : t.size ≤ 240 := by rw [Lib.size_eq, htf]; omega
      have HTF := Lib.hid htf
      have j1 : ¬ (j : Int) < ys.length := by omega
      have hrun : chRun (t.size : Int) (.size [] []) (encL (bytesOf ys)) = .done (bytesOf ys).flatten := by
        have := enc_run (t.size : Int) (bytesOf ys) [] HPS.out (by rw [Lib.size_eq, htf]; simp)
        simpa using this
      have hleft : chLeft (t.size : Int) (.size [] []) (encL (bytesOf ys) ++ mo.data.toList) = mo.data.toList := enc_left (t.size : Int) mo.data.toList (bytesOf ys) [] HPS.out (by rw [Lib.size_eq, htf]; simp)
      have HEL : Hid ((encL (bytesOf ys)).length ≤ 400) := by
        show _ ≤ _
        rw [← encL_of, List.length_append]
        have : lastL.length = 5 := rfl
        omega
      have HE1 := Lib.hid (enc15 a2 c2 ys (by omega) (by omega) w2 X2.out (HWD.out.below b2))
      have HE2 := Lib.hid (fun W h => renc16 a2 c2 ys (by omega) (by omega) W h)
      obtain ⟨L, hL⟩ : ∃ L, L = encL (bytesOf ys) := ⟨_, rfl⟩
      rw [← hL] at HE1 HE2 hrun hleft HEL
      have HRUN : Hid (chRun (t.size : Int) (.size [] []) (L ++ mo.data.toList) = .done t.data.toList) := by
        show _ = _
        rw [chRun_app, hrun, chRun_done, htf]
      have HLEFT := Lib.hid hleft
      have hLz := HEL.out
      have hEz : (bs L).size ≤ 400 := by rw [bs_size]; exact hLz
      clear htf hjl ht hL hrun hleft hea hfa
      obtain ⟨E, hE⟩ : ∃ E, E = bs L := ⟨_, rfl⟩
      rw [← hE] at HE1 HE2 hEz
      have hEm : (E ++ mo).data.toList = L ++ mo.data.toList := by rw [hE]; simp [bs]
      have HEM := Lib.hid hEm
      have hEmz : (E ++ mo).size ≤ 1000 := by rw [Lib.size_eq, hEm, List.length_append, ← Lib.size_eq]; omega
      clear hE hEm
      go_wp2_with fail
      with_reducible refine HE1.out.mono ?_
      rintro e w3 ⟨rfl, hb3⟩
      have b3 := b2.trans (hb3.mono b2.size)
      have X3 := Lib.hid (X2.out.below hb3)
      clear hb3 X2 HE1
      go_wp2_with fail
      with_reducible refine (newS (t.size : Int) w3).mono ?_
      rintro e w4 ⟨rfl, hd4, hb4, hs4⟩
      obtain ⟨g, hg⟩ : ∃ g, g = w3.heap.size := ⟨_, rfl⟩
      rw [← hg] at hd4 hs4 ⊢
      have hg1 : w.heap.size ≤ g := by rw [hg]; exact b3.size
      have b4 := b3.trans (hb4.mono b3.size)
      have X4 := Lib.hid (X3.out.below hb4)
      have D4 := Lib.hid hd4
      clear hd4 hb4 X3 hg
      go_wp2_with fail
      with_reducible refine (HE2.out w4 X4.out).mono ?_
      rintro e w5 ⟨rfl, hb5⟩
      have b5 := b4.trans (hb5.mono b4.size)
      have D5 := Lib.hid (D4.out.below hb5)
      have C5 := Lib.hid (HC.out.below b5)
      have hs5 := hb5.size
      clear hb5 X4 D4 HE2 HC
      go_wp2_with fail
      with_reducible refine (parts9 (E ++ mo) (by omega) ca cc cuts hclen w5 C5.out).mono ?_
      rintro e w6 ⟨a6, c6, ps, rfl, hx6, hps, hpl, hbl, hb6⟩
      have b6 := b5.trans (hb6.mono b5.size)
      have D6 : Hid (DecS (fun j => j = g ∨ w6.heap.size ≤ j) w6 g t.size (.size [] [])) := (D5.out.below hb6).more (fun j _ h => .inl h)
      obtain ⟨p0, hp0⟩ : ∃ p0, p0 = w6.heap.size := ⟨_, rfl⟩
      rw [← hp0] at D6
      have h6s := hb6.size
      have hgp : g < p0 := by rw [hp0]; omega
      have HNG : Hid (∀ ad, a6 = some ad → ¬ (ad.block = g ∨ p0 ≤ ad.block)) := by
        intro ad had
        have := hbl ad had
        omega
      have HX6 := Lib.hid hx6
      rw [HEM.out] at hps
      have HPS2 := Lib.hid hps
      have hfl : Floor (fun j => j = g ∨ p0 ≤ j) w.heap.size := by
        rintro k (rfl | hk)
        · exact hg1
        · have := b6.size; omega
      have HFL := Lib.hid hfl
      have hp6 : p0 ≤ w6.heap.size := by omega
      have HB6 := Lib.hid b6
      have hpsz : (bytesOf ps).flatten.length ≤ 1000 := by rw [hps, List.length_append, ← Lib.size_eq]; omega
      clear hx6 hps hbl hb6 h6s D5 C5 b5 b4 b3 b2 hs4 hs5 hfl hp0
      go_wp2_with fail
      go_loopw [12, 52] (fun sv iv wr => ∃ (i : Nat) (lf : ByteArray), i ≤ ps.length ∧ sv = .string lf ∧ iv = .int .i64 (i : Int) ∧ Hid (lf.data.toList ++ chLeft (t.size : Int) (chRun (t.size : Int) (.size [] []) (bytesOf (ps.take i)).flatten) (bytesOf (ps.drop i)).flatten = mo.data.toList) ∧ Hid (DecS (fun j => j = g ∨ p0 ≤ j) wr g t.size (chRun t.size (.size [] []) (bytesOf (ps.take i)).flatten)) ∧ Hid (Keep (fun j => j = g ∨ p0 ≤ j) w6 wr)) (fun _ iv _ => ps.length - (intOf iv).toNat)
      case atStart => exact ⟨0, ⟨#[]⟩, by omega, rfl, rfl, by show _ = _; rw [List.drop_zero, HPS2.out]; exact HLEFT.out, D6.out, Keep.refl _ _⟩
      case round =>
        clear D6
        obtain ⟨i, lf, hi, rfl, rfl, hlf, hd, hk⟩ := hrel
        have hbel := HB6.out.trans (hk.out.bel HFL.out HB6.out.size)
        have hlz : lf.size ≤ 20 := by
          have := congrArg List.length hlf.out
          rw [List.length_append, ← Lib.size_eq, ← Lib.size_eq] at this
          omega
        by_cases hlt2 : i < ps.length
        · have hx' := isStrs_keep HX6.out hk.out HNG.out
          obtain h0 | ⟨bk, o, rfl, hbk, hc, hcell⟩ := hx'
          · subst h0; simp at hlt2
          have cj := hcell i ps[i] (by simp [hlt2])
          have hft := bytesOf_take hlt2
          have hfb := bytesOf_take_le ps (i + 1)
          have hdr : (bytesOf (ps.drop i)).flatten = ps[i].data.toList ++ (bytesOf (ps.drop (i + 1))).flatten := by
            rw [List.drop_eq_getElem_cons hlt2]; rfl
          obtain ⟨p, hp⟩ : ∃ p, p = ps[i] := ⟨_, rfl⟩
          rw [← hp] at hft hdr cj
          have hall : chRun (t.size : Int) (.size [] []) ((bytesOf (ps.take i)).flatten ++ p.data.toList ++ (bytesOf (ps.drop (i + 1))).flatten) = .done t.data.toList := by
            rw [← hft]
            have := flat_back (xs := ps) i
            rw [← this, HPS2.out]; exact HRUN.out
          have herr := err_before _ _ _ _ _ hall
          rw [hft, List.length_append] at hfb
          obtain ⟨T, hT⟩ : ∃ T, T = (bytesOf (ps.take i)).flatten := ⟨_, rfl⟩
          rw [← hT] at hft hlf hd herr hfb
          rw [chRun_app] at herr
          obtain ⟨σ, hσ⟩ : ∃ σ, σ = chRun (t.size : Int) (.size [] []) T := ⟨_, rfl⟩
          have hbody : σ.body.length ≤ T.length := by
            have := run_body_le (t.size : Int) T (.size [] [])
            rw [hσ]
            simpa [ChS.body] using this
          rw [← hσ] at hlf hd herr
          have hlf2 := hlf.out
          rw [hdr, chLeft_parts] at hlf2
          have HF := Lib.hid (feed12 (fun j => j = g ∨ p0 ≤ j) g t.size (by omega) (by omega) σ p.data.toList (by omega) wr hd.out (fun k hk2 => .inr (Nat.le_trans hp6 (Nat.le_trans hk.out.size hk2))) (fun w' hk2 => HWS.out.below (hbel.trans (hk2.bel HFL.out hbel.size))))
          unfold FeedTo at HF
          rw [bs_of, herr] at HF
          obtain ⟨X, hX⟩ : ∃ X, X = bs (chLeft (t.size : Int) σ p.data.toList) := ⟨_, rfl⟩
          rw [← hX] at HF
          have hXl : X.data.toList = chLeft (t.size : Int) σ p.data.toList := by rw [hX, bs_list]
          rw [← hXl] at hlf2
          have hXz : X.size ≤ 20 := by
            have := congrArg List.length hlf2
            rw [List.length_append, List.length_append, ← Lib.size_eq, ← Lib.size_eq, ← Lib.size_eq] at this
            omega
          have HLF : Hid ((lf ++ X).data.toList ++ chLeft (t.size : Int) (chRun (t.size : Int) (.size [] []) (bytesOf (ps.take (i + 1))).flatten) (bytesOf (ps.drop (i + 1))).flatten = mo.data.toList) := by
            show _ = _
            rw [hft, chRun_app, ← hσ, ← hlf2]
            simp
          have HDR : Hid (chRun (t.size : Int) (.size [] []) (bytesOf (ps.take (i + 1))).flatten = chRun (t.size : Int) σ p.data.toList) := by
            show _ = _
            rw [hft, chRun_app, ← hσ]
          have j2 : (i : Int) < ps.length := by omega
          have HBL := Lib.hid hbel
          clear hcell hp hft hfb hdr hall herr hT hσ hbody hlf2 hX hXl hlf hbel hbk
          go_wp2_with fail
          with_reducible refine HF.out.mono ?_
          rintro e w7 ⟨rfl, hd7, hk7⟩
          rw [← HDR.out] at hd7
          have HD7 := Lib.hid hd7
          have HK7 := Lib.hid (hk.out.trans hk7)
          clear hd7 hk7 hk hd HF
          go_wp2_with fail
          go_roundw
          case rel => exact ⟨i + 1, lf ++ X, by omega, rfl, by go_num, HLF.out, HD7.out, HK7.out⟩
          case measure => simp [intOf]; omega
        · have hil : i = ps.length := by omega
          have j2 : ¬ (i : Int) < ps.length := by omega
          have hlf2 := hlf.out
          have hd2 := hd.out
          rw [hil, List.drop_length, show (bytesOf []).flatten = [] from rfl, chLeft_nil, List.append_nil] at hlf2
          rw [hil, List.take_length, HPS2.out, HRUN.out] at hd2
          have hlm : lf = mo := by rw [← bs_of lf, hlf2, bs_of]
          subst hlm
          have HDN := Lib.hid (doneS _ _ _ _ wr hd2)
          have HBN := Lib.hid (bodyS _ _ _ _ wr hd2)
          rw [show ChS.isDone (.done t.data.toList) = true from rfl] at HDN
          rw [show bs (ChS.body (.done t.data.toList)) = t from bs_of t] at HBN
          clear hlf hd hlf2 hd2 hil
          go_wp2_with fail
          with_reducible refine HDN.out.mono ?_
          rintro e w' ⟨rfl, rfl⟩
          go_wp2_with fail
          with_reducible refine HBN.out.mono ?_
          rintro e w' ⟨rfl, rfl⟩
          go_wp2_with fail
          go_ret
          exact ⟨rfl, hbel⟩
end Go.Proofs.YtchpgdoidpllgaaDoor
