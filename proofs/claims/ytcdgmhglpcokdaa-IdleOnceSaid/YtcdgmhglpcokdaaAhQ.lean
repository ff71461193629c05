/- container/heap: Push, Pop, Remove over agenda's queue (written by genagq.py). -/
import Derived.Test.YtcdgmhglpcokdaaAhP
import Derived.Test.YtcdgmhglpcokdaaAhR
namespace Go.Proofs.Ytcdgmhglpcokdaa
open Go.RowKit
section PlV
variable {pl : Pl}

set_option maxHeartbeats 1000000 in
set_option maxRecDepth 100000 in
theorem hpushS (ab n : Nat) (v mp : Value) (sets : Int) (Q : Nat → It) (it : It) (m : Int) (hn : n ≤ 1000) (w : World) (h : AgS pl 107 106 w ab v n mp sets Q) (hh : HeapAt leI Q n) (hp : Row w it.b 106 #[it.k, .int .i64 it.a, .int .i64 it.t, .int .i64 m]) (hf : ∀ i, i < n → (Q i).b ≠ it.b) :
    Calls Try.prog 52 #[.iface 109 (.pointer (some ⟨ab, pl.o, none⟩)), .iface 107 (.pointer (some ⟨it.b, 0, none⟩))] w fun e w' => e = .returned (.tuple #[]) ∧ ∃ v' Q', AgS pl 107 106 w' ab v' (n + 1) mp sets Q' ∧ HeapAt leI Q' (n + 1) ∧ SameQ (n + 1) (ext Q n it) Q' ∧ Keep (fun k => k = it.b ∨ AgG ab v Q n k) w w' ∧ (∀ k, v'.ownBlock = some k → v.ownBlock = some k ∨ w.heap.size ≤ k) := by
  obtain ⟨cs, hO, hC⟩ := h.own
  have HPU := Lib.hid (pushS ab it.b n v mp sets cs it.k it.a it.t m w hn h.ag hp hO)
  have HO := Lib.hid hO
  have HC := Lib.hid hC
  have HH := Lib.hid h
  have HHH := Lib.hid hh
  have HF := Lib.hid hf
  clear h hh hp hf hO hC
  have hmp := mPushS ab (o := pl.o) w
  go_enter Try.func52, Try.ntmps52
  go_wp2_with fail
  refine HPU.out.mono ?_
  rintro e w1 ⟨rfl, v1, ho1, hl1, ha1, hp1, hk1⟩
  have hs1 := HH.out.pushed pl.n2 (by decide) cs HO.out HC.out ha1 hp1 ho1 hk1 HF.out
  obtain ⟨g, c, rfl, hnc, hcm, hm1⟩ := hs1.open (by omega)
  have HM1 := Lib.hid hm1
  have HK1 : Hid (Keep (fun k => k = it.b ∨ AgG ab v Q n k) w w1) := hk1.more (fun k _ hg => by
    rcases hg with hg | hg | hg
    · exact .inr (.inl hg)
    · exact .inl hg
    · exact .inr (.inr (.inl hg)))
  have HL1 := Lib.hid hl1
  have hml := mLenS ab w1 _ hm1.queue
  have HLE := Lib.hid (lenS g (n + 1) c w1)
  clear ho1 hl1 ha1 hp1 hk1 hs1 hm1 hmp HPU
  go_wp2_with fail
  refine HLE.out.mono ?_
  rintro e w2 ⟨rfl, rfl⟩
  have HUP := Lib.hid (upS ab g c (n + 1) (n + 1) (Nat.le_refl _) mp sets (ext Q n it) (by omega) n (by omega) w2 HM1.out (HHH.out.push (fun i hi => ext_lt Q it hi)))
  have hn1 : (n : Int) + 1 - 1 = n := by omega
  clear HLE hml
  go_wp2_with fail
  refine HUP.out.mono ?_
  rintro e w3 ⟨rfl, Q', hm3, hh3, hs3, _, hk3⟩
  have HM3 := Lib.hid hm3
  have HX : Hid (HeapAt leI Q' (n + 1) ∧ SameQ (n + 1) (ext Q n it) Q') := ⟨hh3, hs3⟩
  have HK3 : Hid (Keep (fun k => k = it.b ∨ AgG ab v Q n k) w w3) := HK1.out.via hk3 (fun k hk hg => by
    rcases hg with hg | ⟨i, hi, hg⟩
    · have h1 := HL1.out k (by rw [hg]; rfl)
      rcases h1 with h1 | h1
      · exact .inr (.inr (.inl h1))
      · omega
    · by_cases e : i = n
      · subst e
        rw [ext_n] at hg
        exact .inl hg.symm
      · rw [ext_lt Q it (by omega)] at hg
        exact .inr (.inr (.inr ⟨i, by omega, hg⟩)))
  clear hm3 hh3 hs3 hk3 HUP
  go_wp2_with fail
  refine bodyPost_end (v := .tuple #[]) (by simp [results, Try.results52]) rfl ?_
  exact ⟨rfl, _, Q', HM3.out.shut hnc hcm, HX.out.1, HX.out.2, HK3.out, HL1.out⟩
set_option maxHeartbeats 1000000 in
set_option maxRecDepth 100000 in
theorem hpopS (ab n : Nat) (v mp : Value) (sets : Int) (Q : Nat → It) (hn : n ≤ 1000) (w : World) (h : AgS pl 107 106 w ab v (n + 1) mp sets Q) (hh : HeapAt leI Q (n + 1)) :
    Calls Try.prog 49 #[.iface 109 (.pointer (some ⟨ab, pl.o, none⟩))] w fun e w' => e = .returned (.iface 107 (ptI (Q 0))) ∧ ∃ g c Q', v = .slice (some ⟨g, 0, none⟩) (n + 1) c ∧ AgS pl 107 106 w' ab (.slice (some ⟨g, 0, none⟩) n c) n mp sets Q' ∧ HeapAt leI Q' n ∧ Without n Q 0 Q' ∧ Row w' (Q 0).b 106 (itR (Q 0) n) ∧ Keep (AgG ab v Q (n + 1)) w w' := by
  obtain ⟨g, c, rfl, hnc, hcm, hm0⟩ := h.open (by omega)
  have HRN : Hid (0 ≤ n) := Nat.zero_le n
  have HIN := Lib.hid h.inj
  have HM0 := Lib.hid hm0
  have HHH := Lib.hid hh
  have hml := mLenS ab w _ hm0.queue
  have hms := mSwapS ab w _ hm0.queue
  have HLE := Lib.hid (lenS g (n + 1) c w)
  have HSW := Lib.hid (swapMS ab g c (n + 1) mp sets Q 0 n (by omega) (by omega) w hm0)
  have hn1 : (n : Int) + 1 - 1 = n := by omega
  clear h hh hm0
  go_enter Try.func49, Try.ntmps49
  go_wp2_with fail
  refine HLE.out.mono ?_
  rintro e w1 ⟨rfl, rfl⟩
  clear HLE hml
  go_wp2_with fail
  refine HSW.out.mono ?_
  rintro e w2 ⟨rfl, hm2, hk2⟩
  have HM2 := Lib.hid hm2
  have HK2 : Hid (Keep (AgG ab (.slice (some ⟨g, 0, none⟩) (n + 1) c) Q (n + 1)) w1 w2) := hk2.more (fun k _ hg => hg.ag)
  have hof : OffI leI (swp Q 0 n) n 0 := by
    by_cases h0 : 0 < n
    · exact HHH.out.off leI_trans h0
    · exact ⟨fun i _ hi => by omega, fun i _ hi => by omega⟩
  have HDN := Lib.hid (downS ab g c (n + 1) n (by omega) mp sets (swp Q 0 n) (by omega) 0 (by omega) w2 HM2.out hof)
  clear hm2 hk2 hof HSW hms
  go_wp2_with fail
  refine HDN.out.mono ?_
  rintro e w4 ⟨b, Q2, rfl, hm4, hs4, hi4, hk4, hd4⟩
  have HM4 := Lib.hid hm4
  have HSM := Lib.hid hs4
  have HQN : Hid (Q2 n = Q 0) := by rw [hi4 n (Nat.le_refl _)]; exact swp_b Q 0 n
  have HHP : Hid (HeapAt leI Q2 n) := by
    cases b with
    | true => exact hd4.1 rfl
    | false =>
      obtain ⟨e1, e2⟩ := hd4.2 rfl
      rw [e1]; exact e2.done (.inl rfl)
  have HK4 : Hid (Keep (AgG ab (.slice (some ⟨g, 0, none⟩) (n + 1) c) Q (n + 1)) w1 w4) := HK2.out.via hk4 (fun k _ hg => ((SameQ.swp Q (i := 0) (j := n) (by omega) (by omega)).hpg hg).ag)
  have hmo := mPopS ab (o := pl.o) w4
  clear hm4 hs4 hi4 hk4 hd4 HDN
  go_wp2_with fail
  refine (popS ab g n c (Q2 n).b w4 (by unfold maxLen at hcm; omega) hnc HM4.out.queue (HM4.out.cell (Nat.lt_succ_self n)) (HM4.out.ag.free pl.o) (HM4.out.free n) (Ne.symm (HM4.out.abg pl.n1 pl.n2 g (.inl rfl)))).mono ?_
  rintro e w5 ⟨rfl, rfl⟩
  obtain ⟨p1, p2, p3⟩ := HM4.out.popped pl.n1 pl.n2 (by decide)
  have HP1 := Lib.hid (p1.shut (by omega) hcm)
  have HP2 := Lib.hid p2
  have HK5 := Lib.hid (HK4.out.via p3 (fun k _ hg => by
    rcases hg with hg | hg
    · exact .inl hg
    · exact .inr (.inl (by rw [hg]; rfl))))
  clear p1 p2 p3
  go_wp2_with fail
  go_ret
  rw [HQN.out] at HP2
  exact ⟨by rw [HQN.out]; rfl, g, c, Q2, rfl, HP1.out, HHP.out, without_of HRN.out HIN.out HSM.out HQN.out HM4.out.q.inj, HP2.out, HK5.out⟩
set_option maxHeartbeats 2000000 in
set_option maxRecDepth 100000 in
theorem hremS (ab n : Nat) (v mp : Value) (sets : Int) (Q : Nat → It) (hn : n ≤ 1000) (R : Nat) (hR : R < n + 1) (w : World) (h : AgS pl 107 106 w ab v (n + 1) mp sets Q) (hh : HeapAt leI Q (n + 1)) :
    Calls Try.prog 43 #[.iface 109 (.pointer (some ⟨ab, pl.o, none⟩)), .int .i64 (R : Int)] w fun e w' => e = .returned (.iface 107 (ptI (Q R))) ∧ ∃ g c Q', v = .slice (some ⟨g, 0, none⟩) (n + 1) c ∧ AgS pl 107 106 w' ab (.slice (some ⟨g, 0, none⟩) n c) n mp sets Q' ∧ HeapAt leI Q' n ∧ Without n Q R Q' ∧ Row w' (Q R).b 106 (itR (Q R) n) ∧ Keep (AgG ab v Q (n + 1)) w w' := by
  obtain ⟨g, c, rfl, hnc, hcm, hm0⟩ := h.open (by omega)
  have HRN : Hid (R ≤ n) := Nat.le_of_lt_succ hR
  have HIN := Lib.hid h.inj
  have HM0 := Lib.hid hm0
  have HHH := Lib.hid hh
  have hml := mLenS ab w _ hm0.queue
  have HLE := Lib.hid (lenS g (n + 1) c w)
  have hn1 : (n : Int) + 1 - 1 = n := by omega
  clear h hh hm0
  by_cases hRn : R = n
  · have hRn2 := hRn.symm
    subst hRn2
    clear hRn
    go_enter Try.func43, Try.ntmps43
    go_wp2_with fail
    refine HLE.out.mono ?_
    rintro e w4 ⟨rfl, rfl⟩
    have HM4 := HM0
    have HSM : Hid (SameQ (n + 1) (swp Q n n) Q) := by rw [swp_self]; exact SameQ.refl _ _
    have HHP : Hid (HeapAt leI Q n) := HHH.out.pop
    have HK4 := Lib.hid (Keep.refl (AgG ab (.slice (some ⟨g, 0, none⟩) (n + 1) c) Q (n + 1)) w4)
    have hmo := mPopS ab (o := pl.o) w4
    clear HLE hml
    go_wp2_with fail
    refine (popS ab g n c (Q n).b w4 (by unfold maxLen at hcm; omega) hnc HM4.out.queue (HM4.out.cell (Nat.lt_succ_self n)) (HM4.out.ag.free pl.o) (HM4.out.free n) (Ne.symm (HM4.out.abg pl.n1 pl.n2 g (.inl rfl)))).mono ?_
    rintro e w5 ⟨rfl, rfl⟩
    obtain ⟨p1, p2, p3⟩ := HM4.out.popped pl.n1 pl.n2 (by decide)
    have HP1 := Lib.hid (p1.shut (by omega) hcm)
    have HP2 := Lib.hid p2
    have HK5 := Lib.hid (HK4.out.via p3 (fun k _ hg => by
      rcases hg with hg | hg
      · exact .inl hg
      · exact .inr (.inl (by rw [hg]; rfl))))
    clear p1 p2 p3
    go_wp2_with fail
    go_ret
    exact ⟨rfl, g, c, Q, rfl, HP1.out, HHP.out, without_of HRN.out HIN.out HSM.out rfl HM4.out.q.inj, HP2.out, HK5.out⟩
  · have hRlt : R < n := by omega
    have hne : ((n : Int) == (R : Int)) = false := by simp; omega
    have HSW := Lib.hid (swapMS ab g c (n + 1) mp sets Q R n (by omega) (by omega) w HM0.out)
    have hms := mSwapS ab w _ HM0.out.queue
    go_enter Try.func43, Try.ntmps43
    go_wp2_with fail
    refine HLE.out.mono ?_
    rintro e w1 ⟨rfl, rfl⟩
    clear HLE hml hRn
    go_wp2_with fail
    refine HSW.out.mono ?_
    rintro e w2 ⟨rfl, hm2, hk2⟩
    have HM2 := Lib.hid hm2
    have HK2 : Hid (Keep (AgG ab (.slice (some ⟨g, 0, none⟩) (n + 1) c) Q (n + 1)) w1 w2) := hk2.more (fun k _ hg => hg.ag)
    have HDN := Lib.hid (downS ab g c (n + 1) n (by omega) mp sets (swp Q R n) (by omega) R (by omega) w2 HM2.out (HHH.out.off leI_trans hRlt))
    clear hm2 hk2 HSW hms
    go_wp2_with fail
    refine HDN.out.mono ?_
    rintro e w3 ⟨b, Q1, rfl, hm3, hs3, hi3, hk3, hd3⟩
    have HM3 := Lib.hid hm3
    have HS3 := Lib.hid hs3
    have HI3 := Lib.hid hi3
    have HK3 : Hid (Keep (AgG ab (.slice (some ⟨g, 0, none⟩) (n + 1) c) Q (n + 1)) w1 w3) := HK2.out.via hk3 (fun k _ hg => ((SameQ.swp Q (i := R) (j := n) (by omega) (by omega)).hpg hg).ag)
    cases b with
    | true =>
      have HHP := Lib.hid (hd3.1 rfl)
      clear hm3 hs3 hi3 hk3 hd3 HDN
      have HM4 := HM3
      have HSM := HS3
      have HK4 := HK3
      have HQN : Hid (Q1 n = Q R) := by rw [HI3.out n (Nat.le_refl _)]; exact swp_b Q R n
      have hmo := mPopS ab (o := pl.o) w3
      go_wp2_with fail
      refine (popS ab g n c (Q1 n).b w3 (by unfold maxLen at hcm; omega) hnc HM4.out.queue (HM4.out.cell (Nat.lt_succ_self n)) (HM4.out.ag.free pl.o) (HM4.out.free n) (Ne.symm (HM4.out.abg pl.n1 pl.n2 g (.inl rfl)))).mono ?_
      rintro e w5 ⟨rfl, rfl⟩
      obtain ⟨p1, p2, p3⟩ := HM4.out.popped pl.n1 pl.n2 (by decide)
      have HP1 := Lib.hid (p1.shut (by omega) hcm)
      have HP2 := Lib.hid p2
      have HK5 := Lib.hid (HK4.out.via p3 (fun k _ hg => by
        rcases hg with hg | hg
        · exact .inl hg
        · exact .inr (.inl (by rw [hg]; rfl))))
      clear p1 p2 p3
      go_wp2_with fail
      go_ret
      rw [HQN.out] at HP2
      exact ⟨by rw [HQN.out]; rfl, g, c, Q1, rfl, HP1.out, HHP.out, without_of HRN.out HIN.out HSM.out HQN.out HM4.out.q.inj, HP2.out, HK5.out⟩
    | false =>
      obtain ⟨e1, e2⟩ := hd3.2 rfl
      subst e1
      have HUP := Lib.hid (upS ab g c (n + 1) n (by omega) mp sets (swp Q R n) (by omega) R hRlt w3 HM3.out e2)
      clear hm3 hs3 hi3 hk3 hd3 HDN e2
      go_wp2_with fail
      refine HUP.out.mono ?_
      rintro e w4 ⟨rfl, Q2, hm4, hh4, hs4, hi4, hk4⟩
      have HM4 := Lib.hid hm4
      have HSM := Lib.hid (HS3.out.trans hs4)
      have HHP := Lib.hid hh4
      have HQN : Hid (Q2 n = Q R) := by rw [hi4 n (Nat.le_refl _)]; exact swp_b Q R n
      have HK4 : Hid (Keep (AgG ab (.slice (some ⟨g, 0, none⟩) (n + 1) c) Q (n + 1)) w1 w4) := HK3.out.via hk4 (fun k _ hg => ((SameQ.swp Q (i := R) (j := n) (by omega) (by omega)).hpg hg).ag)
      have hmo := mPopS ab (o := pl.o) w4
      clear hm4 hs4 hi4 hk4 hh4 HUP
      go_wp2_with fail
      refine (popS ab g n c (Q2 n).b w4 (by unfold maxLen at hcm; omega) hnc HM4.out.queue (HM4.out.cell (Nat.lt_succ_self n)) (HM4.out.ag.free pl.o) (HM4.out.free n) (Ne.symm (HM4.out.abg pl.n1 pl.n2 g (.inl rfl)))).mono ?_
      rintro e w5 ⟨rfl, rfl⟩
      obtain ⟨p1, p2, p3⟩ := HM4.out.popped pl.n1 pl.n2 (by decide)
      have HP1 := Lib.hid (p1.shut (by omega) hcm)
      have HP2 := Lib.hid p2
      have HK5 := Lib.hid (HK4.out.via p3 (fun k _ hg => by
        rcases hg with hg | hg
        · exact .inl hg
        · exact .inr (.inl (by rw [hg]; rfl))))
      clear p1 p2 p3
      go_wp2_with fail
      go_ret
      rw [HQN.out] at HP2
      exact ⟨by rw [HQN.out]; rfl, g, c, Q2, rfl, HP1.out, HHP.out, without_of HRN.out HIN.out HSM.out HQN.out HM4.out.q.inj, HP2.out, HK5.out⟩
set_option maxHeartbeats 1000000 in
set_option maxRecDepth 100000 in
theorem hpushN (ab n : Nat) (v mp : Value) (sets : Int) (Q : Nat → It) (it : It) (m : Int) (hn : n ≤ 1000) (w : World) (h : AgS pl 97 99 w ab v n mp sets Q) (hh : HeapAt leI Q n) (hp : Row w it.b 99 #[it.k, .int .i64 it.a, .int .i64 it.t, .int .i64 m]) (hf : ∀ i, i < n → (Q i).b ≠ it.b) :
    Calls Try.prog 52 #[.iface 102 (.pointer (some ⟨ab, pl.o, none⟩)), .iface 97 (.pointer (some ⟨it.b, 0, none⟩))] w fun e w' => e = .returned (.tuple #[]) ∧ ∃ v' Q', AgS pl 97 99 w' ab v' (n + 1) mp sets Q' ∧ HeapAt leI Q' (n + 1) ∧ SameQ (n + 1) (ext Q n it) Q' ∧ Keep (fun k => k = it.b ∨ AgG ab v Q n k) w w' ∧ (∀ k, v'.ownBlock = some k → v.ownBlock = some k ∨ w.heap.size ≤ k) := by
  obtain ⟨cs, hO, hC⟩ := h.own
  have HPU := Lib.hid (pushN ab it.b n v mp sets cs it.k it.a it.t m w hn h.ag hp hO)
  have HO := Lib.hid hO
  have HC := Lib.hid hC
  have HH := Lib.hid h
  have HHH := Lib.hid hh
  have HF := Lib.hid hf
  clear h hh hp hf hO hC
  have hmp := mPushN ab (o := pl.o) w
  go_enter Try.func52, Try.ntmps52
  go_wp2_with fail
  refine HPU.out.mono ?_
  rintro e w1 ⟨rfl, v1, ho1, hl1, ha1, hp1, hk1⟩
  have hs1 := HH.out.pushed pl.n4 (by decide) cs HO.out HC.out ha1 hp1 ho1 hk1 HF.out
  obtain ⟨g, c, rfl, hnc, hcm, hm1⟩ := hs1.open (by omega)
  have HM1 := Lib.hid hm1
  have HK1 : Hid (Keep (fun k => k = it.b ∨ AgG ab v Q n k) w w1) := hk1.more (fun k _ hg => by
    rcases hg with hg | hg | hg
    · exact .inr (.inl hg)
    · exact .inl hg
    · exact .inr (.inr (.inl hg)))
  have HL1 := Lib.hid hl1
  have hml := mLenN ab w1 _ hm1.queue
  have HLE := Lib.hid (lenN g (n + 1) c w1)
  clear ho1 hl1 ha1 hp1 hk1 hs1 hm1 hmp HPU
  go_wp2_with fail
  refine HLE.out.mono ?_
  rintro e w2 ⟨rfl, rfl⟩
  have HUP := Lib.hid (upN ab g c (n + 1) (n + 1) (Nat.le_refl _) mp sets (ext Q n it) (by omega) n (by omega) w2 HM1.out (HHH.out.push (fun i hi => ext_lt Q it hi)))
  have hn1 : (n : Int) + 1 - 1 = n := by omega
  clear HLE hml
  go_wp2_with fail
  refine HUP.out.mono ?_
  rintro e w3 ⟨rfl, Q', hm3, hh3, hs3, _, hk3⟩
  have HM3 := Lib.hid hm3
  have HX : Hid (HeapAt leI Q' (n + 1) ∧ SameQ (n + 1) (ext Q n it) Q') := ⟨hh3, hs3⟩
  have HK3 : Hid (Keep (fun k => k = it.b ∨ AgG ab v Q n k) w w3) := HK1.out.via hk3 (fun k hk hg => by
    rcases hg with hg | ⟨i, hi, hg⟩
    · have h1 := HL1.out k (by rw [hg]; rfl)
      rcases h1 with h1 | h1
      · exact .inr (.inr (.inl h1))
      · omega
    · by_cases e : i = n
      · subst e
        rw [ext_n] at hg
        exact .inl hg.symm
      · rw [ext_lt Q it (by omega)] at hg
        exact .inr (.inr (.inr ⟨i, by omega, hg⟩)))
  clear hm3 hh3 hs3 hk3 HUP
  go_wp2_with fail
  refine bodyPost_end (v := .tuple #[]) (by simp [results, Try.results52]) rfl ?_
  exact ⟨rfl, _, Q', HM3.out.shut hnc hcm, HX.out.1, HX.out.2, HK3.out, HL1.out⟩
set_option maxHeartbeats 1000000 in
set_option maxRecDepth 100000 in
theorem hpopN (ab n : Nat) (v mp : Value) (sets : Int) (Q : Nat → It) (hn : n ≤ 1000) (w : World) (h : AgS pl 97 99 w ab v (n + 1) mp sets Q) (hh : HeapAt leI Q (n + 1)) :
    Calls Try.prog 49 #[.iface 102 (.pointer (some ⟨ab, pl.o, none⟩))] w fun e w' => e = .returned (.iface 97 (ptI (Q 0))) ∧ ∃ g c Q', v = .slice (some ⟨g, 0, none⟩) (n + 1) c ∧ AgS pl 97 99 w' ab (.slice (some ⟨g, 0, none⟩) n c) n mp sets Q' ∧ HeapAt leI Q' n ∧ Without n Q 0 Q' ∧ Row w' (Q 0).b 99 (itR (Q 0) n) ∧ Keep (AgG ab v Q (n + 1)) w w' := by
  obtain ⟨g, c, rfl, hnc, hcm, hm0⟩ := h.open (by omega)
  have HRN : Hid (0 ≤ n) := Nat.zero_le n
  have HIN := Lib.hid h.inj
  have HM0 := Lib.hid hm0
  have HHH := Lib.hid hh
  have hml := mLenN ab w _ hm0.queue
  have hms := mSwapN ab w _ hm0.queue
  have HLE := Lib.hid (lenN g (n + 1) c w)
  have HSW := Lib.hid (swapMN ab g c (n + 1) mp sets Q 0 n (by omega) (by omega) w hm0)
  have hn1 : (n : Int) + 1 - 1 = n := by omega
  clear h hh hm0
  go_enter Try.func49, Try.ntmps49
  go_wp2_with fail
  refine HLE.out.mono ?_
  rintro e w1 ⟨rfl, rfl⟩
  clear HLE hml
  go_wp2_with fail
  refine HSW.out.mono ?_
  rintro e w2 ⟨rfl, hm2, hk2⟩
  have HM2 := Lib.hid hm2
  have HK2 : Hid (Keep (AgG ab (.slice (some ⟨g, 0, none⟩) (n + 1) c) Q (n + 1)) w1 w2) := hk2.more (fun k _ hg => hg.ag)
  have hof : OffI leI (swp Q 0 n) n 0 := by
    by_cases h0 : 0 < n
    · exact HHH.out.off leI_trans h0
    · exact ⟨fun i _ hi => by omega, fun i _ hi => by omega⟩
  have HDN := Lib.hid (downN ab g c (n + 1) n (by omega) mp sets (swp Q 0 n) (by omega) 0 (by omega) w2 HM2.out hof)
  clear hm2 hk2 hof HSW hms
  go_wp2_with fail
  refine HDN.out.mono ?_
  rintro e w4 ⟨b, Q2, rfl, hm4, hs4, hi4, hk4, hd4⟩
  have HM4 := Lib.hid hm4
  have HSM := Lib.hid hs4
  have HQN : Hid (Q2 n = Q 0) := by rw [hi4 n (Nat.le_refl _)]; exact swp_b Q 0 n
  have HHP : Hid (HeapAt leI Q2 n) := by
    cases b with
    | true => exact hd4.1 rfl
    | false =>
      obtain ⟨e1, e2⟩ := hd4.2 rfl
      rw [e1]; exact e2.done (.inl rfl)
  have HK4 : Hid (Keep (AgG ab (.slice (some ⟨g, 0, none⟩) (n + 1) c) Q (n + 1)) w1 w4) := HK2.out.via hk4 (fun k _ hg => ((SameQ.swp Q (i := 0) (j := n) (by omega) (by omega)).hpg hg).ag)
  have hmo := mPopN ab (o := pl.o) w4
  clear hm4 hs4 hi4 hk4 hd4 HDN
  go_wp2_with fail
  refine (popN ab g n c (Q2 n).b w4 (by unfold maxLen at hcm; omega) hnc HM4.out.queue (HM4.out.cell (Nat.lt_succ_self n)) (HM4.out.ag.free pl.o) (HM4.out.free n) (Ne.symm (HM4.out.abg pl.n3 pl.n4 g (.inl rfl)))).mono ?_
  rintro e w5 ⟨rfl, rfl⟩
  obtain ⟨p1, p2, p3⟩ := HM4.out.popped pl.n3 pl.n4 (by decide)
  have HP1 := Lib.hid (p1.shut (by omega) hcm)
  have HP2 := Lib.hid p2
  have HK5 := Lib.hid (HK4.out.via p3 (fun k _ hg => by
    rcases hg with hg | hg
    · exact .inl hg
    · exact .inr (.inl (by rw [hg]; rfl))))
  clear p1 p2 p3
  go_wp2_with fail
  go_ret
  rw [HQN.out] at HP2
  exact ⟨by rw [HQN.out]; rfl, g, c, Q2, rfl, HP1.out, HHP.out, without_of HRN.out HIN.out HSM.out HQN.out HM4.out.q.inj, HP2.out, HK5.out⟩
set_option maxHeartbeats 2000000 in
set_option maxRecDepth 100000 in
theorem hremN (ab n : Nat) (v mp : Value) (sets : Int) (Q : Nat → It) (hn : n ≤ 1000) (R : Nat) (hR : R < n + 1) (w : World) (h : AgS pl 97 99 w ab v (n + 1) mp sets Q) (hh : HeapAt leI Q (n + 1)) :
    Calls Try.prog 43 #[.iface 102 (.pointer (some ⟨ab, pl.o, none⟩)), .int .i64 (R : Int)] w fun e w' => e = .returned (.iface 97 (ptI (Q R))) ∧ ∃ g c Q', v = .slice (some ⟨g, 0, none⟩) (n + 1) c ∧ AgS pl 97 99 w' ab (.slice (some ⟨g, 0, none⟩) n c) n mp sets Q' ∧ HeapAt leI Q' n ∧ Without n Q R Q' ∧ Row w' (Q R).b 99 (itR (Q R) n) ∧ Keep (AgG ab v Q (n + 1)) w w' := by
  obtain ⟨g, c, rfl, hnc, hcm, hm0⟩ := h.open (by omega)
  have HRN : Hid (R ≤ n) := Nat.le_of_lt_succ hR
  have HIN := Lib.hid h.inj
  have HM0 := Lib.hid hm0
  have HHH := Lib.hid hh
  have hml := mLenN ab w _ hm0.queue
  have HLE := Lib.hid (lenN g (n + 1) c w)
  have hn1 : (n : Int) + 1 - 1 = n := by omega
  clear h hh hm0
  by_cases hRn : R = n
  · have hRn2 := hRn.symm
    subst hRn2
    clear hRn
    go_enter Try.func43, Try.ntmps43
    go_wp2_with fail
    refine HLE.out.mono ?_
    rintro e w4 ⟨rfl, rfl⟩
    have HM4 := HM0
    have HSM : Hid (SameQ (n + 1) (swp Q n n) Q) := by rw [swp_self]; exact SameQ.refl _ _
    have HHP : Hid (HeapAt leI Q n) := HHH.out.pop
    have HK4 := Lib.hid (Keep.refl (AgG ab (.slice (some ⟨g, 0, none⟩) (n + 1) c) Q (n + 1)) w4)
    have hmo := mPopN ab (o := pl.o) w4
    clear HLE hml
    go_wp2_with fail
    refine (popN ab g n c (Q n).b w4 (by unfold maxLen at hcm; omega) hnc HM4.out.queue (HM4.out.cell (Nat.lt_succ_self n)) (HM4.out.ag.free pl.o) (HM4.out.free n) (Ne.symm (HM4.out.abg pl.n3 pl.n4 g (.inl rfl)))).mono ?_
    rintro e w5 ⟨rfl, rfl⟩
    obtain ⟨p1, p2, p3⟩ := HM4.out.popped pl.n3 pl.n4 (by decide)
    have HP1 := Lib.hid (p1.shut (by omega) hcm)
    have HP2 := Lib.hid p2
    have HK5 := Lib.hid (HK4.out.via p3 (fun k _ hg => by
      rcases hg with hg | hg
      · exact .inl hg
      · exact .inr (.inl (by rw [hg]; rfl))))
    clear p1 p2 p3
    go_wp2_with fail
    go_ret
    exact ⟨rfl, g, c, Q, rfl, HP1.out, HHP.out, without_of HRN.out HIN.out HSM.out rfl HM4.out.q.inj, HP2.out, HK5.out⟩
  · have hRlt : R < n := by omega
    have hne : ((n : Int) == (R : Int)) = false := by simp; omega
    have HSW := Lib.hid (swapMN ab g c (n + 1) mp sets Q R n (by omega) (by omega) w HM0.out)
    have hms := mSwapN ab w _ HM0.out.queue
    go_enter Try.func43, Try.ntmps43
    go_wp2_with fail
    refine HLE.out.mono ?_
    rintro e w1 ⟨rfl, rfl⟩
    clear HLE hml hRn
    go_wp2_with fail
    refine HSW.out.mono ?_
    rintro e w2 ⟨rfl, hm2, hk2⟩
    have HM2 := Lib.hid hm2
    have HK2 : Hid (Keep (AgG ab (.slice (some ⟨g, 0, none⟩) (n + 1) c) Q (n + 1)) w1 w2) := hk2.more (fun k _ hg => hg.ag)
    have HDN := Lib.hid (downN ab g c (n + 1) n (by omega) mp sets (swp Q R n) (by omega) R (by omega) w2 HM2.out (HHH.out.off leI_trans hRlt))
    clear hm2 hk2 HSW hms
    go_wp2_with fail
    refine HDN.out.mono ?_
    rintro e w3 ⟨b, Q1, rfl, hm3, hs3, hi3, hk3, hd3⟩
    have HM3 := Lib.hid hm3
    have HS3 := Lib.hid hs3
    have HI3 := Lib.hid hi3
    have HK3 : Hid (Keep (AgG ab (.slice (some ⟨g, 0, none⟩) (n + 1) c) Q (n + 1)) w1 w3) := HK2.out.via hk3 (fun k _ hg => ((SameQ.swp Q (i := R) (j := n) (by omega) (by omega)).hpg hg).ag)
    cases b with
    | true =>
      have HHP := Lib.hid (hd3.1 rfl)
      clear hm3 hs3 hi3 hk3 hd3 HDN
      have HM4 := HM3
      have HSM := HS3
      have HK4 := HK3
      have HQN : Hid (Q1 n = Q R) := by rw [HI3.out n (Nat.le_refl _)]; exact swp_b Q R n
      have hmo := mPopN ab (o := pl.o) w3
      go_wp2_with fail
      refine (popN ab g n c (Q1 n).b w3 (by unfold maxLen at hcm; omega) hnc HM4.out.queue (HM4.out.cell (Nat.lt_succ_self n)) (HM4.out.ag.free pl.o) (HM4.out.free n) (Ne.symm (HM4.out.abg pl.n3 pl.n4 g (.inl rfl)))).mono ?_
      rintro e w5 ⟨rfl, rfl⟩
      obtain ⟨p1, p2, p3⟩ := HM4.out.popped pl.n3 pl.n4 (by decide)
      have HP1 := Lib.hid (p1.shut (by omega) hcm)
      have HP2 := Lib.hid p2
      have HK5 := Lib.hid (HK4.out.via p3 (fun k _ hg => by
        rcases hg with hg | hg
        · exact .inl hg
        · exact .inr (.inl (by rw [hg]; rfl))))
      clear p1 p2 p3
      go_wp2_with fail
      go_ret
      rw [HQN.out] at HP2
      exact ⟨by rw [HQN.out]; rfl, g, c, Q1, rfl, HP1.out, HHP.out, without_of HRN.out HIN.out HSM.out HQN.out HM4.out.q.inj, HP2.out, HK5.out⟩
    | false =>
      obtain ⟨e1, e2⟩ := hd3.2 rfl
      subst e1
      have HUP := Lib.hid (upN ab g c (n + 1) n (by omega) mp sets (swp Q R n) (by omega) R hRlt w3 HM3.out e2)
      clear hm3 hs3 hi3 hk3 hd3 HDN e2
      go_wp2_with fail
      refine HUP.out.mono ?_
      rintro e w4 ⟨rfl, Q2, hm4, hh4, hs4, hi4, hk4⟩
      have HM4 := Lib.hid hm4
      have HSM := Lib.hid (HS3.out.trans hs4)
      have HHP := Lib.hid hh4
      have HQN : Hid (Q2 n = Q R) := by rw [hi4 n (Nat.le_refl _)]; exact swp_b Q R n
      have HK4 : Hid (Keep (AgG ab (.slice (some ⟨g, 0, none⟩) (n + 1) c) Q (n + 1)) w1 w4) := HK3.out.via hk4 (fun k _ hg => ((SameQ.swp Q (i := R) (j := n) (by omega) (by omega)).hpg hg).ag)
      have hmo := mPopN ab (o := pl.o) w4
      clear hm4 hs4 hi4 hk4 hh4 HUP
      go_wp2_with fail
      refine (popN ab g n c (Q2 n).b w4 (by unfold maxLen at hcm; omega) hnc HM4.out.queue (HM4.out.cell (Nat.lt_succ_self n)) (HM4.out.ag.free pl.o) (HM4.out.free n) (Ne.symm (HM4.out.abg pl.n3 pl.n4 g (.inl rfl)))).mono ?_
      rintro e w5 ⟨rfl, rfl⟩
      obtain ⟨p1, p2, p3⟩ := HM4.out.popped pl.n3 pl.n4 (by decide)
      have HP1 := Lib.hid (p1.shut (by omega) hcm)
      have HP2 := Lib.hid p2
      have HK5 := Lib.hid (HK4.out.via p3 (fun k _ hg => by
        rcases hg with hg | hg
        · exact .inl hg
        · exact .inr (.inl (by rw [hg]; rfl))))
      clear p1 p2 p3
      go_wp2_with fail
      go_ret
      rw [HQN.out] at HP2
      exact ⟨by rw [HQN.out]; rfl, g, c, Q2, rfl, HP1.out, HHP.out, without_of HRN.out HIN.out HSM.out HQN.out HM4.out.q.inj, HP2.out, HK5.out⟩
end PlV
end Go.Proofs.Ytcdgmhglpcokdaa
