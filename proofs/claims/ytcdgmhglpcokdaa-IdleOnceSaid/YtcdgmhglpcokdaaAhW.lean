/- An agenda in memory: insert (written by genagw.py). -/
import Derived.Test.YtcdgmhglpcokdaaAhV
namespace Go.Proofs.Ytcdgmhglpcokdaa
open Go.RowKit Go.Maps
section PlV
variable {pl : Pl}

section
variable {κ : Type} {K : KTy κ} {pl : Pl} {PT IT : TypeId} {M : MTyK K (Option Nat)} {w w' : World} {ab n N : Nat} {v mp : Value} {sets : Int} {Q Q1 : Nat → It} {F : κ → Option Nat} {S : Nat → Prop}
theorem AgX.ins (h : AgX pl PT IT M w ab n N v mp sets Q F S) {it : It} {k : κ} (ok : K.ok k) (hk : it.k = K.kv k) (hF : F k = none) (hsq : SameQ (n + 1) (ext Q n it) Q1) :
    (∀ k' b, updK F k (some it.b) k' = some b → ∃ i, i < n + 1 ∧ (Q1 i).k = K.kv k' ∧ (Q1 i).b = b ∧ K.ok k') ∧ ∀ i, i < n + 1 → ∃ k', K.ok k' ∧ (Q1 i).k = K.kv k' ∧ updK F k (some it.b) k' = some (Q1 i).b := by
  refine ⟨fun k' b e => ?_, fun i hi => ?_⟩
  · by_cases hx : k' = k
    · subst hx
      rw [updK_same] at e
      injection e with e
      obtain ⟨j, hj, e2⟩ := hsq.2 n (by omega)
      rw [ext_n] at e2
      exact ⟨j, hj, by rw [← e2]; exact hk, by rw [← e2]; exact e, ok⟩
    · rw [updK_other F _ hx] at e
      obtain ⟨i, hi, e1, e2, e3⟩ := h.fto k' b e
      obtain ⟨j, hj, e4⟩ := hsq.2 i (by omega)
      rw [ext_lt Q it hi] at e4
      exact ⟨j, hj, by rw [← e4]; exact e1, by rw [← e4]; exact e2, e3⟩
  · obtain ⟨j, hj, e⟩ := hsq.1 i hi
    by_cases hx : j = n
    · subst hx
      rw [ext_n] at e
      exact ⟨k, ok, by rw [e]; exact hk, by rw [e]; exact updK_same F k _⟩
    · rw [ext_lt Q it (by omega)] at e
      obtain ⟨k', o', e1, e2⟩ := h.fof j (by omega)
      have hne : k' ≠ k := fun e3 => by rw [e3, hF] at e2; cases e2
      exact ⟨k', o', by rw [e]; exact e1, by rw [e, updK_other F _ hne]; exact e2⟩
theorem AgS.mnot (h : AgS pl PT IT w ab v n mp sets Q) {mb : Nat} {f : κ → Option (Option Nat)} (hm : MapK M w mb N f) : ¬ AgG ab v Q n mb := fun hk => by
  obtain ⟨h1, ⟨cs, h2, h3⟩, h4, h5⟩ := h
  rcases hk with e | hk | ⟨i, hi, e⟩
  · exact hm.ne_row h1 e
  · exact hm.ne_own h2 hk
  · exact hm.ne_row (h4 i hi) e.symm
theorem AgS.setM (h : AgS pl PT IT w ab v n mp sets Q) (n1 : PT ≠ pl.T) (n2 : IT ≠ pl.T) (mp' : Value) : AgS pl PT IT (w.setCell ⟨ab, pl.o + 1, none⟩ mp') ab v n mp' sets Q := by
  obtain ⟨h1, ⟨cs, h2, h3⟩, h4, h5⟩ := h
  exact ⟨h1.put1 mp', ⟨cs, own_set h2 h1 n1 _, h3⟩, fun i hi => (h4 i hi).far (p := ⟨ab, pl.o + 1, none⟩) (row_apart (h4 i hi) h1 n2) _, h5⟩
theorem AgS.setT (h : AgS pl PT IT w ab v n mp sets Q) (n1 : PT ≠ pl.T) (n2 : IT ≠ pl.T) (t : Int) : AgS pl PT IT (w.setCell ⟨ab, pl.o + 2, none⟩ (.int .i64 t)) ab v n mp t Q := by
  obtain ⟨h1, ⟨cs, h2, h3⟩, h4, h5⟩ := h
  exact ⟨h1.put2 _, ⟨cs, own_set h2 h1 n1 _, h3⟩, fun i hi => (h4 i hi).far (p := ⟨ab, pl.o + 2, none⟩) (row_apart (h4 i hi) h1 n2) _, h5⟩
theorem AgX.insS (h : AgX pl PT IT M w ab n N v mp sets Q F S) {it : It} {v1 mp1 : Value} {sets1 : Int} (hS : S it.b) (hsq : SameQ (n + 1) (ext Q n it) Q1) (h1 : AgS pl PT IT w' ab v1 (n + 1) mp1 sets1 Q1) (hv : ∀ k, v1.ownBlock = some k → v.ownBlock = some k ∨ w.heap.size ≤ k) : ∀ k, AgG ab v1 Q1 (n + 1) k → newS S w w' k := fun k hk => by
  have hlt := h1.lt hk
  rcases hk with rfl | hk | ⟨i, hi, e⟩
  · exact .inl (h.sub _ (.inl rfl))
  · rcases hv k hk with hk | hk
    · exact .inl (h.sub _ (.inr (.inl hk)))
    · exact .inr ⟨hk, hlt⟩
  · left
    obtain ⟨j, hj, e1⟩ := hsq.1 i hi
    by_cases hx : j = n
    · subst hx
      rw [ext_n] at e1
      rw [← e, e1]; exact hS
    · rw [ext_lt Q it (by omega)] at e1
      exact h.sub _ (.inr (.inr ⟨j, by omega, by rw [← e1]; exact e⟩))
end
theorem updK_some {κ α : Type} (F : κ → Option α) (k : κ) (b : α) : (fun x => (updK F k (some b) x).map some) = updK (fun x => (F x).map some) k (some (some b)) := by
  funext x
  by_cases hx : x = k
  · subst hx
    rw [updK_same, updK_same]; rfl
  · rw [updK_other _ _ hx, updK_other _ _ hx]
theorem updK_none {κ α : Type} (F : κ → Option α) (k : κ) : (fun x => (updK F k none x).map some) = updK (fun x => (F x).map some) k none := by
  funext x
  by_cases hx : x = k
  · subst hx
    rw [updK_same, updK_same]; rfl
  · rw [updK_other _ _ hx, updK_other _ _ hx]
set_option maxHeartbeats 1000000 in
set_option maxRecDepth 100000 in
theorem ainsS (ab n N : Nat) (v mp : Value) (sets : Int) (Q : Nat → It) (F : ByteArray → Option Nat) (S : Nat → Prop) (ib : Nat) (k : ByteArray) (ia it m : Int) (hn : n ≤ 1000) (hN : N ≤ 100000) (hk : KS.ok k) (w : World) (h : AgX pl 107 106 MPS w ab n N v mp sets Q F S) (hp : Row w ib 106 #[.string k, .int .i64 ia, .int .i64 it, .int .i64 m]) (hf : ∀ i, i < n → (Q i).b ≠ ib) (hF : F k = none) (hS : S ib) :
    Calls Try.prog 58 #[.pointer (some ⟨ab, pl.o, none⟩), .pointer (some ⟨ib, 0, none⟩)] w fun e w' => e = .returned (.tuple #[]) ∧ ∃ v' mp' Q', AgX pl 107 106 MPS w' ab (n + 1) (N + 1) v' mp' sets Q' (updK F k (some ib)) (newS S w w') ∧ SameQ (n + 1) (ext Q n ⟨ib, .string k, ia, it⟩) Q' ∧ Keep S w w' := by
  obtain ⟨I, hI⟩ : ∃ I : It, I = ⟨ib, .string k, ia, it⟩ := ⟨_, rfl⟩
  have HPU := Lib.hid (hpushS ab n v mp sets Q I m hn w h.s h.hp (by rw [hI]; exact hp) (by rw [hI]; exact hf))
  have hI0 : I.b = ib := by rw [hI]
  rw [hI0] at HPU
  have HX := Lib.hid h
  have HS := Lib.hid hS
  have HP := Lib.hid hp
  have HF0 := Lib.hid hF
  rw [← hI]
  have HI := Lib.hid hI
  have HI0 := Lib.hid hI0
  clear h hp hf hF hS hI hI0
  have hb0 : ∀ w, (binOp BinOp.eql 76 (.map none) (.map none)).run Try.prog w = .ok (.bool true) w := fun _ => by kernel_rfl
  have hb1 : ∀ (mb : Nat) w, (binOp BinOp.eql 76 (.map (some mb)) (.map none)).run Try.prog w = .ok (.bool false) w := fun _ _ => by kernel_rfl
  go_enter Try.func58, Try.ntmps58
  go_wp2_with fail
  refine HPU.out.mono ?_
  rintro e w1 ⟨rfl, v1, Q1, hs1, hh1, hsq1, hk1, hv1⟩
  have HS1 := Lib.hid hs1
  have HH1 := Lib.hid hh1
  have HSQ1 := Lib.hid hsq1
  have HV1 := Lib.hid hv1
  have HKP := Lib.hid hk1
  have HK1 : Hid (Keep S w w1) := hk1.more (fun k _ hg => by
    rcases hg with hg | hg
    · rw [hg]; exact HS.out
    · exact HX.out.sub k hg)
  have k1 : w1.cell? ⟨ib, 0, none⟩ = some (.string k) := by
    obtain ⟨j, hj, e⟩ := hsq1.2 n (by omega)
    rw [ext_n, HI.out] at e
    have := (hs1.it j hj).cell 0
    rw [← e] at this
    exact this
  have HFI := Lib.hid (findS k w1)
  clear hs1 hh1 hsq1 hk1 hv1 HPU
  go_wp2_with fail
  refine HFI.out.mono ?_
  rintro e w2 ⟨rfl, hb2⟩
  have HB2 := Lib.hid hb2
  have HS2 := Lib.hid (HS1.out.below hb2)
  have HK2 := Lib.hid (HK1.out.trans (Keep.of_below hb2))
  have HZ : Hid (w.heap.size ≤ w2.heap.size) := HK2.out.size
  have a1 : w2.cell? ⟨ab, pl.o + 1, none⟩ = some mp := HS2.out.ag.c1
  have i0 : w2.cell? ⟨ib, 0, none⟩ = some (.string k) := by
    obtain ⟨j, hj, e⟩ := HSQ1.out.2 n (by omega)
    rw [ext_n, HI.out] at e
    have := (HS2.out.it j hj).cell 0
    rw [← e] at this
    exact this
  have f1 := HS2.out.ag.free (pl.o + 1)
  clear hb2 k1 HFI
  have HM := Lib.hid HX.out.m
  have HOK := Lib.hid hk
  rcases HM.out with ⟨hm1, hm2⟩ | ⟨mb, hm1, hm2, hm3⟩
  · subst hm1
    have HM2 := Lib.hid hm2
    obtain ⟨w3, hw3⟩ : ∃ w3, w2.alloc (.map #[] 0) = w3 := ⟨_, rfl⟩
    obtain ⟨mb, hmb⟩ : ∃ mb, w2.heap.size = mb := ⟨_, rfl⟩
    have hmk : (Instr.makeMap 76 none).run Try.prog w2 = .ok (.map (some mb)) w3 := by rw [← hw3, ← hmb]; rfl
    have hs3 : AgS pl 107 106 w3 ab v1 (n + 1) (.map none) sets Q1 := by rw [← hw3]; exact HS2.out.below (below_alloc _ _)
    have hm3 : MapK MPS w3 mb 0 (fun _ => none) := by rw [← hw3, ← hmb]; exact MapK.new MPS w2
    have f3 := hs3.ag.free (pl.o + 1)
    have g3 : w3.cell? ⟨ab, pl.o + 1, none⟩ = some (.map none) := hs3.ag.c1
    obtain ⟨w4, hw4⟩ : ∃ w4, w3.setCell ⟨ab, pl.o + 1, none⟩ (.map (some mb)) = w4 := ⟨_, rfl⟩
    have hs4 : AgS pl 107 106 w4 ab v1 (n + 1) (.map (some mb)) sets Q1 := by rw [← hw4]; exact hs3.setM (Ne.symm pl.n1) (Ne.symm pl.n2) _
    have hm4 : MapK MPS w4 mb N (fun x => (F x).map some) := by
      rw [hm2, ← hw4]
      exact (hm3.far (p := ⟨ab, pl.o + 1, none⟩) (hm3.ne_row hs3.ag) _).mono (Nat.zero_le N)
    have b1 : w4.cell? ⟨ab, pl.o + 1, none⟩ = some (.map (some mb)) := hs4.ag.c1
    have j0 : w4.cell? ⟨ib, 0, none⟩ = some (.string k) := by
      obtain ⟨j, hj, e⟩ := HSQ1.out.2 n (by omega)
      rw [ext_n, HI.out] at e
      have := (hs4.it j hj).cell 0
      rw [← e] at this
      exact this
    have hk4 : Keep (fun x => x = ab) w2 w4 := by
      rw [← hw4, ← hw3]
      exact (Keep.alloc _ _).trans (Keep.setCell (G := fun x => x = ab) _ (p := ⟨ab, pl.o + 1, none⟩) rfl _)
    have HS4 := Lib.hid hs4
    have HMK := Lib.hid hm4
    have HK4 : Hid (Keep S w w4) := HK2.out.via hk4 (fun x _ e => e ▸ HX.out.sub _ (.inl rfl))
    have HMB : Hid (w.heap.size ≤ mb) := Nat.le_trans HZ.out (Nat.le_of_eq hmb)
    clear hm2 HM hs3 hm3 hs4 hm4 hk4 hw3 hmb hk
    go_wp2_with fail
    refine region_tail 9 (by kernel_rfl) (by kernel_rfl) ?_
    simp only [List.take_succ_cons, List.take_zero, List.drop_succ_cons, List.drop_zero]
    repeat still_step
    refine still_tail_nil ?_
    go_wp2_with (at_mapUpdate; refine wpl_storeK MPS _ rfl _ _ _ rfl mb N (fun x => (F x).map some) rfl (HMK.out.same rfl) (by unfold maxLen; omega) k (some ib) rfl rfl HOK.out ?_; intro w5 m5 g5)
    refine bodyPost_end (v := .tuple #[]) (by simp [results, Try.results58]) rfl ?_
    have hk5 : Keep (fun x => x = mb) w4 w5 := (Keep.drew _).trans (Keep.turnedK g5 rfl)
    have hs5 := HS4.out.keep hk5 (fun x hx e => HS4.out.mnot HMK.out (e ▸ hx))
    have hIe := HI.out
    subst hIe
    obtain ⟨q1, q2⟩ := HX.out.ins HOK.out rfl HF0.out HSQ1.out
    refine ⟨rfl, v1, .map (some mb), Q1, ⟨hs5, HH1.out, .inr ⟨mb, rfl, ?_, ?_⟩, q1, q2, HX.out.insS HS.out HSQ1.out hs5 HV1.out⟩, HSQ1.out, HK4.out.via hk5 (fun x hx e => ?_)⟩
    · refine .inr ⟨HMB.out, ?_⟩
      exact Nat.lt_of_lt_of_le HMK.out.lt hk5.size
    · rw [updK_some]; exact m5
    · have := HMB.out
      omega
  · subst hm1
    have HM2 := Lib.hid hm2
    have HMK := Lib.hid (((hm3.keep HKP.out (fun hg => by
      rcases hg with hg | hg
      · exact hm3.ne_row HP.out hg
      · exact HX.out.s.mnot hm3 hg)).below HB2.out))
    have HS4 := HS2
    have HK4 := HK2
    clear hm2 hm3 HM hk
    go_wp2_with fail
    refine region_tail 9 (by kernel_rfl) (by kernel_rfl) ?_
    simp only [List.take_succ_cons, List.take_zero, List.drop_succ_cons, List.drop_zero]
    repeat still_step
    refine still_tail_nil ?_
    go_wp2_with (at_mapUpdate; refine wpl_storeK MPS _ rfl _ _ _ rfl mb N (fun x => (F x).map some) rfl (HMK.out.same rfl) (by unfold maxLen; omega) k (some ib) rfl rfl HOK.out ?_; intro w5 m5 g5)
    refine bodyPost_end (v := .tuple #[]) (by simp [results, Try.results58]) rfl ?_
    have hk5 : Keep (fun x => x = mb) w2 w5 := (Keep.drew _).trans (Keep.turnedK g5 rfl)
    have hs5 := HS4.out.keep hk5 (fun x hx e => HS4.out.mnot HMK.out (e ▸ hx))
    have hIe := HI.out
    subst hIe
    obtain ⟨q1, q2⟩ := HX.out.ins HOK.out rfl HF0.out HSQ1.out
    refine ⟨rfl, v1, .map (some mb), Q1, ⟨hs5, HH1.out, .inr ⟨mb, rfl, ?_, ?_⟩, q1, q2, HX.out.insS HS.out HSQ1.out hs5 HV1.out⟩, HSQ1.out, HK4.out.via hk5 (fun x hx e => ?_)⟩
    · exact .inl HM2.out
    · rw [updK_some]; exact m5
    · exact e ▸ HM2.out
set_option maxHeartbeats 1000000 in
set_option maxRecDepth 100000 in
theorem ainsN (ab n N : Nat) (v mp : Value) (sets : Int) (Q : Nat → It) (F : Int → Option Nat) (S : Nat → Prop) (ib : Nat) (k : Int) (ia it m : Int) (hn : n ≤ 1000) (hN : N ≤ 100000) (hk : KN.ok k) (w : World) (h : AgX pl 97 99 MPN w ab n N v mp sets Q F S) (hp : Row w ib 99 #[.int .i64 k, .int .i64 ia, .int .i64 it, .int .i64 m]) (hf : ∀ i, i < n → (Q i).b ≠ ib) (hF : F k = none) (hS : S ib) :
    Calls Try.prog 41 #[.pointer (some ⟨ab, pl.o, none⟩), .pointer (some ⟨ib, 0, none⟩)] w fun e w' => e = .returned (.tuple #[]) ∧ ∃ v' mp' Q', AgX pl 97 99 MPN w' ab (n + 1) (N + 1) v' mp' sets Q' (updK F k (some ib)) (newS S w w') ∧ SameQ (n + 1) (ext Q n ⟨ib, .int .i64 k, ia, it⟩) Q' ∧ Keep S w w' := by
  obtain ⟨I, hI⟩ : ∃ I : It, I = ⟨ib, .int .i64 k, ia, it⟩ := ⟨_, rfl⟩
  have HPU := Lib.hid (hpushN ab n v mp sets Q I m hn w h.s h.hp (by rw [hI]; exact hp) (by rw [hI]; exact hf))
  have hI0 : I.b = ib := by rw [hI]
  rw [hI0] at HPU
  have HX := Lib.hid h
  have HS := Lib.hid hS
  have HP := Lib.hid hp
  have HF0 := Lib.hid hF
  rw [← hI]
  have HI := Lib.hid hI
  have HI0 := Lib.hid hI0
  clear h hp hf hF hS hI hI0
  have hb0 : ∀ w, (binOp BinOp.eql 64 (.map none) (.map none)).run Try.prog w = .ok (.bool true) w := fun _ => by kernel_rfl
  have hb1 : ∀ (mb : Nat) w, (binOp BinOp.eql 64 (.map (some mb)) (.map none)).run Try.prog w = .ok (.bool false) w := fun _ _ => by kernel_rfl
  go_enter Try.func41, Try.ntmps41
  go_wp2_with fail
  refine HPU.out.mono ?_
  rintro e w1 ⟨rfl, v1, Q1, hs1, hh1, hsq1, hk1, hv1⟩
  have HS1 := Lib.hid hs1
  have HH1 := Lib.hid hh1
  have HSQ1 := Lib.hid hsq1
  have HV1 := Lib.hid hv1
  have HKP := Lib.hid hk1
  have HK1 : Hid (Keep S w w1) := hk1.more (fun k _ hg => by
    rcases hg with hg | hg
    · rw [hg]; exact HS.out
    · exact HX.out.sub k hg)
  have k1 : w1.cell? ⟨ib, 0, none⟩ = some (.int .i64 k) := by
    obtain ⟨j, hj, e⟩ := hsq1.2 n (by omega)
    rw [ext_n, HI.out] at e
    have := (hs1.it j hj).cell 0
    rw [← e] at this
    exact this
  have HFI := Lib.hid (findN k w1)
  clear hs1 hh1 hsq1 hk1 hv1 HPU
  go_wp2_with fail
  refine HFI.out.mono ?_
  rintro e w2 ⟨rfl, hb2⟩
  have HB2 := Lib.hid hb2
  have HS2 := Lib.hid (HS1.out.below hb2)
  have HK2 := Lib.hid (HK1.out.trans (Keep.of_below hb2))
  have HZ : Hid (w.heap.size ≤ w2.heap.size) := HK2.out.size
  have a1 : w2.cell? ⟨ab, pl.o + 1, none⟩ = some mp := HS2.out.ag.c1
  have i0 : w2.cell? ⟨ib, 0, none⟩ = some (.int .i64 k) := by
    obtain ⟨j, hj, e⟩ := HSQ1.out.2 n (by omega)
    rw [ext_n, HI.out] at e
    have := (HS2.out.it j hj).cell 0
    rw [← e] at this
    exact this
  have f1 := HS2.out.ag.free (pl.o + 1)
  clear hb2 k1 HFI
  have HM := Lib.hid HX.out.m
  have HOK := Lib.hid hk
  rcases HM.out with ⟨hm1, hm2⟩ | ⟨mb, hm1, hm2, hm3⟩
  · subst hm1
    have HM2 := Lib.hid hm2
    obtain ⟨w3, hw3⟩ : ∃ w3, w2.alloc (.map #[] 0) = w3 := ⟨_, rfl⟩
    obtain ⟨mb, hmb⟩ : ∃ mb, w2.heap.size = mb := ⟨_, rfl⟩
    have hmk : (Instr.makeMap 64 none).run Try.prog w2 = .ok (.map (some mb)) w3 := by rw [← hw3, ← hmb]; rfl
    have hs3 : AgS pl 97 99 w3 ab v1 (n + 1) (.map none) sets Q1 := by rw [← hw3]; exact HS2.out.below (below_alloc _ _)
    have hm3 : MapK MPN w3 mb 0 (fun _ => none) := by rw [← hw3, ← hmb]; exact MapK.new MPN w2
    have f3 := hs3.ag.free (pl.o + 1)
    have g3 : w3.cell? ⟨ab, pl.o + 1, none⟩ = some (.map none) := hs3.ag.c1
    obtain ⟨w4, hw4⟩ : ∃ w4, w3.setCell ⟨ab, pl.o + 1, none⟩ (.map (some mb)) = w4 := ⟨_, rfl⟩
    have hs4 : AgS pl 97 99 w4 ab v1 (n + 1) (.map (some mb)) sets Q1 := by rw [← hw4]; exact hs3.setM (Ne.symm pl.n3) (Ne.symm pl.n4) _
    have hm4 : MapK MPN w4 mb N (fun x => (F x).map some) := by
      rw [hm2, ← hw4]
      exact (hm3.far (p := ⟨ab, pl.o + 1, none⟩) (hm3.ne_row hs3.ag) _).mono (Nat.zero_le N)
    have b1 : w4.cell? ⟨ab, pl.o + 1, none⟩ = some (.map (some mb)) := hs4.ag.c1
    have j0 : w4.cell? ⟨ib, 0, none⟩ = some (.int .i64 k) := by
      obtain ⟨j, hj, e⟩ := HSQ1.out.2 n (by omega)
      rw [ext_n, HI.out] at e
      have := (hs4.it j hj).cell 0
      rw [← e] at this
      exact this
    have hk4 : Keep (fun x => x = ab) w2 w4 := by
      rw [← hw4, ← hw3]
      exact (Keep.alloc _ _).trans (Keep.setCell (G := fun x => x = ab) _ (p := ⟨ab, pl.o + 1, none⟩) rfl _)
    have HS4 := Lib.hid hs4
    have HMK := Lib.hid hm4
    have HK4 : Hid (Keep S w w4) := HK2.out.via hk4 (fun x _ e => e ▸ HX.out.sub _ (.inl rfl))
    have HMB : Hid (w.heap.size ≤ mb) := Nat.le_trans HZ.out (Nat.le_of_eq hmb)
    clear hm2 HM hs3 hm3 hs4 hm4 hk4 hw3 hmb hk
    go_wp2_with fail
    refine region_tail 9 (by kernel_rfl) (by kernel_rfl) ?_
    simp only [List.take_succ_cons, List.take_zero, List.drop_succ_cons, List.drop_zero]
    repeat still_step
    refine still_tail_nil ?_
    go_wp2_with (at_mapUpdate; refine wpl_storeK MPN _ rfl _ _ _ rfl mb N (fun x => (F x).map some) rfl (HMK.out.same rfl) (by unfold maxLen; omega) k (some ib) rfl rfl HOK.out ?_; intro w5 m5 g5)
    refine bodyPost_end (v := .tuple #[]) (by simp [results, Try.results41]) rfl ?_
    have hk5 : Keep (fun x => x = mb) w4 w5 := (Keep.drew _).trans (Keep.turnedK g5 rfl)
    have hs5 := HS4.out.keep hk5 (fun x hx e => HS4.out.mnot HMK.out (e ▸ hx))
    have hIe := HI.out
    subst hIe
    obtain ⟨q1, q2⟩ := HX.out.ins HOK.out rfl HF0.out HSQ1.out
    refine ⟨rfl, v1, .map (some mb), Q1, ⟨hs5, HH1.out, .inr ⟨mb, rfl, ?_, ?_⟩, q1, q2, HX.out.insS HS.out HSQ1.out hs5 HV1.out⟩, HSQ1.out, HK4.out.via hk5 (fun x hx e => ?_)⟩
    · refine .inr ⟨HMB.out, ?_⟩
      exact Nat.lt_of_lt_of_le HMK.out.lt hk5.size
    · rw [updK_some]; exact m5
    · have := HMB.out
      omega
  · subst hm1
    have HM2 := Lib.hid hm2
    have HMK := Lib.hid (((hm3.keep HKP.out (fun hg => by
      rcases hg with hg | hg
      · exact hm3.ne_row HP.out hg
      · exact HX.out.s.mnot hm3 hg)).below HB2.out))
    have HS4 := HS2
    have HK4 := HK2
    clear hm2 hm3 HM hk
    go_wp2_with fail
    refine region_tail 9 (by kernel_rfl) (by kernel_rfl) ?_
    simp only [List.take_succ_cons, List.take_zero, List.drop_succ_cons, List.drop_zero]
    repeat still_step
    refine still_tail_nil ?_
    go_wp2_with (at_mapUpdate; refine wpl_storeK MPN _ rfl _ _ _ rfl mb N (fun x => (F x).map some) rfl (HMK.out.same rfl) (by unfold maxLen; omega) k (some ib) rfl rfl HOK.out ?_; intro w5 m5 g5)
    refine bodyPost_end (v := .tuple #[]) (by simp [results, Try.results41]) rfl ?_
    have hk5 : Keep (fun x => x = mb) w2 w5 := (Keep.drew _).trans (Keep.turnedK g5 rfl)
    have hs5 := HS4.out.keep hk5 (fun x hx e => HS4.out.mnot HMK.out (e ▸ hx))
    have hIe := HI.out
    subst hIe
    obtain ⟨q1, q2⟩ := HX.out.ins HOK.out rfl HF0.out HSQ1.out
    refine ⟨rfl, v1, .map (some mb), Q1, ⟨hs5, HH1.out, .inr ⟨mb, rfl, ?_, ?_⟩, q1, q2, HX.out.insS HS.out HSQ1.out hs5 HV1.out⟩, HSQ1.out, HK4.out.via hk5 (fun x hx e => ?_)⟩
    · exact .inl HM2.out
    · rw [updK_some]; exact m5
    · exact e ▸ HM2.out
end PlV
end Go.Proofs.Ytcdgmhglpcokdaa
