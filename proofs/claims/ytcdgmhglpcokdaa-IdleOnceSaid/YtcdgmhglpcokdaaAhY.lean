/- An agenda in memory: Set (written by genagy.py). -/
import Derived.Test.YtcdgmhglpcokdaaAhX
namespace Go.Proofs.Ytcdgmhglpcokdaa
open Go.RowKit Go.Maps
section PlV
variable {pl : Pl}

/-- A tick within the limits. -/
def clampA (a : Int) : Int := if a < 0 then 0 else if 1099511627776 < a then 1099511627776 else a
theorem clampA_r (a : Int) : 0 ≤ clampA a ∧ clampA a ≤ 1099511627776 := by unfold clampA; split <;> (try split) <;> omega
section
variable {κ : Type} {K : KTy κ} {pl : Pl} {PT IT : TypeId} {M : MTyK K (Option Nat)} {w w' : World} {ab n N : Nat} {v mp : Value} {sets : Int} {Q Q1 : Nat → It} {F : κ → Option Nat} {S : Nat → Prop}
theorem AgX.setT (h : AgX pl PT IT M w ab n N v mp sets Q F S) (n1 : PT ≠ pl.T) (n2 : IT ≠ pl.T) (t : Int) : AgX pl PT IT M (w.setCell ⟨ab, pl.o + 2, none⟩ (.int .i64 t)) ab n N v mp t Q F S := by
  have hs := h.s.setT n1 n2 t
  have h0 := h.s.ag
  obtain ⟨_, h2, h3, h4, h5, h6⟩ := h
  refine ⟨hs, h2, ?_, h4, h5, h6⟩
  rcases h3 with h3 | ⟨mb, e, hm, h3⟩
  · exact .inl h3
  · exact .inr ⟨mb, e, hm, h3.far (p := ⟨ab, pl.o + 2, none⟩) (h3.ne_row h0) _⟩
end
set_option maxHeartbeats 1000000 in
set_option maxRecDepth 100000 in
theorem asetaS (ab n N : Nat) (v mp : Value) (sets : Int) (Q : Nat → It) (F : ByteArray → Option Nat) (S : Nat → Prop) (hn : n ≤ 1000) (hN : N ≤ 100000) (hs0 : 0 ≤ sets) (hs1 : sets ≤ 1000000) (k : ByteArray) (hk : KS.ok k) (A : Int) (w : World) (h : AgX pl 107 106 MPS w ab n N v mp sets Q F S) (hF : F k = none) :
    Calls Try.prog 47 #[.pointer (some ⟨ab, pl.o, none⟩), .string k, .int .i64 A] w fun e w' => e = .returned (.tuple #[]) ∧ ∃ v' mp' Q' ib, AgX pl 107 106 MPS w' ab (n + 1) (N + 1) v' mp' (sets + 1) Q' (updK F k (some ib)) (newS S w w') ∧ SameQ (n + 1) (ext Q n ⟨ib, .string k, clampA A, sets + 1⟩) Q' ∧ Keep S w w' := by
  have HDR := Lib.hid (adropaS ab n N v mp sets Q F S k hk w h hF)
  have HX := Lib.hid h
  have HF := Lib.hid hF
  have HOK := Lib.hid hk
  have HSAB : Hid (S ab) := h.sub ab (.inl rfl)
  clear h hF hk
  go_enter Try.func47, Try.ntmps47
  go_wp2_with fail
  refine HDR.out.mono ?_
  rintro e w1 ⟨rfl, hb1⟩
  have hx1 := HX.out.below hb1
  have hf1 := HF.out
  have hk1 : Keep S w w1 := Keep.of_below hb1
  have hss : ∀ x, S x → S x ∨ w.heap.size ≤ x ∧ x < w1.heap.size := fun x h => .inl h
  clear hb1 HDR
  have HX1 := Lib.hid hx1
  have HF1 := Lib.hid hf1
  have HK1 := Lib.hid hk1
  have HSS := Lib.hid hss
  obtain ⟨w2, hw2⟩ : ∃ w2, w1.setCell ⟨ab, pl.o + 2, none⟩ (.int .i64 (sets + 1)) = w2 := ⟨_, rfl⟩
  have HZZ : Hid (w1.heap.size ≤ w2.heap.size) := by rw [← hw2]; exact (Keep.setCell (G := fun _ => True) w1 (p := ⟨ab, pl.o + 2, none⟩) trivial _).size
  have hx2 : AgX pl 107 106 MPS w2 ab n N v mp (sets + 1) Q F S := by rw [← hw2]; exact hx1.setT (Ne.symm pl.n1) (Ne.symm pl.n2) _
  have hk2 : Keep S w w2 := hk1.via (by rw [← hw2]; exact Keep.setCell (G := fun x => x = ab) w1 (p := ⟨ab, pl.o + 2, none⟩) rfl _) (fun x _ e => by
    rcases e with rfl
    exact HSAB.out)
  have HX2 := Lib.hid hx2
  have HK2 := Lib.hid hk2
  have c2 := hx1.c2
  have f2 := hx1.s.ag.free (pl.o + 2)
  have d2 := hx2.c2
  have HIN := Lib.hid (ainsS ab n N v mp (sets + 1) Q F (fun x => S x ∨ x = w2.heap.size) w2.heap.size k (clampA A) (sets + 1) 0 (by omega) hN HOK.out (w2.alloc (.cells #[.string k, .int .i64 (clampA A), .int .i64 (sets + 1), .int .i64 0] 106)) ((hx2.below (below_alloc _ _)).more (fun x h => .inl h)) (Row.new w2 _ _) (fun i hi e => by
    have := (hx2.s.it i hi).lt
    omega) hf1 (.inr rfl))
  obtain ⟨B, e1⟩ : ∃ B, (if A < 0 then (0 : Int) else A) = B := ⟨_, rfl⟩
  have e2 : (if 1099511627776 < B then (1099511627776 : Int) else B) = clampA A := by
    rw [← e1]; unfold clampA; split <;> simp
  clear hx1 hf1 hk1 hss hx2 hk2
  go_wp2_with fail
  refine HIN.out.mono ?_
  rintro e w4 ⟨rfl, v4, mp4, Q4, hx4, hs4, hk4⟩
  have HX4 := Lib.hid hx4
  have HS4 := Lib.hid hs4
  have HK4 := Lib.hid hk4
  clear hx4 hs4 hk4 HIN
  go_wp2_with fail
  refine bodyPost_end (v := .tuple #[]) (by simp [results, Try.results47]) rfl ?_
  have hz1 : w.heap.size ≤ w2.heap.size := HK2.out.size
  have hz2 : w2.heap.size < (w2.alloc (.cells #[.string k, .int .i64 (clampA A), .int .i64 (sets + 1), .int .i64 0] 106)).heap.size := (Row.new w2 _ _).lt
  have hz3 := HK4.out.size
  have hK : Keep S w w4 := HK2.out.via ((Keep.alloc w2 _).trans HK4.out) (fun x hx hg => by
    rcases hg with hg | hg
    · rcases HSS.out x hg with hg | ⟨hg, _⟩
      · exact hg
      · omega
    · omega)
  have hN4 : ∀ x, newS (fun x => S x ∨ x = w2.heap.size) (w2.alloc (.cells #[.string k, .int .i64 (clampA A), .int .i64 (sets + 1), .int .i64 0] 106)) w4 x → newS S w w4 x := fun x hg => by
    rcases hg with (hg | hg) | ⟨h1, h2⟩
    · rcases HSS.out x hg with hg | ⟨hg, hg2⟩
      · exact .inl hg
      · have := HZZ.out
        exact .inr ⟨hg, by omega⟩
    · exact .inr (by omega)
    · exact .inr ⟨by omega, h2⟩
  exact ⟨rfl, v4, mp4, Q4, _, HX4.out.more hN4, HS4.out, hK⟩
set_option maxHeartbeats 1000000 in
set_option maxRecDepth 100000 in
theorem asetbS (ab n N : Nat) (v mp : Value) (sets : Int) (Q : Nat → It) (F : ByteArray → Option Nat) (S : Nat → Prop) (hn : n ≤ 1000) (hN : N ≤ 100000) (hs0 : 0 ≤ sets) (hs1 : sets ≤ 1000000) (k : ByteArray) (hk : KS.ok k) (R : Nat) (hR : R < n + 1) (hQ : (Q R).k = .string k) (A : Int) (w : World) (h : AgX pl 107 106 MPS w ab (n + 1) N v mp sets Q F S) (hF : F k = some (Q R).b) :
    Calls Try.prog 47 #[.pointer (some ⟨ab, pl.o, none⟩), .string k, .int .i64 A] w fun e w' => e = .returned (.tuple #[]) ∧ ∃ v' mp' Q1 Q' ib, AgX pl 107 106 MPS w' ab (n + 1) (N + 1) v' mp' (sets + 1) Q' (updK (updK F k none) k (some ib)) (newS S w w') ∧ Without n Q R Q1 ∧ SameQ (n + 1) (ext Q1 n ⟨ib, .string k, clampA A, sets + 1⟩) Q' ∧ Keep S w w' := by
  have HDR := Lib.hid (adropbS ab n N v mp sets Q F S hn k hk R hR hQ w h hF)
  have HX := Lib.hid h
  have HOK := Lib.hid hk
  have HSAB : Hid (S ab) := h.sub ab (.inl rfl)
  clear h hF hk hQ
  go_enter Try.func47, Try.ntmps47
  go_wp2_with fail
  refine HDR.out.mono ?_
  rintro e w1 ⟨rfl, v1, mp1, Q1, hx1, hw1, hk1⟩
  have HW1 := Lib.hid hw1
  have hf1 : updK F k none k = none := updK_same F k none
  have hss : ∀ x, newS S w w1 x → S x ∨ w.heap.size ≤ x ∧ x < w1.heap.size := fun x h => h
  clear hw1 HDR
  have HX1 := Lib.hid hx1
  have HF1 := Lib.hid hf1
  have HK1 := Lib.hid hk1
  have HSS := Lib.hid hss
  obtain ⟨w2, hw2⟩ : ∃ w2, w1.setCell ⟨ab, pl.o + 2, none⟩ (.int .i64 (sets + 1)) = w2 := ⟨_, rfl⟩
  have HZZ : Hid (w1.heap.size ≤ w2.heap.size) := by rw [← hw2]; exact (Keep.setCell (G := fun _ => True) w1 (p := ⟨ab, pl.o + 2, none⟩) trivial _).size
  have hx2 : AgX pl 107 106 MPS w2 ab n N v1 mp1 (sets + 1) Q1 (updK F k none) (newS S w w1) := by rw [← hw2]; exact hx1.setT (Ne.symm pl.n1) (Ne.symm pl.n2) _
  have hk2 : Keep S w w2 := hk1.via (by rw [← hw2]; exact Keep.setCell (G := fun x => x = ab) w1 (p := ⟨ab, pl.o + 2, none⟩) rfl _) (fun x _ e => by
    rcases e with rfl
    exact HSAB.out)
  have HX2 := Lib.hid hx2
  have HK2 := Lib.hid hk2
  have c2 := hx1.c2
  have f2 := hx1.s.ag.free (pl.o + 2)
  have d2 := hx2.c2
  have HIN := Lib.hid (ainsS ab n N v1 mp1 (sets + 1) Q1 (updK F k none) (fun x => (newS S w w1) x ∨ x = w2.heap.size) w2.heap.size k (clampA A) (sets + 1) 0 (by omega) hN HOK.out (w2.alloc (.cells #[.string k, .int .i64 (clampA A), .int .i64 (sets + 1), .int .i64 0] 106)) ((hx2.below (below_alloc _ _)).more (fun x h => .inl h)) (Row.new w2 _ _) (fun i hi e => by
    have := (hx2.s.it i hi).lt
    omega) hf1 (.inr rfl))
  obtain ⟨B, e1⟩ : ∃ B, (if A < 0 then (0 : Int) else A) = B := ⟨_, rfl⟩
  have e2 : (if 1099511627776 < B then (1099511627776 : Int) else B) = clampA A := by
    rw [← e1]; unfold clampA; split <;> simp
  clear hx1 hf1 hk1 hss hx2 hk2
  go_wp2_with fail
  refine HIN.out.mono ?_
  rintro e w4 ⟨rfl, v4, mp4, Q4, hx4, hs4, hk4⟩
  have HX4 := Lib.hid hx4
  have HS4 := Lib.hid hs4
  have HK4 := Lib.hid hk4
  clear hx4 hs4 hk4 HIN
  go_wp2_with fail
  refine bodyPost_end (v := .tuple #[]) (by simp [results, Try.results47]) rfl ?_
  have hz1 : w.heap.size ≤ w2.heap.size := HK2.out.size
  have hz2 : w2.heap.size < (w2.alloc (.cells #[.string k, .int .i64 (clampA A), .int .i64 (sets + 1), .int .i64 0] 106)).heap.size := (Row.new w2 _ _).lt
  have hz3 := HK4.out.size
  have hK : Keep S w w4 := HK2.out.via ((Keep.alloc w2 _).trans HK4.out) (fun x hx hg => by
    rcases hg with hg | hg
    · rcases HSS.out x hg with hg | ⟨hg, _⟩
      · exact hg
      · omega
    · omega)
  have hN4 : ∀ x, newS (fun x => (newS S w w1) x ∨ x = w2.heap.size) (w2.alloc (.cells #[.string k, .int .i64 (clampA A), .int .i64 (sets + 1), .int .i64 0] 106)) w4 x → newS S w w4 x := fun x hg => by
    rcases hg with (hg | hg) | ⟨h1, h2⟩
    · rcases HSS.out x hg with hg | ⟨hg, hg2⟩
      · exact .inl hg
      · have := HZZ.out
        exact .inr ⟨hg, by omega⟩
    · exact .inr (by omega)
    · exact .inr ⟨by omega, h2⟩
  exact ⟨rfl, v4, mp4, Q1, Q4, _, HX4.out.more hN4, HW1.out, HS4.out, hK⟩
set_option maxHeartbeats 1000000 in
set_option maxRecDepth 100000 in
theorem asetaN (ab n N : Nat) (v mp : Value) (sets : Int) (Q : Nat → It) (F : Int → Option Nat) (S : Nat → Prop) (hn : n ≤ 1000) (hN : N ≤ 100000) (hs0 : 0 ≤ sets) (hs1 : sets ≤ 1000000) (k : Int) (hk : KN.ok k) (A : Int) (w : World) (h : AgX pl 97 99 MPN w ab n N v mp sets Q F S) (hF : F k = none) :
    Calls Try.prog 24 #[.pointer (some ⟨ab, pl.o, none⟩), .int .i64 k, .int .i64 A] w fun e w' => e = .returned (.tuple #[]) ∧ ∃ v' mp' Q' ib, AgX pl 97 99 MPN w' ab (n + 1) (N + 1) v' mp' (sets + 1) Q' (updK F k (some ib)) (newS S w w') ∧ SameQ (n + 1) (ext Q n ⟨ib, .int .i64 k, clampA A, sets + 1⟩) Q' ∧ Keep S w w' := by
  have HDR := Lib.hid (adropaN ab n N v mp sets Q F S k hk w h hF)
  have HX := Lib.hid h
  have HF := Lib.hid hF
  have HOK := Lib.hid hk
  have HSAB : Hid (S ab) := h.sub ab (.inl rfl)
  clear h hF hk
  go_enter Try.func24, Try.ntmps24
  go_wp2_with fail
  refine HDR.out.mono ?_
  rintro e w1 ⟨rfl, hb1⟩
  have hx1 := HX.out.below hb1
  have hf1 := HF.out
  have hk1 : Keep S w w1 := Keep.of_below hb1
  have hss : ∀ x, S x → S x ∨ w.heap.size ≤ x ∧ x < w1.heap.size := fun x h => .inl h
  clear hb1 HDR
  have HX1 := Lib.hid hx1
  have HF1 := Lib.hid hf1
  have HK1 := Lib.hid hk1
  have HSS := Lib.hid hss
  obtain ⟨w2, hw2⟩ : ∃ w2, w1.setCell ⟨ab, pl.o + 2, none⟩ (.int .i64 (sets + 1)) = w2 := ⟨_, rfl⟩
  have HZZ : Hid (w1.heap.size ≤ w2.heap.size) := by rw [← hw2]; exact (Keep.setCell (G := fun _ => True) w1 (p := ⟨ab, pl.o + 2, none⟩) trivial _).size
  have hx2 : AgX pl 97 99 MPN w2 ab n N v mp (sets + 1) Q F S := by rw [← hw2]; exact hx1.setT (Ne.symm pl.n3) (Ne.symm pl.n4) _
  have hk2 : Keep S w w2 := hk1.via (by rw [← hw2]; exact Keep.setCell (G := fun x => x = ab) w1 (p := ⟨ab, pl.o + 2, none⟩) rfl _) (fun x _ e => by
    rcases e with rfl
    exact HSAB.out)
  have HX2 := Lib.hid hx2
  have HK2 := Lib.hid hk2
  have c2 := hx1.c2
  have f2 := hx1.s.ag.free (pl.o + 2)
  have d2 := hx2.c2
  have HIN := Lib.hid (ainsN ab n N v mp (sets + 1) Q F (fun x => S x ∨ x = w2.heap.size) w2.heap.size k (clampA A) (sets + 1) 0 (by omega) hN HOK.out (w2.alloc (.cells #[.int .i64 k, .int .i64 (clampA A), .int .i64 (sets + 1), .int .i64 0] 99)) ((hx2.below (below_alloc _ _)).more (fun x h => .inl h)) (Row.new w2 _ _) (fun i hi e => by
    have := (hx2.s.it i hi).lt
    omega) hf1 (.inr rfl))
  obtain ⟨B, e1⟩ : ∃ B, (if A < 0 then (0 : Int) else A) = B := ⟨_, rfl⟩
  have e2 : (if 1099511627776 < B then (1099511627776 : Int) else B) = clampA A := by
    rw [← e1]; unfold clampA; split <;> simp
  clear hx1 hf1 hk1 hss hx2 hk2
  go_wp2_with fail
  refine HIN.out.mono ?_
  rintro e w4 ⟨rfl, v4, mp4, Q4, hx4, hs4, hk4⟩
  have HX4 := Lib.hid hx4
  have HS4 := Lib.hid hs4
  have HK4 := Lib.hid hk4
  clear hx4 hs4 hk4 HIN
  go_wp2_with fail
  refine bodyPost_end (v := .tuple #[]) (by simp [results, Try.results24]) rfl ?_
  have hz1 : w.heap.size ≤ w2.heap.size := HK2.out.size
  have hz2 : w2.heap.size < (w2.alloc (.cells #[.int .i64 k, .int .i64 (clampA A), .int .i64 (sets + 1), .int .i64 0] 99)).heap.size := (Row.new w2 _ _).lt
  have hz3 := HK4.out.size
  have hK : Keep S w w4 := HK2.out.via ((Keep.alloc w2 _).trans HK4.out) (fun x hx hg => by
    rcases hg with hg | hg
    · rcases HSS.out x hg with hg | ⟨hg, _⟩
      · exact hg
      · omega
    · omega)
  have hN4 : ∀ x, newS (fun x => S x ∨ x = w2.heap.size) (w2.alloc (.cells #[.int .i64 k, .int .i64 (clampA A), .int .i64 (sets + 1), .int .i64 0] 99)) w4 x → newS S w w4 x := fun x hg => by
    rcases hg with (hg | hg) | ⟨h1, h2⟩
    · rcases HSS.out x hg with hg | ⟨hg, hg2⟩
      · exact .inl hg
      · have := HZZ.out
        exact .inr ⟨hg, by omega⟩
    · exact .inr (by omega)
    · exact .inr ⟨by omega, h2⟩
  exact ⟨rfl, v4, mp4, Q4, _, HX4.out.more hN4, HS4.out, hK⟩
set_option maxHeartbeats 1000000 in
set_option maxRecDepth 100000 in
theorem asetbN (ab n N : Nat) (v mp : Value) (sets : Int) (Q : Nat → It) (F : Int → Option Nat) (S : Nat → Prop) (hn : n ≤ 1000) (hN : N ≤ 100000) (hs0 : 0 ≤ sets) (hs1 : sets ≤ 1000000) (k : Int) (hk : KN.ok k) (R : Nat) (hR : R < n + 1) (hQ : (Q R).k = .int .i64 k) (A : Int) (w : World) (h : AgX pl 97 99 MPN w ab (n + 1) N v mp sets Q F S) (hF : F k = some (Q R).b) :
    Calls Try.prog 24 #[.pointer (some ⟨ab, pl.o, none⟩), .int .i64 k, .int .i64 A] w fun e w' => e = .returned (.tuple #[]) ∧ ∃ v' mp' Q1 Q' ib, AgX pl 97 99 MPN w' ab (n + 1) (N + 1) v' mp' (sets + 1) Q' (updK (updK F k none) k (some ib)) (newS S w w') ∧ Without n Q R Q1 ∧ SameQ (n + 1) (ext Q1 n ⟨ib, .int .i64 k, clampA A, sets + 1⟩) Q' ∧ Keep S w w' := by
  have HDR := Lib.hid (adropbN ab n N v mp sets Q F S hn k hk R hR hQ w h hF)
  have HX := Lib.hid h
  have HOK := Lib.hid hk
  have HSAB : Hid (S ab) := h.sub ab (.inl rfl)
  clear h hF hk hQ
  go_enter Try.func24, Try.ntmps24
  go_wp2_with fail
  refine HDR.out.mono ?_
  rintro e w1 ⟨rfl, v1, mp1, Q1, hx1, hw1, hk1⟩
  have HW1 := Lib.hid hw1
  have hf1 : updK F k none k = none := updK_same F k none
  have hss : ∀ x, newS S w w1 x → S x ∨ w.heap.size ≤ x ∧ x < w1.heap.size := fun x h => h
  clear hw1 HDR
  have HX1 := Lib.hid hx1
  have HF1 := Lib.hid hf1
  have HK1 := Lib.hid hk1
  have HSS := Lib.hid hss
  obtain ⟨w2, hw2⟩ : ∃ w2, w1.setCell ⟨ab, pl.o + 2, none⟩ (.int .i64 (sets + 1)) = w2 := ⟨_, rfl⟩
  have HZZ : Hid (w1.heap.size ≤ w2.heap.size) := by rw [← hw2]; exact (Keep.setCell (G := fun _ => True) w1 (p := ⟨ab, pl.o + 2, none⟩) trivial _).size
  have hx2 : AgX pl 97 99 MPN w2 ab n N v1 mp1 (sets + 1) Q1 (updK F k none) (newS S w w1) := by rw [← hw2]; exact hx1.setT (Ne.symm pl.n3) (Ne.symm pl.n4) _
  have hk2 : Keep S w w2 := hk1.via (by rw [← hw2]; exact Keep.setCell (G := fun x => x = ab) w1 (p := ⟨ab, pl.o + 2, none⟩) rfl _) (fun x _ e => by
    rcases e with rfl
    exact HSAB.out)
  have HX2 := Lib.hid hx2
  have HK2 := Lib.hid hk2
  have c2 := hx1.c2
  have f2 := hx1.s.ag.free (pl.o + 2)
  have d2 := hx2.c2
  have HIN := Lib.hid (ainsN ab n N v1 mp1 (sets + 1) Q1 (updK F k none) (fun x => (newS S w w1) x ∨ x = w2.heap.size) w2.heap.size k (clampA A) (sets + 1) 0 (by omega) hN HOK.out (w2.alloc (.cells #[.int .i64 k, .int .i64 (clampA A), .int .i64 (sets + 1), .int .i64 0] 99)) ((hx2.below (below_alloc _ _)).more (fun x h => .inl h)) (Row.new w2 _ _) (fun i hi e => by
    have := (hx2.s.it i hi).lt
    omega) hf1 (.inr rfl))
  obtain ⟨B, e1⟩ : ∃ B, (if A < 0 then (0 : Int) else A) = B := ⟨_, rfl⟩
  have e2 : (if 1099511627776 < B then (1099511627776 : Int) else B) = clampA A := by
    rw [← e1]; unfold clampA; split <;> simp
  clear hx1 hf1 hk1 hss hx2 hk2
  go_wp2_with fail
  refine HIN.out.mono ?_
  rintro e w4 ⟨rfl, v4, mp4, Q4, hx4, hs4, hk4⟩
  have HX4 := Lib.hid hx4
  have HS4 := Lib.hid hs4
  have HK4 := Lib.hid hk4
  clear hx4 hs4 hk4 HIN
  go_wp2_with fail
  refine bodyPost_end (v := .tuple #[]) (by simp [results, Try.results24]) rfl ?_
  have hz1 : w.heap.size ≤ w2.heap.size := HK2.out.size
  have hz2 : w2.heap.size < (w2.alloc (.cells #[.int .i64 k, .int .i64 (clampA A), .int .i64 (sets + 1), .int .i64 0] 99)).heap.size := (Row.new w2 _ _).lt
  have hz3 := HK4.out.size
  have hK : Keep S w w4 := HK2.out.via ((Keep.alloc w2 _).trans HK4.out) (fun x hx hg => by
    rcases hg with hg | hg
    · rcases HSS.out x hg with hg | ⟨hg, _⟩
      · exact hg
      · omega
    · omega)
  have hN4 : ∀ x, newS (fun x => (newS S w w1) x ∨ x = w2.heap.size) (w2.alloc (.cells #[.int .i64 k, .int .i64 (clampA A), .int .i64 (sets + 1), .int .i64 0] 99)) w4 x → newS S w w4 x := fun x hg => by
    rcases hg with (hg | hg) | ⟨h1, h2⟩
    · rcases HSS.out x hg with hg | ⟨hg, hg2⟩
      · exact .inl hg
      · have := HZZ.out
        exact .inr ⟨hg, by omega⟩
    · exact .inr (by omega)
    · exact .inr ⟨by omega, h2⟩
  exact ⟨rfl, v4, mp4, Q1, Q4, _, HX4.out.more hN4, HW1.out, HS4.out, hK⟩
end PlV
end Go.Proofs.Ytcdgmhglpcokdaa
