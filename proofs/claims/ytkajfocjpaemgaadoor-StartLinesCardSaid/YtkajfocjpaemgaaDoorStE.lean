/- start's reference: ParseStatus. -/
import Derived.Test.YtkajfocjpaemgaaDoorStD
import Derived.Test.YtkajfocjpaemgaaDoorNumR
namespace Go.Proofs.YtkajfocjpaemgaaDoor
open Go.RowKit

set_option maxRecDepth 100000 in
set_option maxHeartbeats 8000000 in
theorem rpst14 (s : ByteArray) (hs : s.size ≤ 1000000) (w : World) :
    Calls Tryd.prog 14 #[.string s] w fun e w' => e = .returned (stO (stR s.data.toList)) ∧ Below w.heap.size w w' := by
  obtain ⟨R, hR⟩ : ∃ R, R = stO (stR s.data.toList) := ⟨_, rfl⟩
  rw [← hR]
  have hz := Lib.size_eq s
  have L0 := below_alloc w (.cells #[.int .i64 0, .string ⟨#[]⟩] 39)
  have c0 : (w.alloc (.cells #[.int .i64 0, .string ⟨#[]⟩] 39)).cell? ⟨w.heap.size, 0, none⟩ = some (.int .i64 0) := by simp
  have c1 : (w.alloc (.cells #[.int .i64 0, .string ⟨#[]⟩] 39)).cell? ⟨w.heap.size, 1, none⟩ = some (.string ⟨#[]⟩) := by simp
  have d0 : (w.alloc (.cells #[.int .i64 0, .string ⟨#[]⟩] 39)).frozen? ⟨w.heap.size, 0, none⟩ = false := by simp
  have d1 : (w.alloc (.cells #[.int .i64 0, .string ⟨#[]⟩] 39)).frozen? ⟨w.heap.size, 1, none⟩ = false := by simp
  obtain ⟨d, hd⟩ : ∃ d, (s.data.toList.drop 9).take 3 = d := ⟨_, rfl⟩
  obtain ⟨r, hr⟩ : ∃ r, s.data.toList.drop 13 = r := ⟨_, rfl⟩
  have hdl : d.length ≤ 3 := by rw [← hd, List.length_take]; omega
  have hrl : r.length ≤ 1000000 := by rw [← hr, List.length_drop]; omega
  obtain ⟨n1, n2, hn⟩ : ∃ n1 n2, numR 10 10 isDec d 599 = (n1, n2) := ⟨_, _, rfl⟩
  obtain ⟨qv, hqv⟩ : ∃ q, valB r = q := ⟨_, rfl⟩
  have hrv : stR s.data.toList = if 12 ≤ s.size ∧ s.data.toList.take 9 = pfxL ∧ (12 < s.size → s.data.toList[12]? = some 32) ∧ n2 = 0 ∧ ¬ n1 < 200 ∧ qv = true then some (n1, r) else none := by
    unfold stR
    simp only [hd, hr, hn, hqv, hz]
  rw [hrv] at hR
  obtain ⟨qp, hqp⟩ : ∃ q, decide (s.data.toList.take 9 = pfxL) = q := ⟨_, rfl⟩
  have hpx : ((s.extract 0 9).toList == [72, 84, 84, 80, 47, 49, 46, 49, 32]) = qp := by
    have e : s.extract 0 9 = bs (s.data.toList.take 9) := by rw [← bs_of (s.extract 0 9), extractL, List.drop_zero, Nat.sub_zero]
    rw [e]
    exact str_lit _ pfxL qp hqp
  have hx1 : s.extract 9 12 = bs d := by rw [← bs_of (s.extract 9 12), extractL, ← hd]
  have hx2 : s.extract 13 s.size = bs r := by rw [← bs_of (s.extract 13 s.size), extractL, List.take_of_length_le (by rw [List.length_drop]; omega), hr]
  have HN := Lib.hid (fun W => num27_10 (bs d) (by rw [bs_size]; omega) 599 n1 n2 (by rw [bs_list]; exact hn) W)
  have HV := Lib.hid (fun W => value19 (bs r) (by rw [bs_size]; omega) qv (by rw [bs_list]; exact hqv) W)
  have hse : s.size ≤ 12 → r = [] := fun h => by rw [← hr]; exact List.drop_eq_nil_of_le (by omega)
  have hsI : (s.size : Int) ≤ 1000000 := by omega
  have h12 : 12 < s.size → (s.data.toList[12]? = some 32 ↔ ∃ h : 12 < s.size, s[12] = 32) := fun h => by
    rw [toList_get s 12 h]
    exact ⟨fun e => ⟨h, Option.some.inj e⟩, fun ⟨_, e⟩ => by rw [e]⟩
  clear hrv hn hd hr hz hqv hdl hrl
  by_cases hlen : s.size < 12
  · have hl1 : (s.size : Int) < 12 := by omega
    have hR2 : Hid (R = .tuple #[.agg #[.int .i64 0, .string ⟨#[]⟩], .int .i64 2]) := by
      show _ = _
      rw [hR, if_neg (fun h => by omega)]; rfl
    clear hlen
    clear hR hse h12 hqp
    generalize bs d = D at *
    generalize bs r = RR at *
    go_enter Tryd.func14, Tryd.ntmps14
    go_wp2_with fail
    generalize World.alloc w _ = w0 at *
    refine bodyPost_ret (v := .tuple #[.agg #[.int .i64 0, .string ⟨#[]⟩], .int .i64 2]) (by simp [results, Tryd.results14, go_sem, c0, c1]) rfl ⟨by rw [hR2.out], ?_⟩
    first | exact L0 | exact (L0.setCell (p := ⟨w.heap.size, 0, none⟩) (Nat.le_refl _) _).setCell (p := ⟨w.heap.size, 1, none⟩) (Nat.le_refl _) _
  · have hl1 : ¬ (s.size : Int) < 12 := by omega
    have hl9 : (9 : Int) ≤ s.size := by omega
    have hl12 : (12 : Int) ≤ s.size := by omega
    cases qp
    · have hR2 : Hid (R = .tuple #[.agg #[.int .i64 0, .string ⟨#[]⟩], .int .i64 2]) := by
        show _ = _
        rw [hR, if_neg (fun h => absurd h.2.1 (of_decide_eq_false hqp))]; rfl
      clear hlen
      clear hR hse h12 hqp
      generalize bs d = D at *
      generalize bs r = RR at *
      go_enter Tryd.func14, Tryd.ntmps14
      go_wp2_with fail
      generalize World.alloc w _ = w0 at *
      refine bodyPost_ret (v := .tuple #[.agg #[.int .i64 0, .string ⟨#[]⟩], .int .i64 2]) (by simp [results, Tryd.results14, go_sem, c0, c1]) rfl ⟨by rw [hR2.out], ?_⟩
      first | exact L0 | exact (L0.setCell (p := ⟨w.heap.size, 0, none⟩) (Nat.le_refl _) _).setCell (p := ⟨w.heap.size, 1, none⟩) (Nat.le_refl _) _
    · by_cases hgt : 12 < s.size
      · have hg1 : (s.size : Int) > 12 := by omega
        have hl13 : (13 : Int) ≤ s.size := by omega
        by_cases hb : s[12] = 32
        · have hbq : ((s[12].toNat : Int) != 32) = false := by rw [hb]; rfl
          have H12 : 12 < s.size → s.data.toList[12]? = some 32 := fun h => (h12 h).2 ⟨h, hb⟩
          clear hb
          by_cases he : n2 = 0
          · by_cases hcode : n1 < 200
            · have hR2 : Hid (R = .tuple #[.agg #[.int .i64 0, .string ⟨#[]⟩], .int .i64 2]) := by
                show _ = _
                rw [hR, if_neg (fun h => h.2.2.2.2.1 hcode)]; rfl
              subst he
              clear hR hse h12 hqp
              generalize bs d = D at *
              generalize bs r = RR at *
              go_enter Tryd.func14, Tryd.ntmps14
              go_wp2_with fail
              generalize World.alloc w _ = w0 at *
              refine (HN.out _).mono ?_
              rintro e w' ⟨rfl, rfl⟩
              go_wp2_with fail
              refine bodyPost_ret (v := .tuple #[.agg #[.int .i64 0, .string ⟨#[]⟩], .int .i64 2]) (by simp [results, Tryd.results14, go_sem, c0, c1]) rfl ⟨by rw [hR2.out], ?_⟩
              first | exact L0 | exact (L0.setCell (p := ⟨w.heap.size, 0, none⟩) (Nat.le_refl _) _).setCell (p := ⟨w.heap.size, 1, none⟩) (Nat.le_refl _) _
            · cases qv
              · have hR2 : Hid (R = .tuple #[.agg #[.int .i64 0, .string ⟨#[]⟩], .int .i64 2]) := by
                  show _ = _
                  rw [hR, if_neg (fun h => absurd h.2.2.2.2.2 (by simp))]; rfl
                subst he
                clear hR hse h12 hqp
                generalize bs d = D at *
                generalize bs r = RR at *
                go_enter Tryd.func14, Tryd.ntmps14
                go_wp2_with fail
                generalize World.alloc w _ = w0 at *
                refine (HN.out _).mono ?_
                rintro e w' ⟨rfl, rfl⟩
                go_wp2_with fail
                refine (HV.out _).mono ?_
                rintro e w' ⟨rfl, rfl⟩
                go_wp2_with fail
                refine bodyPost_ret (v := .tuple #[.agg #[.int .i64 0, .string ⟨#[]⟩], .int .i64 2]) (by simp [results, Tryd.results14, go_sem, c0, c1]) rfl ⟨by rw [hR2.out], ?_⟩
                first | exact L0 | exact (L0.setCell (p := ⟨w.heap.size, 0, none⟩) (Nat.le_refl _) _).setCell (p := ⟨w.heap.size, 1, none⟩) (Nat.le_refl _) _
              · have hR2 : Hid (R = .tuple #[.agg #[.int .i64 n1, .string (bs r)], .int .i64 0]) := by
                  show _ = _
                  rw [hR, if_pos ⟨by omega, of_decide_eq_true hqp, H12, he, hcode, rfl⟩]; rfl
                subst he
                clear H12
                clear hR hse h12 hqp
                generalize bs d = D at *
                generalize bs r = RR at *
                go_enter Tryd.func14, Tryd.ntmps14
                go_wp2_with fail
                generalize World.alloc w _ = w0 at *
                refine (HN.out _).mono ?_
                rintro e w' ⟨rfl, rfl⟩
                go_wp2_with fail
                refine (HV.out _).mono ?_
                rintro e w' ⟨rfl, rfl⟩
                go_wp2_with fail
                refine bodyPost_ret (v := .tuple #[.agg #[.int .i64 n1, .string RR], .int .i64 0]) (by simp [results, Tryd.results14, go_sem, c0, c1]) rfl ⟨by rw [hR2.out], ?_⟩
                first | exact L0 | exact (L0.setCell (p := ⟨w.heap.size, 0, none⟩) (Nat.le_refl _) _).setCell (p := ⟨w.heap.size, 1, none⟩) (Nat.le_refl _) _
          · have hx0 : (n2 != 0) = true := by rw [bne_iff_ne]; exact he
            have hR2 : Hid (R = .tuple #[.agg #[.int .i64 0, .string ⟨#[]⟩], .int .i64 2]) := by
              show _ = _
              rw [hR, if_neg (fun h => he h.2.2.2.1)]; rfl
            clear he
            clear hR hse h12 hqp
            generalize bs d = D at *
            generalize bs r = RR at *
            go_enter Tryd.func14, Tryd.ntmps14
            go_wp2_with fail
            generalize World.alloc w _ = w0 at *
            refine (HN.out _).mono ?_
            rintro e w' ⟨rfl, rfl⟩
            go_wp2_with fail
            refine bodyPost_ret (v := .tuple #[.agg #[.int .i64 0, .string ⟨#[]⟩], .int .i64 2]) (by simp [results, Tryd.results14, go_sem, c0, c1]) rfl ⟨by rw [hR2.out], ?_⟩
            first | exact L0 | exact (L0.setCell (p := ⟨w.heap.size, 0, none⟩) (Nat.le_refl _) _).setCell (p := ⟨w.heap.size, 1, none⟩) (Nat.le_refl _) _
        · have hbq : ((s[12].toNat : Int) != 32) = true := by
            rw [bne_iff_ne]
            intro e
            apply hb
            rw [← UInt8.toNat_inj]
            show s[12].toNat = 32
            omega
          have hR2 : Hid (R = .tuple #[.agg #[.int .i64 0, .string ⟨#[]⟩], .int .i64 2]) := by
            show _ = _
            rw [hR, if_neg (fun h => hb ((h12 hgt).1 (h.2.2.1 hgt)).2)]; rfl
          clear hb
          clear hR hse h12 hqp
          generalize bs d = D at *
          generalize bs r = RR at *
          go_enter Tryd.func14, Tryd.ntmps14
          go_wp2_with fail
          generalize World.alloc w _ = w0 at *
          refine (HN.out _).mono ?_
          rintro e w' ⟨rfl, rfl⟩
          go_wp2_with fail
          refine bodyPost_ret (v := .tuple #[.agg #[.int .i64 0, .string ⟨#[]⟩], .int .i64 2]) (by simp [results, Tryd.results14, go_sem, c0, c1]) rfl ⟨by rw [hR2.out], ?_⟩
          first | exact L0 | exact (L0.setCell (p := ⟨w.heap.size, 0, none⟩) (Nat.le_refl _) _).setCell (p := ⟨w.heap.size, 1, none⟩) (Nat.le_refl _) _
      · have hg1 : ¬ (s.size : Int) > 12 := by omega
        obtain rfl : r = [] := hse (by omega)
        have H12 : 12 < s.size → s.data.toList[12]? = some 32 := fun h => absurd h hgt
        have er : bs [] = ⟨#[]⟩ := rfl
        rw [er] at HV
        by_cases he : n2 = 0
        · by_cases hcode : n1 < 200
          · have hR2 : Hid (R = .tuple #[.agg #[.int .i64 0, .string ⟨#[]⟩], .int .i64 2]) := by
              show _ = _
              rw [hR, if_neg (fun h => h.2.2.2.2.1 hcode)]; rfl
            subst he
            clear hR hse h12 hqp
            generalize bs d = D at *
            
            go_enter Tryd.func14, Tryd.ntmps14
            go_wp2_with fail
            generalize World.alloc w _ = w0 at *
            refine (HN.out _).mono ?_
            rintro e w' ⟨rfl, rfl⟩
            go_wp2_with fail
            refine bodyPost_ret (v := .tuple #[.agg #[.int .i64 0, .string ⟨#[]⟩], .int .i64 2]) (by simp [results, Tryd.results14, go_sem, c0, c1]) rfl ⟨by rw [hR2.out], ?_⟩
            first | exact L0 | exact (L0.setCell (p := ⟨w.heap.size, 0, none⟩) (Nat.le_refl _) _).setCell (p := ⟨w.heap.size, 1, none⟩) (Nat.le_refl _) _
          · cases qv
            · have hR2 : Hid (R = .tuple #[.agg #[.int .i64 0, .string ⟨#[]⟩], .int .i64 2]) := by
                show _ = _
                rw [hR, if_neg (fun h => absurd h.2.2.2.2.2 (by simp))]; rfl
              subst he
              clear hR hse h12 hqp
              generalize bs d = D at *
              
              go_enter Tryd.func14, Tryd.ntmps14
              go_wp2_with fail
              generalize World.alloc w _ = w0 at *
              refine (HN.out _).mono ?_
              rintro e w' ⟨rfl, rfl⟩
              go_wp2_with fail
              refine (HV.out _).mono ?_
              rintro e w' ⟨rfl, rfl⟩
              go_wp2_with fail
              refine bodyPost_ret (v := .tuple #[.agg #[.int .i64 0, .string ⟨#[]⟩], .int .i64 2]) (by simp [results, Tryd.results14, go_sem, c0, c1]) rfl ⟨by rw [hR2.out], ?_⟩
              first | exact L0 | exact (L0.setCell (p := ⟨w.heap.size, 0, none⟩) (Nat.le_refl _) _).setCell (p := ⟨w.heap.size, 1, none⟩) (Nat.le_refl _) _
            · have hR2 : Hid (R = .tuple #[.agg #[.int .i64 n1, .string ⟨#[]⟩], .int .i64 0]) := by
                show _ = _
                rw [hR, if_pos ⟨by omega, of_decide_eq_true hqp, H12, he, hcode, rfl⟩]; rfl
              subst he
              clear H12
              clear hR hse h12 hqp
              generalize bs d = D at *
              
              go_enter Tryd.func14, Tryd.ntmps14
              go_wp2_with fail
              generalize World.alloc w _ = w0 at *
              refine (HN.out _).mono ?_
              rintro e w' ⟨rfl, rfl⟩
              go_wp2_with fail
              refine (HV.out _).mono ?_
              rintro e w' ⟨rfl, rfl⟩
              go_wp2_with fail
              refine bodyPost_ret (v := .tuple #[.agg #[.int .i64 n1, .string ⟨#[]⟩], .int .i64 0]) (by simp [results, Tryd.results14, go_sem, c0, c1]) rfl ⟨by rw [hR2.out], ?_⟩
              first | exact L0 | exact (L0.setCell (p := ⟨w.heap.size, 0, none⟩) (Nat.le_refl _) _).setCell (p := ⟨w.heap.size, 1, none⟩) (Nat.le_refl _) _
        · have hx0 : (n2 != 0) = true := by rw [bne_iff_ne]; exact he
          have hR2 : Hid (R = .tuple #[.agg #[.int .i64 0, .string ⟨#[]⟩], .int .i64 2]) := by
            show _ = _
            rw [hR, if_neg (fun h => he h.2.2.2.1)]; rfl
          clear he
          clear hR hse h12 hqp
          generalize bs d = D at *
          
          go_enter Tryd.func14, Tryd.ntmps14
          go_wp2_with fail
          generalize World.alloc w _ = w0 at *
          refine (HN.out _).mono ?_
          rintro e w' ⟨rfl, rfl⟩
          go_wp2_with fail
          refine bodyPost_ret (v := .tuple #[.agg #[.int .i64 0, .string ⟨#[]⟩], .int .i64 2]) (by simp [results, Tryd.results14, go_sem, c0, c1]) rfl ⟨by rw [hR2.out], ?_⟩
          first | exact L0 | exact (L0.setCell (p := ⟨w.heap.size, 0, none⟩) (Nat.le_refl _) _).setCell (p := ⟨w.heap.size, 1, none⟩) (Nat.le_refl _) _
end Go.Proofs.YtkajfocjpaemgaaDoor
