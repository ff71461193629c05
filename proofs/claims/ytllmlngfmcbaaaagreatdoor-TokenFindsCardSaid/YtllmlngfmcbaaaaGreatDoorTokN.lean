/- The reference's Find. -/
import Derived.Test.YtllmlngfmcbaaaaGreatDoorTokK
namespace Go.Proofs.YtllmlngfmcbaaaaGreatDoor
open Go.RowKit

theorem pre_list (p st : List UInt8) : Lib.hasPrefix p st = true ↔ st <+: p := by
  unfold Lib.hasPrefix
  exact List.isPrefixOf_iff_prefix
theorem pre_no {p st : List UInt8} (h : ¬ st <+: p) : Lib.hasPrefix p st = false := by
  cases hq : Lib.hasPrefix p st with
  | false => rfl
  | true => exact absurd ((pre_list p st).1 hq) h
theorem ext0 (P nm : ByteArray) : (P.extract 0 nm.size).data.toList = P.data.toList.take nm.data.toList.length := by
  rw [extractL, List.drop_zero, Nat.sub_zero, Lib.size_eq]
theorem pf_len (P nm : ByteArray) (h : ¬ nm.size < P.size) : Lib.hasPrefix P.data.toList (nm.data.toList ++ [61]) = false := by
  refine pre_no fun hp => h ?_
  have := hp.length_le
  rw [List.length_append, List.length_singleton, ← Lib.size_eq, ← Lib.size_eq] at this
  omega
theorem pf_ne (P nm : ByteArray) (h : (P.extract 0 nm.size).data.toList ≠ nm.data.toList) : Lib.hasPrefix P.data.toList (nm.data.toList ++ [61]) = false := by
  refine pre_no fun hp => h ?_
  obtain ⟨t, ht⟩ := hp
  rw [ext0, ← ht, List.append_assoc, List.take_left]
theorem pf_ch (P nm : ByteArray) (hl : nm.size < P.size) (h : P[nm.size].toNat ≠ 61) : Lib.hasPrefix P.data.toList (nm.data.toList ++ [61]) = false := by
  refine pre_no fun hp => h ?_
  obtain ⟨t, ht⟩ := hp
  have h1 := toList_getT P nm.size hl
  rw [← ht, List.append_assoc, List.getElem?_append_right (by rw [← Lib.size_eq]; exact Nat.le_refl _), ← Lib.size_eq, Nat.sub_self] at h1
  have h2 : (61 : UInt8) = P[nm.size] := Option.some.inj h1
  rw [← h2]; rfl
theorem pf_yes (P nm : ByteArray) (hl : nm.size < P.size) (he : (P.extract 0 nm.size).data.toList = nm.data.toList) (hc : P[nm.size].toNat = 61) :
    Lib.hasPrefix P.data.toList (nm.data.toList ++ [61]) = true ∧ Lib.trimPrefix P.data.toList (nm.data.toList ++ [61]) = (P.extract (nm.size + 1) P.size).data.toList := by
  have h61 : P[nm.size] = 61 := by rw [← UInt8.toNat_inj]; exact hc
  have h1 := take_snocT P nm.size hl
  rw [h61] at h1
  have h2 : P.data.toList.take nm.size = nm.data.toList := by
    rw [extractL, List.drop_zero, Nat.sub_zero] at he; exact he
  rw [h2] at h1
  have hp : Lib.hasPrefix P.data.toList (nm.data.toList ++ [61]) = true := by
    rw [pre_list, ← h1]
    exact List.take_prefix _ _
  refine ⟨hp, ?_⟩
  unfold Lib.trimPrefix
  rw [if_pos hp, extractL, List.length_append, List.length_singleton, ← Lib.size_eq, List.take_of_length_le (by rw [List.length_drop, ← Lib.size_eq]; exact Nat.le_refl _)]
theorem trim_ex (x : ByteArray) (F I : Nat) (h : F ≤ I) (hI : I ≤ x.size ∧ x.size ≤ 1000000) (w : World) :
    Calls Tryz.prog 34 #[.string (x.extract F I)] w fun e w' => e = .returned (.string ⟨(trimB ((x.data.toList.drop F).take (I - F))).toArray⟩) ∧ w = w' := by
  have := trim34 (x.extract F I) (by rw [size_extract x F I hI.1]; omega) w
  rw [extractL] at this
  exact this
theorem seg_next (l : List UInt8) (F I : Nat) (hF : F ≤ I) (pre : List (List UInt8)) (hp : parts 59 l = pre ++ parts 59 (l.drop F)) (hn : (59 : UInt8) ∉ (l.drop F).take (I - F)) (hc : l[I]? = some 59) :
    parts 59 l = (pre ++ [(l.drop F).take (I - F)]) ++ parts 59 (l.drop (I + 1)) := by
  have h1 : l.drop F = (l.drop F).take (I - F) ++ 59 :: l.drop (I + 1) := by
    conv => lhs; rw [← List.take_append_drop (I - F) (l.drop F)]
    congr 1
    rw [List.drop_drop, show F + (I - F) = I by omega]
    obtain ⟨hlt, he⟩ := List.getElem?_eq_some_iff.1 hc
    rw [List.drop_eq_getElem_cons hlt, he]
  rw [hp, List.append_assoc]
  congr 1
  conv => lhs; rw [h1]
  rw [parts_cut 59 _ _ hn]
  rfl
theorem seg_last (l : List UInt8) (F I : Nat) (hI : I = l.length) (pre : List (List UInt8)) (hp : parts 59 l = pre ++ parts 59 (l.drop F)) (hn : (59 : UInt8) ∉ (l.drop F).take (I - F)) :
    parts 59 l = pre ++ [(l.drop F).take (I - F)] := by
  have h1 : (l.drop F).take (I - F) = l.drop F := List.take_of_length_le (by rw [List.length_drop]; omega)
  rw [h1] at hn ⊢
  rw [hp, parts_one 59 _ hn]
theorem seg_step (l : List UInt8) (F I : Nat) (hF : F ≤ I) (c : UInt8) (hc : l[I]? = some c) (hne : c ≠ 59) (hn : (59 : UInt8) ∉ (l.drop F).take (I - F)) : (59 : UInt8) ∉ (l.drop F).take (I + 1 - F) := by
  rw [show I + 1 - F = (I - F) + 1 by omega, List.take_add_one, List.getElem?_drop, show F + (I - F) = I by omega, hc, Option.toList_some, List.mem_append, List.mem_singleton, not_or]
  exact ⟨hn, fun e => hne e.symm⟩
/-- Where the inner loop is. -/
def FindS (l : List UInt8) (F I : Nat) (pre : List (List UInt8)) : Prop :=
  (I ≤ l.length ∧ parts 59 l = pre ++ parts 59 (l.drop F) ∧ (59 : UInt8) ∉ (l.drop F).take (I - F)) ∨ (I = l.length + 1 ∧ pre = parts 59 l)
set_option maxRecDepth 1000000 in
set_option maxHeartbeats 16000000 in
theorem rfind19 (a : Option Addr) (c : Nat) (xs : List ByteArray) (nm : ByteArray) (hsz : ∀ x ∈ xs, x.size ≤ 1000000) (hlen : xs.length ≤ 1000000000) (hn : nm.size ≤ 1000000) (w : World) (hx : IsStrs w a c xs) :
    Calls Tryz.prog 19 #[.slice a xs.length c, .string nm] w fun e w' => e = .returned (findV (findL (nm.data.toList ++ [61]) (pairsP xs))) ∧ Below w.heap.size w w' := by
  obtain ⟨R, hR⟩ : ∃ R, R = findL (nm.data.toList ++ [61]) (pairsP xs) := ⟨_, rfl⟩
  rw [← hR]
  obtain ⟨st, hst⟩ : ∃ st : List UInt8, nm.data.toList ++ [61] = st := ⟨_, rfl⟩
  rw [hst] at hR
  have HR := Lib.hid hR
  have HST := Lib.hid hst
  have HX := Lib.hid hx
  have HZ := Lib.hid hsz
  have nmI : (nm.size : Int) ≤ 1000000 := by omega
  clear hR hst hx hsz
  go_enter Tryz.func19, Tryz.ntmps19
  go_wp2_with fail
  go_loopw [13] (fun jv wr => ∃ j : Nat, j ≤ xs.length ∧ jv = .int .i64 (j : Int) ∧ Hid (∀ p ∈ pairsTo xs j, Lib.hasPrefix p st = false) ∧ Below w.heap.size w wr) (fun jv _ => xs.length - (intOf jv).toNat)
  case atStart => exact ⟨0, Nat.zero_le _, rfl, (fun p hp => by simp [pairsTo] at hp), Below.refl _ _⟩
  case round =>
    obtain ⟨j, hj, rfl, hnj, hb⟩ := hrel
    by_cases hjl : j < xs.length
    · obtain h0 | ⟨bk, o, rfl, hbk, hc, hcell⟩ := HX.out.below hb
      · subst h0; simp at hjl
      have cj := hcell j xs[j] (by simp [hjl])
      have hxz := HZ.out xs[j] (List.getElem_mem hjl)
      have HSU := Lib.hid (pairsTo_succ xs j hjl)
      have HPF : Hid (∀ pre : List (List UInt8), pre <+: parts 59 xs[j].data.toList → (pairsTo xs j ++ pre.map trimB) <+: pairsP xs) := fun pre ⟨q, hq⟩ => by
        refine List.IsPrefix.trans ?_ (pairsTo_prefix xs (j + 1))
        rw [pairsTo_succ xs j hjl, ← hq, List.map_append, ← List.append_assoc]
        exact List.prefix_append _ _
      obtain ⟨x, hxe⟩ : ∃ x, x = xs[j] := ⟨_, rfl⟩
      rw [← hxe] at cj hxz HSU HPF
      have HXL := Lib.hid (Lib.size_eq x)
      clear hcell hxe
      have jl : (j : Int) < xs.length := by omega
      go_wp2_with fail
      go_loopw [8, 9] (fun fv iv wr => ∃ (F I : Nat) (pre : List (List UInt8)), fv = .int .i64 (F : Int) ∧ iv = .int .i64 (I : Int) ∧ Hid (FindS x.data.toList F I pre) ∧ F ≤ I ∧ I ≤ x.size + 1 ∧ Hid (∀ p ∈ pre.map trimB, Lib.hasPrefix p st = false) ∧ Below w.heap.size w wr) (fun _ iv _ => x.size + 1 - (intOf iv).toNat)
      case atStart => exact ⟨0, 0, [], rfl, rfl, .inl ⟨Nat.zero_le _, rfl, (by simp)⟩, Nat.le_refl _, by omega, (fun p hp => by simp at hp), hb⟩
      case round =>
        clear hb cj
        obtain ⟨F, I, pre, rfl, rfl, hS, hFI, hIs, hno, hb⟩ := hrel
        by_cases hI : I ≤ x.size
        · have iI : (I : Int) ≤ x.size := by omega
          have fI : (F : Int) ≤ I := by omega
          have hIz : I ≤ x.size ∧ x.size ≤ 1000000 := ⟨hI, hxz⟩
          have xI : (x.size : Int) ≤ 1000000 := by omega
          have HS1 : Hid (parts 59 x.data.toList = pre ++ parts 59 (x.data.toList.drop F) ∧ (59 : UInt8) ∉ (x.data.toList.drop F).take (I - F)) := by
            rcases hS.out with ⟨_, h⟩ | ⟨h, _⟩
            · exact h
            · have := HXL.out; omega
          by_cases hlt : I < x.size
          · have lI : (I : Int) < x.size := by omega
            have hch := toList_getT x I hlt
            by_cases h59 : x[I].toNat = 59
            · have q0 : ((x[I].toNat : Int) != 59) = false := by rw [bne_eq_false_iff_eq]; omega
              have h59' : x[I] = 59 := by rw [← UInt8.toNat_inj]; exact h59
              rw [h59'] at hch
              have hsn := seg_next _ F I hFI pre HS1.out.1 HS1.out.2 hch
              have hnext : Hid (FindS x.data.toList (I + 1) (I + 1) (pre ++ [(x.data.toList.drop F).take (I - F)])) := .inl ⟨by rw [← HXL.out]; omega, hsn, by simp⟩
              have hpre : (pre ++ [(x.data.toList.drop F).take (I - F)]) <+: parts 59 x.data.toList := ⟨_, hsn.symm⟩
              clear hch h59 h59' hsn
              have HT := Lib.hid (fun W => trim_ex x F I hFI hIz W)
              obtain ⟨P, hP⟩ : ∃ P : ByteArray, P = ⟨(trimB ((x.data.toList.drop F).take (I - F))).toArray⟩ := ⟨_, rfl⟩
              rw [← hP] at HT
              have HP : Hid (P.data.toList = trimB ((x.data.toList.drop F).take (I - F))) := by show _ = _; rw [hP]
              clear hP
              by_cases hl : nm.size < P.size
              · have l1 : (nm.size : Int) < P.size := by omega
                have l2 : (nm.size : Int) ≤ P.size := by omega
                have l3 : nm.size ≤ P.size := by omega
                by_cases he : (P.extract 0 nm.size).data.toList = nm.data.toList
                · have q1 : ((P.extract 0 nm.size).toList == nm.toList) = true := by rw [beq_bytes]; exact decide_eq_true he
                  by_cases hc : P[nm.size].toNat = 61
                  · have q2 : ((P[nm.size].toNat : Int) == 61) = true := by rw [beq_iff_eq]; omega
                    obtain ⟨hpf, htp⟩ := pf_yes P nm hl he hc
                    rw [HST.out] at hpf htp
                    have hR : Hid (R = some (P.extract (nm.size + 1) P.size).data.toList) := by
                      show R = _
                      obtain ⟨rest, hrest⟩ := HPF.out (pre ++ [(x.data.toList.drop F).take (I - F)]) hpre
                      rw [List.map_append, List.map_singleton, ← HP.out, ← List.append_assoc, List.append_assoc] at hrest
                      rw [HR.out, ← hrest, List.singleton_append, findL_at st _ hpf rest _ ?_, htp]
                      intro p hp
                      rcases List.mem_append.1 hp with h | h
                      · exact hnj.out p h
                      · exact hno.out p h
                    have l5 : (nm.size : Int) + 1 ≤ P.size := by omega
                    clear hpf htp hc he hnext
                    go_wp2_with fail
                    refine (HT.out wr).mono ?_
                    rintro e w' ⟨rfl, rfl⟩
                    go_wp2_with fail
                    go_ret2
                    exact ⟨by rw [hR.out]; simp only [findV]; rw [← str_eq (P.extract (nm.size + 1) P.size) _ rfl]; rfl, hb⟩
                  · have q2 : ((P[nm.size].toNat : Int) == 61) = false := by rw [beq_eq_false_iff_ne]; omega
                    have hpf := pf_ch P nm hl hc
                    rw [HST.out] at hpf
                    clear hc he
                    have hnm : Hid (∀ p ∈ (pre ++ [(x.data.toList.drop F).take (I - F)]).map trimB, Lib.hasPrefix p st = false) := by
                      intro p hp
                      rw [List.map_append, List.mem_append] at hp
                      rcases hp with hp | hp
                      · exact hno.out p hp
                      · rw [List.map_singleton, List.mem_singleton] at hp
                        rw [hp, ← HP.out]; exact hpf
                    clear hpf
                    go_wp2_with fail
                    refine (HT.out wr).mono ?_
                    rintro e w' ⟨rfl, rfl⟩
                    go_wp2_with fail
                    go_roundw
                    case rel => exact ⟨I + 1, I + 1, _, by go_num, by go_num, hnext, Nat.le_refl _, by omega, hnm, hb⟩
                    case measure => simp [intOf]; omega
                · have q1 : ((P.extract 0 nm.size).toList == nm.toList) = false := by rw [beq_bytes]; exact decide_eq_false he
                  have hpf := pf_ne P nm he
                  rw [HST.out] at hpf
                  clear he
                  have hnm : Hid (∀ p ∈ (pre ++ [(x.data.toList.drop F).take (I - F)]).map trimB, Lib.hasPrefix p st = false) := by
                    intro p hp
                    rw [List.map_append, List.mem_append] at hp
                    rcases hp with hp | hp
                    · exact hno.out p hp
                    · rw [List.map_singleton, List.mem_singleton] at hp
                      rw [hp, ← HP.out]; exact hpf
                  clear hpf
                  go_wp2_with fail
                  refine (HT.out wr).mono ?_
                  rintro e w' ⟨rfl, rfl⟩
                  go_wp2_with fail
                  go_roundw
                  case rel => exact ⟨I + 1, I + 1, _, by go_num, by go_num, hnext, Nat.le_refl _, by omega, hnm, hb⟩
                  case measure => simp [intOf]; omega
              · have l1 : decide ((nm.size : Int) < P.size) = false := decide_eq_false (by omega)
                have hpf := pf_len P nm hl
                rw [HST.out] at hpf
                have hnm : Hid (∀ p ∈ (pre ++ [(x.data.toList.drop F).take (I - F)]).map trimB, Lib.hasPrefix p st = false) := by
                  intro p hp
                  rw [List.map_append, List.mem_append] at hp
                  rcases hp with hp | hp
                  · exact hno.out p hp
                  · rw [List.map_singleton, List.mem_singleton] at hp
                    rw [hp, ← HP.out]; exact hpf
                clear hpf
                go_wp2_with fail
                refine (HT.out wr).mono ?_
                rintro e w' ⟨rfl, rfl⟩
                go_wp2_with fail
                go_roundw
                case rel => exact ⟨I + 1, I + 1, _, by go_num, by go_num, hnext, Nat.le_refl _, by omega, hnm, hb⟩
                case measure => simp [intOf]; omega
            · have q0 : ((x[I].toNat : Int) != 59) = true := by rw [bne_iff_ne]; omega
              have hnext : Hid (FindS x.data.toList F (I + 1) pre) := .inl ⟨by rw [← HXL.out]; omega, HS1.out.1, seg_step _ F I hFI _ hch (fun e => h59 (by rw [e]; rfl)) HS1.out.2⟩
              clear hch h59
              go_wp2_with fail
              go_roundw
              case rel => exact ⟨F, I + 1, pre, by go_num, by go_num, hnext, by omega, by omega, hno, hb⟩
              case measure => simp [intOf]; omega
          · have hIe : I = x.size := by omega
            have lI : decide ((I : Int) < x.size) = false := decide_eq_false (by omega)
            have gI : (x.size : Int) ≤ I := by omega
            have hsl := seg_last _ F I (by rw [← HXL.out]; exact hIe) pre HS1.out.1 HS1.out.2
            have hnext : Hid (FindS x.data.toList (I + 1) (I + 1) (pre ++ [(x.data.toList.drop F).take (I - F)])) := .inr ⟨by rw [← HXL.out]; omega, hsl.symm⟩
            have hpre : (pre ++ [(x.data.toList.drop F).take (I - F)]) <+: parts 59 x.data.toList := by rw [← hsl]; exact List.prefix_refl _
            clear hsl hIe hlt
            have HT := Lib.hid (fun W => trim_ex x F I hFI hIz W)
            obtain ⟨P, hP⟩ : ∃ P : ByteArray, P = ⟨(trimB ((x.data.toList.drop F).take (I - F))).toArray⟩ := ⟨_, rfl⟩
            rw [← hP] at HT
            have HP : Hid (P.data.toList = trimB ((x.data.toList.drop F).take (I - F))) := by show _ = _; rw [hP]
            clear hP
            by_cases hl : nm.size < P.size
            · have l1 : (nm.size : Int) < P.size := by omega
              have l2 : (nm.size : Int) ≤ P.size := by omega
              have l3 : nm.size ≤ P.size := by omega
              by_cases he : (P.extract 0 nm.size).data.toList = nm.data.toList
              · have q1 : ((P.extract 0 nm.size).toList == nm.toList) = true := by rw [beq_bytes]; exact decide_eq_true he
                by_cases hc : P[nm.size].toNat = 61
                · have q2 : ((P[nm.size].toNat : Int) == 61) = true := by rw [beq_iff_eq]; omega
                  obtain ⟨hpf, htp⟩ := pf_yes P nm hl he hc
                  rw [HST.out] at hpf htp
                  have hR : Hid (R = some (P.extract (nm.size + 1) P.size).data.toList) := by
                    show R = _
                    obtain ⟨rest, hrest⟩ := HPF.out (pre ++ [(x.data.toList.drop F).take (I - F)]) hpre
                    rw [List.map_append, List.map_singleton, ← HP.out, ← List.append_assoc, List.append_assoc] at hrest
                    rw [HR.out, ← hrest, List.singleton_append, findL_at st _ hpf rest _ ?_, htp]
                    intro p hp
                    rcases List.mem_append.1 hp with h | h
                    · exact hnj.out p h
                    · exact hno.out p h
                  have l5 : (nm.size : Int) + 1 ≤ P.size := by omega
                  clear hpf htp hc he hnext
                  go_wp2_with fail
                  refine (HT.out wr).mono ?_
                  rintro e w' ⟨rfl, rfl⟩
                  go_wp2_with fail
                  go_ret2
                  exact ⟨by rw [hR.out]; simp only [findV]; rw [← str_eq (P.extract (nm.size + 1) P.size) _ rfl]; rfl, hb⟩
                · have q2 : ((P[nm.size].toNat : Int) == 61) = false := by rw [beq_eq_false_iff_ne]; omega
                  have hpf := pf_ch P nm hl hc
                  rw [HST.out] at hpf
                  clear hc he
                  have hnm : Hid (∀ p ∈ (pre ++ [(x.data.toList.drop F).take (I - F)]).map trimB, Lib.hasPrefix p st = false) := by
                    intro p hp
                    rw [List.map_append, List.mem_append] at hp
                    rcases hp with hp | hp
                    · exact hno.out p hp
                    · rw [List.map_singleton, List.mem_singleton] at hp
                      rw [hp, ← HP.out]; exact hpf
                  clear hpf
                  go_wp2_with fail
                  refine (HT.out wr).mono ?_
                  rintro e w' ⟨rfl, rfl⟩
                  go_wp2_with fail
                  go_roundw
                  case rel => exact ⟨I + 1, I + 1, _, by go_num, by go_num, hnext, Nat.le_refl _, by omega, hnm, hb⟩
                  case measure => simp [intOf]; omega
              · have q1 : ((P.extract 0 nm.size).toList == nm.toList) = false := by rw [beq_bytes]; exact decide_eq_false he
                have hpf := pf_ne P nm he
                rw [HST.out] at hpf
                clear he
                have hnm : Hid (∀ p ∈ (pre ++ [(x.data.toList.drop F).take (I - F)]).map trimB, Lib.hasPrefix p st = false) := by
                  intro p hp
                  rw [List.map_append, List.mem_append] at hp
                  rcases hp with hp | hp
                  · exact hno.out p hp
                  · rw [List.map_singleton, List.mem_singleton] at hp
                    rw [hp, ← HP.out]; exact hpf
                clear hpf
                go_wp2_with fail
                refine (HT.out wr).mono ?_
                rintro e w' ⟨rfl, rfl⟩
                go_wp2_with fail
                go_roundw
                case rel => exact ⟨I + 1, I + 1, _, by go_num, by go_num, hnext, Nat.le_refl _, by omega, hnm, hb⟩
                case measure => simp [intOf]; omega
            · have l1 : decide ((nm.size : Int) < P.size) = false := decide_eq_false (by omega)
              have hpf := pf_len P nm hl
              rw [HST.out] at hpf
              have hnm : Hid (∀ p ∈ (pre ++ [(x.data.toList.drop F).take (I - F)]).map trimB, Lib.hasPrefix p st = false) := by
                intro p hp
                rw [List.map_append, List.mem_append] at hp
                rcases hp with hp | hp
                · exact hno.out p hp
                · rw [List.map_singleton, List.mem_singleton] at hp
                  rw [hp, ← HP.out]; exact hpf
              clear hpf
              go_wp2_with fail
              refine (HT.out wr).mono ?_
              rintro e w' ⟨rfl, rfl⟩
              go_wp2_with fail
              go_roundw
              case rel => exact ⟨I + 1, I + 1, _, by go_num, by go_num, hnext, Nat.le_refl _, by omega, hnm, hb⟩
              case measure => simp [intOf]; omega
        · have iI : decide ((I : Int) ≤ x.size) = false := decide_eq_false (by omega)
          have hpe : pre = parts 59 x.data.toList := by
            rcases hS.out with ⟨h, _⟩ | ⟨_, h⟩
            · have := HXL.out; omega
            · exact h
          have hnj2 : Hid (∀ p ∈ pairsTo xs (j + 1), Lib.hasPrefix p st = false) := by
            intro p hp
            rw [HSU.out] at hp
            rcases List.mem_append.1 hp with h | h
            · exact hnj.out p h
            · rw [← hpe] at h; exact hno.out p h
          clear hpe
          go_wp2_with fail
          go_roundw
          case rel => exact ⟨j + 1, hjl, by go_num, hnj2, hb⟩
          case measure => simp [intOf]; omega
    · have hje : j = xs.length := by omega
      have jl : decide ((j : Int) < xs.length) = false := decide_eq_false (by omega)
      have hno : Hid (R = none) := by
        show R = none
        rw [HR.out]
        have h1 := hnj.out
        rw [hje] at h1
        exact findL_none st _ h1
      clear hje
      go_wp2_with fail
      go_ret2
      exact ⟨by rw [hno.out]; rfl, hb⟩
end Go.Proofs.YtllmlngfmcbaaaaGreatDoor
