/- stewardtop.once. -/
import Derived.Test.YtklfpnnnoaaiaabGreatDoorG18
namespace Go.Proofs.YtklfpnnnoaaiaabGreatDoor
open Go.RowKit

theorem any_takeS {l : List Ent} {k : Nat} (N : ByteArray) (h : k < l.length) : hasN (l.take (k + 1)) N = (hasN (l.take k) N || decide (l[k].1 = N)) := by
  unfold hasN
  rw [List.take_add_one, List.getElem?_eq_getElem h, Option.toList_some, List.any_append]
  simp
set_option maxRecDepth 100000 in
set_option maxHeartbeats 4000000 in
theorem once18 (a : Option Addr) (c : Nat) (wl : List ByteArray) (b : Option Addr) (d : Nat) (ys : List Ent) (hl : wl.length ≤ 1000) (hy : ys.length ≤ 1000) (hnd : wl.Nodup) (hm : ∀ N ∈ wl, hasN ys N = true) (w : World) (hs : IsStrs w a c wl) (he : IsEnts w b d ys) :
    Calls Tryz.prog 18 #[.slice a wl.length c, .slice b ys.length d] w fun e w' => e = .returned (.bool true) ∧ Below w.heap.size w w' := by
  have HS := Lib.hid hs
  have HE := Lib.hid he
  have HND := Lib.hid hnd
  have HM := Lib.hid hm
  clear hs he hnd hm
  go_enter Tryz.func18, Tryz.ntmps18
  go_wp2_with fail
  go_loopw [14] (fun i wr => ∃ j : Nat, j ≤ wl.length ∧ i = .int .i64 (j : Int) ∧ Hid (Below w.heap.size w wr)) (fun i _ => wl.length - (intOf i).toNat)
  case atStart => exact ⟨0, Nat.zero_le _, rfl, Below.refl _ _⟩
  case round =>
    obtain ⟨j, hj, rfl, HB⟩ := hrel
    obtain ⟨wv, rfl⟩ : ∃ wv, wv = wr := ⟨wr, rfl⟩
    by_cases hlt : j < wl.length
    · obtain h0 | ⟨bk, o, ha0, hbk, hc, hcell⟩ := HS.out.below HB.out
      · rw [h0] at hlt; simp at hlt
      subst ha0
      have cj := hcell j _ (List.getElem?_eq_getElem hlt)
      have HCE := Lib.hid hcell
      have HBK := Lib.hid hbk
      have j1 : (j : Int) < wl.length := by omega
      have j2 : (j : Int) ≤ c := by omega
      have j3 : (j : Int) ≤ wl.length := by omega
      have HIN := Lib.hid (HM.out wl[j] (List.getElem_mem hlt))
      have HNE : Hid (∀ k (hk : k < j), wl[k] ≠ wl[j]) := fun k hk e => by
        have := (List.getElem_inj HND.out).1 e
        omega
      generalize wl[j] = N at *
      clear hcell
      go_wp2_with fail
      go_loopw [7, 21] (fun v i wr => ∃ k : Nat, k ≤ ys.length ∧ v = .bool (hasN (ys.take k) N) ∧ i = .int .i64 (k : Int) ∧ Hid (Below wv.heap.size wv wr)) (fun _ i _ => ys.length - (intOf i).toNat)
      case atStart => exact ⟨0, Nat.zero_le _, rfl, rfl, Below.refl _ _⟩
      case round =>
        obtain ⟨k, hk, rfl, rfl, HB2⟩ := hrel
        by_cases hk2 : k < ys.length
        · obtain h0 | ⟨bk2, o2, hb0, hbk2, hc2, hcell2⟩ := HE.out.below (HB.out.trans (HB2.out.mono HB.out.size))
          · rw [h0] at hk2; simp at hk2
          subst hb0
          obtain ⟨c1, c2⟩ := hcell2 k _ (List.getElem?_eq_getElem hk2)
          have k1 : (k : Int) < ys.length := by omega
          have HST := Lib.hid (any_takeS N hk2)
          generalize ys[k] = ee at *
          obtain ⟨X, V⟩ := ee
          simp only at c1 c2 HST
          have HBa := Lib.hid (HB2.out.alloc HB2.out.size (.cells #[.string X, .int .i64 V] 53))
          have hse := strEqM X N
          clear hcell2
          cases hh : hasN (ys.take k) N with
          | true =>
            rw [hh, Bool.true_or] at HST
            clear hh
            go_wp2_with fail
            go_roundw
            case rel => exact ⟨k + 1, hk2, by rw [HST.out], by go_num, HBa⟩
            case measure => simp [intOf]; omega
          | false =>
            rw [hh, Bool.false_or] at HST
            clear hh
            by_cases hx : X = N
            · rw [decide_eq_true hx] at hse HST
              clear hx
              go_wp2_with fail
              go_roundw
              case rel => exact ⟨k + 1, hk2, by rw [HST.out], by go_num, HBa⟩
              case measure => simp [intOf]; omega
            · rw [decide_eq_false hx] at hse HST
              clear hx
              go_wp2_with fail
              go_roundw
              case rel => exact ⟨k + 1, hk2, by rw [HST.out], by go_num, HBa⟩
              case measure => simp [intOf]; omega
        · obtain rfl : k = ys.length := by omega
          have hne : ¬ (ys.length : Int) < ys.length := by omega
          rw [List.take_length, HIN.out]
          obtain ⟨wq, rfl⟩ : ∃ wq, wq = wr := ⟨wr, rfl⟩
          go_wp2_with fail
          go_loopw [7, 37] (fun v i wr => ∃ k : Nat, k ≤ j ∧ v = .bool true ∧ i = .int .i64 (k : Int) ∧ wr = wq) (fun _ i _ => j - (intOf i).toNat)
          case atStart => exact ⟨0, Nat.zero_le _, rfl, rfl, rfl⟩
          case round =>
            obtain ⟨k, hk, rfl, rfl, rfl⟩ := hrel
            by_cases hk3 : k < j
            · have hkl : k < wl.length := by omega
              have ck : wr.cell? ⟨bk, o + k, none⟩ = some (.string wl[k]) := by rw [(bcell HB2.out).1 _ _ HBK.out]; exact HCE.out k _ (List.getElem?_eq_getElem hkl)
              have hne2 := HNE.out k hk3
              have hse : (wl[k].toList == N.toList) = false := by rw [strEqM, decide_eq_false hne2]
              have k1 : (k : Int) < j := by omega
              generalize wl[k] = X at *
              clear hne2
              go_wp2_with fail
              go_roundw
              case rel => exact ⟨k + 1, hk3, by first | rfl | (rw [hse]; rfl), by go_num, by trivial⟩
              case measure => simp [intOf]; omega
            · obtain rfl : k = j := by omega
              have k1 : ¬ (k : Int) < k := by omega
              have HBn := Lib.hid (HB.out.trans (HB2.out.mono HB.out.size))
              go_wp2_with fail
              go_roundw
              case rel => exact ⟨k + 1, hlt, by go_num, HBn⟩
              case measure => simp [intOf]; omega
    · obtain rfl : j = wl.length := by omega
      have hne : ¬ (wl.length : Int) < wl.length := by omega
      go_wp2_with fail
      go_ret
      exact ⟨rfl, HB.out⟩
end Go.Proofs.YtklfpnnnoaaiaabGreatDoor

