/- chunked's reference: Decode. -/
import Derived.Test.YtchpgdoidpllgaaDoorChA
import Derived.Deep.CutBlock
import Derived.Deep.DeepCutAuto
import Derived.Deep.LoopGhost
namespace Go.Proofs.YtchpgdoidpllgaaDoor
open Go.RowKit

def tookV (t : List UInt8 × Nat × Bool × Int) : Value := .agg #[.string (bs t.1), .int .i64 (t.2.1 : Int), .bool t.2.2.1, .int .i64 t.2.2.2]
/-- The digits of a size that stand from k on: j of them. -/
def DigAt (l : List UInt8) (k j : Nat) : Prop := j ≤ 8 ∧ k + j ≤ l.length ∧ ((l.drop k).take j).all isHex = true
theorem digAt_zero {l : List UInt8} {k : Nat} (h : k ≤ l.length) : DigAt l k 0 := ⟨by decide, by omega, by simp⟩
theorem digAt_succ {l : List UInt8} {k j : Nat} (h : DigAt l k j) (h8 : j < 8) (hl : k + j < l.length) (hx : isHex l[k + j] = true) : DigAt l k (j + 1) := by
  refine ⟨by omega, by omega, ?_⟩
  have hd : j < (l.drop k).length := by rw [List.length_drop]; omega
  rw [List.take_succ_eq_append_getElem hd, List.all_append, h.2.2]
  simp [List.getElem_drop, hx]
/-- No more digits. -/
def NoMore (l : List UInt8) (k j : Nat) : Prop := ∀ h : k + j < l.length, j = 8 ∨ isHex l[k + j] = false
theorem drop_split {l : List UInt8} {k j : Nat} : l.drop k = (l.drop k).take j ++ l.drop (k + j) := by
  rw [← List.drop_drop, List.take_append_drop]
theorem digEnd_of {l : List UInt8} {k j : Nat} (h : DigAt l k j) (hn : NoMore l k j) (h0 : 0 < j) (hl : k + j < l.length) : DigEnd ((l.drop k).take j) (l.drop (k + j)) := by
  have hlen : ((l.drop k).take j).length = j := by rw [List.length_take, List.length_drop]; have := h.2.1; omega
  refine ⟨h.2.2, by rw [hlen]; exact h.1, fun e => by rw [e, List.length_nil] at hlen; omega, ?_⟩
  rcases hn hl with h8 | hx
  · left; rw [hlen]; exact h8
  · right; exact ⟨l[k + j], l.drop (k + j + 1), by rw [List.drop_eq_getElem_cons hl], hx⟩
theorem nodig_of {l : List UInt8} {k : Nat} (hn : NoMore l k 0) (hl : k < l.length) : ∃ c r, l.drop k = c :: r ∧ isHex c = false := by
  refine ⟨l[k], l.drop (k + 1), by rw [List.drop_eq_getElem_cons hl], ?_⟩
  rcases hn hl with h | h
  · omega
  · exact h
theorem numR_one (c : UInt8) (q : Bool) (hq : isHex c = q) : ∃ d : Int, numR 16 8 isHex [c] 99 = (d, if q = true then 0 else 2) := by
  subst hq
  unfold numR
  have ha : [c].all isHex = isHex c := by simp
  have hl : [c].length = 1 := rfl
  rw [ha, hl]
  cases h : isHex c with
  | false => rw [if_pos (.inr (.inr rfl))]; exact ⟨0, rfl⟩
  | true =>
    have hd := hex_dgt c h
    have hn : numD 16 [c] = dgt c := by simp [numD]
    rw [if_neg (by rintro (h | h | h) <;> first | omega | cases h), hn, if_neg (by omega)]
    exact ⟨_, rfl⟩
theorem numR_all (ds : List UInt8) (h : ds.all isHex = true) (h8 : ds.length ≤ 8) (h0 : ds ≠ []) : numR 16 8 isHex ds 4294967295 = (numD 16 ds, 0) := by
  have hp := numD_lt 16 isHex (fun c h => hex_dgt c h) ds h
  have h16 := pow16_le ds.length h8
  have h17 : ((16 ^ ds.length : Nat) : Int) ≤ ((4294967296 : Nat) : Int) := Int.ofNat_le.2 h16
  have p1' : numD 16 ds < ((16 ^ ds.length : Nat) : Int) := hp.2
  have := List.length_pos_iff.2 h0
  unfold numR
  rw [if_neg (by rintro (h' | h' | h'); (· omega); (· omega); (· rw [h] at h'; cases h')), if_neg (by omega)]
theorem numR_n (ds : List UInt8) (h : ds.all isHex = true) (h8 : ds.length ≤ 8) : ∃ N : Nat, numD 16 ds = (N : Int) ∧ N < 4294967296 := by
  have hp := numD_lt 16 isHex (fun c h => hex_dgt c h) ds h
  have h16 := pow16_le ds.length h8
  have h17 : ((16 ^ ds.length : Nat) : Int) ≤ ((4294967296 : Nat) : Int) := Int.ofNat_le.2 h16
  have p1' : numD 16 ds < ((16 ^ ds.length : Nat) : Int) := hp.2
  have p0 : 0 ≤ numD 16 ds := hp.1
  exact ⟨(numD 16 ds).toNat, (Int.toNat_of_nonneg p0).symm, by omega⟩
theorem bs_appD (a b : List UInt8) : bs a ++ bs b = bs (a ++ b) := by
  rw [← bs_of (bs a ++ bs b)]
  simp [bs]
theorem crlf_vals (l : List UInt8) : crlfL l = -1 ∨ crlfL l = 0 ∨ crlfL l = 1 ∨ crlfL l = 2 := by
  match l with
  | [] => exact .inr (.inl rfl)
  | [c] =>
    simp only [crlfL]
    by_cases h : c = 13
    · rw [if_pos h]; exact .inr (.inr (.inl rfl))
    · rw [if_neg h]; exact .inl rfl
  | c :: d :: t =>
    simp only [crlfL]
    by_cases h : c = 13
    · rw [if_pos h]
      by_cases h2 : d = 10
      · rw [if_pos h2]; exact .inr (.inr (.inr rfl))
      · rw [if_neg h2]; exact .inl rfl
    · rw [if_neg h]; exact .inl rfl
set_option maxRecDepth 100000 in
set_option maxHeartbeats 8000000 in
theorem dec11 (s : ByteArray) (hs : s.size ≤ 1000000) (most : Int) (hm0 : -9223372036854775808 ≤ most) (hm1 : most ≤ 9223372036854775807) (w : World) :
    Calls Tryd.prog 11 #[.string s, .int .i64 most] w fun e w' => e = .returned (tookV (tookL most s.data.toList)) ∧ Below w.heap.size w w' := by
  have hz := Lib.size_eq s
  obtain ⟨R, hR⟩ : ∃ R, R = tookV (tookL most s.data.toList) := ⟨_, rfl⟩
  rw [← hR]
  have HR := Lib.hid hR
  obtain ⟨l, hl⟩ : ∃ l, l = s.data.toList := ⟨_, rfl⟩
  rw [← hl] at HR hz
  have HL := Lib.hid hl
  have HZ := Lib.hid hz
  have R0 := Lib.hid (Row.new w 30 #[.string ⟨#[]⟩, .int .i64 0, .bool false, .int .i64 0])
  have L0 := below_alloc w (.cells #[.string ⟨#[]⟩, .int .i64 0, .bool false, .int .i64 0] 30)
  clear hR hz hl
  go_enter Tryd.func11, Tryd.ntmps11
  go_wp2_with fail
  go_loopg [5, 6] s.size (fun g bv av wr => ∃ (b : List UInt8) (k : Nat), bv = .string (bs b) ∧ av = .int .i64 (k : Int) ∧ g = s.size - k ∧ k ≤ s.size ∧ Hid (AtChunk most l k b) ∧ Hid (b = [] ∨ (b.length : Int) ≤ most) ∧ b.length ≤ k ∧ Hid (Row wr w.heap.size 30 #[.string ⟨#[]⟩, .int .i64 0, .bool false, .int .i64 0]) ∧ Below w.heap.size w wr)
  case atStart => exact ⟨[], 0, rfl, rfl, rfl, Nat.zero_le _, at_start most l, .inl rfl, Nat.zero_le _, R0, L0⟩
  case round =>
    clear R0 L0
    obtain ⟨b, k, rfl, rfl, rfl, hk, hat, hb3, hbk, hrow, hbel⟩ := hrel
    have hkl : k ≤ l.length := by rw [← HZ.out]; exact hk
    go_upto_block 2 with fail
    go_cut [7] (fun s7 wx => wr = wx ∧ ∃ m : Nat, s7 = .int .i64 (m : Int) ∧ k ≤ m ∧ m ≤ s.size ∧ m - k ≤ 8 ∧ Hid (DigAt l k (m - k)) ∧ Hid (NoMore l k (m - k)))
    case first =>
      go_wp2_with fail
      go_loopg [7] 8 (fun g s7 wx => wr = wx ∧ ∃ m : Nat, s7 = .int .i64 (m : Int) ∧ g = 8 - (m - k) ∧ k ≤ m ∧ m ≤ s.size ∧ m - k ≤ 8 ∧ Hid (DigAt l k (m - k)))
      case atStart => exact ⟨rfl, k, rfl, by omega, Nat.le_refl _, hk, by omega, by rw [Nat.sub_self]; exact digAt_zero hkl⟩
      case round =>
        obtain ⟨rfl, m, rfl, rfl, hkm, hms, hj8, hdig⟩ := hrel
        by_cases hme : m < s.size
        · have t1 : (m : Int) < (s.size : Int) := by omega
          by_cases hj : m - k < 8
          · have t2 : (m : Int) - (k : Int) < 8 := by omega
            have hml : m < l.length := by rw [← HZ.out]; exact hme
            obtain ⟨q, hq⟩ : ∃ q, isHex l[m] = q := ⟨_, rfl⟩
            obtain ⟨d, hd⟩ := numR_one l[m] q hq
            have hex : s.extract m (m + 1) = bs [l[m]] := by
              rw [← bs_of (s.extract m (m + 1)), extractL, ← HL.out, List.drop_eq_getElem_cons hml, show m + 1 - m = 1 by omega]
              rfl
            have HN := Lib.hid (num27_16 (bs [l[m]]) (by rw [bs_size]; exact (by decide : 1 ≤ 1000000)) 99 d (if q = true then 0 else 2) (by rw [bs_list]; exact hd))
            rw [← hex] at HN
            have HQ := Lib.hid hq
            have hmk : k + (m - k) = m := by omega
            have hmk1 : m + 1 - k = m - k + 1 := by omega
            have HMK := Lib.hid hmk
            have HMK1 := Lib.hid hmk1
            clear hd hex hq hmk hmk1
            cases q
            · have hno : Hid (NoMore l k (m - k)) := fun h => .inr (by
                have := HQ.out
                have e := HMK.out
                simp only [e]; exact this)
              go_wp2_with fail
              with_reducible refine (HN.out _).mono ?_
              rintro e w' ⟨rfl, rfl⟩
              go_wp2_with fail
              go_meet
              exact ⟨rfl, m, rfl, hkm, hms, hj8, hdig, hno⟩
            · have hd2 : Hid (DigAt l k (m + 1 - k)) := by
                show DigAt _ _ _
                rw [HMK1.out]
                refine digAt_succ hdig.out hj (by rw [HMK.out, ← HZ.out]; exact hme) ?_
                have := HQ.out
                have e := HMK.out
                simp only [e]; exact this
              go_wp2_with fail
              with_reducible refine (HN.out _).mono ?_
              rintro e w' ⟨rfl, rfl⟩
              go_wp2_with fail
              go_roundg (8 - (m + 1 - k))
              case measure => omega
              case rel => exact ⟨rfl, m + 1, rfl, rfl, by omega, by omega, by omega, hd2⟩
          · have t2 : ¬ (m : Int) - (k : Int) < 8 := by omega
            have hno : Hid (NoMore l k (m - k)) := fun _ => .inl (by omega)
            go_wp2_with fail
            go_meet
            exact ⟨rfl, m, rfl, hkm, hms, hj8, hdig, hno⟩
        · have t1 : ¬ (m : Int) < (s.size : Int) := by omega
          have hno : Hid (NoMore l k (m - k)) := fun h => by have := HZ.out; omega
          go_wp2_with fail
          go_meet
          exact ⟨rfl, m, rfl, hkm, hms, hj8, hdig, hno⟩
    case rest =>
      obtain ⟨rfl, m, rfl, hkm, hms, hj8, hdig, hno⟩ := hcut
      have hml : m ≤ l.length := by rw [← HZ.out]; exact hms
      obtain ⟨ds, hds⟩ : ∃ ds, ds = (l.drop k).take (m - k) := ⟨_, rfl⟩
      have hmk : k + (m - k) = m := by omega
      have hdl : ds.length = m - k := by rw [hds, List.length_take, List.length_drop]; omega
      have hdr : l.drop k = ds ++ l.drop m := by
        have := drop_split (l := l) (k := k) (j := m - k)
        rw [hmk] at this
        rw [hds]; exact this
      have hdx : ds.all isHex = true := by rw [hds]; exact hdig.out.2.2
      have hd8 : ds.length ≤ 8 := by omega
      have hex : s.extract k m = bs ds := by
        rw [← bs_of (s.extract k m), extractL, ← HL.out, ← hds]
      have HDS := Lib.hid hds
      have HDL := Lib.hid hdl
      have HDR := Lib.hid hdr
      have HDX := Lib.hid hdx
      have HD8 := Lib.hid hd8
      obtain ⟨B, hB⟩ : ∃ B, B = bs b := ⟨_, rfl⟩
      have HB := Lib.hid hB
      have hBz : B.size = b.length := by rw [hB, bs_size]
      have HBZ := Lib.hid hBz
      rw [← hB]
      have hBs : B.size ≤ 1000000 := by omega
      have fw : IntKind.i64.wrap (most - (B.size : Int)) = most - (B.size : Int) := by
        refine IntWalk.i64_in _ ?_
        rcases hb3.out with h | h
        · have : B.size = 0 := by rw [hBz, h]; rfl
          omega
        · omega
      clear hmk hdl hdr hdx hds hB hBz
      by_cases hme : m = s.size
      · subst hme
        obtain ⟨r1, r2, hnr⟩ : ∃ r1 r2, numR 16 8 isHex ds 4294967295 = (r1, r2) := ⟨_, _, rfl⟩
        have HN := Lib.hid (num27_16 (bs ds) (by rw [bs_size]; omega) 4294967295 r1 r2 (by rw [bs_list]; exact hnr))
        rw [← hex] at HN
        have hd0 : l.drop s.size = [] := List.drop_eq_nil_of_le (by rw [← HZ.out]; omega)
        have HLD : Hid (l.drop k = ds) := by
          show _ = _
          rw [HDR.out, hd0, List.append_nil]
        clear hex hnr hd0 hd8 hml
        go_wp2_with fail
        with_reducible refine (HN.out _).mono ?_
        rintro e w' ⟨rfl, rfl⟩
        have HE : Hid (R = .agg #[.string B, .int .i64 s.size, .bool false, .int .i64 0]) := by
          show _ = _
          rw [HR.out, took_digits hat.out HLD.out HDX.out HD8.out, HB.out, HZ.out]; rfl
        have HRW := hrow.out
        have q0 := HRW.cell 0
        have q1 := HRW.cell 1
        have q2 := HRW.cell 2
        have q3 := HRW.cell 3
        have p0 := HRW.free 0
        have p1 := HRW.free 1
        have p2 := HRW.free 2
        have p3 := HRW.free 3
        simp only [List.getElem?_toArray, List.getElem?_cons_zero, List.getElem?_cons_succ] at q0 q1 q2 q3
        clear HRW
        go_wp2_with fail
        refine bodyPost_ret (v := .agg #[.string B, .int .i64 s.size, .bool false, .int .i64 0]) (by simp [results, Tryd.results11, go_sem, q0, q1, q2, q3]) rfl ⟨by rw [HE.out], ?_⟩
        exact ((((hbel).setCell (p := ⟨w.heap.size, 0, none⟩) (Nat.le_refl _) _).setCell (p := ⟨w.heap.size, 1, none⟩) (Nat.le_refl _) _).setCell (p := ⟨w.heap.size, 2, none⟩) (Nat.le_refl _) _).setCell (p := ⟨w.heap.size, 3, none⟩) (Nat.le_refl _) _
      · have hme2 : m < s.size := by omega
        have hml2 : m < l.length := by rw [← HZ.out]; exact hme2
        have t1 : ¬ (m : Int) = s.size := by omega
        by_cases hmk : m = k
        · subst hmk
          obtain ⟨r1, r2, hnr⟩ : ∃ r1 r2, numR 16 8 isHex ds 4294967295 = (r1, r2) := ⟨_, _, rfl⟩
          have HN := Lib.hid (num27_16 (bs ds) (by rw [bs_size]; omega) 4294967295 r1 r2 (by rw [bs_list]; exact hnr))
          rw [← hex] at HN
          rw [show s.extract m m = ByteArray.empty by simp] at HN
          have hno2 : NoMore l m 0 := by have := hno.out; rwa [Nat.sub_self] at this
          obtain ⟨c, r, hcr, hxc⟩ := nodig_of hno2 hml2
          have HCR := Lib.hid hcr
          have HXC := Lib.hid hxc
          clear hex hnr hd8 hml hno2 hcr hxc hme hml2
          go_wp2_with fail
          with_reducible refine (HN.out _).mono ?_
          rintro e w' ⟨rfl, rfl⟩
          have HE : Hid (R = .agg #[.string ⟨#[]⟩, .int .i64 0, .bool false, .int .i64 2]) := by
            show _ = _
            rw [HR.out, took_nodigit hat.out HCR.out HXC.out]; rfl
          have HRW := hrow.out
          have q0 := HRW.cell 0
          have q1 := HRW.cell 1
          have q2 := HRW.cell 2
          have q3 := HRW.cell 3
          have p0 := HRW.free 0
          have p1 := HRW.free 1
          have p2 := HRW.free 2
          have p3 := HRW.free 3
          simp only [List.getElem?_toArray, List.getElem?_cons_zero, List.getElem?_cons_succ] at q0 q1 q2 q3
          clear HRW
          go_wp2_with fail
          refine bodyPost_ret (v := .agg #[.string ⟨#[]⟩, .int .i64 0, .bool false, .int .i64 2]) (by simp [results, Tryd.results11, go_sem, q0, q1, q2, q3]) rfl ⟨by rw [HE.out], ?_⟩
          exact ((((hbel).setCell (p := ⟨w.heap.size, 0, none⟩) (Nat.le_refl _) _).setCell (p := ⟨w.heap.size, 1, none⟩) (Nat.le_refl _) _).setCell (p := ⟨w.heap.size, 2, none⟩) (Nat.le_refl _) _).setCell (p := ⟨w.heap.size, 3, none⟩) (Nat.le_refl _) _
        · have hkm2 : k < m := by omega
          have t2 : ¬ (m : Int) = k := by omega
          have hmk1 : k + (m - k) = m := by omega
          have hde : DigEnd ds (l.drop m) := by
            have := digEnd_of hdig.out hno.out (by omega) (by rw [hmk1]; exact hml2)
            rw [hmk1, ← HDS.out] at this
            exact this
          have hds0 : ds ≠ [] := hde.2.2.1
          obtain ⟨N, hN, hNb⟩ := numR_n ds HDX.out HD8.out
          have hnr := numR_all ds HDX.out HD8.out hds0
          rw [hN] at hnr
          have HN := Lib.hid (num27_16 (bs ds) (by rw [bs_size]; omega) 4294967295 N 0 (by rw [bs_list]; exact hnr))
          rw [← hex] at HN
          have HNN := Lib.hid hN
          have hr0 : l.drop m ≠ [] := by
            intro e
            have := congrArg List.length e
            rw [List.length_drop, List.length_nil] at this
            omega
          obtain ⟨cA, hcA⟩ : ∃ cA, cA = crlfL (l.drop m) := ⟨_, rfl⟩
          have hsz := took_size hat.out HDR.out hde hr0
          rw [← hcA] at hsz
          have hexm : s.extract m s.size = bs (l.drop m) := by
            rw [← bs_of (s.extract m s.size), extractL, ← HL.out, List.take_of_length_le (by rw [List.length_drop]; have := HZ.out; omega)]
          have HC := Lib.hid (fun W => crlf18 (bs (l.drop m)) (by rw [bs_size, List.length_drop]; have := HZ.out; omega) W)
          rw [bs_list, ← hcA, ← hexm] at HC
          have HDE := Lib.hid hde
          have HSZ := Lib.hid hsz
          have HCA := Lib.hid hcA
          have hvs := crlf_vals (l.drop m)
          rw [← hcA] at hvs
          clear hex hnr hd8 hml hme hml2 hde hds0 hN hr0 hsz hexm hmk1 hcA
          rcases hvs with hv | hv | hv | hv
          · subst hv
            go_wp2_with fail
            with_reducible refine (HN.out _).mono ?_
            rintro e w' ⟨rfl, rfl⟩
            go_wp2_with fail
            with_reducible refine (HC.out _).mono ?_
            rintro e w2 ⟨rfl, hb2⟩
            have hb22 := hbel.trans (hb2.mono hbel.size)
            have HE : Hid (R = .agg #[.string ⟨#[]⟩, .int .i64 0, .bool false, .int .i64 2]) := by
              show _ = _
              rw [HR.out, (HSZ.out.1 (by trivial))]; rfl
            have HRW := hrow.out.below hb2
            have q0 := HRW.cell 0
            have q1 := HRW.cell 1
            have q2 := HRW.cell 2
            have q3 := HRW.cell 3
            have p0 := HRW.free 0
            have p1 := HRW.free 1
            have p2 := HRW.free 2
            have p3 := HRW.free 3
            simp only [List.getElem?_toArray, List.getElem?_cons_zero, List.getElem?_cons_succ] at q0 q1 q2 q3
            clear HRW
            go_wp2_with fail
            refine bodyPost_ret (v := .agg #[.string ⟨#[]⟩, .int .i64 0, .bool false, .int .i64 2]) (by simp [results, Tryd.results11, go_sem, q0, q1, q2, q3]) rfl ⟨by rw [HE.out], ?_⟩
            exact ((((hb22).setCell (p := ⟨w.heap.size, 0, none⟩) (Nat.le_refl _) _).setCell (p := ⟨w.heap.size, 1, none⟩) (Nat.le_refl _) _).setCell (p := ⟨w.heap.size, 2, none⟩) (Nat.le_refl _) _).setCell (p := ⟨w.heap.size, 3, none⟩) (Nat.le_refl _) _
          · exact absurd hv HSZ.out.2.2
          · subst hv
            go_wp2_with fail
            with_reducible refine (HN.out _).mono ?_
            rintro e w' ⟨rfl, rfl⟩
            go_wp2_with fail
            with_reducible refine (HC.out _).mono ?_
            rintro e w2 ⟨rfl, hb2⟩
            have hb22 := hbel.trans (hb2.mono hbel.size)
            have HE : Hid (R = .agg #[.string B, .int .i64 s.size, .bool false, .int .i64 0]) := by
              show _ = _
              rw [HR.out, (HSZ.out.2.1 (by trivial)), HB.out, HZ.out]; rfl
            have HRW := hrow.out.below hb2
            have q0 := HRW.cell 0
            have q1 := HRW.cell 1
            have q2 := HRW.cell 2
            have q3 := HRW.cell 3
            have p0 := HRW.free 0
            have p1 := HRW.free 1
            have p2 := HRW.free 2
            have p3 := HRW.free 3
            simp only [List.getElem?_toArray, List.getElem?_cons_zero, List.getElem?_cons_succ] at q0 q1 q2 q3
            clear HRW
            go_wp2_with fail
            refine bodyPost_ret (v := .agg #[.string B, .int .i64 s.size, .bool false, .int .i64 0]) (by simp [results, Tryd.results11, go_sem, q0, q1, q2, q3]) rfl ⟨by rw [HE.out], ?_⟩
            exact ((((hb22).setCell (p := ⟨w.heap.size, 0, none⟩) (Nat.le_refl _) _).setCell (p := ⟨w.heap.size, 1, none⟩) (Nat.le_refl _) _).setCell (p := ⟨w.heap.size, 2, none⟩) (Nat.le_refl _) _).setCell (p := ⟨w.heap.size, 3, none⟩) (Nat.le_refl _) _
          · subst hv
            obtain ⟨t, ht⟩ := crlf_two HCA.out.symm
            have htl : t.length + 2 = s.size - m := by
              have := congrArg List.length ht
              rw [List.length_drop, ← HZ.out] at this
              simp at this
              omega
            have HT := Lib.hid ht
            have hdt : l.drop (m + 2) = t := by rw [← List.drop_drop, ht]; rfl
            have HDT := Lib.hid hdt
            have HDR2 : Hid (l.drop k = ds ++ 13 :: 10 :: t) := by show _ = _; rw [HDR.out, ht]
            have HDE2 : Hid (DigEnd ds (13 :: 10 :: t)) := by have := HDE.out; rw [ht] at this; exact this
            clear ht hdt
            by_cases hbig : (N : Int) > most - (B.size : Int)
            · have HBG : Hid (numD 16 ds > most - b.length) := by
                show _ > _
                rw [HNN.out, ← HBZ.out]; exact hbig
              go_wp2_with fail
              with_reducible refine (HN.out _).mono ?_
              rintro e w' ⟨rfl, rfl⟩
              go_wp2_with fail
              with_reducible refine (HC.out _).mono ?_
              rintro e w2 ⟨rfl, hb2⟩
              have hb22 := hbel.trans (hb2.mono hbel.size)
              have HE : Hid (R = .agg #[.string ⟨#[]⟩, .int .i64 0, .bool false, .int .i64 3]) := by
                show _ = _
                rw [HR.out, took_big hat.out HDR2.out HDE2.out HBG.out]; rfl
              have HRW := hrow.out.below hb2
              have q0 := HRW.cell 0
              have q1 := HRW.cell 1
              have q2 := HRW.cell 2
              have q3 := HRW.cell 3
              have p0 := HRW.free 0
              have p1 := HRW.free 1
              have p2 := HRW.free 2
              have p3 := HRW.free 3
              simp only [List.getElem?_toArray, List.getElem?_cons_zero, List.getElem?_cons_succ] at q0 q1 q2 q3
              clear HRW
              go_wp2_with fail
              refine bodyPost_ret (v := .agg #[.string ⟨#[]⟩, .int .i64 0, .bool false, .int .i64 3]) (by simp [results, Tryd.results11, go_sem, q0, q1, q2, q3]) rfl ⟨by rw [HE.out], ?_⟩
              exact ((((hb22).setCell (p := ⟨w.heap.size, 0, none⟩) (Nat.le_refl _) _).setCell (p := ⟨w.heap.size, 1, none⟩) (Nat.le_refl _) _).setCell (p := ⟨w.heap.size, 2, none⟩) (Nat.le_refl _) _).setCell (p := ⟨w.heap.size, 3, none⟩) (Nat.le_refl _) _
            · have HBG : Hid (¬ numD 16 ds > most - b.length) := by
                show ¬ _
                rw [HNN.out, ← HBZ.out]; exact hbig
              by_cases hless : t.length < N
              · have t3 : (s.size : Int) - ((m : Int) + 2) < N := by omega
                have hcat : B ++ s.extract (m + 2) s.size = bs (b ++ t) := by
                  have : s.extract (m + 2) s.size = bs t := by
                    rw [← bs_of (s.extract (m + 2) s.size), extractL, ← HL.out, HDT.out, List.take_of_length_le (by omega)]
                  rw [this, HB.out, bs_appD]
                have HCAT := Lib.hid hcat
                have hxz : (s.extract (m + 2) s.size).size ≤ 1000000 := by rw [size_extract _ _ _ (Nat.le_refl _)]; omega
                clear hcat
                go_wp2_with fail
                with_reducible refine (HN.out _).mono ?_
                rintro e w' ⟨rfl, rfl⟩
                go_wp2_with fail
                with_reducible refine (HC.out _).mono ?_
                rintro e w2 ⟨rfl, hb2⟩
                have hb22 := hbel.trans (hb2.mono hbel.size)
                have HE : Hid (R = .agg #[.string (B ++ s.extract (m + 2) s.size), .int .i64 s.size, .bool false, .int .i64 0]) := by
                  show _ = _
                  rw [HR.out, took_less hat.out HDR2.out HDE2.out (Int.not_lt.2 HBG.out) N HNN.out hless, HCAT.out, HZ.out]; rfl
                have HRW := hrow.out.below hb2
                have q0 := HRW.cell 0
                have q1 := HRW.cell 1
                have q2 := HRW.cell 2
                have q3 := HRW.cell 3
                have p0 := HRW.free 0
                have p1 := HRW.free 1
                have p2 := HRW.free 2
                have p3 := HRW.free 3
                simp only [List.getElem?_toArray, List.getElem?_cons_zero, List.getElem?_cons_succ] at q0 q1 q2 q3
                clear HRW
                go_wp2_with fail
                refine bodyPost_ret (v := .agg #[.string (B ++ s.extract (m + 2) s.size), .int .i64 s.size, .bool false, .int .i64 0]) (by simp [results, Tryd.results11, go_sem, q0, q1, q2, q3]) rfl ⟨by rw [HE.out], ?_⟩
                exact ((((hb22).setCell (p := ⟨w.heap.size, 0, none⟩) (Nat.le_refl _) _).setCell (p := ⟨w.heap.size, 1, none⟩) (Nat.le_refl _) _).setCell (p := ⟨w.heap.size, 2, none⟩) (Nat.le_refl _) _).setCell (p := ⟨w.heap.size, 3, none⟩) (Nat.le_refl _) _
              · have t3 : ¬ (s.size : Int) - ((m : Int) + 2) < N := by omega
                obtain ⟨x, hx⟩ : ∃ x, x = t.take N := ⟨_, rfl⟩
                obtain ⟨y, hy⟩ : ∃ y, y = t.drop N := ⟨_, rfl⟩
                have hxl : x.length = N := by rw [hx, List.length_take]; omega
                have hxy : t = x ++ y := by rw [hx, hy, List.take_append_drop]
                obtain ⟨a2, ha2⟩ : ∃ a2, a2 = m + 2 + N := ⟨_, rfl⟩
                have ha2s : a2 ≤ s.size := by omega
                have hdy : l.drop a2 = y := by rw [ha2, hy, ← HDT.out, List.drop_drop]
                have hyl : y.length = s.size - a2 := by rw [← hdy, List.length_drop, ← HZ.out]
                have hX : s.extract (m + 2) a2 = bs x := by
                  rw [← bs_of (s.extract (m + 2) a2), extractL, ← HL.out, HDT.out, show a2 - (m + 2) = N by omega, ← hx]
                have hcat : B ++ s.extract (m + 2) a2 = bs (b ++ x) := by rw [hX, HB.out, bs_appD]
                have hxz : (s.extract (m + 2) a2).size ≤ 1000000 := by rw [size_extract _ _ _ ha2s]; omega
                have hexy : s.extract a2 s.size = bs y := by
                  rw [← bs_of (s.extract a2 s.size), extractL, ← HL.out, hdy, List.take_of_length_le (by omega)]
                obtain ⟨cB, hcB⟩ : ∃ cB, cB = crlfL y := ⟨_, rfl⟩
                have HD := Lib.hid (fun W => crlf18 (bs y) (by rw [bs_size]; omega) W)
                rw [bs_list, ← hcB, ← hexy] at HD
                have hdr3 : l.drop k = ds ++ 13 :: 10 :: (x ++ y) := by rw [HDR2.out, hxy]
                have hde3 : DigEnd ds (13 :: 10 :: (x ++ y)) := by have := HDE2.out; rw [hxy] at this; exact this
                have hnb : ¬ numD 16 ds > most - b.length := HBG.out
                have hrb := run_bytes hat.out hdr3 hde3 hnb N HNN.out hxl
                have hte := took_end hrb.1
                rw [← hcB] at hte
                have hvs := crlf_vals y
                rw [← hcB] at hvs
                have HRB := Lib.hid hrb
                have HTE := Lib.hid hte
                have HCB := Lib.hid hcB
                have HX := Lib.hid hx
                have HCAT := Lib.hid hcat
                have HDR3 := Lib.hid hdr3
                have HDE3 := Lib.hid hde3
                have HNB := Lib.hid hnb
                have HXL := Lib.hid hxl
                have HDY := Lib.hid hdy
                have HYL := Lib.hid hyl
                subst ha2
                clear hx hy hxy hdy hX hcat hexy hcB hdr3 hde3 hnb hrb hte hyl
                rcases hvs with hv | hv | hv | hv
                · subst hv
                  go_wp2_with fail
                  with_reducible refine (HN.out _).mono ?_
                  rintro e w' ⟨rfl, rfl⟩
                  go_wp2_with fail
                  with_reducible refine (HC.out _).mono ?_
                  rintro e w2 ⟨rfl, hb2⟩
                  go_wp2_with fail
                  with_reducible refine (HD.out _).mono ?_
                  rintro e w3 ⟨rfl, hb3⟩
                  have hb33 := (hbel.trans (hb2.mono hbel.size)).trans (hb3.mono (Nat.le_trans hbel.size hb2.size))
                  have HE : Hid (R = .agg #[.string ⟨#[]⟩, .int .i64 0, .bool false, .int .i64 2]) := by
                    show _ = _
                    rw [HR.out, (HTE.out.1 (by trivial))]; rfl
                  have HRW := ((hrow.out.below hb2).below hb3)
                  have q0 := HRW.cell 0
                  have q1 := HRW.cell 1
                  have q2 := HRW.cell 2
                  have q3 := HRW.cell 3
                  have p0 := HRW.free 0
                  have p1 := HRW.free 1
                  have p2 := HRW.free 2
                  have p3 := HRW.free 3
                  simp only [List.getElem?_toArray, List.getElem?_cons_zero, List.getElem?_cons_succ] at q0 q1 q2 q3
                  clear HRW
                  go_wp2_with fail
                  refine bodyPost_ret (v := .agg #[.string ⟨#[]⟩, .int .i64 0, .bool false, .int .i64 2]) (by simp [results, Tryd.results11, go_sem, q0, q1, q2, q3]) rfl ⟨by rw [HE.out], ?_⟩
                  exact ((((hb33).setCell (p := ⟨w.heap.size, 0, none⟩) (Nat.le_refl _) _).setCell (p := ⟨w.heap.size, 1, none⟩) (Nat.le_refl _) _).setCell (p := ⟨w.heap.size, 2, none⟩) (Nat.le_refl _) _).setCell (p := ⟨w.heap.size, 3, none⟩) (Nat.le_refl _) _
                · subst hv
                  go_wp2_with fail
                  with_reducible refine (HN.out _).mono ?_
                  rintro e w' ⟨rfl, rfl⟩
                  go_wp2_with fail
                  with_reducible refine (HC.out _).mono ?_
                  rintro e w2 ⟨rfl, hb2⟩
                  go_wp2_with fail
                  with_reducible refine (HD.out _).mono ?_
                  rintro e w3 ⟨rfl, hb3⟩
                  have hb33 := (hbel.trans (hb2.mono hbel.size)).trans (hb3.mono (Nat.le_trans hbel.size hb2.size))
                  have HE : Hid (R = .agg #[.string (B ++ s.extract (m + 2) (m + 2 + N)), .int .i64 s.size, .bool false, .int .i64 0]) := by
                    show _ = _
                    rw [HR.out, (HTE.out.2.2 (by trivial)), HZ.out]; unfold tookV; rw [HCAT.out]
                  have HRW := ((hrow.out.below hb2).below hb3)
                  have q0 := HRW.cell 0
                  have q1 := HRW.cell 1
                  have q2 := HRW.cell 2
                  have q3 := HRW.cell 3
                  have p0 := HRW.free 0
                  have p1 := HRW.free 1
                  have p2 := HRW.free 2
                  have p3 := HRW.free 3
                  simp only [List.getElem?_toArray, List.getElem?_cons_zero, List.getElem?_cons_succ] at q0 q1 q2 q3
                  clear HRW
                  go_wp2_with fail
                  refine bodyPost_ret (v := .agg #[.string (B ++ s.extract (m + 2) (m + 2 + N)), .int .i64 s.size, .bool false, .int .i64 0]) (by simp [results, Tryd.results11, go_sem, q0, q1, q2, q3]) rfl ⟨by rw [HE.out], ?_⟩
                  exact ((((hb33).setCell (p := ⟨w.heap.size, 0, none⟩) (Nat.le_refl _) _).setCell (p := ⟨w.heap.size, 1, none⟩) (Nat.le_refl _) _).setCell (p := ⟨w.heap.size, 2, none⟩) (Nat.le_refl _) _).setCell (p := ⟨w.heap.size, 3, none⟩) (Nat.le_refl _) _
                · subst hv
                  go_wp2_with fail
                  with_reducible refine (HN.out _).mono ?_
                  rintro e w' ⟨rfl, rfl⟩
                  go_wp2_with fail
                  with_reducible refine (HC.out _).mono ?_
                  rintro e w2 ⟨rfl, hb2⟩
                  go_wp2_with fail
                  with_reducible refine (HD.out _).mono ?_
                  rintro e w3 ⟨rfl, hb3⟩
                  have hb33 := (hbel.trans (hb2.mono hbel.size)).trans (hb3.mono (Nat.le_trans hbel.size hb2.size))
                  have HE : Hid (R = .agg #[.string (B ++ s.extract (m + 2) (m + 2 + N)), .int .i64 s.size, .bool false, .int .i64 0]) := by
                    show _ = _
                    rw [HR.out, (HTE.out.2.1 (by trivial)), HZ.out]; unfold tookV; rw [HCAT.out]
                  have HRW := ((hrow.out.below hb2).below hb3)
                  have q0 := HRW.cell 0
                  have q1 := HRW.cell 1
                  have q2 := HRW.cell 2
                  have q3 := HRW.cell 3
                  have p0 := HRW.free 0
                  have p1 := HRW.free 1
                  have p2 := HRW.free 2
                  have p3 := HRW.free 3
                  simp only [List.getElem?_toArray, List.getElem?_cons_zero, List.getElem?_cons_succ] at q0 q1 q2 q3
                  clear HRW
                  go_wp2_with fail
                  refine bodyPost_ret (v := .agg #[.string (B ++ s.extract (m + 2) (m + 2 + N)), .int .i64 s.size, .bool false, .int .i64 0]) (by simp [results, Tryd.results11, go_sem, q0, q1, q2, q3]) rfl ⟨by rw [HE.out], ?_⟩
                  exact ((((hb33).setCell (p := ⟨w.heap.size, 0, none⟩) (Nat.le_refl _) _).setCell (p := ⟨w.heap.size, 1, none⟩) (Nat.le_refl _) _).setCell (p := ⟨w.heap.size, 2, none⟩) (Nat.le_refl _) _).setCell (p := ⟨w.heap.size, 3, none⟩) (Nat.le_refl _) _
                · subst hv
                  obtain ⟨t2, ht2⟩ := crlf_two HCB.out.symm
                  have ht2l : y.length = t2.length + 2 := by rw [ht2]; simp
                  have hyl2 := HYL.out
                  have hzz := HZ.out
                  rcases Nat.eq_zero_or_pos N with h0 | hpos
                  · subst h0
                    have hx0 : x = [] := List.eq_nil_of_length_eq_zero HXL.out
                    have hle : ((l.length - t2.length : Nat) : Int) = (m : Int) + 2 + 2 := by omega
                    have hdn := took_done HRB.out ht2
                    have HE : Hid (R = .agg #[.string B, .int .i64 ((m : Int) + 2 + 2), .bool true, .int .i64 0]) := by
                      show _ = _
                      rw [HR.out, hdn]
                      show Value.agg #[.string (bs (b ++ x)), .int .i64 ((l.length - t2.length : Nat) : Int), .bool true, .int .i64 0] = _
                      rw [hle, hx0, List.append_nil, ← HB.out]
                    rw [Nat.add_zero] at HD
                    clear ht2 ht2l hyl2 hzz hx0 hle hdn HRB HTE HX HCAT HXL HDY HYL hxz
                    go_wp2_with fail
                    with_reducible refine (HN.out _).mono ?_
                    rintro e w' ⟨rfl, rfl⟩
                    go_wp2_with fail
                    with_reducible refine (HC.out _).mono ?_
                    rintro e w2 ⟨rfl, hb2⟩
                    go_wp2_with fail
                    with_reducible refine (HD.out _).mono ?_
                    rintro e w3 ⟨rfl, hb3⟩
                    have hb33 := (hbel.trans (hb2.mono hbel.size)).trans (hb3.mono (Nat.le_trans hbel.size hb2.size))
                    have HRW := ((hrow.out.below hb2).below hb3)
                    have q0 := HRW.cell 0
                    have q1 := HRW.cell 1
                    have q2 := HRW.cell 2
                    have q3 := HRW.cell 3
                    have p0 := HRW.free 0
                    have p1 := HRW.free 1
                    have p2 := HRW.free 2
                    have p3 := HRW.free 3
                    simp only [List.getElem?_toArray, List.getElem?_cons_zero, List.getElem?_cons_succ] at q0 q1 q2 q3
                    clear HRW
                    go_wp2_with fail
                    refine bodyPost_ret (v := .agg #[.string B, .int .i64 ((m : Int) + 2 + 2), .bool true, .int .i64 0]) (by simp [results, Tryd.results11, go_sem, q0, q1, q2, q3]) rfl ⟨by rw [HE.out], ?_⟩
                    exact ((((hb33).setCell (p := ⟨w.heap.size, 0, none⟩) (Nat.le_refl _) _).setCell (p := ⟨w.heap.size, 1, none⟩) (Nat.le_refl _) _).setCell (p := ⟨w.heap.size, 2, none⟩) (Nat.le_refl _) _).setCell (p := ⟨w.heap.size, 3, none⟩) (Nat.le_refl _) _
                  · have hdr4 : l.drop k = ds ++ 13 :: 10 :: (x ++ 13 :: 10 :: t2) := by rw [HDR3.out, ht2]
                    have hde4 : DigEnd ds (13 :: 10 :: (x ++ 13 :: 10 :: t2)) := by have := HDE3.out; rw [ht2] at this; exact this
                    have hnx := at_next hat.out hdr4 hde4 HNB.out N HNN.out HXL.out (by omega)
                    have hke : k + ds.length + 2 + N + 2 = m + 2 + N + 2 := by have := HDL.out; omega
                    rw [hke] at hnx
                    have HNX := Lib.hid hnx
                    have hb4 : (b ++ x).length = b.length + N := by rw [List.length_append, HXL.out]
                    have HB4 : Hid (b ++ x = [] ∨ ((b ++ x).length : Int) ≤ most) := by
                      right
                      have h1 := HNB.out
                      have h2 := HBZ.out
                      rw [HNN.out] at h1
                      omega
                    have HB5 := Lib.hid hb4
                    have t5 : ¬ (N : Int) = 0 := by omega
                    have t6 : m + 2 + N + 2 ≤ s.size := by omega
                    clear ht2 ht2l hyl2 hzz hdr4 hde4 hnx hke hb4 HRB HTE HX HDY HYL
                    go_wp2_with fail
                    with_reducible refine (HN.out _).mono ?_
                    rintro e w' ⟨rfl, rfl⟩
                    go_wp2_with fail
                    with_reducible refine (HC.out _).mono ?_
                    rintro e w2 ⟨rfl, hb2⟩
                    go_wp2_with fail
                    with_reducible refine (HD.out _).mono ?_
                    rintro e w3 ⟨rfl, hb3⟩
                    have hb33 := (hbel.trans (hb2.mono hbel.size)).trans (hb3.mono (Nat.le_trans hbel.size hb2.size))
                    have HRW : Hid (Row w3 w.heap.size 30 #[.string ⟨#[]⟩, .int .i64 0, .bool false, .int .i64 0]) := (hrow.out.below hb2).below hb3
                    go_wp2_with fail
                    go_roundg (s.size - (m + 2 + N + 2))
                    case measure => omega
                    case rel => exact ⟨b ++ x, m + 2 + N + 2, by rw [HCAT.out], by go_num, rfl, t6, HNX.out, HB4.out, by have := HB5.out; omega, HRW, hb33⟩
end Go.Proofs.YtchpgdoidpllgaaDoor
