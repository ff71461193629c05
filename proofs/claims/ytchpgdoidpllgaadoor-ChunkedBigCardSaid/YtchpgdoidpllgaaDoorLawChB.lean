/- The walks of the statements ChunkedBack, ChunkedBig. -/
import Derived.Test.YtchpgdoidpllgaaDoorChY
import Derived.Test.YtchpgdoidpllgaaDoorFewO
namespace Go.Proofs.YtchpgdoidpllgaaDoor
open Go.RowKit

theorem fewS_sizeC {xs : List ByteArray} {n m : Nat} {y : ByteArray} (h : y ∈ fewS xs n m) : y.size ≤ m := by
  unfold fewS at h
  obtain ⟨z, _, rfl⟩ := List.mem_map.1 h
  exact cutS_size z m
theorem fewS_lenC (xs : List ByteArray) (n m : Nat) : (fewS xs n m).length ≤ n := by
  unfold fewS
  simp
  omega
theorem encA_bound : ∀ (ys : List ByteArray), (∀ y ∈ ys, y.size ≤ 40) → (encA (bytesOf ys)).length ≤ ys.length * 52
  | [], _ => Nat.le_refl _
  | y :: ys, h => by
    have ih := encA_bound ys (fun z hz => h z (List.mem_cons_of_mem _ hz))
    have hy := h y (List.mem_cons_self ..)
    have e : encA (bytesOf (y :: ys)) = (if y.data.toList = [] then [] else chunkL y.data.toList) ++ encA (bytesOf ys) := by
      unfold encA bytesOf
      simp only [List.map_cons, List.flatten_cons]
    have hl : (if y.data.toList = [] then [] else chunkL y.data.toList : List UInt8).length ≤ 52 := by
      split
      · exact Nat.zero_le _
      · have := (prt16_ok y.data.toList.length (by rw [← Lib.size_eq]; omega)).2.1
        unfold chunkL
        rw [Lib.size_eq] at hy
        simp only [List.length_append, List.length_cons, List.length_nil]
        omega
    rw [e, List.length_append, List.length_cons, Nat.add_mul]
    omega
theorem flat_bound : ∀ (ys : List ByteArray), (∀ y ∈ ys, y.size ≤ 40) → (bytesOf ys).flatten.length ≤ ys.length * 40
  | [], _ => Nat.le_refl _
  | y :: ys, h => by
    have ih := flat_bound ys (fun z hz => h z (List.mem_cons_of_mem _ hz))
    have hy := h y (List.mem_cons_self ..)
    have e : (bytesOf (y :: ys)).flatten = y.data.toList ++ (bytesOf ys).flatten := rfl
    rw [e, List.length_append, List.length_cons, Nat.add_mul, ← Lib.size_eq]
    omega
theorem parts_small {ys : List ByteArray} (h : ∀ y ∈ ys, y.size ≤ 40) : ∀ p ∈ bytesOf ys, p.length < 4294967296 := by
  intro p hp
  unfold bytesOf at hp
  obtain ⟨y, hy, rfl⟩ := List.mem_map.1 hp
  have := h y hy
  rw [← Lib.size_eq]
  omega
theorem chLeft_parts (m : Int) : ∀ (a : List UInt8) (σ : ChS) (b : List UInt8), chLeft m σ (a ++ b) = chLeft m σ a ++ chLeft m (chRun m σ a) b
  | [], σ, b => by rw [chLeft_nil, chRun_nil]; rfl
  | c :: a, σ, b => by
    cases hd : σ.isDone with
    | true =>
      cases σ with
      | done x => rw [chLeft_done, chLeft_done, chRun_done, chLeft_done]
      | _ => cases hd
    | false => rw [List.cons_append, chLeft_cons m σ c (a ++ b) hd, chLeft_cons m σ c a hd, chRun_cons, chLeft_parts m a (σ.step m c) b]
theorem err_before (m : Int) (σ : ChS) (a b x : List UInt8) (h : chRun m σ (a ++ b) = .done x) : (chRun m σ a).errOf = 0 := by
  cases hs : chRun m σ a with
  | err e => rw [chRun_app, hs, chRun_err] at h; cases h
  | _ => rfl
theorem and7 (x : Int) : ∃ k : Nat, k ≤ 7 ∧ bits .and .i64 x 7 = (k : Int) := by
  have h : (BitVec.ofInt 64 x &&& BitVec.ofInt 64 7).toNat ≤ 7 := by
    rw [BitVec.toNat_and]
    exact Nat.le_trans Nat.and_le_right (by decide)
  refine ⟨(BitVec.ofInt 64 x &&& BitVec.ofInt 64 7).toNat, h, ?_⟩
  show IntKind.i64.wrap (((BitVec.ofInt 64 x &&& BitVec.ofInt 64 7).toNat : Nat) : Int) = _
  exact IntWalk.i64_in _ (by omega)
set_option maxRecDepth 100000 in
set_option maxHeartbeats 4000000 in
theorem lawChunkedBig (a : Option Addr) (c : Nat) (xs0 : List ByteArray) (hlen : xs0.length ≤ 9223372036854775807) (n : Int) (w : World) (hw : LaidC w) (hx : IsStrs w a c xs0) :
    Calls Tryd.prog 5 #[.slice a xs0.length c, .int .i64 n] w fun e w' => e = .returned (.bool true) ∧ Below w.heap.size w w' := by
  have HW := Lib.hid hw
  have HWD : Hid (Deb w) := hw.2
  have HWS : Hid (Syn w) := hw.1
  have HX := Lib.hid hx
  clear hw hx
  go_enter Tryd.func5, Tryd.ntmps5
  go_wp2_with fail
  with_reducible refine (chawake6 w HW.out).mono ?_
  rintro e w1 ⟨rfl, hb1⟩
  have W1 := Lib.hid (HW.out.below hb1)
  have X1 := Lib.hid (HX.out.below hb1)
  clear HX
  go_wp2_with fail
  refine (few14n a c xs0 6 40 (by decide) hlen w1 X1.out).mono ?_
  rintro e w2 ⟨a2, c2, rfl, hx2, hac2, hb2⟩
  obtain ⟨ys, hys⟩ : ∃ ys, ys = fewS xs0 6 40 := ⟨_, rfl⟩
  have hyl : ys.length ≤ 6 := by rw [hys]; exact fewS_lenC xs0 6 40
  have hyz : ∀ y ∈ ys, y.size ≤ 40 := by rw [hys]; exact fun y hy => fewS_sizeC hy
  rw [← hys] at hx2 ⊢
  have hea := encA_bound ys hyz
  have hfa := flat_bound ys hyz
  have HPS := Lib.hid (parts_small hyz)
  have W2 := Lib.hid (W1.out.below hb2)
  have X2 := Lib.hid hx2
  have b2 := hb1.trans (hb2.mono hb1.size)
  obtain ⟨k, hk, hand⟩ := and7 n
  clear hx2 hb1 hb2 hys hac2 X1 W1 hyz
  go_wp2_with fail
  go_loopw [5, 19] (fun sv iv wr => w2 = wr ∧ ∃ j : Nat, j ≤ ys.length ∧ iv = .int .i64 (j : Int) ∧ sv = .int .i64 ((bytesOf (ys.take j)).flatten.length : Int)) (fun _ i _ => ys.length - (intOf i).toNat)
  case atStart => exact ⟨rfl, 0, by omega, rfl, rfl⟩
  case round =>
    obtain ⟨rfl, j, hj, rfl, rfl⟩ := hrel
    by_cases hlt : j < ys.length
    · obtain h0 | ⟨bk, o, rfl, hbk, hc, hcell⟩ := X2.out
      · subst h0; simp at hlt
      have cj := hcell j ys[j] (by simp [hlt])
      have hft := congrArg List.length (bytesOf_take hlt)
      have hfl := bytesOf_take_le ys (j + 1)
      rw [List.length_append] at hft
      obtain ⟨p, hp⟩ : ∃ p, p = ys[j] := ⟨_, rfl⟩
      rw [← hp, ← Lib.size_eq] at hft
      rw [← hp] at cj
      have HFT := Lib.hid hft
      rw [hft] at hfl
      clear hcell hp hft
      generalize (bytesOf (ys.take j)).flatten.length = t at *
      have j1 : (j : Int) < ys.length := by omega
      go_wp2_with fail
      go_roundw
      case rel => exact ⟨by trivial, j + 1, hlt, by go_num, by rw [HFT.out]; go_num⟩
      case measure => simp [intOf]; omega
    · have hjl : j = ys.length := by omega
      rw [hjl, List.take_length]
      obtain ⟨t, ht⟩ : ∃ t, t = (bytesOf ys).flatten.length := ⟨_, rfl⟩
      rw [← ht] at hfa ⊢
      have HT := Lib.hid ht
      have j1 : ¬ (j : Int) < ys.length := by omega
      have htz : t ≤ 240 := by omega
      have hm0 : -9223372036854775808 ≤ (t : Int) - 1 - k := by omega
      have hm1 : (t : Int) - 1 - k ≤ 9223372036854775807 := by omega
      have HEB : Hid (chRun ((t : Int) - 1 - k) (.size [] []) (encL (bytesOf ys)) = .err 3) := enc_big _ (bytesOf ys) [] HPS.out (by rw [← HT.out]; simp; omega)
      have HN := Lib.hid (newS ((t : Int) - 1 - k) w2)
      have HM0 := Lib.hid hm0
      have HM1 := Lib.hid hm1
      have HEL : Hid ((encL (bytesOf ys)).length ≤ 400) := by
        show _ ≤ _
        rw [← encL_of, List.length_append]
        have : lastL.length = 5 := rfl
        omega
      clear ht hjl hm0 hm1
      obtain ⟨M, hM⟩ : ∃ M, M = (t : Int) - 1 - k := ⟨_, rfl⟩
      go_wp2_with fail
      with_reducible refine HN.out.mono ?_
      rintro e w3 ⟨rfl, hd3, hb3, hs3⟩
      rw [← hM] at hd3 HM0 HM1 HEB
      clear hM HN
      obtain ⟨g, hg⟩ : ∃ g, g = w2.heap.size := ⟨_, rfl⟩
      rw [← hg] at hd3 ⊢
      have hgw : w.heap.size ≤ g := by rw [hg]; exact b2.size
      have hg3 : g ≤ w3.heap.size := by rw [hg]; exact hb3.size
      have b3 := b2.trans (hb3.mono b2.size)
      have HD3 := Lib.hid (hd3.more (G' := fun j => g ≤ j) (fun j _ h => Nat.le_of_eq h.symm))
      have X3 := Lib.hid (X2.out.below hb3)
      clear hd3 hb3 hs3 hg X2
      go_wp2_with fail
      with_reducible refine (enc15 a2 c2 ys (by omega) (by omega) w3 X3.out (HWD.out.below b3)).mono ?_
      rintro e w4 ⟨rfl, hb4⟩
      have b4 := b3.trans (hb4.mono b3.size)
      have hg4 : g ≤ w4.heap.size := Nat.le_trans hg3 hb4.size
      have hfl : Floor (fun j => g ≤ j) w.heap.size := fun k hk => Nat.le_trans hgw hk
      have HFL := Lib.hid hfl
      have HF := Lib.hid (feed12 (fun j => g ≤ j) g M HM0.out HM1.out (.size [] []) (encL (bytesOf ys)) (by have := HEL.out; simp [ChS.body]; omega) w4 (HD3.out.below hb4) (fun j hj => Nat.le_trans hg4 hj) (fun w' hk => HWS.out.below (b4.trans (hk.bel hfl b4.size))))
      unfold FeedTo at HF
      rw [HEB.out] at HF
      have he3 : (ChS.err 3).errOf = 3 := rfl
      rw [he3] at HF
      generalize bs (chLeft M (.size [] []) (encL (bytesOf ys))) = X at *
      clear hfl he3 HD3 X3 hb4
      go_wp2_with fail
      with_reducible refine HF.out.mono ?_
      rintro e w5 ⟨rfl, hd5, hk5⟩
      have b5 := b4.trans (hk5.bel HFL.out b4.size)
      have hg5 : g ≤ w5.heap.size := Nat.le_trans hg4 hk5.size
      have HF2 := Lib.hid (feed12 (fun j => g ≤ j) g M HM0.out HM1.out (.err 3) [48, 13, 10, 13, 10] (by decide) w5 hd5 (fun j hj => Nat.le_trans hg5 hj) (fun w' hk => HWS.out.below (b5.trans (hk.bel HFL.out b5.size))))
      unfold FeedTo at HF2
      rw [chRun_err, chLeft_err, show (ChS.err 3).errOf = 3 from rfl, show bs [48, 13, 10, 13, 10] = ⟨#[48, 13, 10, 13, 10]⟩ from rfl] at HF2
      clear hd5 hk5 HF
      go_upto_region 14 with fail
      by_cases h0 : t = 0
      · by_cases h7 : k = 7
        · subst h0 h7
          go_wp2_with fail
          go_ret
          exact ⟨rfl, b5⟩
        · have h8 : ¬ (k : Int) = 7 := by omega
          subst h0
          go_wp2_with fail
          with_reducible refine HF2.out.mono ?_
          rintro e w6 ⟨rfl, hd6, hk6⟩
          have b6 := b5.trans (hk6.bel HFL.out b5.size)
          have HDN := Lib.hid (doneS _ _ _ _ w6 hd6)
          have HBN := Lib.hid (bodyS _ _ _ _ w6 hd6)
          rw [show ChS.isDone (.err 3) = false from rfl] at HDN
          rw [show bs (ChS.body (.err 3)) = ⟨#[]⟩ from rfl] at HBN
          clear hd6 hk6 HF2
          go_wp2_with fail
          with_reducible refine HDN.out.mono ?_
          rintro e w' ⟨rfl, rfl⟩
          go_wp2_with fail
          with_reducible refine HBN.out.mono ?_
          rintro e w' ⟨rfl, rfl⟩
          go_wp2_with fail
          go_ret
          exact ⟨rfl, b6⟩
      · have h8 : ¬ (t : Int) = 0 := by omega
        go_wp2_with fail
        with_reducible refine HF2.out.mono ?_
        rintro e w6 ⟨rfl, hd6, hk6⟩
        have b6 := b5.trans (hk6.bel HFL.out b5.size)
        have HDN := Lib.hid (doneS _ _ _ _ w6 hd6)
        have HBN := Lib.hid (bodyS _ _ _ _ w6 hd6)
        rw [show ChS.isDone (.err 3) = false from rfl] at HDN
        rw [show bs (ChS.body (.err 3)) = ⟨#[]⟩ from rfl] at HBN
        clear hd6 hk6 HF2
        go_wp2_with fail
        with_reducible refine HDN.out.mono ?_
        rintro e w' ⟨rfl, rfl⟩
        go_wp2_with fail
        with_reducible refine HBN.out.mono ?_
        rintro e w' ⟨rfl, rfl⟩
        go_wp2_with fail
        go_ret
        exact ⟨rfl, b6⟩
end Go.Proofs.YtchpgdoidpllgaaDoor
