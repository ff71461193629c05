/- Packed: RwB, RwD, PbB, PbC, ReA, ReB, ReC, ReD. -/
import Derived.Deep.Cut
import Derived.Test.YtbbphklhnngjmaaGreatDoorS07
import Derived.Test.YtbbphklhnngjmaaGreatDoorS08
import Derived.Test.YtbbphklhnngjmaaGreatDoorS09
import Derived.Test.YtbbphklhnngjmaaGreatDoorS10
import Derived.Test.YtbbphklhnngjmaaGreatDoorS11
import Derived.Test.YtbbphklhnngjmaaGreatDoorS12
import Derived.Test.YtbbphklhnngjmaaGreatDoorS13
/- rewrite: slices.DeleteFunc of texts; hopNames, Hops. -/
namespace Go.Proofs.YtbbphklhnngjmaaGreatDoor
open Go.RowKit

theorem own_openS {w : World} {base : Nat} {v : Value} {ys : List ByteArray} (h : w.ownsRow base 9 1 v ys.length (ys.map Value.string)) :
    (v = .slice none 0 0 ∧ ys = []) ∨ ∃ g cap, v = .slice (some ⟨g, 0, none⟩) ys.length cap ∧ base ≤ g ∧ ys.length ≤ cap ∧ Open1 w g ys.length ∧ ∀ (k : Nat) x, ys[k]? = some x → StrAt w g k x := by
  obtain ⟨_, ⟨rfl, h0⟩ | ⟨g, cap, cur, rfl, hbg, hg, hcap, _, hcs, htk⟩⟩ := h
  · exact .inl ⟨rfl, List.eq_nil_of_length_eq_zero h0⟩
  · refine .inr ⟨g, cap, rfl, hbg, hcap, ⟨(Array.getElem?_eq_some_iff.1 hg).1, fun k hk => ?_⟩, fun k f hf => ?_⟩
    · have hks : k < cur.size := by omega
      exact ⟨by simp [World.cell?, hg, hks], by simp [World.frozen?, hg]⟩
    · have hj := (List.getElem?_eq_some_iff.1 hf).1
      have g1 : (ys.map Value.string)[k]? = some (.string f) := by rw [List.getElem?_map, hf]; rfl
      rw [← htk, List.getElem?_take, if_pos (by omega)] at g1
      simp only [Array.getElem?_toList] at g1
      unfold StrAt
      simp [World.cell?, hg, g1]
set_option maxRecDepth 1000000 in
set_option maxHeartbeats 4000000 in
theorem delete106_nil (w : World) :
    Calls Tryz.prog 106 #[.slice none 0 0, staysV] w fun e w' => e = .returned (.slice none 0 0) ∧ Below w.heap.size w w' := by
  have HI := Lib.hid (index125 none 0 [] (by simp) w (.inl rfl))
  have e0 : findS [] = -1 := rfl
  rw [e0] at HI
  obtain ⟨V, hV⟩ : ∃ V, V = staysV := ⟨_, rfl⟩
  rw [← hV] at HI ⊢
  clear hV e0
  go_enter Tryz.func106, Tryz.ntmps106
  go_wp2_with fail
  refine HI.out.mono ?_
  rintro e w1 ⟨rfl, hb1⟩
  go_wp2_with fail
  go_ret
  exact ⟨rfl, hb1⟩
set_option maxRecDepth 1000000 in
set_option maxHeartbeats 4000000 in
theorem delete106 (w0 : World) (g cap : Nat) (fs : List ByteArray) (hfl : fs.length ≤ 1000000000) (hg : w0.heap.size ≤ g) (hcap : fs.length ≤ cap)
    (w : World) (hbl : Below w0.heap.size w0 w) (hop : Open1 w g fs.length) (hp : ∀ (k : Nat) f, fs[k]? = some f → StrAt w g k f) :
    Calls Tryz.prog 106 #[.slice (some ⟨g, 0, none⟩) fs.length cap, staysV] w fun e w' =>
      e = .returned (.slice (some ⟨g, 0, none⟩) (goes fs).length cap) ∧ IsStrs w' (some ⟨g, 0, none⟩) cap (goes fs) ∧ Below w0.heap.size w0 w' := by
  have hif : IsStrs w (some ⟨g, 0, none⟩) cap fs := .inr ⟨g, 0, rfl, hop.1, hcap, fun j f hf => by rw [Nat.zero_add]; exact hp j f hf⟩
  have HI := Lib.hid (index125 (some ⟨g, 0, none⟩) cap fs hfl w hif)
  obtain ⟨V, hV⟩ : ∃ V, V = staysV := ⟨_, rfl⟩
  rw [← hV] at HI ⊢
  have HV := Lib.hid hV
  have HOP := Lib.hid hop
  have HP := Lib.hid hp
  clear hV hop hp hif
  rcases findS_cases fs with ⟨hi, hno⟩ | ⟨i, hil, hi, hyes, hno⟩
  · rw [hi] at HI
    have hd := goes_none hno
    have HD := Lib.hid hd
    rw [hd]
    clear hi hno hd
    go_enter Tryz.func106, Tryz.ntmps106
    go_wp2_with fail
    refine HI.out.mono ?_
    rintro e w1 ⟨rfl, hb1⟩
    go_wp2_with fail
    go_ret
    refine ⟨rfl, ?_, hbl.trans (hb1.mono hbl.size)⟩
    have : IsStrs w (some ⟨g, 0, none⟩) cap fs := .inr ⟨g, 0, rfl, HOP.out.1, hcap, fun j f hf => by rw [Nat.zero_add]; exact HP.out j f hf⟩
    exact this.below hb1
  · rw [hi] at HI
    have ht : goes (fs.take (i + 1)) = fs.take i := by rw [goes_drop hil hyes, goes_none hno]
    have hl : i = (goes (fs.take (i + 1))).length := by rw [ht, List.length_take]; omega
    have HT := Lib.hid ht
    have HL := Lib.hid hl
    have i1 : ((i : Int) == -1) = false := beq_eq_false_iff_ne.2 (by omega)
    clear hi hno hyes ht hl
    go_enter Tryz.func106, Tryz.ntmps106
    go_wp2_with fail
    refine HI.out.mono ?_
    rintro e w1 ⟨rfl, hb1⟩
    have b1 := hbl.trans (hb1.mono hbl.size)
    have O1 : Hid (Open1 w1 g fs.length) := HOP.out.below hb1
    have P1 : Hid (∀ (k : Nat) f, fs[k]? = some f → StrAt w1 g k f) := fun k f hf => (HP.out k f hf).below hb1 HOP.out.1
    go_wp2_with fail
    clear i1 hbl hb1
    go_loopw [5, 6] (fun vi vj wr => ∃ i j : Nat, vi = .int .i64 (i : Int) ∧ vj = .int .i64 (j : Int) ∧ i < j ∧ j ≤ fs.length ∧ Hid (i = (goes (fs.take j)).length) ∧ Hid (Open1 wr g fs.length) ∧ Hid (∀ (k : Nat) f, (goes (fs.take j))[k]? = some f → StrAt wr g k f) ∧ Hid (∀ (k : Nat) f, j ≤ k → fs[k]? = some f → StrAt wr g k f) ∧ Below w0.heap.size w0 wr)
      (fun _ vj _ => fs.length - (intOf vj).toNat)
    case atStart =>
      refine ⟨i, i + 1, rfl, by first | rfl | go_num, by omega, by omega, HL, O1, ?_, fun k f _ hf => P1.out k f hf, b1⟩
      show ∀ _ _, _
      rw [HT.out]
      intro k f hf
      rw [List.getElem?_take] at hf
      split at hf
      · exact P1.out k f hf
      · cases hf
    case round =>
      clear O1 P1 b1 HL HT hil HI HOP HP
      obtain ⟨i, j, rfl, rfl, hij, hj, hlen, hO, hK, hS, hb⟩ := hrel
      by_cases hlt : j < fs.length
      · have c1 : StrAt wr g j fs[j] := hS.out j fs[j] (Nat.le_refl _) (by simp [hlt])
        have hgl := hO.out.1
        obtain ⟨q, hq⟩ : ∃ q, q = stayB fs[j] := ⟨_, rfl⟩
        obtain ⟨f, hfe⟩ : ∃ f, f = fs[j] := ⟨_, rfl⟩
        have HKeep : Hid (q = false → goes (fs.take (j + 1)) = goes (fs.take j) ++ [f]) := fun e => by rw [hfe]; exact goes_keep hlt (hq ▸ e)
        have HDrop : Hid (q = true → goes (fs.take (j + 1)) = goes (fs.take j)) := fun e => goes_drop hlt (hq ▸ e)
        rw [← hfe] at c1 hq
        clear hfe
        have HC := Lib.hid (fun W => stays104 f q hq W)
        clear hq
        unfold StrAt at c1
        have j1 : (j : Int) < fs.length := by omega
        rw [HV.out]
        unfold staysV
        go_wp2_with fail
        refine (HC.out _).mono ?_
        rintro e w2 ⟨rfl, hb2⟩
        have b2 := hb.trans (hb2.mono hb.size)
        have O2 : Hid (Open1 w2 g fs.length) := hO.out.below hb2
        have K2 : Hid (∀ (k : Nat) f, (goes (fs.take j))[k]? = some f → StrAt w2 g k f) := fun k f hf => (hK.out k f hf).below hb2 hgl
        have S2 : Hid (∀ (k : Nat) f, j ≤ k → fs[k]? = some f → StrAt w2 g k f) := fun k f hk hf => (hS.out k f hk hf).below hb2 hgl
        clear hb2 hO hK hS c1 HC hb
        cases q
        · have HK3 := Lib.hid (HKeep.out rfl)
          clear HKeep HDrop
          obtain ⟨u0, hu0⟩ := Option.isSome_iff_exists.1 (O2.out.2 i (by omega)).1
          have z0 := (O2.out.2 i (by omega)).2
          have ii : (i : Int) < fs.length := by omega
          have hput := StrAt.put O2.out (show i < fs.length by omega) f
          have O3 : Hid (Open1 (w2.setCell ⟨g, i, none⟩ (.string f)) g fs.length) := O2.out.set _ _
          have hl3 : Hid (i + 1 = (goes (fs.take (j + 1))).length) := by
            show i + 1 = _
            rw [HK3.out, List.length_append, ← hlen.out]; rfl
          have K3 : Hid (∀ (k : Nat) f', (goes (fs.take (j + 1)))[k]? = some f' → StrAt (w2.setCell ⟨g, i, none⟩ (.string f)) g k f') := by
            intro k f' hf
            rw [HK3.out] at hf
            by_cases hk : k < i
            · rw [List.getElem?_append_left (by rw [← hlen.out]; exact hk)] at hf
              exact (K2.out k f' hf).set _ _ (by omega)
            · rw [List.getElem?_append_right (by rw [← hlen.out]; omega), ← hlen.out] at hf
              have hk0 : k - i = 0 := by
                have := (List.getElem?_eq_some_iff.1 hf).1
                simp at this
                omega
              rw [hk0] at hf
              obtain rfl : f = f' := by simpa using hf
              obtain rfl : k = i := by omega
              exact hput
          have S3 : Hid (∀ (k : Nat) f', j + 1 ≤ k → fs[k]? = some f' → StrAt (w2.setCell ⟨g, i, none⟩ (.string f)) g k f') := fun k f' hk hf =>
            (S2.out k f' (by omega) hf).set _ _ (by omega)
          have b3 := b2.setCell (p := ⟨g, i, none⟩) hg (.string f)
          clear hput O2 K2 S2 hlen HK3
          go_wp2_with fail
          go_roundw
          case rel => exact ⟨i + 1, j + 1, by go_num, by go_num, by omega, hlt, hl3, O3, K3, S3, b3⟩
          case measure => simp [intOf]; omega
        · have HD3 := Lib.hid (HDrop.out rfl)
          clear HKeep HDrop
          have hl3 : Hid (i = (goes (fs.take (j + 1))).length) := by show i = _; rw [HD3.out]; exact hlen.out
          have K3 : Hid (∀ (k : Nat) f, (goes (fs.take (j + 1)))[k]? = some f → StrAt w2 g k f) := by
            intro k f hf
            rw [HD3.out] at hf
            exact K2.out k f hf
          have S3 : Hid (∀ (k : Nat) f, j + 1 ≤ k → fs[k]? = some f → StrAt w2 g k f) := fun k f hk hf => S2.out k f (by omega) hf
          clear K2 S2 hlen HD3
          go_wp2_with fail
          go_roundw
          case rel => exact ⟨i, j + 1, rfl, by go_num, by omega, hlt, hl3, O2, K3, S3, b2⟩
          case measure => simp [intOf]; omega
      · obtain rfl : j = fs.length := by omega
        have hK2 := hK.out
        have hl2 := hlen.out
        rw [List.take_of_length_le (Nat.le_refl _)] at hK2 hl2
        have hclr := run_clear1 wr 0 g i (fs.length - i) (cap - i) (by omega) (fun k hk => (hO.out.2 _ (by omega)).1) (fun k hk => (hO.out.2 _ (by omega)).2)
        have HKK := Lib.hid hK2
        have HLL := Lib.hid hl2
        have ii : (i : Int) ≤ fs.length := by omega
        have ic : (i : Int) ≤ cap := by omega
        have i00 : (0 : Int) ≤ i := by omega
        have hcc : (fs.length : Int) ≤ cap := by omega
        have hgl := hO.out.1
        have hbz : Below w0.heap.size w0 (wr.setCells g i (Builtin.zeroCells #[.string ⟨#[]⟩] (fs.length - i)).toList) := below_setCells g hg _ _ _ hb
        clear hK2 hl2 hK hlen hS
        have hsz : g < (wr.setCells g i (Builtin.zeroCells #[.string ⟨#[]⟩] (fs.length - i)).toList).heap.size := Nat.lt_of_lt_of_le (Nat.lt_of_lt_of_le hgl (Nat.le_of_eq (size_setCells g _ _ _).symm)) (Nat.le_refl _)
        go_wp2_with fail
        go_ret
        refine ⟨by rw [← HLL.out]; rfl, ?_, hbz⟩
        have hcl : (goes fs).length ≤ cap := by have := HLL.out; omega
        refine .inr ⟨g, 0, rfl, hsz, hcl, fun k f hf => ?_⟩
        have hki : k < i := by have := (List.getElem?_eq_some_iff.1 hf).1; have := HLL.out; omega
        have p0 := HKK.out k f hf
        rw [Nat.zero_add]
        rw [cell_setCells_before g _ _ _ _ (by omega)]; exact p0
theorem goes_len (xs : List ByteArray) : (goes xs).length ≤ xs.length := List.length_filter_le _ _
theorem hopP_row {w : World} {B : Nat} {v : Value} {ts : List ByteArray} {n : Nat} (hn : n = (goes ts).length) (h : w.ownsRow B 9 1 v (9 + n) (nineP.map Value.string ++ (goes ts).map Value.string)) : ∃ b d, v = .slice b (hopP ts).length d ∧ IsStrs w b d (hopP ts) := by
  have e : 9 + n = (hopP ts).length := by unfold hopP; rw [List.length_append, hn]; rfl
  have e2 : nineP.map Value.string ++ (goes ts).map Value.string = (hopP ts).map Value.string := by unfold hopP; rw [List.map_append]
  rw [e, e2] at h
  obtain ⟨b, d, h1, h2, _⟩ := own_isStrsB h
  exact ⟨b, d, h1, h2⟩
set_option maxRecDepth 1000000 in
set_option maxHeartbeats 4000000 in
theorem hopNames79 (a : Option Addr) (c : Nat) (fs : List Fld) (hfl : fs.length ≤ 1000000) (hok : ∀ f ∈ fs, FldOk f) (hsum : sumS (allB connB fs) ≤ 1000000000) (w : World) (hM : MaxL w) (hf : IsFlds w a c fs) :
    Calls Tryz.prog 79 #[.slice a fs.length c] w fun e w' => ∃ b d, e = .returned (.slice b (hopP (bsOf (tokF connB fs))).length d) ∧ IsStrs w' b d (hopP (bsOf (tokF connB fs))) ∧ Below w.heap.size w w' := by
  obtain ⟨i0, hi, hz0, hz1, hz2⟩ := info_parts info9
  have HT := Lib.hid (fun W hM h => tokens52 a c fs connB hfl hok hsum W hM h)
  rw [show connB = ⟨#[67, 111, 110, 110, 101, 99, 116, 105, 111, 110]⟩ from rfl] at HT
  have htl := tokF_len connB fs
  have L0 := Lib.hid (below_alloc w (.cells #[.string ⟨#[67, 111, 110, 110, 101, 99, 116, 105, 111, 110]⟩, .string ⟨#[75, 101, 101, 112, 45, 65, 108, 105, 118, 101]⟩, .string ⟨#[80, 114, 111, 120, 121, 45, 67, 111, 110, 110, 101, 99, 116, 105, 111, 110]⟩, .string ⟨#[80, 114, 111, 120, 121, 45, 65, 117, 116, 104, 101, 110, 116, 105, 99, 97, 116, 101]⟩, .string ⟨#[80, 114, 111, 120, 121, 45, 65, 117, 116, 104, 111, 114, 105, 122, 97, 116, 105, 111, 110]⟩, .string ⟨#[84, 69]⟩, .string ⟨#[84, 114, 97, 105, 108, 101, 114]⟩, .string ⟨#[84, 114, 97, 110, 115, 102, 101, 114, 45, 69, 110, 99, 111, 100, 105, 110, 103]⟩, .string ⟨#[85, 112, 103, 114, 97, 100, 101]⟩] 9))
  have O0 : Hid ((w.alloc (.cells #[.string ⟨#[67, 111, 110, 110, 101, 99, 116, 105, 111, 110]⟩, .string ⟨#[75, 101, 101, 112, 45, 65, 108, 105, 118, 101]⟩, .string ⟨#[80, 114, 111, 120, 121, 45, 67, 111, 110, 110, 101, 99, 116, 105, 111, 110]⟩, .string ⟨#[80, 114, 111, 120, 121, 45, 65, 117, 116, 104, 101, 110, 116, 105, 99, 97, 116, 101]⟩, .string ⟨#[80, 114, 111, 120, 121, 45, 65, 117, 116, 104, 111, 114, 105, 122, 97, 116, 105, 111, 110]⟩, .string ⟨#[84, 69]⟩, .string ⟨#[84, 114, 97, 105, 108, 101, 114]⟩, .string ⟨#[84, 114, 97, 110, 115, 102, 101, 114, 45, 69, 110, 99, 111, 100, 105, 110, 103]⟩, .string ⟨#[85, 112, 103, 114, 97, 100, 101]⟩] 9)).ownsRow w.heap.size 9 1 (.slice (some ⟨w.heap.size, 0, none⟩) 9 9) 9 (nineP.map Value.string)) := World.ownsRow_lit w #[.string ⟨#[67, 111, 110, 110, 101, 99, 116, 105, 111, 110]⟩, .string ⟨#[75, 101, 101, 112, 45, 65, 108, 105, 118, 101]⟩, .string ⟨#[80, 114, 111, 120, 121, 45, 67, 111, 110, 110, 101, 99, 116, 105, 111, 110]⟩, .string ⟨#[80, 114, 111, 120, 121, 45, 65, 117, 116, 104, 101, 110, 116, 105, 99, 97, 116, 101]⟩, .string ⟨#[80, 114, 111, 120, 121, 45, 65, 117, 116, 104, 111, 114, 105, 122, 97, 116, 105, 111, 110]⟩, .string ⟨#[84, 69]⟩, .string ⟨#[84, 114, 97, 105, 108, 101, 114]⟩, .string ⟨#[84, 114, 97, 110, 115, 102, 101, 114, 45, 69, 110, 99, 111, 100, 105, 110, 103]⟩, .string ⟨#[85, 112, 103, 114, 97, 100, 101]⟩] 9 (Nat.le_refl _) (by decide) (by simp)
  have F0 := Lib.hid (hf.below L0.out)
  have M0 := Lib.hid (hM.below L0.out)
  have hs0 : (w.alloc (.cells #[.string ⟨#[67, 111, 110, 110, 101, 99, 116, 105, 111, 110]⟩, .string ⟨#[75, 101, 101, 112, 45, 65, 108, 105, 118, 101]⟩, .string ⟨#[80, 114, 111, 120, 121, 45, 67, 111, 110, 110, 101, 99, 116, 105, 111, 110]⟩, .string ⟨#[80, 114, 111, 120, 121, 45, 65, 117, 116, 104, 101, 110, 116, 105, 99, 97, 116, 101]⟩, .string ⟨#[80, 114, 111, 120, 121, 45, 65, 117, 116, 104, 111, 114, 105, 122, 97, 116, 105, 111, 110]⟩, .string ⟨#[84, 69]⟩, .string ⟨#[84, 114, 97, 105, 108, 101, 114]⟩, .string ⟨#[84, 114, 97, 110, 115, 102, 101, 114, 45, 69, 110, 99, 111, 100, 105, 110, 103]⟩, .string ⟨#[85, 112, 103, 114, 97, 100, 101]⟩] 9)).heap.size = w.heap.size + 1 := World.size_alloc _ _
  rw [show ⟨#[67, 111, 110, 110, 101, 99, 116, 105, 111, 110]⟩ = connB from rfl] at HT
  obtain ⟨TS, hTS⟩ : ∃ TS, TS = tokF connB fs := ⟨_, rfl⟩
  rw [← hTS] at htl ⊢
  have HTL : Hid ((bsOf TS).length ≤ 1000000000) := by show _ ≤ _; omega
  have HT2 : Hid (∀ W, MaxL W → IsFlds W a c fs → Calls Tryz.prog 100 #[.slice a fs.length c, .string ⟨#[67, 111, 110, 110, 101, 99, 116, 105, 111, 110]⟩] W fun e w' => ∃ u, e = .returned u ∧ w'.ownsRow W.heap.size 9 1 u TS.length (valsOf TS) ∧ Below W.heap.size W w') := by
    show ∀ W, _
    rw [hTS]
    exact HT.out
  clear hTS HT hM hf hok hsum htl
  go_enter Tryz.func79, Tryz.ntmps79
  go_wp2_with fail
  generalize World.alloc w _ = w0 at *
  refine (HT2.out w0 M0.out F0.out).mono ?_
  rintro e w1 ⟨u, rfl, ho, hb1⟩
  have hu : w1.ownsRow w0.heap.size 9 1 u (bsOf TS).length ((bsOf TS).map Value.string) := by rw [← valsOf_bs, bsOf_length]; exact ho
  have L1 := Lib.hid (L0.out.trans (hb1.mono L0.out.size))
  have O1 := Lib.hid (own_below O0.out hb1)
  have hb1' := Lib.hid hb1
  have hg1 := hb1.size
  clear ho hb1 F0 M0 HT2
  rcases own_openS hu with ⟨rfl, hnil⟩ | ⟨g, cap, rfl, hg, hcap, hop, hpa⟩
  · have HD := Lib.hid (delete106_nil w1)
    unfold staysV at HD
    clear hu
    go_wp2_with fail
    refine HD.out.mono ?_
    rintro e w2 ⟨rfl, hb2⟩
    have L2 := Lib.hid (L1.out.trans (hb2.mono L1.out.size))
    have O2 := Lib.hid (own_below O1.out hb2)
    clear hb2 L1 O1 HD
    go_wp2_with (at_builtin; refine wpList_append_own_none rfl _ _ 88 rfl w.heap.size 9 i0 1 Tryz.underlying88 hi _ _ _ rfl O2.out rfl ?_)
    go_ret
    rw [hnil]
    have hr : w2.ownsRow w.heap.size 9 1 (.slice (some ⟨w.heap.size, 0, none⟩) 9 9) (9 + 0) (nineP.map Value.string ++ (goes []).map Value.string) := O2.out
    obtain ⟨b, d, h1, h2⟩ := hopP_row (ts := []) rfl hr
    exact ⟨b, d, by rw [h1]; rfl, h2, L2.out⟩
  · have HD := Lib.hid (delete106 w0 g cap (bsOf TS) HTL.out hg hcap w1 hb1'.out hop hpa)
    unfold staysV at HD
    have HGL := Lib.hid (goes_len (bsOf TS))
    have hT1 := HTL.out
    obtain ⟨n, hn⟩ : ∃ n, n = (goes (bsOf TS)).length := ⟨_, rfl⟩
    have HN := Lib.hid hn
    have hn1 : n ≤ 1000000000 := by have := HGL.out; omega
    rw [← hn] at HD
    clear hu hop hpa hn HGL hT1 hcap
    go_wp2_with fail
    refine HD.out.mono ?_
    rintro e w2 ⟨rfl, hs2, hb2⟩
    have L2 := Lib.hid (L0.out.trans (hb2.mono L0.out.size))
    have O2 := Lib.hid (own_below O0.out hb2)
    have HC : Hid (∀ (k : Nat) u, ((goes (bsOf TS)).map Value.string)[k]? = some u → w2.cell? ((⟨g, 0, none⟩ : Addr).add k) = some u) := by
      intro k u hu
      rw [Addr.add_mid]
      rw [List.getElem?_map] at hu
      obtain ⟨x, hx, rfl⟩ := Option.map_eq_some_iff.1 hu
      obtain h0 | ⟨bk, o, h2, hbk, hc, hcell⟩ := hs2
      · rw [h0] at hx; simp at hx
      · cases h2
        exact hcell k x hx
    have HL : Hid (((goes (bsOf TS)).map Value.string).length = n * 1) := by show _ = _; rw [List.length_map, ← HN.out, Nat.mul_one]
    have H1 : Hid (∀ u ∈ (goes (bsOf TS)).map Value.string, u.oneCell' = true) := by
      intro u hu
      obtain ⟨x, _, rfl⟩ := List.mem_map.1 hu
      rfl
    have hs22 := L2.out.size
    clear hb2 L1 O1 HD L0 O0 hs2 HTL
    go_wp2_with (at_builtin; refine wpList_append_own _ rfl _ _ 88 rfl w.heap.size 9 i0 (.string ⟨#[]⟩) 1 16 Tryz.underlying88 hi hz0 hz1 hz2 rfl (by decide) _ _ _ rfl O2.out ⟨g, 0, none⟩ n cap ((goes (bsOf TS)).map Value.string) rfl HL.out HC.out H1.out (by unfold maxLen; omega) (by omega) hs22 ?_)
    intro v' w3 hown' hgrow _
    have L3 := Lib.hid (L2.out.grown hgrow hs22 (fun k hk => (O2.out.lt k hk).1))
    obtain ⟨b, d, h1, h2⟩ := hopP_row HN.out hown'
    clear hown' hgrow O2 HC HL H1
    go_wp2_with fail
    go_ret
    exact ⟨b, d, by rw [h1]; rfl, h2, L3.out⟩
set_option maxRecDepth 1000000 in
set_option maxHeartbeats 4000000 in
/-- Hops. -/
theorem hops41 (a : Option Addr) (c : Nat) (fs : List Fld) (hfl : fs.length ≤ 1000000) (ha : a = none → c = 0 ∧ fs = []) (hok : ∀ f ∈ fs, FldOk f) (hsum : sumS (allB connB fs) ≤ 900000000) (gs : List Fld) (hgs : gs = hopsR (bsOf (tokF connB fs)) fs) (w : World) (hM : MaxL w) (hf : IsFlds w a c fs) :
    Calls Tryz.prog 41 #[.slice a fs.length c] w fun e w' => ∃ b d, e = .returned (.slice b gs.length d) ∧ (b = none → d = 0 ∧ gs = []) ∧ IsFlds w' b d gs ∧ Below w.heap.size w w' := by
  have HH := Lib.hid (hopNames79 a c fs hfl hok (by omega) w hM hf)
  have HPL : (hopP (bsOf (tokF connB fs))).length ≤ 1000000000 := by
    have h1 := tokF_len connB fs
    have h2 := goes_len (bsOf (tokF connB fs))
    unfold hopP
    rw [List.length_append]
    have : nineP.length = 9 := rfl
    omega
  obtain ⟨HP, hHP⟩ : ∃ HP, HP = hopP (bsOf (tokF connB fs)) := ⟨_, rfl⟩
  have hgs2 : gs = dropL HP fs := by rw [hgs, hHP, hops_eq]
  rw [← hHP] at HH HPL
  rw [hgs2]
  have HD := Lib.hid (fun b d W hx h => drop55 a c fs b d HP (by omega) HPL ha hok W h hx)
  have HF := Lib.hid hf
  clear hHP hgs2 hgs hf hM hok hsum ha HPL
  go_enter Tryz.func41, Tryz.ntmps41
  go_wp2_with fail
  refine HH.out.mono ?_
  rintro e w1 ⟨b1, d1, rfl, hs1, hb1⟩
  have HD1 := Lib.hid (HD.out b1 d1 w1 hs1 (HF.out.below hb1))
  clear HD HH hs1
  go_wp2_with fail
  refine HD1.out.mono ?_
  rintro e w2 ⟨a2, c2, rfl, h0, hf2, hb2⟩
  have H0 := Lib.hid h0
  have F2 := Lib.hid hf2
  have B2 := Lib.hid (hb1.trans (hb2.mono hb1.size))
  clear h0 hf2 hb1 hb2 HD1
  go_wp2_with fail
  go_ret
  exact ⟨a2, c2, rfl, H0.out, F2.out, B2.out⟩
end Go.Proofs.YtbbphklhnngjmaaGreatDoor

/- rewrite: response.Own at 503, closing, rewrite.Own, the fixed facts. -/
namespace Go.Proofs.YtbbphklhnngjmaaGreatDoor
open Go.RowKit

theorem isFlds_keepR {G : Nat → Prop} {w w' : World} {a : Option Addr} {c : Nat} {fs : List Fld} (h : IsFlds w a c fs) (hk : Keep G w w') (hg : ∀ ad, a = some ad → ¬ G ad.block) : IsFlds w' a c fs := by
  rcases h with h | ⟨bk, o, rfl, hbk, hc, hcell⟩
  · exact .inl h
  · have hn : ¬ G bk := hg ⟨bk, o, none⟩ rfl
    refine .inr ⟨bk, o, rfl, Nat.lt_of_lt_of_le hbk hk.size, hc, fun j f hj => ?_⟩
    have := hcell j f hj
    unfold World.cell? at this ⊢
    rw [hk.block bk hbk hn]
    exact this
theorem isFlds_new2R (w : World) (a b c d : List UInt8) (T : TypeId) : IsFlds (w.alloc (.cells #[.string (bs a), .string (bs b), .string (bs c), .string (bs d)] T)) (some ⟨w.heap.size, 0, none⟩) 2 [(a, b), (c, d)] := by
  refine .inr ⟨w.heap.size, 0, rfl, by simp, by simp, fun j g hf => ?_⟩
  match j, hf with
  | 0, hf => obtain rfl := Option.some.inj hf; simp
  | 1, hf => obtain rfl := Option.some.inj hf; simp
  | j + 2, hf => simp at hf
theorem isFlds_new3R (w : World) (a b c d e f : List UInt8) (T : TypeId) : IsFlds (w.alloc (.cells #[.string (bs a), .string (bs b), .string (bs c), .string (bs d), .string (bs e), .string (bs f)] T)) (some ⟨w.heap.size, 0, none⟩) 3 [(a, b), (c, d), (e, f)] := by
  refine .inr ⟨w.heap.size, 0, rfl, by simp, by simp, fun j g hf => ?_⟩
  match j, hf with
  | 0, hf => obtain rfl := Option.some.inj hf; simp
  | 1, hf => obtain rfl := Option.some.inj hf; simp
  | 2, hf => obtain rfl := Option.some.inj hf; simp
  | j + 3, hf => simp at hf
/-- What rewrite's fixed facts ask of the world. -/
def LaidR (w : World) : Prop := MaxL w ∧ Pow w ∧ Reas w
theorem LaidR.below {w w' : World} (h : LaidR w) (hb : Below w.heap.size w w') : LaidR w' := ⟨h.1.below hb, h.2.1.below hb, h.2.2.below hb⟩
theorem own_isFldsB {w : World} {base : Nat} {T : TypeId} {v : Value} {fs : List Fld} (h : w.ownsRow base T 2 v fs.length (cellsF fs)) : ∃ a c, v = .slice a fs.length c ∧ c ≤ 9223372036854775807 ∧ (a = none → c = 0 ∧ fs = []) ∧ IsFlds w a c fs ∧ ∀ ad, a = some ad → base ≤ ad.block := by
  have ho2 := h
  obtain ⟨b, d, rfl, h1, h2⟩ := own_isFldsT h
  obtain ⟨_, ⟨h3, _⟩ | ⟨g, cap, cur, h3, hg, _, _, hcm, _⟩⟩ := ho2
  · injection h3 with e1 e2 e3
    subst e1 e3
    exact ⟨none, 0, rfl, by omega, h1, h2, fun ad e => by cases e⟩
  · injection h3 with e1 e2 e3
    subst e1 e3
    exact ⟨_, _, rfl, by unfold maxLen at hcm; omega, h1, h2, fun ad e => by obtain rfl := Option.some.inj e; exact hg⟩
theorem LaidR.m {w : World} (h : LaidR w) : MaxL w := by unfold LaidR at h; exact h.1
theorem LaidR.p {w : World} (h : LaidR w) : Pow w := by unfold LaidR at h; exact h.2.1
theorem LaidR.r {w : World} (h : LaidR w) : Reas w := by unfold LaidR at h; exact h.2.2
def rea503 : List UInt8 := [83, 101, 114, 118, 105, 99, 101, 32, 85, 110, 97, 118, 97, 105, 108, 97, 98, 108, 101]
def bod503 : List UInt8 := [53, 48, 51, 32, 83, 101, 114, 118, 105, 99, 101, 32, 85, 110, 97, 118, 97, 105, 108, 97, 98, 108, 101, 10]
def ctF : Fld := ([67, 111, 110, 116, 101, 110, 116, 45, 84, 121, 112, 101], [116, 101, 120, 116, 47, 112, 108, 97, 105, 110])
def clF : Fld := ([67, 111, 110, 116, 101, 110, 116, 45, 76, 101, 110, 103, 116, 104], [50, 52])
def ccF : Fld := ([67, 111, 110, 110, 101, 99, 116, 105, 111, 110], [99, 108, 111, 115, 101])
theorem reason_503R : reasonL 503 = rea503 := by rfl
theorem prt_503 : prtI 10 503 = [53, 48, 51] := by decide +kernel
theorem prt_24 : prtI 10 24 = [50, 52] := by decide +kernel
theorem own_five {w : World} (g : Nat) (B0 : Nat) {base : World} (hb : Below B0 base w) (hg : B0 ≤ g) (v0 v1 v2 v3 v4 : Value) :
    Below B0 base (((((w.setCell ⟨g, 0, none⟩ v0).setCell ⟨g, 1, none⟩ v1).setCell ⟨g, 2, none⟩ v2).setCell ⟨g, 3, none⟩ v3).setCell ⟨g, 4, none⟩ v4)
    ∧ Keep (fun j => j = g) w (((((w.setCell ⟨g, 0, none⟩ v0).setCell ⟨g, 1, none⟩ v1).setCell ⟨g, 2, none⟩ v2).setCell ⟨g, 3, none⟩ v3).setCell ⟨g, 4, none⟩ v4) := by
  have KB : ∀ (v : World) (i : Nat) (u : Value), Keep (fun j => j = g) v (v.setCell ⟨g, i, none⟩ u) := fun v i u => Keep.setCell (G := fun j => j = g) v (p := ⟨g, i, none⟩) rfl u
  exact ⟨((((hb.setCell (p := ⟨g, 0, none⟩) hg _).setCell (p := ⟨g, 1, none⟩) hg _).setCell (p := ⟨g, 2, none⟩) hg _).setCell (p := ⟨g, 3, none⟩) hg _).setCell (p := ⟨g, 4, none⟩) hg _,
    ((((KB w 0 v0).trans (KB _ 1 v1)).trans (KB _ 2 v2)).trans (KB _ 3 v3)).trans (KB _ 4 v4)⟩
set_option maxRecDepth 100000 in
set_option maxHeartbeats 4000000 in
theorem rown35 (w : World) (hP : Pow w) (hR : Reas w) :
    Calls Tryz.prog 35 #[.int .i64 503] w fun e w' => ∃ g, e = .returned (.agg #[.int .i64 503, .string (bs rea503), .slice (some ⟨g, 0, none⟩) 2 2, .string (bs bod503), .int .i64 1]) ∧ w.heap.size ≤ g ∧ IsFlds w' (some ⟨g, 0, none⟩) 2 [ctF, clF] ∧ Below w.heap.size w w' := by
  have HRE : Hid (∀ W, Reas W → Calls Tryz.prog 72 #[.int .i64 503] W fun e w' => e = .returned (.string (bs rea503)) ∧ Below W.heap.size W w') := fun W h => by
    have := reason22 503 W h
    rwa [reason_503R] at this
  have HD1 : Hid (∀ W, Pow W → Calls Tryz.prog 73 #[.int .i64 503] W fun e w' => e = .returned (.string (bs [53, 48, 51])) ∧ Below W.heap.size W w') := fun W h => by
    have := digits28 503 (by decide) W h
    rw [prt_503] at this
    exact this
  have HD2 : Hid (∀ W, Pow W → Calls Tryz.prog 73 #[.int .i64 24] W fun e w' => e = .returned (.string (bs [50, 52])) ∧ Below W.heap.size W w') := fun W h => by
    have := digits28 24 (by decide) W h
    rw [prt_24] at this
    exact this
  have A1 := fun V => add_str [53, 48, 51] [32] (by decide) V
  have A2 := fun V => add_str [53, 48, 51, 32] rea503 (by decide) V
  have A3 := fun V => add_str ([53, 48, 51, 32] ++ rea503) [10] (by decide) V
  have e32 : bs [32] = ⟨#[32]⟩ := rfl
  have e10 : bs [10] = ⟨#[10]⟩ := rfl
  rw [e32, show ([53, 48, 51] : List UInt8) ++ [32] = [53, 48, 51, 32] from rfl] at A1
  rw [e10, show ([53, 48, 51, 32] : List UInt8) ++ rea503 ++ [10] = bod503 from rfl] at A3
  have hz : (bs bod503).size = 24 := rfl
  have F2 : ∀ W, IsFlds (World.alloc W (.cells #[.string (bs [67, 111, 110, 116, 101, 110, 116, 45, 84, 121, 112, 101]), .string (bs [116, 101, 120, 116, 47, 112, 108, 97, 105, 110]), .string (bs [67, 111, 110, 116, 101, 110, 116, 45, 76, 101, 110, 103, 116, 104]), .string (bs [50, 52])] 62)) (some ⟨W.heap.size, 0, none⟩) 2 [ctF, clF] := fun W => isFlds_new2R W _ _ _ _ _
  have e1 : bs [67, 111, 110, 116, 101, 110, 116, 45, 84, 121, 112, 101] = ⟨#[67, 111, 110, 116, 101, 110, 116, 45, 84, 121, 112, 101]⟩ := rfl
  have e2 : bs [116, 101, 120, 116, 47, 112, 108, 97, 105, 110] = ⟨#[116, 101, 120, 116, 47, 112, 108, 97, 105, 110]⟩ := rfl
  have e3 : bs [67, 111, 110, 116, 101, 110, 116, 45, 76, 101, 110, 103, 116, 104] = ⟨#[67, 111, 110, 116, 101, 110, 116, 45, 76, 101, 110, 103, 116, 104]⟩ := rfl
  rw [e1, e2, e3] at F2
  have FF := Lib.hid F2
  generalize hx5 : bs bod503 = X5 at *
  generalize hx4 : bs ([53, 48, 51, 32] ++ rea503) = X4 at *
  generalize hx3 : bs [53, 48, 51, 32] = X3 at *
  generalize hx2 : bs [53, 48, 51] = X2 at *
  generalize hx1 : bs rea503 = X1 at *
  generalize hx0 : bs [50, 52] = X0 at *
  have R0 := Row.new w 33 #[.int .i64 0, .string ⟨#[]⟩, .slice none 0 0, .string ⟨#[]⟩, .int .i64 0]
  have L0 := below_alloc w (.cells #[.int .i64 0, .string ⟨#[]⟩, .slice none 0 0, .string ⟨#[]⟩, .int .i64 0] 33)
  clear hx5 hx4 hx3 hx2 hx1 hx0 e32 e10 e1 e2 e3 F2
  have HP := Lib.hid (hP.below L0)
  have HR := Lib.hid (hR.below L0)
  clear hP hR
  go_enter Tryz.func35, Tryz.ntmps35
  go_wp2_with fail
  obtain ⟨b0, hb0⟩ : ∃ b0, b0 = w.heap.size := ⟨_, rfl⟩
  have hle : w.heap.size ≤ b0 := Nat.le_of_eq hb0.symm
  have HLE := Lib.hid hle
  rw [← hb0] at R0 ⊢
  generalize World.alloc w _ = w0 at *
  have RR0 := Lib.hid R0
  have LL0 := Lib.hid L0
  clear R0 L0 hb0 hle
  with_reducible refine (HRE.out w0 HR.out).mono ?_
  rintro e w1 ⟨rfl, hb1⟩
  have P1 := Lib.hid (HP.out.below hb1)
  have RR1 := Lib.hid (RR0.out.below hb1)
  have LL1 := Lib.hid (LL0.out.trans (hb1.mono LL0.out.size))
  clear hb1 HP HR RR0 LL0
  go_wp2_with fail
  with_reducible refine (HD1.out w1 P1.out).mono ?_
  rintro e w2 ⟨rfl, hb2⟩
  have P2 := Lib.hid (P1.out.below hb2)
  have RR2 := Lib.hid (RR1.out.below hb2)
  have LL2 := Lib.hid (LL1.out.trans (hb2.mono LL1.out.size))
  clear hb2 P1 RR1 LL1
  go_wp2_with fail
  with_reducible refine (HD2.out w2 P2.out).mono ?_
  rintro e w3 ⟨rfl, hb3⟩
  have RR3 := Lib.hid (RR2.out.below hb3)
  have LL3 := Lib.hid (LL2.out.trans (hb3.mono LL2.out.size))
  clear hb3 P2 RR2 LL2
  have LA := below_alloc w3 (.cells #[.string ⟨#[67, 111, 110, 116, 101, 110, 116, 45, 84, 121, 112, 101]⟩, .string ⟨#[116, 101, 120, 116, 47, 112, 108, 97, 105, 110]⟩, .string ⟨#[67, 111, 110, 116, 101, 110, 116, 45, 76, 101, 110, 103, 116, 104]⟩, .string X0] 62)
  have RA := RR3.out.below LA
  have LL4 := Lib.hid (LL3.out.trans (LA.mono LL3.out.size))
  have F4 := Lib.hid (FF.out w3)
  have hne : b0 ≠ w3.heap.size := Nat.ne_of_lt RR3.out.lt
  have HNE := Lib.hid hne
  have z0 := RA.free 0
  have z1 := RA.free 1
  have z2 := RA.free 2
  have z3 := RA.free 3
  have z4 := RA.free 4
  have p0 := RA.cell 0
  have p1 := RA.cell 1
  have p2 := RA.cell 2
  have p3 := RA.cell 3
  have p4 := RA.cell 4
  simp only [List.getElem?_toArray, List.getElem?_cons_zero, List.getElem?_cons_succ] at p0 p1 p2 p3 p4
  clear LA RA hne FF
  go_wp2_with fail
  refine bodyPost_ret (v := .agg #[.int .i64 503, .string X1, .slice (some ⟨w3.heap.size, 0, none⟩) 2 2, .string X5, .int .i64 1]) (by simp [results, Tryz.results35, go_sem, p0, p1, p2, p3, p4]) rfl ⟨_, rfl, LL3.out.size, ?_⟩
  have h5 := own_five b0 _ LL4.out HLE.out (.int .i64 503) (.string X1) (.slice (some ⟨w3.heap.size, 0, none⟩) 2 2) (.string X5) (.int .i64 1)
  exact ⟨isFlds_keepR F4.out h5.2 (fun ad had => by obtain rfl := Option.some.inj had; exact fun e => HNE.out e.symm), h5.1⟩
/-- The fields with Connection: close added. -/
def closeF (q : Bool) (fs : List Fld) : List Fld := if q = true then fs ++ [ccF] else fs
set_option maxRecDepth 100000 in
set_option maxHeartbeats 4000000 in
theorem closing65 (c k : Int) (r bb : ByteArray) (a : Option Addr) (d : Nat) (fs : List Fld) (q : Bool) (hfl : fs.length ≤ 1000000) (ha : a = none → d = 0 ∧ fs = []) (w : World) (hf : IsFlds w a d fs) :
    Calls Tryz.prog 65 #[.agg #[.int .i64 c, .string r, .slice a fs.length d, .string bb, .int .i64 k], .bool q] w fun e w' => ∃ b d', e = .returned (.agg #[.int .i64 c, .string r, .slice b (closeF q fs).length d', .string bb, .int .i64 k]) ∧ (b = none → d' = 0 ∧ closeF q fs = []) ∧ IsFlds w' b d' (closeF q fs) ∧ Below w.heap.size w w' := by
  have HA : Hid (∀ W, IsFlds W a d fs → Calls Tryz.prog 46 #[.slice a fs.length d, .string ⟨#[67, 111, 110, 110, 101, 99, 116, 105, 111, 110]⟩, .string ⟨#[99, 108, 111, 115, 101]⟩] W fun e w' => ∃ u, e = .returned u ∧ w'.ownsRow W.heap.size 62 2 u (fs ++ [ccF]).length (cellsF (fs ++ [ccF])) ∧ Below W.heap.size W w') := fun W h => add48 a d fs [67, 111, 110, 110, 101, 99, 116, 105, 111, 110] [99, 108, 111, 115, 101] (by omega) ha W h
  have HN := Lib.hid ha
  have HF0 := Lib.hid hf
  obtain ⟨n, hn⟩ : ∃ n, n = fs.length := ⟨_, rfl⟩
  rw [← hn] at HA ⊢
  have HNN := Lib.hid hn
  have R0 := Row.new w 33 #[.int .i64 c, .string r, .slice a n d, .string bb, .int .i64 k]
  have L0 := (below_alloc w (.cells #[.int .i64 c, .string r, .slice a n d, .string bb, .int .i64 k] 33))
  have R1 := Row.new (w.alloc (.cells #[.int .i64 c, .string r, .slice a n d, .string bb, .int .i64 k] 33)) 33 #[.int .i64 0, .string ⟨#[]⟩, .slice none 0 0, .string ⟨#[]⟩, .int .i64 0]
  have L1 := L0.alloc (by simp) (.cells #[.int .i64 0, .string ⟨#[]⟩, .slice none 0 0, .string ⟨#[]⟩, .int .i64 0] 33)
  have R0' := R0.alloc (.cells #[.int .i64 0, .string ⟨#[]⟩, .slice none 0 0, .string ⟨#[]⟩, .int .i64 0] 33)
  rw [show (w.alloc (.cells #[.int .i64 c, .string r, .slice a n d, .string bb, .int .i64 k] 33)).heap.size = w.heap.size + 1 by simp] at R1
  have HF := Lib.hid (hf.below L1)
  clear hf hn ha R0 L0
  go_enter Tryz.func65, Tryz.ntmps65
  go_upto_region 1 with fail
  obtain ⟨b0, hb0⟩ : ∃ b0, b0 = w.heap.size := ⟨_, rfl⟩
  obtain ⟨b1, hb1⟩ : ∃ b1, b1 = w.heap.size + 1 := ⟨_, rfl⟩
  have hle : w.heap.size ≤ b1 := by omega
  have hle0 : w.heap.size ≤ b0 := by omega
  have hne : b0 ≠ b1 := by omega
  rw [← hb0] at R0'
  rw [← hb1] at R1 ⊢
  rw [← hb0]
  generalize World.alloc (World.alloc w _) _ = w1 at *
  have LL := Lib.hid L1
  have HLE := Lib.hid hle
  have HLE0 := Lib.hid hle0
  have HNE := Lib.hid hne
  have HB0 : Hid (b0 < w1.heap.size) := R0'.lt
  have HB1 : Hid (b1 < w1.heap.size) := R1.lt
  have RR0 := Lib.hid R0'
  have RR1 := Lib.hid R1
  clear R1 R0' L1 hb0 hb1 hle hle0 hne
  cases q
  · skip
    have r0 := RR0.out.cell 0
    have r1 := RR0.out.cell 1
    have r2 := RR0.out.cell 2
    have r3 := RR0.out.cell 3
    have r4 := RR0.out.cell 4
    have z0 := RR1.out.free 0
    have z1 := RR1.out.free 1
    have z2 := RR1.out.free 2
    have z3 := RR1.out.free 3
    have z4 := RR1.out.free 4
    have p0 := RR1.out.cell 0
    have p1 := RR1.out.cell 1
    have p2 := RR1.out.cell 2
    have p3 := RR1.out.cell 3
    have p4 := RR1.out.cell 4
    simp only [List.getElem?_toArray, List.getElem?_cons_zero, List.getElem?_cons_succ] at r0 r1 r2 r3 r4 p0 p1 p2 p3 p4
    go_wp2_with fail
    refine bodyPost_ret (v := .agg #[.int .i64 c, .string r, .slice a n d, .string bb, .int .i64 k]) (by simp [results, Tryz.results65, go_sem, p0, p1, p2, p3, p4]) rfl ⟨a, d, by rw [HNN.out]; rfl, HN.out, ?_⟩
    have h5 := own_five b1 _ LL.out HLE.out (.int .i64 c) (.string r) (.slice a n d) (.string bb) (.int .i64 k)
    exact ⟨HF0.out.below h5.1, h5.1⟩
  · have r2 := RR0.out.cell 2
    simp only [List.getElem?_toArray, List.getElem?_cons_zero, List.getElem?_cons_succ] at r2
    go_wp2_with fail
    with_reducible refine (HA.out w1 HF.out).mono ?_
    rintro e w2 ⟨u, rfl, ho, hb⟩
    obtain ⟨b, d', rfl, _, hbn, hf2, hbl⟩ := own_isFldsB ho
    have hl2 : (fs ++ [ccF]).length = n + 1 := by rw [List.length_append, ← HNN.out]; rfl
    rw [hl2]
    have Q0 := RR0.out.below hb
    have Q1 := RR1.out.below hb
    have LL2 := Lib.hid ((LL.out.trans (hb.mono LL.out.size)).setCell (p := ⟨b0, 2, none⟩) HLE0.out (.slice b (n + 1) d'))
    have K2 : Keep (fun j => j = b0) w2 (w2.setCell ⟨b0, 2, none⟩ (.slice b (n + 1) d')) := Keep.setCell (G := fun j => j = b0) w2 (p := ⟨b0, 2, none⟩) rfl _
    have F3 := Lib.hid (isFlds_keepR hf2 K2 (fun ad had => by have := hbl ad had; have := HB0.out; intro e; omega))
    have HBL : Hid (∀ ad, b = some ad → b1 < ad.block) := fun ad had => by have := hbl ad had; have := HB1.out; omega
    have HBN := Lib.hid hbn
    have y2 := Q0.free 2
    have x2 := Q0.cell 2
    have Q0' := Q0.put 2 (.slice b (n + 1) d')
    have Q1' := Q1.far (p := ⟨b0, 2, none⟩) (fun e => HNE.out e.symm) (.slice b (n + 1) d')
    have e0 : (#[.int .i64 c, .string r, .slice a n d, .string bb, .int .i64 k] : Array Value).setIfInBounds 2 (.slice b (n + 1) d') = #[.int .i64 c, .string r, .slice b (n + 1) d', .string bb, .int .i64 k] := rfl
    rw [e0] at Q0'
    simp only [List.getElem?_toArray, List.getElem?_cons_zero, List.getElem?_cons_succ] at x2
    clear hf2 K2 hbn hbl ho hb Q0 Q1 e0 HF r2 hl2
    go_upto_region 3 with fail
    obtain ⟨w3, hw3⟩ : ∃ w3, w3 = w2.setCell ⟨b0, 2, none⟩ (.slice b (n + 1) d') := ⟨_, rfl⟩
    rw [← hw3] at LL2 F3 Q0' Q1' ⊢
    clear hw3 x2 y2
    have r0 := Q0'.cell 0
    have r1 := Q0'.cell 1
    have r2 := Q0'.cell 2
    have r3 := Q0'.cell 3
    have r4 := Q0'.cell 4
    have z0 := Q1'.free 0
    have z1 := Q1'.free 1
    have z2 := Q1'.free 2
    have z3 := Q1'.free 3
    have z4 := Q1'.free 4
    have p0 := Q1'.cell 0
    have p1 := Q1'.cell 1
    have p2 := Q1'.cell 2
    have p3 := Q1'.cell 3
    have p4 := Q1'.cell 4
    simp only [List.getElem?_toArray, List.getElem?_cons_zero, List.getElem?_cons_succ] at r0 r1 r2 r3 r4 p0 p1 p2 p3 p4
    clear Q0' Q1'
    go_wp2_with fail
    refine bodyPost_ret (v := .agg #[.int .i64 c, .string r, .slice b (n + 1) d', .string bb, .int .i64 k]) (by simp [results, Tryz.results65, go_sem, p0, p1, p2, p3, p4]) rfl ⟨b, d', by rw [HNN.out]; unfold closeF; rw [if_pos rfl, List.length_append]; rfl, HBN.out, ?_⟩
    have h5 := own_five b1 _ LL2.out HLE.out (.int .i64 c) (.string r) (.slice b (n + 1) d') (.string bb) (.int .i64 k)
    exact ⟨isFlds_keepR F3.out h5.2 (fun ad had => by have := HBL.out ad had; intro e; omega), h5.1⟩
end Go.Proofs.YtbbphklhnngjmaaGreatDoor

/- request: a parser in memory with a body of a length: beginBody, feedFields. -/
namespace Go.Proofs.YtbbphklhnngjmaaGreatDoor
open Go.RowKit

/-- A parser's cells behind its head's, with a kind, a length and a body's row. -/
def paRL (m t : ByteArray) (fv : Value) (k n : Int) (bv : Value) (wt : Bool) (e : Int) : List Value := [.string m, .string t, fv, .string ⟨#[]⟩, .int .i64 k, .int .i64 n, bv, .pointer none, .bool wt, .int .i64 e]
theorem paRL_0 (m t : ByteArray) (fv : Value) (wt : Bool) (e : Int) : paRL m t fv 0 0 (.slice none 0 0) wt e = paR m t fv wt e := rfl
/-- What framing says of fields: kind k, length n; the limit is b. -/
def Frames (b : Int) (fs : List Fld) (k n : Int) : Prop := (k = 0 ∧ n = 0 ∧ allB encN fs = [] ∧ allB lenN fs = []) ∨ (k = 1 ∧ allB encN fs = [] ∧ ∃ x, allB lenN fs = [x] ∧ ∀ W, Syn W → Calls Tryz.prog 136 #[.string x, .int .i64 b] W fun e w' => e = .returned (.tuple #[.int .i64 n, .int .i64 0]) ∧ Below W.heap.size W w')
theorem frames76 (a : Option Addr) (c : Nat) (fs : List Fld) (b k n : Int) (hfl : fs.length ≤ 1000000) (hok : ∀ f ∈ fs, FldOk f) (hF : Frames b fs k n) (w : World) (hS : Syn w) (hf : IsFlds w a c fs) :
    Calls Tryz.prog 132 #[.slice a fs.length c, .int .i64 b] w fun x w' => x = .returned (.tuple #[.int .i64 k, .int .i64 n, .int .i64 0]) ∧ Below w.heap.size w w' := by
  rcases hF with ⟨rfl, rfl, h1, h2⟩ | ⟨rfl, h1, x, h2, h3⟩
  · exact frame76 a c fs b hfl hok h1 h2 w hf
  · exact frame76L a c fs b n x hfl hok h1 h2 w hS hf h3
theorem he_b {M : HdL} {b : Int} {σ : HdS} {L H C B st : Int} {f : ByteArray} {fs : List Fld} {sz : Nat} {cur : List UInt8} {cr : Bool} {e : Int} (h : HeRep M b σ L H C B st f fs sz cur cr e) (hne : ∀ e, σ ≠ .err e) : B = b := (he_lim h hne).2.2.2
theorem frames_kind {b : Int} {fs : List Fld} {k n : Int} (h : Frames b fs k n) : k = 0 ∨ k = 1 := by
  rcases h with ⟨rfl, _⟩ | ⟨rfl, _⟩
  · exact .inl rfl
  · exact .inr rfl
set_option maxRecDepth 100000 in
set_option maxHeartbeats 4000000 in
theorem begin67L (G : Nat → Prop) (g : Nat) (M : HdL) (b : Int) (σ : HdS) (hne : ∀ e, σ ≠ .err e) (m t : ByteArray) (wt : Bool) (a : Option Addr) (c : Nat) (fs : List Fld) (h0 : ByteArray) (hfl : fs.length ≤ 1000000) (hok : ∀ f ∈ fs, FldOk f) (hh : allB hostN fs = [h0]) (hh0 : 0 < h0.size) (k n : Int) (hF : Frames b fs k n)
    (w : World) (hS : Syn w) (h : HeS G 108 (paR m t (.slice none 0 0) wt 0) w g M b σ) (hf : IsFlds w a c fs) (hg : ∀ ad, a = some ad → ¬ ad.block = g) :
    Calls Tryz.prog 115 #[.pointer (some ⟨g, 0, none⟩), .slice a fs.length c] w fun x w' => x = .returned (.int .i64 0) ∧ HeS G 108 (paRL m t (.slice a fs.length c) k n (.slice none 0 0) wt 0) w' g M b σ ∧ IsFlds w' a c fs ∧ Keep (fun j => j = g) w w' := by
  have HA := Lib.hid (all44 a c fs hostN hfl hok w hf)
  rw [hh] at HA
  unfold hostN at HA
  have HFR := Lib.hid (fun W hS h => frames76 a c fs b k n hfl hok hF W hS h)
  have HF := Lib.hid hf
  have HD := Lib.hid h
  have HS := Lib.hid hS
  have HGN := Lib.hid hg
  have HNE := Lib.hid hne
  have e1 := emp_false h0 hh0
  have hk2 : (k == 2) = false := by rcases frames_kind hF with rfl | rfl <;> rfl
  clear hf h hh hh0 hF hok hS hg hne
  go_enter Tryz.func115, Tryz.ntmps115
  go_wp2_with fail
  with_reducible refine HA.out.mono ?_
  rintro e w1 ⟨u1, rfl, ho1, hb1⟩
  obtain ⟨a1, c1, rfl⟩ := own_slice ho1
  have hs := isStrs_of_row ho1 rfl
  obtain hs0 | ⟨bk, o, rfl, hbk, hcc, hcell⟩ := hs
  · cases hs0
  have cj : w1.cell? ⟨bk, o, none⟩ = some (.string h0) := hcell 0 h0 rfl
  have F1 := Lib.hid (HF.out.below hb1)
  have D1 := Lib.hid (HD.out.below hb1)
  have S1 := Lib.hid (HS.out.below hb1)
  have B1 := Lib.hid hb1
  have hcc2 : 1 ≤ c1 := by simpa using hcc
  clear ho1 hb1 HA HF hcell hbk hcc HD HS
  obtain ⟨L, H, C, b', st, f, fs', sz, cur, cr, e', hr, rv, ln, hd⟩ := D1.out
  obtain rfl := he_b hr HNE.out
  have c3 := hd.c.2.2.2.1
  clear hd hr
  go_wp2_with fail
  with_reducible refine (HFR.out w1 S1.out F1.out).mono ?_
  rintro e w2 ⟨rfl, hb2⟩
  have D2 := Lib.hid (D1.out.below hb2)
  have F2 := Lib.hid (F1.out.below hb2)
  have B2 := Lib.hid (B1.out.trans (hb2.mono B1.out.size))
  have f13 := D2.out.free 13
  have f15 := D2.out.free 15
  have f16 := D2.out.free 16
  have k13 := D2.out.cellR 2
  have k15 := D2.out.cellR 4
  have k16 := D2.out.cellR 5
  simp only [paR, List.getElem?_cons_zero, List.getElem?_cons_succ, Nat.reduceAdd] at k13 k15 k16
  have HR : Hid (HeS G 108 (paRL m t (.slice a fs.length c) k n (.slice none 0 0) wt 0) (((w2.setCell ⟨g, 13, none⟩ (.slice a fs.length c)).setCell ⟨g, 15, none⟩ (.int .i64 k)).setCell ⟨g, 16, none⟩ (.int .i64 n)) g M b' σ) :=
    ((D2.out.setR 2 (.slice a fs.length c)).setR 4 (.int .i64 k)).setR 5 (.int .i64 n)
  have K : ∀ (v : World) (i : Nat) (u : Value), Keep (fun j => j = g) v (v.setCell ⟨g, i, none⟩ u) := fun v i u => Keep.setCell (G := fun j => j = g) v (p := ⟨g, i, none⟩) rfl u
  have hk3 := (((K w2 13 (.slice a fs.length c)).trans (K _ 15 (.int .i64 k))).trans (K _ 16 (.int .i64 n)))
  have HK : Hid (Keep (fun j => j = g) w (((w2.setCell ⟨g, 13, none⟩ (.slice a fs.length c)).setCell ⟨g, 15, none⟩ (.int .i64 k)).setCell ⟨g, 16, none⟩ (.int .i64 n))) := (Keep.of_below B2.out).trans hk3
  have HF3 := Lib.hid (isFlds_keepR F2.out hk3 HGN.out)
  clear hb2 B1 F1 D1 c3 K cj e1 D2 B2 HFR F2 hk3 S1
  go_wp2_with fail
  go_ret
  exact ⟨rfl, HR.out, HF3.out, HK.out⟩
end Go.Proofs.YtbbphklhnngjmaaGreatDoor

/- request: a parser in memory with a body of a length: feedFields, complete, feedBody. -/
namespace Go.Proofs.YtbbphklhnngjmaaGreatDoor
open Go.RowKit

set_option maxRecDepth 100000 in
set_option maxHeartbeats 2000000 in
/-- Head's Fields, and where they lie. -/
theorem hfields15b (G : Nat → Prop) (T : TypeId) (rest : List Value) (g : Nat) (M : HdL) (b : Int) (σ : HdS) (hl : σ.fldsOf.length ≤ 1000000000) (w : World) (h : HeS G T rest w g M b σ) :
    Calls Tryz.prog 69 #[.pointer (some ⟨g, 0, none⟩)] w fun x w' => ∃ a c, x = .returned (.slice a σ.fldsOf.length c) ∧ (∀ ad, a = some ad → w.heap.size ≤ ad.block ∧ ad.block < w'.heap.size) ∧ IsFlds w' a c σ.fldsOf ∧ Below w.heap.size w w' := by
  obtain ⟨L, H, C, b', st, f, fs, sz, cur, cr, e, hr, rv, ln, hd⟩ := h
  have he := he_flds hr
  rw [← he] at hl ⊢
  have c6 := hd.c.2.2.2.2.2.2.1
  obtain ⟨a0, c0, hv, hf⟩ := own_isFlds hd.ro
  have hro := hd.ro
  subst hv
  have HX := Lib.hid (clone77 a0 c0 fs hl (fun ha => ⟨(own_nilF hro ha).1, List.eq_nil_of_length_eq_zero (own_nilF hro ha).2⟩) w hf)
  clear hd hr he hf hro
  go_enter Tryz.func69, Tryz.ntmps69
  go_wp2_with fail
  with_reducible refine HX.out.mono ?_
  rintro e9 w1 ⟨v, rfl, ho, hb⟩
  have hlt := ho.lt
  obtain ⟨a1, c1, rfl, hf1⟩ := own_isFlds ho
  have HLT : Hid (∀ ad, a1 = some ad → w.heap.size ≤ ad.block ∧ ad.block < w1.heap.size) := fun ad had => by subst had; exact hlt ad.block rfl
  have HF := Lib.hid hf1
  have HB := Lib.hid hb
  clear ho hf1 hb HX c6 hlt
  go_wp2_with fail
  go_ret
  exact ⟨a1, c1, rfl, HLT.out, HF.out, HB.out⟩
/-- What feedFields leaves where the head has come whole. -/
def FldsTo (G : Nat → Prop) (g : Nat) (M : HdL) (b : Int) (m t : ByteArray) (k n : Int) (fl : List UInt8) (fs : List Fld) (wt : Bool) (w w' : World) : Prop :=
  ∃ a c G', (∀ j, G' j → G j) ∧ Up G' w' ∧ (∀ ad, a = some ad → ¬ G' ad.block) ∧ HeS G' 108 (paRL m t (.slice a fs.length c) k n (.slice none 0 0) wt 0) w' g M b (.done fl fs) ∧ IsFlds w' a c fs ∧ Keep G w w'
set_option maxRecDepth 100000 in
set_option maxHeartbeats 4000000 in
theorem fflds57L (G : Nat → Prop) (g : Nat) (M : HdL) (b : Int) (σ : HdS) (m t : ByteArray) (wt : Bool) (l : List UInt8) (hbd : σ.wt + 4 * l.length ≤ 1000000000) (fl : List UInt8) (fs : List Fld) (h1 : hRun M σ l = .done fl fs) (h0 : ByteArray) (hfl : fs.length ≤ 1000000) (hok : ∀ f ∈ fs, FldOk f) (hh : allB hostN fs = [h0]) (hh0 : 0 < h0.size) (k n : Int) (hF : Frames b fs k n)
    (w : World) (h : HeS G 108 (paR m t (.slice none 0 0) wt 0) w g M b σ) (hu : Up G w) (hM : ∀ w', Keep G w w' → MaxL w') (hY : ∀ w', Keep G w w' → Syn w') :
    Calls Tryz.prog 93 #[.pointer (some ⟨g, 0, none⟩), .string (bs l)] w fun x w' => x = .returned (.tuple #[.string (bs (hLeft M σ l)), .int .i64 0]) ∧ FldsTo G g M b m t k n fl fs wt w w' := by
  have HF := Lib.hid (hfeed10 G 108 (paR m t (.slice none 0 0) wt 0) g M b σ l hbd w h hu hM)
  unfold HFeedTo at HF
  rw [h1, show (HdS.done fl fs).errOf = 0 from rfl, if_pos rfl] at HF
  obtain ⟨z, hz⟩ : ∃ z, z = bs (hLeft M σ l) := ⟨_, rfl⟩
  obtain ⟨s, hs⟩ : ∃ s, s = bs l := ⟨_, rfl⟩
  rw [← hz, ← hs] at HF
  rw [← hz, ← hs]
  have HD := Lib.hid (fun W hw => hdoneS G 108 (paR m t (.slice none 0 0) wt 0) g M b (.done fl fs) W hw)
  rw [show (HdS.done fl fs).fin = true from rfl] at HD
  have HFL := Lib.hid (fun W hw => hfields15b G 108 (paR m t (.slice none 0 0) wt 0) g M b (.done fl fs) (by show fs.length ≤ _; omega) W hw)
  rw [show (HdS.done fl fs).fldsOf = fs from rfl] at HFL
  have HBG := Lib.hid (fun G' W a c hS hw hf hg => begin67L G' g M b (.done fl fs) (fun e he => by cases he) m t wt a c fs h0 hfl hok hh hh0 k n hF W hS hw hf hg)
  have HU := Lib.hid hu
  have HY := Lib.hid hY
  clear h hu hM hbd h1 hz hs hok hh hh0 hF hY
  go_enter Tryz.func93, Tryz.ntmps93
  go_wp2_with fail
  with_reducible refine HF.out.mono ?_
  rintro e w1 ⟨rfl, hd1, hk1⟩
  have D1 := Lib.hid hd1
  have K1 := Lib.hid hk1
  clear hd1 hk1 HF
  go_wp2_with fail
  with_reducible refine (HD.out w1 D1.out).mono ?_
  rintro e w' ⟨rfl, rfl⟩
  go_wp2_with fail
  with_reducible refine (HFL.out w1 D1.out).mono ?_
  rintro e w2 ⟨a, c, rfl, hlt, hf2, hb2⟩
  have D2 : Hid (HeS (fun j => (G j ∧ j < w1.heap.size) ∨ w2.heap.size ≤ j) 108 (paR m t (.slice none 0 0) wt 0) w2 g M b (.done fl fs)) := (D1.out.less.below hb2).more (fun j _ hj => .inl hj)
  have K2 := Lib.hid (K1.out.trans (.of_below hb2))
  have F2 := Lib.hid hf2
  have S2 := Lib.hid (HY.out w2 K2.out)
  have hgl := D1.out.lt
  have HLT := Lib.hid hlt
  have HAG : Hid (∀ ad, a = some ad → ¬ ad.block = g) := fun ad had => by have := (hlt ad had).1; omega
  have HGG := Lib.hid D1.out.gG
  have HSZ := Lib.hid hb2.size
  clear hf2 hb2 D1 K1 HFL HD hlt hgl HY
  go_wp2_with fail
  with_reducible refine (HBG.out _ w2 a c S2.out D2.out F2.out HAG.out).mono ?_
  rintro e w3 ⟨rfl, hd3, hf3, hk3⟩
  have FX : Hid (FldsTo G g M b m t k n fl fs wt w w3) := by
    refine ⟨a, c, _, ?_, ?_, ?_, hd3, hf3, K2.out.trans (hk3.more (fun j _ hj => by rw [hj]; exact HGG.out))⟩
    · rintro j (⟨hj, _⟩ | hj)
      · exact hj
      · exact HU.out j (by have := K2.out.size; omega)
    · exact fun j hj => .inr (Nat.le_trans hk3.size hj)
    · rintro ad had (⟨_, hj⟩ | hj)
      · have := (HLT.out ad had).1; omega
      · have := (HLT.out ad had).2; omega
  clear hd3 hf3 hk3 D2 K2 F2 HBG S2 HLT HAG HGG HSZ HU
  go_wp2_with fail
  go_ret2
  exact ⟨rfl, FX.out⟩
set_option maxHeartbeats 2000000 in
theorem complete38L (G : Nat → Prop) (g : Nat) (M : HdL) (b : Int) (σ : HdS) (m t : ByteArray) (fv : Value) (k n : Int) (ba : Option Addr) (j bc : Nat) (wt : Bool) (e : Int) (hσ : σ.fin = true) (q : Bool) (hq : q = ((j : Int) == n)) (w : World) (h : HeS G 108 (paRL m t fv k n (.slice ba j bc) wt e) w g M b σ) :
    Calls Tryz.prog 59 #[.pointer (some ⟨g, 0, none⟩)] w fun x w' => x = .returned (.bool q) ∧ ∃ n, w' = w.drewN n := by
  have c18 := h.cellR 7
  have c17 := h.cellR 6
  have c16 := h.cellR 5
  simp only [paRL, List.getElem?_cons_zero, List.getElem?_cons_succ, Nat.reduceAdd] at c18 c17 c16
  have DN : ∀ k, Below w.heap.size w (w.drewN k) := fun k => ⟨rfl, rfl, rfl, Nat.le_refl _, fun _ _ => rfl⟩
  have HX := Lib.hid (fun i => hdoneS G 108 (paRL m t fv k n (.slice ba j bc) wt e) g M b σ (w.drewN i) (h.below (DN i)))
  rw [hσ] at HX
  clear h DN hσ
  go_enter Tryz.func59, Tryz.ntmps59
  go_wp2_with fail
  cases q
  · have hq2 := hq.symm
    clear hq
    go_quiet ((go_at_call 92; exact Calls.quiet_of_same (calls_flip (HX.out _))))
    go_wp2_with fail
    go_ret
    exact ⟨rfl, _, rfl⟩
  · have hq2 := hq.symm
    clear hq
    go_quiet ((go_at_call 92; exact Calls.quiet_of_same (calls_flip (HX.out _))))
    go_wp2_with fail
    go_ret
    exact ⟨rfl, _, rfl⟩
end Go.Proofs.YtbbphklhnngjmaaGreatDoor

/- response: the head at offset 1 of its block (written by genoff.py out of XHeA.lean). -/
namespace Go.Proofs.YtbbphklhnngjmaaGreatDoor.R
open Go.RowKit

/-- The cells of a head: four limits, state, first line, fields, their size, the line, its byte 13, the error; others behind them. -/
def heL (L H C B st : Int) (f : ByteArray) (rv : Value) (sz : Nat) (ln : Value) (cr : Bool) (e : Int) (rest : List Value) : List Value :=
  rest.headD (.string ⟨#[]⟩) :: .int .i64 L :: .int .i64 H :: .int .i64 C :: .int .i64 B :: .int .i64 st :: .string f :: rv :: .int .i64 (sz : Int) :: ln :: .bool cr :: .int .i64 e :: rest.tail
def heCells (L H C B st : Int) (f : ByteArray) (rv : Value) (sz : Nat) (ln : Value) (cr : Bool) (e : Int) (rest : List Value) : Array Value := (heL L H C B st f rv sz ln cr e rest).toArray
structure HeAt (G : Nat → Prop) (T : TypeId) (rest : List Value) (w : World) (g : Nat) (L H C B st : Int) (f : ByteArray) (fs : List Fld) (sz : Nat) (cur : List UInt8) (cr : Bool) (e : Int) (rv ln : Value) : Prop where
  row : Row w g T (heCells L H C B st f rv sz ln cr e rest)
  t1 : 5 ≠ T
  t2 : 62 ≠ T
  gG : G g
  ro : w.ownsRow 0 62 2 rv fs.length (cellsF fs)
  lo : w.ownsRow 0 5 1 ln cur.length (byteVals cur)
  rG : ∀ j, rv.ownBlock = some j → G j
  lG : ∀ j, ln.ownBlock = some j → G j
def He (G : Nat → Prop) (T : TypeId) (rest : List Value) (w : World) (g : Nat) (L H C B st : Int) (f : ByteArray) (fs : List Fld) (sz : Nat) (cur : List UInt8) (cr : Bool) (e : Int) : Prop := ∃ rv ln, HeAt G T rest w g L H C B st f fs sz cur cr e rv ln
section
variable {G : Nat → Prop} {T : TypeId} {rest : List Value} {w w' : World} {g : Nat} {L H C B st : Int} {f : ByteArray} {fs : List Fld} {sz : Nat} {cur : List UInt8} {cr : Bool} {e : Int} {rv ln : Value}
theorem HeAt.cell (h : HeAt G T rest w g L H C B st f fs sz cur cr e rv ln) (i : Nat) : w.cell? ⟨g, i, none⟩ = (heL L H C B st f rv sz ln cr e rest)[i]? := by
  rw [h.row.cell i]
  unfold heCells
  rw [List.getElem?_toArray]
theorem HeAt.c (h : HeAt G T rest w g L H C B st f fs sz cur cr e rv ln) :
    w.cell? ⟨g, 1, none⟩ = some (.int .i64 L) ∧ w.cell? ⟨g, 2, none⟩ = some (.int .i64 H) ∧ w.cell? ⟨g, 3, none⟩ = some (.int .i64 C) ∧ w.cell? ⟨g, 4, none⟩ = some (.int .i64 B) ∧ w.cell? ⟨g, 5, none⟩ = some (.int .i64 st) ∧ w.cell? ⟨g, 6, none⟩ = some (.string f) ∧ w.cell? ⟨g, 7, none⟩ = some rv ∧ w.cell? ⟨g, 8, none⟩ = some (.int .i64 (sz : Int)) ∧ w.cell? ⟨g, 9, none⟩ = some ln ∧ w.cell? ⟨g, 10, none⟩ = some (.bool cr) ∧ w.cell? ⟨g, 11, none⟩ = some (.int .i64 e) :=
  ⟨h.cell 1, h.cell 2, h.cell 3, h.cell 4, h.cell 5, h.cell 6, h.cell 7, h.cell 8, h.cell 9, h.cell 10, h.cell 11⟩
theorem HeAt.below (h : HeAt G T rest w g L H C B st f fs sz cur cr e rv ln) (hb : Below w.heap.size w w') : HeAt G T rest w' g L H C B st f fs sz cur cr e rv ln :=
  ⟨h.row.below hb, h.t1, h.t2, h.gG, own_bel h.ro hb, own_bel h.lo hb, h.rG, h.lG⟩
theorem He.below (h : He G T rest w g L H C B st f fs sz cur cr e) (hb : Below w.heap.size w w') : He G T rest w' g L H C B st f fs sz cur cr e := by
  obtain ⟨rv, ln, h⟩ := h
  exact ⟨rv, ln, h.below hb⟩
theorem He.less (h : He G T rest w g L H C B st f fs sz cur cr e) : He (fun j => G j ∧ j < w.heap.size) T rest w g L H C B st f fs sz cur cr e := by
  obtain ⟨rv, ln, h⟩ := h
  exact ⟨rv, ln, h.row, h.t1, h.t2, ⟨h.gG, h.row.lt⟩, h.ro, h.lo, fun j hj => ⟨h.rG j hj, own_lt h.ro hj⟩, fun j hj => ⟨h.lG j hj, own_lt h.lo hj⟩⟩
theorem He.more {G' : Nat → Prop} (h : He G T rest w g L H C B st f fs sz cur cr e) (hg : ∀ j, j < w.heap.size → G j → G' j) : He G' T rest w g L H C B st f fs sz cur cr e := by
  obtain ⟨rv, ln, h⟩ := h
  exact ⟨rv, ln, h.row, h.t1, h.t2, hg _ h.row.lt h.gG, h.ro, h.lo, fun j hj => hg _ (own_lt h.ro hj) (h.rG j hj), fun j hj => hg _ (own_lt h.lo hj) (h.lG j hj)⟩
theorem he_put (i : Nat) (u : Value) : (heCells L H C B st f rv sz ln cr e rest).setIfInBounds i u = ((heL L H C B st f rv sz ln cr e rest).set i u).toArray := by
  unfold heCells
  rw [List.setIfInBounds_toArray]
theorem HeAt.put (h : HeAt G T rest w g L H C B st f fs sz cur cr e rv ln) (i : Nat) (u : Value) : Row (w.setCell ⟨g, i, none⟩ u) g T ((heL L H C B st f rv sz ln cr e rest).set i u).toArray := by
  rw [← he_put]
  exact h.row.put i u
theorem HeAt.set4 (h : HeAt G T rest w g L H C B st f fs sz cur cr e rv ln) (x : Int) : HeAt G T rest (w.setCell ⟨g, 5, none⟩ (.int .i64 x)) g L H C B x f fs sz cur cr e rv ln :=
  ⟨h.put 5 _, h.t1, h.t2, h.gG, own_set h.ro h.row h.t2 _, own_set h.lo h.row h.t1 _, h.rG, h.lG⟩
theorem HeAt.set5 (h : HeAt G T rest w g L H C B st f fs sz cur cr e rv ln) (x : ByteArray) : HeAt G T rest (w.setCell ⟨g, 6, none⟩ (.string x)) g L H C B st x fs sz cur cr e rv ln :=
  ⟨h.put 6 _, h.t1, h.t2, h.gG, own_set h.ro h.row h.t2 _, own_set h.lo h.row h.t1 _, h.rG, h.lG⟩
theorem HeAt.set7 (h : HeAt G T rest w g L H C B st f fs sz cur cr e rv ln) (x : Nat) : HeAt G T rest (w.setCell ⟨g, 8, none⟩ (.int .i64 (x : Int))) g L H C B st f fs x cur cr e rv ln :=
  ⟨h.put 8 _, h.t1, h.t2, h.gG, own_set h.ro h.row h.t2 _, own_set h.lo h.row h.t1 _, h.rG, h.lG⟩
theorem HeAt.set9 (h : HeAt G T rest w g L H C B st f fs sz cur cr e rv ln) (x : Bool) : HeAt G T rest (w.setCell ⟨g, 10, none⟩ (.bool x)) g L H C B st f fs sz cur x e rv ln :=
  ⟨h.put 10 _, h.t1, h.t2, h.gG, own_set h.ro h.row h.t2 _, own_set h.lo h.row h.t1 _, h.rG, h.lG⟩
theorem HeAt.set6 {fs' : List Fld} {rv' : Value} (h : HeAt G T rest w g L H C B st f fs sz cur cr e rv ln) (ho : w.ownsRow 0 62 2 rv' fs'.length (cellsF fs')) (hG : ∀ j, rv'.ownBlock = some j → G j) :
    HeAt G T rest (w.setCell ⟨g, 7, none⟩ rv') g L H C B st f fs' sz cur cr e rv' ln :=
  ⟨h.put 7 _, h.t1, h.t2, h.gG, own_set ho h.row h.t2 _, own_set h.lo h.row h.t1 _, hG, h.lG⟩
theorem HeAt.set8 {cur' : List UInt8} {ln' : Value} (h : HeAt G T rest w g L H C B st f fs sz cur cr e rv ln) (ho : w.ownsRow 0 5 1 ln' cur'.length (byteVals cur')) (hG : ∀ j, ln'.ownBlock = some j → G j) :
    HeAt G T rest (w.setCell ⟨g, 9, none⟩ ln') g L H C B st f fs sz cur' cr e rv ln' :=
  ⟨h.put 9 _, h.t1, h.t2, h.gG, own_set h.ro h.row h.t2 _, own_set ho h.row h.t1 _, h.rG, hG⟩
end
theorem HeAt.reset {G : Nat → Prop} {T : TypeId} {rest : List Value} {w : World} {g : Nat} {L H C B st : Int} {f : ByteArray} {fs : List Fld} {sz : Nat} {cur : List UInt8} {cr : Bool} {e : Int} {rv ln : Value} (h : HeAt G T rest w g L H C B st f fs sz cur cr e rv ln) (x : Int) :
    He G T rest (((((((((((w.setCell ⟨g, 1, none⟩ (.int .i64 0)).setCell ⟨g, 2, none⟩ (.int .i64 0)).setCell ⟨g, 3, none⟩ (.int .i64 0)).setCell ⟨g, 4, none⟩ (.int .i64 0)).setCell ⟨g, 5, none⟩ (.int .i64 3)).setCell ⟨g, 6, none⟩ (.string ⟨#[]⟩)).setCell ⟨g, 7, none⟩ (.slice none 0 0)).setCell ⟨g, 8, none⟩ (.int .i64 0)).setCell ⟨g, 9, none⟩ (.slice none 0 0)).setCell ⟨g, 10, none⟩ (.bool false)).setCell ⟨g, 11, none⟩ (.int .i64 x)) g 0 0 0 0 3 ⟨#[]⟩ [] 0 [] false x ∧
    Keep G w (((((((((((w.setCell ⟨g, 1, none⟩ (.int .i64 0)).setCell ⟨g, 2, none⟩ (.int .i64 0)).setCell ⟨g, 3, none⟩ (.int .i64 0)).setCell ⟨g, 4, none⟩ (.int .i64 0)).setCell ⟨g, 5, none⟩ (.int .i64 3)).setCell ⟨g, 6, none⟩ (.string ⟨#[]⟩)).setCell ⟨g, 7, none⟩ (.slice none 0 0)).setCell ⟨g, 8, none⟩ (.int .i64 0)).setCell ⟨g, 9, none⟩ (.slice none 0 0)).setCell ⟨g, 10, none⟩ (.bool false)).setCell ⟨g, 11, none⟩ (.int .i64 x)) := by
  have K : ∀ (v : World) (i : Nat) (u : Value), Keep G v (v.setCell ⟨g, i, none⟩ u) := fun v i u => Keep.setCell v (p := ⟨g, i, none⟩) h.gG u
  have r := ((((((((((h.row.put 1 (.int .i64 0)).put 2 (.int .i64 0)).put 3 (.int .i64 0)).put 4 (.int .i64 0)).put 5 (.int .i64 3)).put 6 (.string ⟨#[]⟩)).put 7 (.slice none 0 0)).put 8 (.int .i64 0)).put 9 (.slice none 0 0)).put 10 (.bool false)).put 11 (.int .i64 x)
  unfold heCells at r
  simp only [List.setIfInBounds_toArray] at r
  exact ⟨⟨.slice none 0 0, .slice none 0 0, r, h.t1, h.t2, h.gG, nil_flds _, nil_byt _, (fun j h => by cases h), (fun j h => by cases h)⟩,
    ((((((((((K _ _ _).trans (K _ _ _)).trans (K _ _ _)).trans (K _ _ _)).trans (K _ _ _)).trans (K _ _ _)).trans (K _ _ _)).trans (K _ _ _)).trans (K _ _ _)).trans (K _ _ _)).trans (K _ _ _)⟩
section
variable (G : Nat → Prop) (T : TypeId) (rest : List Value) (g : Nat) (L H C B st : Int) (f : ByteArray) (fs : List Fld) (sz : Nat) (cur : List UInt8) (cr : Bool) (e : Int)
theorem hdone9 (q : Bool) (hq : (st == 2) = q) (w : World) (h : He G T rest w g L H C B st f fs sz cur cr e) :
    Calls Tryz.prog 92 #[.pointer (some ⟨g, 1, none⟩)] w fun x w' => x = .returned (.bool q) ∧ w = w' := by
  obtain ⟨rv, ln, h⟩ := h
  have c := h.c.2.2.2.2.1
  go_enter Tryz.func92, Tryz.ntmps92
  go_wp2_with fail
  go_ret
  exact ⟨rfl, rfl⟩
theorem hbegun12 (q1 q2 : Bool) (hq1 : (st == 1) = q1) (hq2 : (st == 2) = q2) (w : World) (h : He G T rest w g L H C B st f fs sz cur cr e) :
    Calls Tryz.prog 90 #[.pointer (some ⟨g, 1, none⟩)] w fun x w' => x = .returned (.bool (q1 || q2)) ∧ w = w' := by
  obtain ⟨rv, ln, h⟩ := h
  have c := h.c.2.2.2.2.1
  cases q1
  · go_enter Tryz.func90, Tryz.ntmps90
    go_wp2_with fail
    go_ret
    exact ⟨rfl, rfl⟩
  · go_enter Tryz.func90, Tryz.ntmps90
    go_wp2_with fail
    go_ret
    exact ⟨rfl, rfl⟩
theorem hfirst13 (w : World) (h : He G T rest w g L H C B st f fs sz cur cr e) :
    Calls Tryz.prog 114 #[.pointer (some ⟨g, 1, none⟩)] w fun x w' => x = .returned (.string f) ∧ w = w' := by
  obtain ⟨rv, ln, h⟩ := h
  have c := h.c.2.2.2.2.2.1
  go_enter Tryz.func114, Tryz.ntmps114
  go_wp2_with fail
  go_ret
  exact ⟨rfl, rfl⟩
theorem hfail40 (x : Int) (w : World) (h : He G T rest w g L H C B st f fs sz cur cr e) :
    Calls Tryz.prog 146 #[.pointer (some ⟨g, 1, none⟩), .int .i64 x] w fun r w' => r = .returned (.tuple #[]) ∧ He G T rest w' g 0 0 0 0 3 ⟨#[]⟩ [] 0 [] false x ∧ Keep G w w' := by
  obtain ⟨rv, ln, h⟩ := h
  obtain ⟨c0, c1, c2, c3, c4, c5, c6, c7, c8, c9, c10⟩ := h.c
  have f0 := h.row.free 1
  have f1 := h.row.free 2
  have f2 := h.row.free 3
  have f3 := h.row.free 4
  have f4 := h.row.free 5
  have f5 := h.row.free 6
  have f6 := h.row.free 7
  have f7 := h.row.free 8
  have f8 := h.row.free 9
  have f9 := h.row.free 10
  have f10 := h.row.free 11
  have HD := Lib.hid h
  clear h
  go_enter Tryz.func146, Tryz.ntmps146
  go_wp2_with fail
  go_end0
  exact ⟨rfl, HD.out.reset x⟩
end
end Go.Proofs.YtbbphklhnngjmaaGreatDoor.R

/- response: the head at offset 1 of its block (written by genoff.py out of XHeB.lean). -/
namespace Go.Proofs.YtbbphklhnngjmaaGreatDoor.R
open Go.RowKit
section
variable {G : Nat → Prop} {T : TypeId} {rest : List Value} {w w' : World} {g : Nat} {L H C B st : Int} {f : ByteArray} {fs : List Fld} {sz : Nat} {cur : List UInt8} {cr : Bool} {e : Int} {rv ln : Value}
theorem HeAt.he (h : HeAt G T rest w g L H C B st f fs sz cur cr e rv ln) : He G T rest w g L H C B st f fs sz cur cr e := ⟨_, _, h⟩
/-- The line's row has grown. -/
theorem HeAt.grewL {row : Option Nat} {ln' : Value} {cur' : List UInt8} (h : HeAt G T rest w g L H C B st f fs sz cur cr e rv ln) (hg : w.grownBy w' row) (hr : row = ln.ownBlock) (ha : ln'.ownBlock = ln.ownBlock ∨ ln'.ownBlock = some w.heap.size) (hu : Up G w)
    (ho : w'.ownsRow 0 5 1 ln' cur'.length (byteVals cur')) :
    HeAt G T rest (w'.setCell ⟨g, 9, none⟩ ln') g L H C B st f fs sz cur' cr e rv ln' ∧ Row w' g T (heCells L H C B st f rv sz ln cr e rest) ∧ Keep G w (w'.setCell ⟨g, 9, none⟩ ln') := by
  subst hr
  have hrow := h.row.grown hg (own_ne h.lo h.row h.t1)
  have hro := own_grown h.ro hg (fun j hj he => own_apart h.ro h.lo (by decide) hj he)
  have hG : ∀ j, ln'.ownBlock = some j → G j := fun j hj => by
    rcases ha with e | e
    · exact h.lG j (by rw [← e]; exact hj)
    · rw [e] at hj; injection hj with hj; exact hu j (by omega)
  have hk : Keep G w w' := .grown hg h.lG
  have r8 : Row (w'.setCell ⟨g, 9, none⟩ ln') g T ((heL L H C B st f rv sz ln cr e rest).set 9 ln').toArray := by
    rw [← he_put]; exact hrow.put 9 _
  exact ⟨⟨r8, h.t1, h.t2, h.gG, own_set hro hrow h.t2 _, own_set ho hrow h.t1 _, h.rG, hG⟩, hrow, hk.trans (Keep.setCell w' (p := ⟨g, 9, none⟩) h.gG ln')⟩
/-- The fields' row has grown. -/
theorem HeAt.grewR {row : Option Nat} {rv' : Value} {fs' : List Fld} (h : HeAt G T rest w g L H C B st f fs sz cur cr e rv ln) (hg : w.grownBy w' row) (hr : row = rv.ownBlock) (ha : rv'.ownBlock = rv.ownBlock ∨ rv'.ownBlock = some w.heap.size) (hu : Up G w)
    (ho : w'.ownsRow 0 62 2 rv' fs'.length (cellsF fs')) :
    HeAt G T rest (w'.setCell ⟨g, 7, none⟩ rv') g L H C B st f fs' sz cur cr e rv' ln ∧ Row w' g T (heCells L H C B st f rv sz ln cr e rest) ∧ Keep G w (w'.setCell ⟨g, 7, none⟩ rv') ∧ Keep G w w' := by
  subst hr
  have hrow := h.row.grown hg (own_ne h.ro h.row h.t2)
  have hlo := own_grown h.lo hg (fun j hj he => own_apart h.lo h.ro (by decide) hj he)
  have hG : ∀ j, rv'.ownBlock = some j → G j := fun j hj => by
    rcases ha with e | e
    · exact h.rG j (by rw [← e]; exact hj)
    · rw [e] at hj; injection hj with hj; exact hu j (by omega)
  have hk : Keep G w w' := .grown hg h.rG
  have r6 : Row (w'.setCell ⟨g, 7, none⟩ rv') g T ((heL L H C B st f rv sz ln cr e rest).set 7 rv').toArray := by
    rw [← he_put]; exact hrow.put 7 _
  exact ⟨⟨r6, h.t1, h.t2, h.gG, own_set ho hrow h.t2 _, own_set hlo hrow h.t1 _, hG, h.lG⟩, hrow, hk.trans (Keep.setCell w' (p := ⟨g, 7, none⟩) h.gG rv'), hk⟩
end
set_option maxRecDepth 100000 in
set_option maxHeartbeats 4000000 in
theorem hext42 (G : Nat → Prop) (T : TypeId) (rest : List Value) (g : Nat) (L H C B st : Int) (f : ByteArray) (fs : List Fld) (sz : Nat) (cur : List UInt8) (cr : Bool) (e : Int) (c : UInt8) (q : Bool) (hq : TooLong L H st sz (cur.length + 1) q) (hsz : sz + cur.length ≤ 1000000000) (w : World) (h : He G T rest w g L H C B st f fs sz cur cr e) (hu : Up G w) :
    Calls Tryz.prog 148 #[.pointer (some ⟨g, 1, none⟩), .int .u8 (c.toNat : Int)] w fun r w' => r = .returned (.tuple #[]) ∧ HSel q (He G T rest w' g 0 0 0 0 3 ⟨#[]⟩ [] 0 [] false 4) (He G T rest w' g L H C B st f fs sz (cur ++ [c]) cr e) ∧ Keep G w w' := by
  obtain ⟨i0, hi, hz0, hz1, hz2⟩ := info_parts infoU8r
  obtain ⟨rv, ln, h⟩ := h
  have c8 := h.c.2.2.2.2.2.2.2.2.1
  have f8 := h.row.free 9
  have HD := Lib.hid h
  have HU := Lib.hid hu
  have HQ := Lib.hid hq
  clear h hu hq
  go_enter Tryz.func148, Tryz.ntmps148
  go_wp2_with (at_builtin; refine wpList_append_own_at _ rfl _ _ 101 rfl 0 5 i0 (.int .u8 0) 1 1 Tryz.underlying101 hi hz0 hz1 hz2 rfl (by decide) _ _ _ rfl (HD.out.lo.alloc _) ⟨w.heap.size, 0, none⟩ 1 1 [.int .u8 (c.toNat : Int)] rfl rfl (cell_one _ _ _) (one_cell _ _) (by unfold maxLen; omega) (by omega) (Nat.zero_le _) ?_)
  intro v' w1 hown' hgrow _ hat
  have L0 := below_alloc w (.cells #[.int .u8 (c.toNat : Int)] 5)
  rw [byteVals_snoc] at hown'
  obtain ⟨n, hn⟩ : ∃ n, cur.length + 1 = n := ⟨_, rfl⟩
  have hown2 := own_len hown' (show cur.length + 1 = (cur ++ [c]).length by simp)
  rw [hn] at hown' HQ
  obtain ⟨va, vc, rfl⟩ := own_slice hown'
  obtain ⟨HD2, row1, K1⟩ := (HD.out.below L0).grewL hgrow rfl (hat.imp id (fun e => e.trans (by simp))) (HU.out.below L0) hown2
  have HK2 := Lib.hid ((Keep.of_below (G := G) L0).trans K1)
  have c81 : w1.cell? ⟨g, 9, none⟩ = some ln := (row1.cell 9).trans (by simp [heCells, heL])
  have f81 := row1.free 9
  have hnz : n ≤ 1000000001 := by omega
  have hnz2 : sz + n ≤ 1000000001 := by omega
  clear L0 row1 K1 hown' hown2 hgrow hat c8 f8 hi hz0 hz1 hz2 hn
  go_wp2_with fail
  clear c81 f81
  have HD3 := Lib.hid HD2
  clear HD2
  generalize w1.setCell ⟨g, 9, none⟩ (.slice va n vc) = w2 at *
  obtain ⟨c0, c1, c2, c3, c4, c5, c6, c7, c8, c9, c10⟩ := HD3.out.c
  clear c2 c3 c5 c6 c9 c10
  have HF := Lib.hid (fun (W : World) (st : Int) (h : He G T rest W g L H C B st f fs sz (cur ++ [c]) cr e) => hfail40 G T rest g L H C B st f fs sz (cur ++ [c]) cr e 4 W h)
  have DN : ∀ k, Below w2.heap.size w2 (w2.drewN k) := fun k => ⟨rfl, rfl, rfl, Nat.le_refl _, fun _ _ => rfl⟩
  have HDN := Lib.hid DN
  clear DN
  rcases HQ.out with ⟨rfl, hq⟩ | ⟨rfl, hq⟩
  · by_cases hlt : L < (n : Int)
    · have h1 : decide (L < (n : Int)) = true := decide_eq_true hlt
      obtain rfl : q = true := by rw [hq, h1]
      clear hq
      go_quiet (fail)
      go_wp2_with fail
      with_reducible refine (HF.out _ _ (HD3.out.below (HDN.out _)).he).mono ?_
      rintro e9 w' ⟨rfl, hd, hk⟩
      go_wp2_with fail
      go_end0
      exact ⟨rfl, hd, (HK2.out.trans (.of_below (HDN.out _))).trans hk⟩
    · have h1 : decide (L < (n : Int)) = false := decide_eq_false hlt
      obtain rfl : q = false := by rw [hq, h1]
      clear hq
      go_quiet (fail)
      go_wp2_with fail
      go_end0
      exact ⟨rfl, ⟨_, _, HD3.out.below (HDN.out _)⟩, HK2.out.trans (.of_below (HDN.out _))⟩
  · by_cases hlt : H < (sz : Int) + (n : Int)
    · have h1 : decide (H < (sz : Int) + (n : Int)) = true := decide_eq_true hlt
      obtain rfl : q = true := by rw [hq, h1]
      clear hq
      go_quiet (fail)
      go_wp2_with fail
      with_reducible refine (HF.out _ _ (HD3.out.below (HDN.out _)).he).mono ?_
      rintro e9 w' ⟨rfl, hd, hk⟩
      go_wp2_with fail
      go_end0
      exact ⟨rfl, hd, (HK2.out.trans (.of_below (HDN.out _))).trans hk⟩
    · have h1 : decide (H < (sz : Int) + (n : Int)) = false := decide_eq_false hlt
      obtain rfl : q = false := by rw [hq, h1]
      clear hq
      go_quiet (fail)
      go_wp2_with fail
      go_end0
      exact ⟨rfl, ⟨_, _, HD3.out.below (HDN.out _)⟩, HK2.out.trans (.of_below (HDN.out _))⟩
end Go.Proofs.YtbbphklhnngjmaaGreatDoor.R

/- response: the head at offset 1 of its block (written by genoff.py out of XHeC.lean). -/
namespace Go.Proofs.YtbbphklhnngjmaaGreatDoor.R
open Go.RowKit

/-- What holds while a field is put behind the others. -/
structure AddS (G : Nat → Prop) (T : TypeId) (rest : List Value) (w0 : World) (g : Nat) (L H C B st : Int) (f : ByteArray) (fs : List Fld) (sz : Nat) (cur : List UInt8) (cr : Bool) (e : Int) (rv ln : Value) (N V : List UInt8) (S : (Nat → Bool)) (x : Nat → Value) (w : World) : Prop where
  a : S 7 = false → Below w0.heap.size w0 w
  o : S 6 = true → S 5 = true
  b : S 6 = true → S 7 = false → ∃ b, x 6 = .slice (some ⟨b, 0, none⟩) 1 1 ∧ ∀ (k : Nat) u, [Value.string (bs N), .string (bs V)][k]? = some u → w.cell? ((⟨b, 0, none⟩ : Addr).add k) = some u
  d : S 7 = true → (S 4 = true ∧ S 6 = true) ∧ HeAt G T rest (w.setCell ⟨g, 7, none⟩ (x 7)) g L H C B st f (fs ++ [(N, V)]) sz cur cr e (x 7) ln ∧ Row w g T (heCells L H C B st f rv sz ln cr e rest) ∧ Keep G w0 (w.setCell ⟨g, 7, none⟩ (x 7)) ∧ ∃ va vc, x 7 = .slice va (fs.length + 1) vc
theorem AddS.keep {G : Nat → Prop} {T : TypeId} {rest : List Value} {w0 : World} {g : Nat} {L H C B st : Int} {f : ByteArray} {fs : List Fld} {sz : Nat} {cur : List UInt8} {cr : Bool} {e : Int} {rv ln : Value} {N V : List UInt8} {S : (Nat → Bool)} {x : Nat → Value} {w : World} (h : AddS G T rest w0 g L H C B st f fs sz cur cr e rv ln N V S x w) (i : Nat) (u : Value) (h6 : i ≠ 6) (h7 : i ≠ 7) : AddS G T rest w0 g L H C B st f fs sz cur cr e rv ln N V (setL S i) (updV x i u) w := by
  have e6 : setL S i 6 = S 6 := by simp only [setL, if_neg (Ne.symm h6)]
  have e7 : setL S i 7 = S 7 := by simp only [setL, if_neg (Ne.symm h7)]
  have e4 : S 4 = true → setL S i 4 = true := fun h => by simp only [setL]; split; rfl; exact h
  have e5 : S 5 = true → setL S i 5 = true := fun h => by simp only [setL]; split; rfl; exact h
  have x6 : updV x i u 6 = x 6 := by simp only [updV, if_neg (Ne.symm h6)]
  have x7 : updV x i u 7 = x 7 := by simp only [updV, if_neg (Ne.symm h7)]
  refine ⟨by rw [e7]; exact h.a, by rw [e6]; exact fun q => e5 (h.o q), by rw [e6, e7, x6]; exact h.b, ?_⟩
  rw [e6, e7, x7]
  intro q
  exact ⟨⟨e4 (h.d q).1.1, (h.d q).1.2⟩, (h.d q).2⟩
set_option maxRecDepth 100000 in
set_option maxHeartbeats 4000000 in
theorem hadd61 (G : Nat → Prop) (T : TypeId) (rest : List Value) (g : Nat) (L H C B st : Int) (f : ByteArray) (fs : List Fld) (sz : Nat) (cur : List UInt8) (cr : Bool) (e : Int) (s : ByteArray) (N V : List UInt8) (e1 E : Int) (he1 : e1 = 0 ∨ e1 = 2) (hp : parseV s.data.toList = .tuple #[fldV (N, V), .int .i64 e1])
    (hE : E = if H < (sz : Int) + ((s.size : Int) + 2) ∨ C < (fs.length : Int) + 1 then 4 else e1) (hsz : sz + s.size ≤ 1000000000) (hfl : fs.length ≤ 1000000000) (w : World) (h : He G T rest w g L H C B st f fs sz cur cr e) (hu : Up G w) (hM : MaxL w) :
    Calls Tryz.prog 166 #[.pointer (some ⟨g, 1, none⟩), .string s] w fun r w' => r = .returned (.tuple #[]) ∧ (if E = 0 then He G T rest w' g L H C B st f (fs ++ [(N, V)]) (sz + (s.size + 2)) cur cr e else He G T rest w' g 0 0 0 0 3 ⟨#[]⟩ [] 0 [] false E) ∧ Keep G w w' := by
  obtain ⟨i0, hi, hz0, hz1, hz2⟩ := info_parts infoFldr
  obtain ⟨rv, ln, h⟩ := h
  have HD := Lib.hid h
  have HU := Lib.hid hu
  have HP := Lib.hid (parse36 s (by omega) w hM)
  rw [hp] at HP
  unfold fldV at HP
  simp only at HP
  clear h hu hM hp
  go_enter Tryz.func166, Tryz.ntmps166
  go_wp2_with fail
  with_reducible refine HP.out.mono ?_
  rintro e9 wA ⟨rfl, hbA⟩
  have cF0 : (wA.alloc (.cells #[.string (bs N), .string (bs V)] 62)).cell? ⟨wA.heap.size, 0, none⟩ = some (.string (bs N)) := by simp
  have cF1 : (wA.alloc (.cells #[.string (bs N), .string (bs V)] 62)).cell? ⟨wA.heap.size, 1, none⟩ = some (.string (bs V)) := by simp
  have hlt : wA.heap.size < (wA.alloc (.cells #[.string (bs N), .string (bs V)] 62)).heap.size := by simp
  have hb0 := hbA.alloc hbA.size (.cells #[.string (bs N), .string (bs V)] 62)
  go_upto_region 1 with fail
  obtain ⟨bF, hbF⟩ : ∃ bF, bF = wA.heap.size := ⟨_, rfl⟩
  rw [← hbF] at cF0 cF1 hlt ⊢
  generalize wA.alloc (.cells #[.string (bs N), .string (bs V)] 62) = w0 at *
  have HD0 := Lib.hid (HD.out.below hb0)
  have HU0 := Lib.hid (HU.out.below hb0)
  have HB0 := Lib.hid (Keep.of_below (G := G) hb0)
  clear hbF hbA hb0 HD HU HP
  refine region_mixt 8 [some (.pointer (some ⟨g, 1, none⟩)), some (.pointer (some ⟨g, 1, none⟩)), some (.pointer (some ⟨g, 1, none⟩)), some (.pointer (some ⟨g, 7, none⟩)), some (rv), some (.agg #[.string (bs N), .string (bs V)]), none, none]
    [[false, false, false, false, false, false, false, false], [false, false, false, false, false, false, false, false], [false, true, false, false, false, false, false, false], [false, false, true, false, false, false, false, false], [false, false, false, true, false, false, false, false], [false, false, false, false, false, false, false, false], [false, false, false, false, false, true, false, false], [false, false, false, false, true, false, true, false]]
    (fun L1 x w1 => AddS G T rest w0 g L H C B st f fs sz cur cr e rv ln N V L1 x w1)
    (by kernel_rfl) (by kernel_rfl) (by kernel_rfl) (by kernel_rfl) (by kernel_rfl) (by decide) ?_ ?_ ?_
  · intro _
    exact ⟨fun _ => ⟨rfl, rfl, rfl, Nat.le_refl _, fun _ _ => rfl⟩, fun h => (by cases h), fun h => (by cases h), fun h => (by cases h)⟩
  · simp only [List.take_succ_cons, List.take_zero]
    refine ⟨?_, ?_, ?_, ?_, ?_, ?_, ?_, ?_, trivial⟩
    all_goals
      intro S x w9 hS hl hp K hK
      have hs : AddS G T rest w0 g L H C B st f fs sz cur cr e rv ln N V S x w9 := hS
      clear hS
      replace hK := hK.out
      simp only [actMix, pickV, List.tail_cons, List.headD_cons, Act.put, List.setIfInBounds_toArray, List.set_cons_zero, List.set_cons_succ] at hK ⊢
    iterate 4
      · clear hp
        go_simp
        with_reducible refine hK _ ?_
        exact hs.keep _ _ (by decide) (by decide)
    · have h7 : S 7 = false := by
        cases h : S 7 with
        | false => rfl
        | true => have := (hs.d h).1.1; rw [hl] at this; cases this
      have c6 := (HD0.out.below (hs.a h7)).c.2.2.2.2.2.2.1
      clear hp
      go_simp
      with_reducible refine hK _ ?_
      exact hs.keep _ _ (by decide) (by decide)
    · have h7 : S 7 = false := by
        cases h : S 7 with
        | false => rfl
        | true => have := hs.o (hs.d h).1.2; rw [hl] at this; cases this
      have r0 : w9.cell? ⟨bF, 0, none⟩ = some (.string (bs N)) := by rw [(bcell (hs.a h7)).1 _ _ hlt]; exact cF0
      have r1 : w9.cell? ⟨bF, 1, none⟩ = some (.string (bs V)) := by rw [(bcell (hs.a h7)).1 _ _ hlt]; exact cF1
      clear hp
      go_simp
      with_reducible refine hK _ ?_
      exact hs.keep _ _ (by decide) (by decide)
    · have h7 : S 7 = false := by
        cases h : S 7 with
        | false => rfl
        | true => have := (hs.d h).1.2; rw [hl] at this; cases this
      have h5 : S 5 = true := allL_mem hp 5 (by decide +kernel)
      clear hp
      go_simp
      with_reducible refine hK _ _ ?_
      have hs9 := (hs.a h7).size
      refine ⟨fun _ => (hs.a h7).alloc hs9 _, fun _ => by simp [setL, h5], fun _ _ => ⟨w9.heap.size, by simp [updV], cells_new1 w9 (bs N) (bs V) _⟩, fun h => ?_⟩
      simp [setL, h7] at h
    · have h4 : S 4 = true := allL_mem hp 4 (by decide +kernel)
      have h6 : S 6 = true := allL_mem hp 6 (by decide +kernel)
      obtain ⟨b9, hx9, hc9⟩ := hs.b h6 hl
      have hd9 := HD0.out.below (hs.a hl)
      have hu9 := HU0.out.below (hs.a hl)
      clear hp
      rw [hx9] at hK ⊢
      rw [if_pos (by rfl)]
      refine wp_append_at w9 _ _ 31 rfl 0 62 i0 (.agg #[.string ⟨#[]⟩, .string ⟨#[]⟩]) 2 32 Tryz.underlying31 hi hz0 hz1 hz2 rfl (by decide) _ _ _ rfl hd9.ro ⟨b9, 0, none⟩ 1 1 [.string (bs N), .string (bs V)] rfl rfl hc9 (by intro u hu; simp at hu; rcases hu with rfl | rfl <;> rfl) (by unfold maxLen; omega) (by omega) (Nat.zero_le _) ?_
      intro v' w1 hown1 hgrow hat
      rw [cellsF_snoc] at hown1
      obtain ⟨va, vc, hv⟩ := own_slice hown1
      have hown2 := own_len hown1 (show fs.length + 1 = (fs ++ [(N, V)]).length by simp)
      obtain ⟨q1, q2, q3, _⟩ := hd9.grewR hgrow rfl hat hu9 hown2
      simp only [Act.put, List.setIfInBounds_toArray, List.set_cons_zero, List.set_cons_succ]
      with_reducible refine hK _ _ ?_
      refine ⟨fun h => ?_, fun _ => ?_, fun _ h => ?_, fun _ => ⟨⟨by simp [setL, h4], by simp [setL, h6]⟩, by simpa [updV] using q1, q2, by simpa [updV] using (Keep.of_below (hs.a hl)).trans q3, va, vc, by simpa [updV] using hv⟩⟩
      · simp [setL] at h
      · have := hs.o h6
        simp [setL, this]
      · simp [setL] at h
  intro S x w9 hS hL
  have hs : AddS G T rest w0 g L H C B st f fs sz cur cr e rv ln N V S x w9 := hS
  obtain ⟨_, q1, q2, q3, va, vc, hv⟩ := hs.d (hL 7 (by decide))
  have c6 : w9.cell? ⟨g, 7, none⟩ = some rv := (q2.cell 7).trans (by simp [heCells, heL])
  have f6 := q2.free 7
  rw [hv] at q1 q3
  have HQ1 := Lib.hid q1
  have HQ3 := Lib.hid (HB0.out.trans q3)
  clear hS hL hs q1 q2 q3 HD0 HU0 HB0 cF0 cF1 hlt hi hz0 hz1 hz2
  simp only [actMix, pickV, List.tail_cons, List.headD_cons, Act.put, List.setIfInBounds_toArray, List.set_cons_zero, List.set_cons_succ, List.replicate_succ, List.replicate_zero, List.drop_succ_cons, List.drop_zero, List.take_succ_cons, List.take_zero]
  rw [hv]
  clear hv
  go_upto_region 2 with fail
  clear c6 f6
  generalize w9.setCell ⟨g, 7, none⟩ (.slice va (fs.length + 1) vc) = w2 at *
  have c7 := HQ1.out.c.2.2.2.2.2.2.2.1
  have f7 := HQ1.out.row.free 8
  have HQ2 : Hid (HeAt G T rest (w2.setCell ⟨g, 8, none⟩ (.int .i64 ((sz + (s.size + 2) : Nat) : Int))) g L H C B st f (fs ++ [(N, V)]) (sz + (s.size + 2)) cur cr e (.slice va (fs.length + 1) vc) ln) := HQ1.out.set7 _
  have HQ4 := Lib.hid (HQ3.out.trans (Keep.setCell w2 (p := ⟨g, 8, none⟩) HQ1.out.gG (.int .i64 ((sz + (s.size + 2) : Nat) : Int))))
  obtain ⟨z, hz⟩ : ∃ z, z = sz + (s.size + 2) := ⟨_, rfl⟩
  have hzi : (sz : Int) + ((s.size : Int) + 2) = (z : Int) := by omega
  rw [hzi] at hE
  rw [← hz] at HQ2 HQ4
  have HZ := Lib.hid hz
  have hzz : z ≤ 1000000002 := by omega
  clear HQ1 HQ3 hz
  go_upto_region 3 with fail
  clear c7 f7
  generalize w2.setCell ⟨g, 8, none⟩ (.int .i64 (z : Int)) = w3 at *
  obtain ⟨c0, c1, c2, c3, c4, c5, c6, c7, c8, c9, c10⟩ := HQ2.out.c
  clear c0 c3 c4 c5 c8 c9 c10
  have HF := Lib.hid (fun (W : World) (x : Int) (h : He G T rest W g L H C B st f (fs ++ [(N, V)]) z cur cr e) => hfail40 G T rest g L H C B st f (fs ++ [(N, V)]) z cur cr e x W h)
  have DN : ∀ k, Below w3.heap.size w3 (w3.drewN k) := fun k => ⟨rfl, rfl, rfl, Nat.le_refl _, fun _ _ => rfl⟩
  have HDN := Lib.hid DN
  clear DN
  have hfl2 : ((fs.length + 1 : Nat) : Int) = (fs.length : Int) + 1 := by omega
  by_cases ha : H < (z : Int)
  · rw [if_pos (.inl ha)] at hE
    subst hE
    have h1 : decide (H < (z : Int)) = true := decide_eq_true ha
    go_quiet (fail)
    go_wp2_with fail
    with_reducible refine (HF.out _ _ (HQ2.out.below (HDN.out _)).he).mono ?_
    rintro e9 w' ⟨rfl, hd, hk⟩
    go_wp2_with fail
    go_end0
    exact ⟨rfl, hd, (HQ4.out.trans (.of_below (HDN.out _))).trans hk⟩
  · by_cases hb : C < (fs.length : Int) + 1
    · rw [if_pos (.inr hb)] at hE
      subst hE
      have h1 : decide (H < (z : Int)) = false := decide_eq_false ha
      have h2 : decide (C < (fs.length : Int) + 1) = true := decide_eq_true hb
      go_quiet (fail)
      go_wp2_with fail
      with_reducible refine (HF.out _ _ (HQ2.out.below (HDN.out _)).he).mono ?_
      rintro e9 w' ⟨rfl, hd, hk⟩
      go_wp2_with fail
      go_end0
      exact ⟨rfl, hd, (HQ4.out.trans (.of_below (HDN.out _))).trans hk⟩
    · rw [if_neg (by rintro (h | h); (· exact ha h); (· exact hb h))] at hE
      subst hE
      have h1 : decide (H < (z : Int)) = false := decide_eq_false ha
      have h2 : decide (C < (fs.length : Int) + 1) = false := decide_eq_false hb
      rcases he1 with rfl | rfl
      · go_quiet (fail)
        go_wp2_with fail
        go_end0
        rw [← HZ.out]
        exact ⟨rfl, (HQ2.out.below (HDN.out _)).he, HQ4.out.trans (.of_below (HDN.out _))⟩
      · skip
        go_quiet (fail)
        go_wp2_with fail
        with_reducible refine (HF.out _ _ (HQ2.out.below (HDN.out _)).he).mono ?_
        rintro e9 w' ⟨rfl, hd, hk⟩
        go_wp2_with fail
        go_end0
        exact ⟨rfl, hd, (HQ4.out.trans (.of_below (HDN.out _))).trans hk⟩
end Go.Proofs.YtbbphklhnngjmaaGreatDoor.R

/- response: the head at offset 1 of its block (written by genoff.py out of XHeD.lean). -/
namespace Go.Proofs.YtbbphklhnngjmaaGreatDoor.R
open Go.RowKit
set_option maxRecDepth 100000 in
set_option maxHeartbeats 2000000 in
/-- The first line's end. -/
theorem hend0 (G : Nat → Prop) (T : TypeId) (rest : List Value) (g : Nat) (L H C B : Int) (f : ByteArray) (fs : List Fld) (sz : Nat) (cur : List UInt8) (cr : Bool) (e : Int) (w : World) (h : He G T rest w g L H C B 0 f fs sz cur cr e) :
    Calls Tryz.prog 147 #[.pointer (some ⟨g, 1, none⟩)] w fun r w' => r = .returned (.tuple #[]) ∧ He G T rest w' g L H C B 1 (bs cur) fs sz [] false e ∧ Keep G w w' := by
  obtain ⟨rv, ln, h⟩ := h
  obtain ⟨c0, c1, c2, c3, c4, c5, c6, c7, c8, c9, c10⟩ := h.c
  have f4 := h.row.free 5
  have f5 := h.row.free 6
  have f8 := h.row.free 9
  have f9 := h.row.free 10
  have hcv := own_string w 0 _ _ h.lo
  obtain ⟨la, lc, rfl⟩ := own_slice h.lo
  have HD := Lib.hid h
  have HD1 : Hid (HeAt G T rest ((w.setCell ⟨g, 9, none⟩ (.slice la 0 lc)).setCell ⟨g, 10, none⟩ (.bool false)) g L H C B 0 f fs sz [] false e rv (.slice la 0 lc)) :=
    (h.set8 (own_zeroH h.lo) (fun j hj => h.lG j ((own_anyH la lc cur.length 0).trans hj))).set9 false
  have K : ∀ (v : World) (i : Nat) (u : Value), Keep G v (v.setCell ⟨g, i, none⟩ u) := fun v i u => Keep.setCell v (p := ⟨g, i, none⟩) HD.out.gG u
  have HK := Lib.hid K
  obtain ⟨x, hx⟩ : ∃ x, x = (⟨cur.toArray⟩ : ByteArray) := ⟨_, rfl⟩
  rw [← hx] at hcv
  have hxb : x = bs cur := hx
  have HX := Lib.hid hxb
  have HR : Hid (HeAt G T rest ((((w.setCell ⟨g, 9, none⟩ (.slice la 0 lc)).setCell ⟨g, 10, none⟩ (.bool false)).setCell ⟨g, 6, none⟩ (.string x)).setCell ⟨g, 5, none⟩ (.int .i64 1)) g L H C B 1 x fs sz [] false e rv (.slice la 0 lc)) := (HD1.out.set5 x).set4 1
  clear h K c0 c1 c2 c3 c6 c7 c10 hx hxb HD1
  go_enter Tryz.func147, Tryz.ntmps147
  go_wp2_with fail
  go_end0
  rw [← HX.out]
  exact ⟨rfl, HR.out.he, (((HK.out _ _ _).trans (HK.out _ _ _)).trans (HK.out _ _ _)).trans (HK.out _ _ _)⟩
set_option maxRecDepth 100000 in
set_option maxHeartbeats 2000000 in
/-- The empty line's end. -/
theorem hend1 (G : Nat → Prop) (T : TypeId) (rest : List Value) (g : Nat) (L H C B : Int) (f : ByteArray) (fs : List Fld) (sz : Nat) (cur : List UInt8) (cr : Bool) (e : Int) (h0 : cur = []) (w : World) (h : He G T rest w g L H C B 1 f fs sz cur cr e) :
    Calls Tryz.prog 147 #[.pointer (some ⟨g, 1, none⟩)] w fun r w' => r = .returned (.tuple #[]) ∧ He G T rest w' g L H C B 2 f fs sz [] false e ∧ Keep G w w' := by
  obtain ⟨rv, ln, h⟩ := h
  obtain ⟨c0, c1, c2, c3, c4, c5, c6, c7, c8, c9, c10⟩ := h.c
  have f4 := h.row.free 5
  have f5 := h.row.free 6
  have f8 := h.row.free 9
  have f9 := h.row.free 10
  have hcv := own_string w 0 _ _ h.lo
  obtain ⟨la, lc, rfl⟩ := own_slice h.lo
  have HD := Lib.hid h
  have HD1 : Hid (HeAt G T rest ((w.setCell ⟨g, 9, none⟩ (.slice la 0 lc)).setCell ⟨g, 10, none⟩ (.bool false)) g L H C B 1 f fs sz [] false e rv (.slice la 0 lc)) :=
    (h.set8 (own_zeroH h.lo) (fun j hj => h.lG j ((own_anyH la lc cur.length 0).trans hj))).set9 false
  have K : ∀ (v : World) (i : Nat) (u : Value), Keep G v (v.setCell ⟨g, i, none⟩ u) := fun v i u => Keep.setCell v (p := ⟨g, i, none⟩) HD.out.gG u
  have HK := Lib.hid K
  obtain ⟨x, hx⟩ : ∃ x, x = (⟨cur.toArray⟩ : ByteArray) := ⟨_, rfl⟩
  rw [← hx] at hcv
  have hxe : x = ⟨#[]⟩ := by rw [hx, h0]
  have HR : Hid (HeAt G T rest (((w.setCell ⟨g, 9, none⟩ (.slice la 0 lc)).setCell ⟨g, 10, none⟩ (.bool false)).setCell ⟨g, 5, none⟩ (.int .i64 2)) g L H C B 2 f fs sz [] false e rv (.slice la 0 lc)) := HD1.out.set4 2
  clear h K c0 c1 c2 c3 c6 c7 c10 HD1
  subst hxe
  clear hx h0
  go_enter Tryz.func147, Tryz.ntmps147
  go_wp2_with fail
  go_end0
  exact ⟨rfl, HR.out.he, ((HK.out _ _ _).trans (HK.out _ _ _)).trans (HK.out _ _ _)⟩
set_option maxRecDepth 100000 in
set_option maxHeartbeats 2000000 in
/-- A field line's end. -/
theorem hend2 (G : Nat → Prop) (T : TypeId) (rest : List Value) (g : Nat) (L H C B : Int) (f : ByteArray) (fs : List Fld) (sz : Nat) (cur : List UInt8) (cr : Bool) (e : Int) (h0 : cur ≠ []) (N V : List UInt8) (e1 E : Int) (he1 : e1 = 0 ∨ e1 = 2) (hp : parseV cur = .tuple #[fldV (N, V), .int .i64 e1])
    (hE : E = if H < (sz : Int) + ((cur.length : Int) + 2) ∨ C < (fs.length : Int) + 1 then 4 else e1) (hsz : sz + cur.length ≤ 1000000000) (hfl : fs.length ≤ 1000000000) (w : World) (h : He G T rest w g L H C B 1 f fs sz cur cr e) (hu : Up G w) (hM : ∀ w', Keep G w w' → MaxL w') :
    Calls Tryz.prog 147 #[.pointer (some ⟨g, 1, none⟩)] w fun r w' => r = .returned (.tuple #[]) ∧ EndTo E (He G T rest w' g L H C B 1 f (fs ++ [(N, V)]) (sz + (cur.length + 2)) [] false e) (He G T rest w' g 0 0 0 0 3 ⟨#[]⟩ [] 0 [] false E) ∧ Keep G w w' := by
  obtain ⟨rv, ln, h⟩ := h
  obtain ⟨c0, c1, c2, c3, c4, c5, c6, c7, c8, c9, c10⟩ := h.c
  have f4 := h.row.free 5
  have f5 := h.row.free 6
  have f8 := h.row.free 9
  have f9 := h.row.free 10
  have hcv := own_string w 0 _ _ h.lo
  obtain ⟨la, lc, rfl⟩ := own_slice h.lo
  have HD := Lib.hid h
  have HD1 : Hid (HeAt G T rest ((w.setCell ⟨g, 9, none⟩ (.slice la 0 lc)).setCell ⟨g, 10, none⟩ (.bool false)) g L H C B 1 f fs sz [] false e rv (.slice la 0 lc)) :=
    (h.set8 (own_zeroH h.lo) (fun j hj => h.lG j ((own_anyH la lc cur.length 0).trans hj))).set9 false
  have K : ∀ (v : World) (i : Nat) (u : Value), Keep G v (v.setCell ⟨g, i, none⟩ u) := fun v i u => Keep.setCell v (p := ⟨g, i, none⟩) HD.out.gG u
  have HK := Lib.hid K
  obtain ⟨x, hx⟩ : ∃ x, x = (⟨cur.toArray⟩ : ByteArray) := ⟨_, rfl⟩
  rw [← hx] at hcv
  have hxb : x = bs cur := hx
  have hxz : x.size = cur.length := by rw [hxb, bs_size]
  have hxl : x.data.toList = cur := by rw [hxb, bs_list]
  have hne : 0 < x.size := by rw [hxz]; exact List.length_pos_iff.2 h0
  have e1' := emp_false x hne
  have hk2 : Keep G w ((w.setCell ⟨g, 9, none⟩ (.slice la 0 lc)).setCell ⟨g, 10, none⟩ (.bool false)) := (K _ _ _).trans (K _ _ _)
  have HA := Lib.hid (hadd61 G T rest g L H C B 1 f fs sz [] false e x N V e1 E he1 (by rw [hxl]; exact hp) (by rw [hxz]; exact hE) (by rw [hxz]; exact hsz) hfl _ HD1.out.he (hu.keep hk2) (hM _ hk2))
  rw [hxz] at HA
  have HK2 := Lib.hid hk2
  clear h K c0 c1 c2 c3 c6 c7 c10 HD1 hx hxb hxz hxl h0 hp hE hu hM hk2 he1 HK HD
  go_enter Tryz.func147, Tryz.ntmps147
  go_wp2_with fail
  with_reducible refine HA.out.mono ?_
  rintro e9 w9 ⟨rfl, hd, hk⟩
  have HD9 : Hid (EndTo E (He G T rest w9 g L H C B 1 f (fs ++ [(N, V)]) (sz + (cur.length + 2)) [] false e) (He G T rest w9 g 0 0 0 0 3 ⟨#[]⟩ [] 0 [] false E)) := hd
  clear hd
  go_wp2_with fail
  go_end0
  exact ⟨rfl, HD9.out, HK2.out.trans hk⟩
end Go.Proofs.YtbbphklhnngjmaaGreatDoor.R

