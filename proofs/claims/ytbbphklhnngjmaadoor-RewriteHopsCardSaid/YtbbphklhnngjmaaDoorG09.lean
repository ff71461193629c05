/- Packed: RwB, Keep, RwD, TabsR, RwE, RwC, LawRwH, FldsO. -/
import Derived.Deep.Cut
import Derived.Deep.SlicePairs
import Derived.Deep.MidRow
import Derived.WideKeyArgs
import Derived.DataReads
import Derived.Test.YtbbphklhnngjmaaDoorG02
import Derived.Test.YtbbphklhnngjmaaDoorG06
import Derived.Test.YtbbphklhnngjmaaDoorG07
import Derived.Test.YtbbphklhnngjmaaDoorG08
/- rewrite: slices.DeleteFunc of texts; hopNames, Hops. -/
namespace Go.Proofs.YtbbphklhnngjmaaDoor
open Go.RowKit

theorem own_openS {w : World} {base : Nat} {v : Value} {ys : List ByteArray} (h : w.ownsRow base 9 1 v ys.length (ys.map Value.string)) :
    (v = .slice none 0 0 ∧ ys = []) ∨ ∃ g cap, v = .slice (some ⟨g, 0, none⟩) ys.length cap ∧ base ≤ g ∧ ys.length ≤ cap ∧ Open1 w g ys.length ∧ ∀ (k : Nat) x, ys[k]? = some x → StrAt w g k x := by
  obtain ⟨_, ⟨rfl, h0⟩ | ⟨g, cap, cur, rfl, hbg, hg, hcap, _, hcs, htk⟩⟩ := h
  · exact .inl ⟨rfl, List.eq_nil_of_length_eq_zero h0⟩
  · refine .inr ⟨g, cap, rfl, hbg, hcap, ⟨(Array.getElem?_eq_some_iff.1 hg).1, fun k hk => ?_⟩, fun k f hf => ?_⟩
    · have hks : k < cur.size := by omega
      exact ⟨by simp [World.cell?, hg, hks], by simp [World.frozen?, hg]⟩
    · have hj := (List.getElem?_eq_some_iff.1 hf).1
      have g1 : (ys.map Value.string)[k]? = some (.string f) := by rw [List.getElem?_map, hf]; rfl
      rw [← htk, List.getElem?_take, if_pos (by omega)] at g1
      simp only [Array.getElem?_toList] at g1
      unfold StrAt
      simp [World.cell?, hg, g1]
set_option maxRecDepth 1000000 in
set_option maxHeartbeats 4000000 in
theorem delete106_nil (w : World) :
    Calls Tryd.prog 23 #[.slice none 0 0, staysV] w fun e w' => e = .returned (.slice none 0 0) ∧ Below w.heap.size w w' := by
  have HI := Lib.hid (index125 none 0 [] (by simp) w (.inl rfl))
  have e0 : findS [] = -1 := rfl
  rw [e0] at HI
  obtain ⟨V, hV⟩ : ∃ V, V = staysV := ⟨_, rfl⟩
  rw [← hV] at HI ⊢
  clear hV e0
  go_enter Tryd.func23, Tryd.ntmps23
  go_wp2_with fail
  refine HI.out.mono ?_
  rintro e w1 ⟨rfl, hb1⟩
  go_wp2_with fail
  go_ret
  exact ⟨rfl, hb1⟩
set_option maxRecDepth 1000000 in
set_option maxHeartbeats 4000000 in
theorem delete106 (w0 : World) (g cap : Nat) (fs : List ByteArray) (hfl : fs.length ≤ 1000000000) (hg : w0.heap.size ≤ g) (hcap : fs.length ≤ cap)
    (w : World) (hbl : Below w0.heap.size w0 w) (hop : Open1 w g fs.length) (hp : ∀ (k : Nat) f, fs[k]? = some f → StrAt w g k f) :
    Calls Tryd.prog 23 #[.slice (some ⟨g, 0, none⟩) fs.length cap, staysV] w fun e w' =>
      e = .returned (.slice (some ⟨g, 0, none⟩) (goes fs).length cap) ∧ IsStrs w' (some ⟨g, 0, none⟩) cap (goes fs) ∧ Below w0.heap.size w0 w' := by
  have hif : IsStrs w (some ⟨g, 0, none⟩) cap fs := .inr ⟨g, 0, rfl, hop.1, hcap, fun j f hf => by rw [Nat.zero_add]; exact hp j f hf⟩
  have HI := Lib.hid (index125 (some ⟨g, 0, none⟩) cap fs hfl w hif)
  obtain ⟨V, hV⟩ : ∃ V, V = staysV := ⟨_, rfl⟩
  rw [← hV] at HI ⊢
  have HV := Lib.hid hV
  have HOP := Lib.hid hop
  have HP := Lib.hid hp
  clear hV hop hp hif
  rcases findS_cases fs with ⟨hi, hno⟩ | ⟨i, hil, hi, hyes, hno⟩
  · rw [hi] at HI
    have hd := goes_none hno
    have HD := Lib.hid hd
    rw [hd]
    clear hi hno hd
    go_enter Tryd.func23, Tryd.ntmps23
    go_wp2_with fail
    refine HI.out.mono ?_
    rintro e w1 ⟨rfl, hb1⟩
    go_wp2_with fail
    go_ret
    refine ⟨rfl, ?_, hbl.trans (hb1.mono hbl.size)⟩
    have : IsStrs w (some ⟨g, 0, none⟩) cap fs := .inr ⟨g, 0, rfl, HOP.out.1, hcap, fun j f hf => by rw [Nat.zero_add]; exact HP.out j f hf⟩
    exact this.below hb1
  · rw [hi] at HI
    have ht : goes (fs.take (i + 1)) = fs.take i := by rw [goes_drop hil hyes, goes_none hno]
    have hl : i = (goes (fs.take (i + 1))).length := by rw [ht, List.length_take]; omega
    have HT := Lib.hid ht
    have HL := Lib.hid hl
    have i1 : ((i : Int) == -1) = false := beq_eq_false_iff_ne.2 (by omega)
    clear hi hno hyes ht hl
    go_enter Tryd.func23, Tryd.ntmps23
    go_wp2_with fail
    refine HI.out.mono ?_
    rintro e w1 ⟨rfl, hb1⟩
    have b1 := hbl.trans (hb1.mono hbl.size)
    have O1 : Hid (Open1 w1 g fs.length) := HOP.out.below hb1
    have P1 : Hid (∀ (k : Nat) f, fs[k]? = some f → StrAt w1 g k f) := fun k f hf => (HP.out k f hf).below hb1 HOP.out.1
    go_wp2_with fail
    clear i1 hbl hb1
    go_loopw [5, 6] (fun vi vj wr => ∃ i j : Nat, vi = .int .i64 (i : Int) ∧ vj = .int .i64 (j : Int) ∧ i < j ∧ j ≤ fs.length ∧ Hid (i = (goes (fs.take j)).length) ∧ Hid (Open1 wr g fs.length) ∧ Hid (∀ (k : Nat) f, (goes (fs.take j))[k]? = some f → StrAt wr g k f) ∧ Hid (∀ (k : Nat) f, j ≤ k → fs[k]? = some f → StrAt wr g k f) ∧ Below w0.heap.size w0 wr)
      (fun _ vj _ => fs.length - (intOf vj).toNat)
    case atStart =>
      refine ⟨i, i + 1, rfl, by first | rfl | go_num, by omega, by omega, HL, O1, ?_, fun k f _ hf => P1.out k f hf, b1⟩
      show ∀ _ _, _
      rw [HT.out]
      intro k f hf
      rw [List.getElem?_take] at hf
      split at hf
      · exact P1.out k f hf
      · cases hf
    case round =>
      clear O1 P1 b1 HL HT hil HI HOP HP
      obtain ⟨i, j, rfl, rfl, hij, hj, hlen, hO, hK, hS, hb⟩ := hrel
      by_cases hlt : j < fs.length
      · have c1 : StrAt wr g j fs[j] := hS.out j fs[j] (Nat.le_refl _) (by simp [hlt])
        have hgl := hO.out.1
        obtain ⟨q, hq⟩ : ∃ q, q = stayB fs[j] := ⟨_, rfl⟩
        obtain ⟨f, hfe⟩ : ∃ f, f = fs[j] := ⟨_, rfl⟩
        have HKeep : Hid (q = false → goes (fs.take (j + 1)) = goes (fs.take j) ++ [f]) := fun e => by rw [hfe]; exact goes_keep hlt (hq ▸ e)
        have HDrop : Hid (q = true → goes (fs.take (j + 1)) = goes (fs.take j)) := fun e => goes_drop hlt (hq ▸ e)
        rw [← hfe] at c1 hq
        clear hfe
        have HC := Lib.hid (fun W => stays104 f q hq W)
        clear hq
        unfold StrAt at c1
        have j1 : (j : Int) < fs.length := by omega
        rw [HV.out]
        unfold staysV
        go_wp2_with fail
        refine (HC.out _).mono ?_
        rintro e w2 ⟨rfl, hb2⟩
        have b2 := hb.trans (hb2.mono hb.size)
        have O2 : Hid (Open1 w2 g fs.length) := hO.out.below hb2
        have K2 : Hid (∀ (k : Nat) f, (goes (fs.take j))[k]? = some f → StrAt w2 g k f) := fun k f hf => (hK.out k f hf).below hb2 hgl
        have S2 : Hid (∀ (k : Nat) f, j ≤ k → fs[k]? = some f → StrAt w2 g k f) := fun k f hk hf => (hS.out k f hk hf).below hb2 hgl
        clear hb2 hO hK hS c1 HC hb
        cases q
        · have HK3 := Lib.hid (HKeep.out rfl)
          clear HKeep HDrop
          obtain ⟨u0, hu0⟩ := Option.isSome_iff_exists.1 (O2.out.2 i (by omega)).1
          have z0 := (O2.out.2 i (by omega)).2
          have ii : (i : Int) < fs.length := by omega
          have hput := StrAt.put O2.out (show i < fs.length by omega) f
          have O3 : Hid (Open1 (w2.setCell ⟨g, i, none⟩ (.string f)) g fs.length) := O2.out.set _ _
          have hl3 : Hid (i + 1 = (goes (fs.take (j + 1))).length) := by
            show i + 1 = _
            rw [HK3.out, List.length_append, ← hlen.out]; rfl
          have K3 : Hid (∀ (k : Nat) f', (goes (fs.take (j + 1)))[k]? = some f' → StrAt (w2.setCell ⟨g, i, none⟩ (.string f)) g k f') := by
            intro k f' hf
            rw [HK3.out] at hf
            by_cases hk : k < i
            · rw [List.getElem?_append_left (by rw [← hlen.out]; exact hk)] at hf
              exact (K2.out k f' hf).set _ _ (by omega)
            · rw [List.getElem?_append_right (by rw [← hlen.out]; omega), ← hlen.out] at hf
              have hk0 : k - i = 0 := by
                have := (List.getElem?_eq_some_iff.1 hf).1
                simp at this
                omega
              rw [hk0] at hf
              obtain rfl : f = f' := by simpa using hf
              obtain rfl : k = i := by omega
              exact hput
          have S3 : Hid (∀ (k : Nat) f', j + 1 ≤ k → fs[k]? = some f' → StrAt (w2.setCell ⟨g, i, none⟩ (.string f)) g k f') := fun k f' hk hf =>
            (S2.out k f' (by omega) hf).set _ _ (by omega)
          have b3 := b2.setCell (p := ⟨g, i, none⟩) hg (.string f)
          clear hput O2 K2 S2 hlen HK3
          go_wp2_with fail
          go_roundw
          case rel => exact ⟨i + 1, j + 1, by go_num, by go_num, by omega, hlt, hl3, O3, K3, S3, b3⟩
          case measure => simp [intOf]; omega
        · have HD3 := Lib.hid (HDrop.out rfl)
          clear HKeep HDrop
          have hl3 : Hid (i = (goes (fs.take (j + 1))).length) := by show i = _; rw [HD3.out]; exact hlen.out
          have K3 : Hid (∀ (k : Nat) f, (goes (fs.take (j + 1)))[k]? = some f → StrAt w2 g k f) := by
            intro k f hf
            rw [HD3.out] at hf
            exact K2.out k f hf
          have S3 : Hid (∀ (k : Nat) f, j + 1 ≤ k → fs[k]? = some f → StrAt w2 g k f) := fun k f hk hf => S2.out k f (by omega) hf
          clear K2 S2 hlen HD3
          go_wp2_with fail
          go_roundw
          case rel => exact ⟨i, j + 1, rfl, by go_num, by omega, hlt, hl3, O2, K3, S3, b2⟩
          case measure => simp [intOf]; omega
      · obtain rfl : j = fs.length := by omega
        have hK2 := hK.out
        have hl2 := hlen.out
        rw [List.take_of_length_le (Nat.le_refl _)] at hK2 hl2
        have hclr := run_clear1 wr 0 g i (fs.length - i) (cap - i) (by omega) (fun k hk => (hO.out.2 _ (by omega)).1) (fun k hk => (hO.out.2 _ (by omega)).2)
        have HKK := Lib.hid hK2
        have HLL := Lib.hid hl2
        have ii : (i : Int) ≤ fs.length := by omega
        have ic : (i : Int) ≤ cap := by omega
        have i00 : (0 : Int) ≤ i := by omega
        have hcc : (fs.length : Int) ≤ cap := by omega
        have hgl := hO.out.1
        have hbz : Below w0.heap.size w0 (wr.setCells g i (Builtin.zeroCells #[.string ⟨#[]⟩] (fs.length - i)).toList) := below_setCells g hg _ _ _ hb
        clear hK2 hl2 hK hlen hS
        have hsz : g < (wr.setCells g i (Builtin.zeroCells #[.string ⟨#[]⟩] (fs.length - i)).toList).heap.size := Nat.lt_of_lt_of_le (Nat.lt_of_lt_of_le hgl (Nat.le_of_eq (size_setCells g _ _ _).symm)) (Nat.le_refl _)
        go_wp2_with fail
        go_ret
        refine ⟨by rw [← HLL.out]; rfl, ?_, hbz⟩
        have hcl : (goes fs).length ≤ cap := by have := HLL.out; omega
        refine .inr ⟨g, 0, rfl, hsz, hcl, fun k f hf => ?_⟩
        have hki : k < i := by have := (List.getElem?_eq_some_iff.1 hf).1; have := HLL.out; omega
        have p0 := HKK.out k f hf
        rw [Nat.zero_add]
        rw [cell_setCells_before g _ _ _ _ (by omega)]; exact p0
theorem goes_len (xs : List ByteArray) : (goes xs).length ≤ xs.length := List.length_filter_le _ _
theorem hopP_row {w : World} {B : Nat} {v : Value} {ts : List ByteArray} {n : Nat} (hn : n = (goes ts).length) (h : w.ownsRow B 9 1 v (9 + n) (nineP.map Value.string ++ (goes ts).map Value.string)) : ∃ b d, v = .slice b (hopP ts).length d ∧ IsStrs w b d (hopP ts) := by
  have e : 9 + n = (hopP ts).length := by unfold hopP; rw [List.length_append, hn]; rfl
  have e2 : nineP.map Value.string ++ (goes ts).map Value.string = (hopP ts).map Value.string := by unfold hopP; rw [List.map_append]
  rw [e, e2] at h
  obtain ⟨b, d, h1, h2, _⟩ := own_isStrsB h
  exact ⟨b, d, h1, h2⟩
set_option maxRecDepth 1000000 in
set_option maxHeartbeats 4000000 in
theorem hopNames79 (a : Option Addr) (c : Nat) (fs : List Fld) (hfl : fs.length ≤ 1000000) (hok : ∀ f ∈ fs, FldOk f) (hsum : sumS (allB connB fs) ≤ 1000000000) (w : World) (hM : MaxL w) (hf : IsFlds w a c fs) :
    Calls Tryd.prog 13 #[.slice a fs.length c] w fun e w' => ∃ b d, e = .returned (.slice b (hopP (bsOf (tokF connB fs))).length d) ∧ IsStrs w' b d (hopP (bsOf (tokF connB fs))) ∧ Below w.heap.size w w' := by
  obtain ⟨i0, hi, hz0, hz1, hz2⟩ := info_parts info9
  have HT := Lib.hid (fun W hM h => tokens52 a c fs connB hfl hok hsum W hM h)
  rw [show connB = ⟨#[67, 111, 110, 110, 101, 99, 116, 105, 111, 110]⟩ from rfl] at HT
  have htl := tokF_len connB fs
  have L0 := Lib.hid (below_alloc w (.cells #[.string ⟨#[67, 111, 110, 110, 101, 99, 116, 105, 111, 110]⟩, .string ⟨#[75, 101, 101, 112, 45, 65, 108, 105, 118, 101]⟩, .string ⟨#[80, 114, 111, 120, 121, 45, 67, 111, 110, 110, 101, 99, 116, 105, 111, 110]⟩, .string ⟨#[80, 114, 111, 120, 121, 45, 65, 117, 116, 104, 101, 110, 116, 105, 99, 97, 116, 101]⟩, .string ⟨#[80, 114, 111, 120, 121, 45, 65, 117, 116, 104, 111, 114, 105, 122, 97, 116, 105, 111, 110]⟩, .string ⟨#[84, 69]⟩, .string ⟨#[84, 114, 97, 105, 108, 101, 114]⟩, .string ⟨#[84, 114, 97, 110, 115, 102, 101, 114, 45, 69, 110, 99, 111, 100, 105, 110, 103]⟩, .string ⟨#[85, 112, 103, 114, 97, 100, 101]⟩] 9))
  have O0 : Hid ((w.alloc (.cells #[.string ⟨#[67, 111, 110, 110, 101, 99, 116, 105, 111, 110]⟩, .string ⟨#[75, 101, 101, 112, 45, 65, 108, 105, 118, 101]⟩, .string ⟨#[80, 114, 111, 120, 121, 45, 67, 111, 110, 110, 101, 99, 116, 105, 111, 110]⟩, .string ⟨#[80, 114, 111, 120, 121, 45, 65, 117, 116, 104, 101, 110, 116, 105, 99, 97, 116, 101]⟩, .string ⟨#[80, 114, 111, 120, 121, 45, 65, 117, 116, 104, 111, 114, 105, 122, 97, 116, 105, 111, 110]⟩, .string ⟨#[84, 69]⟩, .string ⟨#[84, 114, 97, 105, 108, 101, 114]⟩, .string ⟨#[84, 114, 97, 110, 115, 102, 101, 114, 45, 69, 110, 99, 111, 100, 105, 110, 103]⟩, .string ⟨#[85, 112, 103, 114, 97, 100, 101]⟩] 9)).ownsRow w.heap.size 9 1 (.slice (some ⟨w.heap.size, 0, none⟩) 9 9) 9 (nineP.map Value.string)) := World.ownsRow_lit w #[.string ⟨#[67, 111, 110, 110, 101, 99, 116, 105, 111, 110]⟩, .string ⟨#[75, 101, 101, 112, 45, 65, 108, 105, 118, 101]⟩, .string ⟨#[80, 114, 111, 120, 121, 45, 67, 111, 110, 110, 101, 99, 116, 105, 111, 110]⟩, .string ⟨#[80, 114, 111, 120, 121, 45, 65, 117, 116, 104, 101, 110, 116, 105, 99, 97, 116, 101]⟩, .string ⟨#[80, 114, 111, 120, 121, 45, 65, 117, 116, 104, 111, 114, 105, 122, 97, 116, 105, 111, 110]⟩, .string ⟨#[84, 69]⟩, .string ⟨#[84, 114, 97, 105, 108, 101, 114]⟩, .string ⟨#[84, 114, 97, 110, 115, 102, 101, 114, 45, 69, 110, 99, 111, 100, 105, 110, 103]⟩, .string ⟨#[85, 112, 103, 114, 97, 100, 101]⟩] 9 (Nat.le_refl _) (by decide) (by simp)
  have F0 := Lib.hid (hf.below L0.out)
  have M0 := Lib.hid (hM.below L0.out)
  have hs0 : (w.alloc (.cells #[.string ⟨#[67, 111, 110, 110, 101, 99, 116, 105, 111, 110]⟩, .string ⟨#[75, 101, 101, 112, 45, 65, 108, 105, 118, 101]⟩, .string ⟨#[80, 114, 111, 120, 121, 45, 67, 111, 110, 110, 101, 99, 116, 105, 111, 110]⟩, .string ⟨#[80, 114, 111, 120, 121, 45, 65, 117, 116, 104, 101, 110, 116, 105, 99, 97, 116, 101]⟩, .string ⟨#[80, 114, 111, 120, 121, 45, 65, 117, 116, 104, 111, 114, 105, 122, 97, 116, 105, 111, 110]⟩, .string ⟨#[84, 69]⟩, .string ⟨#[84, 114, 97, 105, 108, 101, 114]⟩, .string ⟨#[84, 114, 97, 110, 115, 102, 101, 114, 45, 69, 110, 99, 111, 100, 105, 110, 103]⟩, .string ⟨#[85, 112, 103, 114, 97, 100, 101]⟩] 9)).heap.size = w.heap.size + 1 := World.size_alloc _ _
  rw [show ⟨#[67, 111, 110, 110, 101, 99, 116, 105, 111, 110]⟩ = connB from rfl] at HT
  obtain ⟨TS, hTS⟩ : ∃ TS, TS = tokF connB fs := ⟨_, rfl⟩
  rw [← hTS] at htl ⊢
  have HTL : Hid ((bsOf TS).length ≤ 1000000000) := by show _ ≤ _; omega
  have HT2 : Hid (∀ W, MaxL W → IsFlds W a c fs → Calls Tryd.prog 24 #[.slice a fs.length c, .string ⟨#[67, 111, 110, 110, 101, 99, 116, 105, 111, 110]⟩] W fun e w' => ∃ u, e = .returned u ∧ w'.ownsRow W.heap.size 9 1 u TS.length (valsOf TS) ∧ Below W.heap.size W w') := by
    show ∀ W, _
    rw [hTS]
    exact HT.out
  clear hTS HT hM hf hok hsum htl
  go_enter Tryd.func13, Tryd.ntmps13
  go_wp2_with fail
  generalize World.alloc w _ = w0 at *
  refine (HT2.out w0 M0.out F0.out).mono ?_
  rintro e w1 ⟨u, rfl, ho, hb1⟩
  have hu : w1.ownsRow w0.heap.size 9 1 u (bsOf TS).length ((bsOf TS).map Value.string) := by rw [← valsOf_bs, bsOf_length]; exact ho
  have L1 := Lib.hid (L0.out.trans (hb1.mono L0.out.size))
  have O1 := Lib.hid (own_below O0.out hb1)
  have hb1' := Lib.hid hb1
  have hg1 := hb1.size
  clear ho hb1 F0 M0 HT2
  rcases own_openS hu with ⟨rfl, hnil⟩ | ⟨g, cap, rfl, hg, hcap, hop, hpa⟩
  · have HD := Lib.hid (delete106_nil w1)
    unfold staysV at HD
    clear hu
    go_wp2_with fail
    refine HD.out.mono ?_
    rintro e w2 ⟨rfl, hb2⟩
    have L2 := Lib.hid (L1.out.trans (hb2.mono L1.out.size))
    have O2 := Lib.hid (own_below O1.out hb2)
    clear hb2 L1 O1 HD
    go_wp2_with (at_builtin; refine wpList_append_own_none rfl _ _ 42 rfl w.heap.size 9 i0 1 Tryd.underlying42 hi _ _ _ rfl O2.out rfl ?_)
    go_ret
    rw [hnil]
    have hr : w2.ownsRow w.heap.size 9 1 (.slice (some ⟨w.heap.size, 0, none⟩) 9 9) (9 + 0) (nineP.map Value.string ++ (goes []).map Value.string) := O2.out
    obtain ⟨b, d, h1, h2⟩ := hopP_row (ts := []) rfl hr
    exact ⟨b, d, by rw [h1]; rfl, h2, L2.out⟩
  · have HD := Lib.hid (delete106 w0 g cap (bsOf TS) HTL.out hg hcap w1 hb1'.out hop hpa)
    unfold staysV at HD
    have HGL := Lib.hid (goes_len (bsOf TS))
    have hT1 := HTL.out
    obtain ⟨n, hn⟩ : ∃ n, n = (goes (bsOf TS)).length := ⟨_, rfl⟩
    have HN := Lib.hid hn
    have hn1 : n ≤ 1000000000 := by have := HGL.out; omega
    rw [← hn] at HD
    clear hu hop hpa hn HGL hT1 hcap
    go_wp2_with fail
    refine HD.out.mono ?_
    rintro e w2 ⟨rfl, hs2, hb2⟩
    have L2 := Lib.hid (L0.out.trans (hb2.mono L0.out.size))
    have O2 := Lib.hid (own_below O0.out hb2)
    have HC : Hid (∀ (k : Nat) u, ((goes (bsOf TS)).map Value.string)[k]? = some u → w2.cell? ((⟨g, 0, none⟩ : Addr).add k) = some u) := by
      intro k u hu
      rw [Addr.add_mid]
      rw [List.getElem?_map] at hu
      obtain ⟨x, hx, rfl⟩ := Option.map_eq_some_iff.1 hu
      obtain h0 | ⟨bk, o, h2, hbk, hc, hcell⟩ := hs2
      · rw [h0] at hx; simp at hx
      · cases h2
        exact hcell k x hx
    have HL : Hid (((goes (bsOf TS)).map Value.string).length = n * 1) := by show _ = _; rw [List.length_map, ← HN.out, Nat.mul_one]
    have H1 : Hid (∀ u ∈ (goes (bsOf TS)).map Value.string, u.oneCell' = true) := by
      intro u hu
      obtain ⟨x, _, rfl⟩ := List.mem_map.1 hu
      rfl
    have hs22 := L2.out.size
    clear hb2 L1 O1 HD L0 O0 hs2 HTL
    go_wp2_with (at_builtin; refine wpList_append_own _ rfl _ _ 42 rfl w.heap.size 9 i0 (.string ⟨#[]⟩) 1 16 Tryd.underlying42 hi hz0 hz1 hz2 rfl (by decide) _ _ _ rfl O2.out ⟨g, 0, none⟩ n cap ((goes (bsOf TS)).map Value.string) rfl HL.out HC.out H1.out (by unfold maxLen; omega) (by omega) hs22 ?_)
    intro v' w3 hown' hgrow _
    have L3 := Lib.hid (L2.out.grown hgrow hs22 (fun k hk => (O2.out.lt k hk).1))
    obtain ⟨b, d, h1, h2⟩ := hopP_row HN.out hown'
    clear hown' hgrow O2 HC HL H1
    go_wp2_with fail
    go_ret
    exact ⟨b, d, by rw [h1]; rfl, h2, L3.out⟩
set_option maxRecDepth 1000000 in
set_option maxHeartbeats 4000000 in
/-- Hops. -/
theorem hops41 (a : Option Addr) (c : Nat) (fs : List Fld) (hfl : fs.length ≤ 1000000) (ha : a = none → c = 0 ∧ fs = []) (hok : ∀ f ∈ fs, FldOk f) (hsum : sumS (allB connB fs) ≤ 900000000) (gs : List Fld) (hgs : gs = hopsR (bsOf (tokF connB fs)) fs) (w : World) (hM : MaxL w) (hf : IsFlds w a c fs) :
    Calls Tryd.prog 7 #[.slice a fs.length c] w fun e w' => ∃ b d, e = .returned (.slice b gs.length d) ∧ (b = none → d = 0 ∧ gs = []) ∧ IsFlds w' b d gs ∧ Below w.heap.size w w' := by
  have HH := Lib.hid (hopNames79 a c fs hfl hok (by omega) w hM hf)
  have HPL : (hopP (bsOf (tokF connB fs))).length ≤ 1000000000 := by
    have h1 := tokF_len connB fs
    have h2 := goes_len (bsOf (tokF connB fs))
    unfold hopP
    rw [List.length_append]
    have : nineP.length = 9 := rfl
    omega
  obtain ⟨HP, hHP⟩ : ∃ HP, HP = hopP (bsOf (tokF connB fs)) := ⟨_, rfl⟩
  have hgs2 : gs = dropL HP fs := by rw [hgs, hHP, hops_eq]
  rw [← hHP] at HH HPL
  rw [hgs2]
  have HD := Lib.hid (fun b d W hx h => drop55 a c fs b d HP (by omega) HPL ha hok W h hx)
  have HF := Lib.hid hf
  clear hHP hgs2 hgs hf hM hok hsum ha HPL
  go_enter Tryd.func7, Tryd.ntmps7
  go_wp2_with fail
  refine HH.out.mono ?_
  rintro e w1 ⟨b1, d1, rfl, hs1, hb1⟩
  have HD1 := Lib.hid (HD.out b1 d1 w1 hs1 (HF.out.below hb1))
  clear HD HH hs1
  go_wp2_with fail
  refine HD1.out.mono ?_
  rintro e w2 ⟨a2, c2, rfl, h0, hf2, hb2⟩
  have H0 := Lib.hid h0
  have F2 := Lib.hid hf2
  have B2 := Lib.hid (hb1.trans (hb2.mono hb1.size))
  clear h0 hf2 hb1 hb2 HD1
  go_wp2_with fail
  go_ret
  exact ⟨a2, c2, rfl, H0.out, F2.out, B2.out⟩
end Go.Proofs.YtbbphklhnngjmaaDoor

/- Memory of an object that lies in some blocks G, its own: what a call that writes there leaves as it was. -/
namespace Go.Proofs.YtbbphklhnngjmaaDoor
open Go.RowKit

/-- Nothing has changed but blocks of G and new ones. -/
structure Keep (G : Nat → Prop) (w w' : World) : Prop where
  os : w'.os = w.os
  tape : w'.tape = w.tape
  output : w'.output = w.output
  size : w.heap.size ≤ w'.heap.size
  block : ∀ k, k < w.heap.size → ¬ G k → w'.heap[k]? = w.heap[k]?
/-- The blocks to come are G's. -/
def Up (G : Nat → Prop) (w : World) : Prop := ∀ k, w.heap.size ≤ k → G k
/-- The first size is small enough for B. -/
def Floor (G : Nat → Prop) (B : Nat) : Prop := ∀ k, G k → B ≤ k
section
variable {G : Nat → Prop} {a w w' : World} {B : Nat}
theorem Keep.refl (G : Nat → Prop) (w : World) : Keep G w w := ⟨rfl, rfl, rfl, Nat.le_refl _, fun _ _ _ => rfl⟩
theorem Keep.trans {b c : World} (h : Keep G a b) (k : Keep G b c) : Keep G a c :=
  ⟨k.os.trans h.os, k.tape.trans h.tape, k.output.trans h.output, Nat.le_trans h.size k.size, fun i hi hn => (k.block i (Nat.lt_of_lt_of_le hi h.size) hn).trans (h.block i hi hn)⟩
theorem Keep.of_below (h : Below w.heap.size w w') : Keep G w w' := ⟨h.os, h.tape, h.output, h.size, fun k hk _ => h.block k hk⟩
theorem Keep.more {G' : Nat → Prop} (h : Keep G w w') (hg : ∀ k, k < w.heap.size → G k → G' k) : Keep G' w w' := ⟨h.os, h.tape, h.output, h.size, fun k hk hn => h.block k hk (fun hk2 => hn (hg k hk hk2))⟩
theorem Keep.bel (h : Keep G w w') (hf : Floor G B) (hB : B ≤ w.heap.size) : Below B w w' :=
  ⟨h.os, h.tape, h.output, h.size, fun k hk => h.block k (by omega) (fun hg => by have := hf k hg; omega)⟩
theorem Keep.grown {row : Option Nat} (hg : w.grownBy w' row) (hr : ∀ k, row = some k → G k) : Keep G w w' :=
  ⟨hg.os, hg.tape, hg.output, hg.size, fun k hk hn => hg.block k hk (fun e => hn (hr k e.symm))⟩
theorem Keep.setCell (w : World) {p : Addr} (hp : G p.block) (u : Value) : Keep G w (w.setCell p u) :=
  ⟨rfl, rfl, rfl, by simp [World.setCell], fun k _ hn => Below.heap_setCell w p u k (fun e => hn (by rw [e]; exact hp))⟩
theorem Keep.alloc (w : World) (o : Obj) : Keep G w (w.alloc o) := .of_below (below_alloc w o)
theorem Keep.drew (w : World) : Keep G w w.drew := ⟨rfl, rfl, rfl, Nat.le_refl _, fun _ _ _ => rfl⟩
theorem Keep.drewN (w : World) (n : Nat) : Keep G w (w.drewN n) := ⟨rfl, rfl, rfl, Nat.le_refl _, fun _ _ _ => rfl⟩
theorem Up.keep (h : Up G w) (hk : Keep G w w') : Up G w' := fun k hk2 => h k (Nat.le_trans hk.size hk2)
theorem Up.below (h : Up G w) (hk : Below w.heap.size w w') : Up G w' := fun k hk2 => h k (Nat.le_trans hk.size hk2)
end

/-- Block g is just these cells; none is frozen. -/
def Row (w : World) (g : Nat) (t : TypeId) (cs : Array Value) : Prop := w.heap[g]? = some (.cells cs t (0, 0))
section
variable {w w' : World} {g : Nat} {t : TypeId} {cs : Array Value} {G : Nat → Prop}
theorem Row.lt (h : Row w g t cs) : g < w.heap.size := (Array.getElem?_eq_some_iff.1 h).1
theorem Row.cell (h : Row w g t cs) (i : Nat) : w.cell? ⟨g, i, none⟩ = cs[i]? := cell_of_row w g i cs t (0, 0) h
theorem Row.free (h : Row w g t cs) (i : Nat) : w.frozen? ⟨g, i, none⟩ = false := by
  unfold Row at h
  simp [World.frozen?, h]
theorem Row.new (w : World) (t : TypeId) (cs : Array Value) : Row (w.alloc (.cells cs t)) w.heap.size t cs := heap_alloc_new w _
theorem Row.keep (h : Row w g t cs) (hk : Keep G w w') (hg : ¬ G g) : Row w' g t cs := (hk.block g h.lt hg).trans h
theorem Row.below (h : Row w g t cs) (hb : Below w.heap.size w w') : Row w' g t cs := (hb.block g h.lt).trans h
theorem Row.grown {row : Option Nat} (h : Row w g t cs) (hb : w.grownBy w' row) (hg : row ≠ some g) : Row w' g t cs := (hb.block g h.lt (fun e => hg e.symm)).trans h
theorem Row.alloc (h : Row w g t cs) (o : Obj) : Row (w.alloc o) g t cs := h.below (below_alloc w o)
theorem Row.put (h : Row w g t cs) (i : Nat) (u : Value) : Row (w.setCell ⟨g, i, none⟩ u) g t (cs.setIfInBounds i u) := by
  unfold Row at h ⊢
  simp [World.setCell, Array.getElem?_modify, h]
theorem Row.far (h : Row w g t cs) {p : Addr} (hp : g ≠ p.block) (u : Value) : Row (w.setCell p u) g t cs := (Below.heap_setCell w p u g hp).trans h
theorem Row.drew (h : Row w g t cs) : Row w.drew g t cs := h
theorem Row.drewN (h : Row w g t cs) (n : Nat) : Row (w.drewN n) g t cs := h
end

/-- A row of elements that the object owns. -/
def Own (w : World) (e : TypeId) (n : Nat) (v : Value) (m : Nat) (xs : List Value) : Prop := w.ownsRow 0 e n v m xs
theorem own_lt {w : World} {e : TypeId} {n m : Nat} {v : Value} {xs : List Value} (h : w.ownsRow 0 e n v m xs) {k : Nat} (hk : v.ownBlock = some k) : k < w.heap.size := (h.lt k hk).2
theorem own_ne {w : World} {e t : TypeId} {n m g : Nat} {v : Value} {xs : List Value} {cs : Array Value} (h : w.ownsRow 0 e n v m xs) (hg : Row w g t cs) (hne : e ≠ t) : v.ownBlock ≠ some g := by
  obtain ⟨_, ⟨rfl, _⟩ | ⟨k, cap, cur, rfl, _, hk, _⟩⟩ := h
  · simp [Value.ownBlock]
  · intro he
    have : k = g := by simpa [Value.ownBlock] using he
    subst this
    unfold Row at hg
    rw [hk] at hg
    injection hg with h2
    injection h2 with _ h3
    exact hne h3
theorem own_keep {w w' : World} {G : Nat → Prop} {e : TypeId} {n m : Nat} {v : Value} {xs : List Value} (h : w.ownsRow 0 e n v m xs) (hk : Keep G w w') (hg : ∀ k, v.ownBlock = some k → ¬ G k) : w'.ownsRow 0 e n v m xs := by
  obtain ⟨hl, h0 | ⟨g, cap, cur, rfl, hb, hc, r⟩⟩ := h
  · exact ⟨hl, .inl h0⟩
  · exact ⟨hl, .inr ⟨g, cap, cur, rfl, hb, (hk.block g (Array.getElem?_eq_some_iff.1 hc).1 (hg g rfl)).trans hc, r⟩⟩
theorem own_bel {w w' : World} {e : TypeId} {n m : Nat} {v : Value} {xs : List Value} (h : w.ownsRow 0 e n v m xs) (hb : Below w.heap.size w w') : w'.ownsRow 0 e n v m xs :=
  own_keep (G := fun _ => False) h (.of_below hb) (fun _ _ h => h)
theorem own_grown {w w' : World} {row : Option Nat} {e : TypeId} {n m : Nat} {v : Value} {xs : List Value} (h : w.ownsRow 0 e n v m xs) (hg : w.grownBy w' row) (hr : ∀ k, v.ownBlock = some k → row ≠ some k) : w'.ownsRow 0 e n v m xs :=
  own_keep (G := fun k => row = some k) h (.grown hg (fun _ h => h)) hr
theorem own_set {w : World} {e t : TypeId} {n m g i : Nat} {v : Value} {xs : List Value} {cs : Array Value} (h : w.ownsRow 0 e n v m xs) (hg : Row w g t cs) (hne : e ≠ t) (u : Value) : (w.setCell ⟨g, i, none⟩ u).ownsRow 0 e n v m xs :=
  own_keep (G := fun k => k = g) h (Keep.setCell (G := fun k => k = g) w (p := ⟨g, i, none⟩) rfl u) (fun k hk e => own_ne h hg hne (by rw [hk, e]))
theorem own_slice {w : World} {base : Nat} {e : TypeId} {n m : Nat} {v : Value} {xs : List Value} (h : w.ownsRow base e n v m xs) : ∃ a c, v = .slice a m c := by
  obtain ⟨_, ⟨rfl, h0⟩ | ⟨g, cap, cur, rfl, _⟩⟩ := h
  · exact ⟨none, 0, by rw [h0]⟩
  · exact ⟨_, _, rfl⟩
theorem own_len {w : World} {base : Nat} {e : TypeId} {n m m' : Nat} {v : Value} {xs : List Value} (h : w.ownsRow base e n v m xs) (he : m = m') : w.ownsRow base e n v m' xs := he ▸ h
end Go.Proofs.YtbbphklhnngjmaaDoor

/- rewrite: response.Own at 503, closing, rewrite.Own, the fixed facts. -/
namespace Go.Proofs.YtbbphklhnngjmaaDoor
open Go.RowKit

theorem isFlds_keepR {G : Nat → Prop} {w w' : World} {a : Option Addr} {c : Nat} {fs : List Fld} (h : IsFlds w a c fs) (hk : Keep G w w') (hg : ∀ ad, a = some ad → ¬ G ad.block) : IsFlds w' a c fs := by
  rcases h with h | ⟨bk, o, rfl, hbk, hc, hcell⟩
  · exact .inl h
  · have hn : ¬ G bk := hg ⟨bk, o, none⟩ rfl
    refine .inr ⟨bk, o, rfl, Nat.lt_of_lt_of_le hbk hk.size, hc, fun j f hj => ?_⟩
    have := hcell j f hj
    unfold World.cell? at this ⊢
    rw [hk.block bk hbk hn]
    exact this
theorem isFlds_new2R (w : World) (a b c d : List UInt8) (T : TypeId) : IsFlds (w.alloc (.cells #[.string (bs a), .string (bs b), .string (bs c), .string (bs d)] T)) (some ⟨w.heap.size, 0, none⟩) 2 [(a, b), (c, d)] := by
  refine .inr ⟨w.heap.size, 0, rfl, by simp, by simp, fun j g hf => ?_⟩
  match j, hf with
  | 0, hf => obtain rfl := Option.some.inj hf; simp
  | 1, hf => obtain rfl := Option.some.inj hf; simp
  | j + 2, hf => simp at hf
theorem isFlds_new3R (w : World) (a b c d e f : List UInt8) (T : TypeId) : IsFlds (w.alloc (.cells #[.string (bs a), .string (bs b), .string (bs c), .string (bs d), .string (bs e), .string (bs f)] T)) (some ⟨w.heap.size, 0, none⟩) 3 [(a, b), (c, d), (e, f)] := by
  refine .inr ⟨w.heap.size, 0, rfl, by simp, by simp, fun j g hf => ?_⟩
  match j, hf with
  | 0, hf => obtain rfl := Option.some.inj hf; simp
  | 1, hf => obtain rfl := Option.some.inj hf; simp
  | 2, hf => obtain rfl := Option.some.inj hf; simp
  | j + 3, hf => simp at hf
/-- What rewrite's fixed facts ask of the world. -/
def LaidR (w : World) : Prop := MaxL w ∧ Pow w ∧ Reas w
theorem LaidR.below {w w' : World} (h : LaidR w) (hb : Below w.heap.size w w') : LaidR w' := ⟨h.1.below hb, h.2.1.below hb, h.2.2.below hb⟩
theorem own_isFldsB {w : World} {base : Nat} {T : TypeId} {v : Value} {fs : List Fld} (h : w.ownsRow base T 2 v fs.length (cellsF fs)) : ∃ a c, v = .slice a fs.length c ∧ c ≤ 9223372036854775807 ∧ (a = none → c = 0 ∧ fs = []) ∧ IsFlds w a c fs ∧ ∀ ad, a = some ad → base ≤ ad.block := by
  have ho2 := h
  obtain ⟨b, d, rfl, h1, h2⟩ := own_isFldsT h
  obtain ⟨_, ⟨h3, _⟩ | ⟨g, cap, cur, h3, hg, _, _, hcm, _⟩⟩ := ho2
  · injection h3 with e1 e2 e3
    subst e1 e3
    exact ⟨none, 0, rfl, by omega, h1, h2, fun ad e => by cases e⟩
  · injection h3 with e1 e2 e3
    subst e1 e3
    exact ⟨_, _, rfl, by unfold maxLen at hcm; omega, h1, h2, fun ad e => by obtain rfl := Option.some.inj e; exact hg⟩
theorem LaidR.m {w : World} (h : LaidR w) : MaxL w := by unfold LaidR at h; exact h.1
theorem LaidR.p {w : World} (h : LaidR w) : Pow w := by unfold LaidR at h; exact h.2.1
theorem LaidR.r {w : World} (h : LaidR w) : Reas w := by unfold LaidR at h; exact h.2.2
def rea503 : List UInt8 := [83, 101, 114, 118, 105, 99, 101, 32, 85, 110, 97, 118, 97, 105, 108, 97, 98, 108, 101]
def bod503 : List UInt8 := [53, 48, 51, 32, 83, 101, 114, 118, 105, 99, 101, 32, 85, 110, 97, 118, 97, 105, 108, 97, 98, 108, 101, 10]
def ctF : Fld := ([67, 111, 110, 116, 101, 110, 116, 45, 84, 121, 112, 101], [116, 101, 120, 116, 47, 112, 108, 97, 105, 110])
def clF : Fld := ([67, 111, 110, 116, 101, 110, 116, 45, 76, 101, 110, 103, 116, 104], [50, 52])
def ccF : Fld := ([67, 111, 110, 110, 101, 99, 116, 105, 111, 110], [99, 108, 111, 115, 101])
theorem reason_503R : reasonL 503 = rea503 := by rfl
theorem prt_503 : prtI 10 503 = [53, 48, 51] := by decide +kernel
theorem prt_24 : prtI 10 24 = [50, 52] := by decide +kernel
theorem own_five {w : World} (g : Nat) (B0 : Nat) {base : World} (hb : Below B0 base w) (hg : B0 ≤ g) (v0 v1 v2 v3 v4 : Value) :
    Below B0 base (((((w.setCell ⟨g, 0, none⟩ v0).setCell ⟨g, 1, none⟩ v1).setCell ⟨g, 2, none⟩ v2).setCell ⟨g, 3, none⟩ v3).setCell ⟨g, 4, none⟩ v4)
    ∧ Keep (fun j => j = g) w (((((w.setCell ⟨g, 0, none⟩ v0).setCell ⟨g, 1, none⟩ v1).setCell ⟨g, 2, none⟩ v2).setCell ⟨g, 3, none⟩ v3).setCell ⟨g, 4, none⟩ v4) := by
  have KB : ∀ (v : World) (i : Nat) (u : Value), Keep (fun j => j = g) v (v.setCell ⟨g, i, none⟩ u) := fun v i u => Keep.setCell (G := fun j => j = g) v (p := ⟨g, i, none⟩) rfl u
  exact ⟨((((hb.setCell (p := ⟨g, 0, none⟩) hg _).setCell (p := ⟨g, 1, none⟩) hg _).setCell (p := ⟨g, 2, none⟩) hg _).setCell (p := ⟨g, 3, none⟩) hg _).setCell (p := ⟨g, 4, none⟩) hg _,
    ((((KB w 0 v0).trans (KB _ 1 v1)).trans (KB _ 2 v2)).trans (KB _ 3 v3)).trans (KB _ 4 v4)⟩
set_option maxRecDepth 100000 in
set_option maxHeartbeats 4000000 in
theorem rown35 (w : World) (hP : Pow w) (hR : Reas w) :
    Calls Tryd.prog 16 #[.int .i64 503] w fun e w' => ∃ g, e = .returned (.agg #[.int .i64 503, .string (bs rea503), .slice (some ⟨g, 0, none⟩) 2 2, .string (bs bod503), .int .i64 1]) ∧ w.heap.size ≤ g ∧ IsFlds w' (some ⟨g, 0, none⟩) 2 [ctF, clF] ∧ Below w.heap.size w w' := by
  have HRE : Hid (∀ W, Reas W → Calls Tryd.prog 28 #[.int .i64 503] W fun e w' => e = .returned (.string (bs rea503)) ∧ Below W.heap.size W w') := fun W h => by
    have := reason22 503 W h
    rwa [reason_503R] at this
  have HD1 : Hid (∀ W, Pow W → Calls Tryd.prog 29 #[.int .i64 503] W fun e w' => e = .returned (.string (bs [53, 48, 51])) ∧ Below W.heap.size W w') := fun W h => by
    have := digits28 503 (by decide) W h
    rw [prt_503] at this
    exact this
  have HD2 : Hid (∀ W, Pow W → Calls Tryd.prog 29 #[.int .i64 24] W fun e w' => e = .returned (.string (bs [50, 52])) ∧ Below W.heap.size W w') := fun W h => by
    have := digits28 24 (by decide) W h
    rw [prt_24] at this
    exact this
  have A1 := fun V => add_str [53, 48, 51] [32] (by decide) V
  have A2 := fun V => add_str [53, 48, 51, 32] rea503 (by decide) V
  have A3 := fun V => add_str ([53, 48, 51, 32] ++ rea503) [10] (by decide) V
  have e32 : bs [32] = ⟨#[32]⟩ := rfl
  have e10 : bs [10] = ⟨#[10]⟩ := rfl
  rw [e32, show ([53, 48, 51] : List UInt8) ++ [32] = [53, 48, 51, 32] from rfl] at A1
  rw [e10, show ([53, 48, 51, 32] : List UInt8) ++ rea503 ++ [10] = bod503 from rfl] at A3
  have hz : (bs bod503).size = 24 := rfl
  have F2 : ∀ W, IsFlds (World.alloc W (.cells #[.string (bs [67, 111, 110, 116, 101, 110, 116, 45, 84, 121, 112, 101]), .string (bs [116, 101, 120, 116, 47, 112, 108, 97, 105, 110]), .string (bs [67, 111, 110, 116, 101, 110, 116, 45, 76, 101, 110, 103, 116, 104]), .string (bs [50, 52])] 33)) (some ⟨W.heap.size, 0, none⟩) 2 [ctF, clF] := fun W => isFlds_new2R W _ _ _ _ _
  have e1 : bs [67, 111, 110, 116, 101, 110, 116, 45, 84, 121, 112, 101] = ⟨#[67, 111, 110, 116, 101, 110, 116, 45, 84, 121, 112, 101]⟩ := rfl
  have e2 : bs [116, 101, 120, 116, 47, 112, 108, 97, 105, 110] = ⟨#[116, 101, 120, 116, 47, 112, 108, 97, 105, 110]⟩ := rfl
  have e3 : bs [67, 111, 110, 116, 101, 110, 116, 45, 76, 101, 110, 103, 116, 104] = ⟨#[67, 111, 110, 116, 101, 110, 116, 45, 76, 101, 110, 103, 116, 104]⟩ := rfl
  rw [e1, e2, e3] at F2
  have FF := Lib.hid F2
  generalize hx5 : bs bod503 = X5 at *
  generalize hx4 : bs ([53, 48, 51, 32] ++ rea503) = X4 at *
  generalize hx3 : bs [53, 48, 51, 32] = X3 at *
  generalize hx2 : bs [53, 48, 51] = X2 at *
  generalize hx1 : bs rea503 = X1 at *
  generalize hx0 : bs [50, 52] = X0 at *
  have R0 := Row.new w 37 #[.int .i64 0, .string ⟨#[]⟩, .slice none 0 0, .string ⟨#[]⟩, .int .i64 0]
  have L0 := below_alloc w (.cells #[.int .i64 0, .string ⟨#[]⟩, .slice none 0 0, .string ⟨#[]⟩, .int .i64 0] 37)
  clear hx5 hx4 hx3 hx2 hx1 hx0 e32 e10 e1 e2 e3 F2
  have HP := Lib.hid (hP.below L0)
  have HR := Lib.hid (hR.below L0)
  clear hP hR
  go_enter Tryd.func16, Tryd.ntmps16
  go_wp2_with fail
  obtain ⟨b0, hb0⟩ : ∃ b0, b0 = w.heap.size := ⟨_, rfl⟩
  have hle : w.heap.size ≤ b0 := Nat.le_of_eq hb0.symm
  have HLE := Lib.hid hle
  rw [← hb0] at R0 ⊢
  generalize World.alloc w _ = w0 at *
  have RR0 := Lib.hid R0
  have LL0 := Lib.hid L0
  clear R0 L0 hb0 hle
  with_reducible refine (HRE.out w0 HR.out).mono ?_
  rintro e w1 ⟨rfl, hb1⟩
  have P1 := Lib.hid (HP.out.below hb1)
  have RR1 := Lib.hid (RR0.out.below hb1)
  have LL1 := Lib.hid (LL0.out.trans (hb1.mono LL0.out.size))
  clear hb1 HP HR RR0 LL0
  go_wp2_with fail
  with_reducible refine (HD1.out w1 P1.out).mono ?_
  rintro e w2 ⟨rfl, hb2⟩
  have P2 := Lib.hid (P1.out.below hb2)
  have RR2 := Lib.hid (RR1.out.below hb2)
  have LL2 := Lib.hid (LL1.out.trans (hb2.mono LL1.out.size))
  clear hb2 P1 RR1 LL1
  go_wp2_with fail
  with_reducible refine (HD2.out w2 P2.out).mono ?_
  rintro e w3 ⟨rfl, hb3⟩
  have RR3 := Lib.hid (RR2.out.below hb3)
  have LL3 := Lib.hid (LL2.out.trans (hb3.mono LL2.out.size))
  clear hb3 P2 RR2 LL2
  have LA := below_alloc w3 (.cells #[.string ⟨#[67, 111, 110, 116, 101, 110, 116, 45, 84, 121, 112, 101]⟩, .string ⟨#[116, 101, 120, 116, 47, 112, 108, 97, 105, 110]⟩, .string ⟨#[67, 111, 110, 116, 101, 110, 116, 45, 76, 101, 110, 103, 116, 104]⟩, .string X0] 33)
  have RA := RR3.out.below LA
  have LL4 := Lib.hid (LL3.out.trans (LA.mono LL3.out.size))
  have F4 := Lib.hid (FF.out w3)
  have hne : b0 ≠ w3.heap.size := Nat.ne_of_lt RR3.out.lt
  have HNE := Lib.hid hne
  have z0 := RA.free 0
  have z1 := RA.free 1
  have z2 := RA.free 2
  have z3 := RA.free 3
  have z4 := RA.free 4
  have p0 := RA.cell 0
  have p1 := RA.cell 1
  have p2 := RA.cell 2
  have p3 := RA.cell 3
  have p4 := RA.cell 4
  simp only [List.getElem?_toArray, List.getElem?_cons_zero, List.getElem?_cons_succ] at p0 p1 p2 p3 p4
  clear LA RA hne FF
  go_wp2_with fail
  refine bodyPost_ret (v := .agg #[.int .i64 503, .string X1, .slice (some ⟨w3.heap.size, 0, none⟩) 2 2, .string X5, .int .i64 1]) (by simp [results, Tryd.results16, go_sem, p0, p1, p2, p3, p4]) rfl ⟨_, rfl, LL3.out.size, ?_⟩
  have h5 := own_five b0 _ LL4.out HLE.out (.int .i64 503) (.string X1) (.slice (some ⟨w3.heap.size, 0, none⟩) 2 2) (.string X5) (.int .i64 1)
  exact ⟨isFlds_keepR F4.out h5.2 (fun ad had => by obtain rfl := Option.some.inj had; exact fun e => HNE.out e.symm), h5.1⟩
/-- The fields with Connection: close added. -/
def closeF (q : Bool) (fs : List Fld) : List Fld := if q = true then fs ++ [ccF] else fs
set_option maxRecDepth 100000 in
set_option maxHeartbeats 4000000 in
theorem closing65 (c k : Int) (r bb : ByteArray) (a : Option Addr) (d : Nat) (fs : List Fld) (q : Bool) (hfl : fs.length ≤ 1000000) (ha : a = none → d = 0 ∧ fs = []) (w : World) (hf : IsFlds w a d fs) :
    Calls Tryd.prog 17 #[.agg #[.int .i64 c, .string r, .slice a fs.length d, .string bb, .int .i64 k], .bool q] w fun e w' => ∃ b d', e = .returned (.agg #[.int .i64 c, .string r, .slice b (closeF q fs).length d', .string bb, .int .i64 k]) ∧ (b = none → d' = 0 ∧ closeF q fs = []) ∧ IsFlds w' b d' (closeF q fs) ∧ Below w.heap.size w w' := by
  have HA : Hid (∀ W, IsFlds W a d fs → Calls Tryd.prog 30 #[.slice a fs.length d, .string ⟨#[67, 111, 110, 110, 101, 99, 116, 105, 111, 110]⟩, .string ⟨#[99, 108, 111, 115, 101]⟩] W fun e w' => ∃ u, e = .returned u ∧ w'.ownsRow W.heap.size 33 2 u (fs ++ [ccF]).length (cellsF (fs ++ [ccF])) ∧ Below W.heap.size W w') := fun W h => add48 a d fs [67, 111, 110, 110, 101, 99, 116, 105, 111, 110] [99, 108, 111, 115, 101] (by omega) ha W h
  have HN := Lib.hid ha
  have HF0 := Lib.hid hf
  obtain ⟨n, hn⟩ : ∃ n, n = fs.length := ⟨_, rfl⟩
  rw [← hn] at HA ⊢
  have HNN := Lib.hid hn
  have R0 := Row.new w 37 #[.int .i64 c, .string r, .slice a n d, .string bb, .int .i64 k]
  have L0 := (below_alloc w (.cells #[.int .i64 c, .string r, .slice a n d, .string bb, .int .i64 k] 37))
  have R1 := Row.new (w.alloc (.cells #[.int .i64 c, .string r, .slice a n d, .string bb, .int .i64 k] 37)) 37 #[.int .i64 0, .string ⟨#[]⟩, .slice none 0 0, .string ⟨#[]⟩, .int .i64 0]
  have L1 := L0.alloc (by simp) (.cells #[.int .i64 0, .string ⟨#[]⟩, .slice none 0 0, .string ⟨#[]⟩, .int .i64 0] 37)
  have R0' := R0.alloc (.cells #[.int .i64 0, .string ⟨#[]⟩, .slice none 0 0, .string ⟨#[]⟩, .int .i64 0] 37)
  rw [show (w.alloc (.cells #[.int .i64 c, .string r, .slice a n d, .string bb, .int .i64 k] 37)).heap.size = w.heap.size + 1 by simp] at R1
  have HF := Lib.hid (hf.below L1)
  clear hf hn ha R0 L0
  go_enter Tryd.func17, Tryd.ntmps17
  go_upto_region 1 with fail
  obtain ⟨b0, hb0⟩ : ∃ b0, b0 = w.heap.size := ⟨_, rfl⟩
  obtain ⟨b1, hb1⟩ : ∃ b1, b1 = w.heap.size + 1 := ⟨_, rfl⟩
  have hle : w.heap.size ≤ b1 := by omega
  have hle0 : w.heap.size ≤ b0 := by omega
  have hne : b0 ≠ b1 := by omega
  rw [← hb0] at R0'
  rw [← hb1] at R1 ⊢
  rw [← hb0]
  generalize World.alloc (World.alloc w _) _ = w1 at *
  have LL := Lib.hid L1
  have HLE := Lib.hid hle
  have HLE0 := Lib.hid hle0
  have HNE := Lib.hid hne
  have HB0 : Hid (b0 < w1.heap.size) := R0'.lt
  have HB1 : Hid (b1 < w1.heap.size) := R1.lt
  have RR0 := Lib.hid R0'
  have RR1 := Lib.hid R1
  clear R1 R0' L1 hb0 hb1 hle hle0 hne
  cases q
  · skip
    have r0 := RR0.out.cell 0
    have r1 := RR0.out.cell 1
    have r2 := RR0.out.cell 2
    have r3 := RR0.out.cell 3
    have r4 := RR0.out.cell 4
    have z0 := RR1.out.free 0
    have z1 := RR1.out.free 1
    have z2 := RR1.out.free 2
    have z3 := RR1.out.free 3
    have z4 := RR1.out.free 4
    have p0 := RR1.out.cell 0
    have p1 := RR1.out.cell 1
    have p2 := RR1.out.cell 2
    have p3 := RR1.out.cell 3
    have p4 := RR1.out.cell 4
    simp only [List.getElem?_toArray, List.getElem?_cons_zero, List.getElem?_cons_succ] at r0 r1 r2 r3 r4 p0 p1 p2 p3 p4
    go_wp2_with fail
    refine bodyPost_ret (v := .agg #[.int .i64 c, .string r, .slice a n d, .string bb, .int .i64 k]) (by simp [results, Tryd.results17, go_sem, p0, p1, p2, p3, p4]) rfl ⟨a, d, by rw [HNN.out]; rfl, HN.out, ?_⟩
    have h5 := own_five b1 _ LL.out HLE.out (.int .i64 c) (.string r) (.slice a n d) (.string bb) (.int .i64 k)
    exact ⟨HF0.out.below h5.1, h5.1⟩
  · have r2 := RR0.out.cell 2
    simp only [List.getElem?_toArray, List.getElem?_cons_zero, List.getElem?_cons_succ] at r2
    go_wp2_with fail
    with_reducible refine (HA.out w1 HF.out).mono ?_
    rintro e w2 ⟨u, rfl, ho, hb⟩
    obtain ⟨b, d', rfl, _, hbn, hf2, hbl⟩ := own_isFldsB ho
    have hl2 : (fs ++ [ccF]).length = n + 1 := by rw [List.length_append, ← HNN.out]; rfl
    rw [hl2]
    have Q0 := RR0.out.below hb
    have Q1 := RR1.out.below hb
    have LL2 := Lib.hid ((LL.out.trans (hb.mono LL.out.size)).setCell (p := ⟨b0, 2, none⟩) HLE0.out (.slice b (n + 1) d'))
    have K2 : Keep (fun j => j = b0) w2 (w2.setCell ⟨b0, 2, none⟩ (.slice b (n + 1) d')) := Keep.setCell (G := fun j => j = b0) w2 (p := ⟨b0, 2, none⟩) rfl _
    have F3 := Lib.hid (isFlds_keepR hf2 K2 (fun ad had => by have := hbl ad had; have := HB0.out; intro e; omega))
    have HBL : Hid (∀ ad, b = some ad → b1 < ad.block) := fun ad had => by have := hbl ad had; have := HB1.out; omega
    have HBN := Lib.hid hbn
    have y2 := Q0.free 2
    have x2 := Q0.cell 2
    have Q0' := Q0.put 2 (.slice b (n + 1) d')
    have Q1' := Q1.far (p := ⟨b0, 2, none⟩) (fun e => HNE.out e.symm) (.slice b (n + 1) d')
    have e0 : (#[.int .i64 c, .string r, .slice a n d, .string bb, .int .i64 k] : Array Value).setIfInBounds 2 (.slice b (n + 1) d') = #[.int .i64 c, .string r, .slice b (n + 1) d', .string bb, .int .i64 k] := rfl
    rw [e0] at Q0'
    simp only [List.getElem?_toArray, List.getElem?_cons_zero, List.getElem?_cons_succ] at x2
    clear hf2 K2 hbn hbl ho hb Q0 Q1 e0 HF r2 hl2
    go_upto_region 3 with fail
    obtain ⟨w3, hw3⟩ : ∃ w3, w3 = w2.setCell ⟨b0, 2, none⟩ (.slice b (n + 1) d') := ⟨_, rfl⟩
    rw [← hw3] at LL2 F3 Q0' Q1' ⊢
    clear hw3 x2 y2
    have r0 := Q0'.cell 0
    have r1 := Q0'.cell 1
    have r2 := Q0'.cell 2
    have r3 := Q0'.cell 3
    have r4 := Q0'.cell 4
    have z0 := Q1'.free 0
    have z1 := Q1'.free 1
    have z2 := Q1'.free 2
    have z3 := Q1'.free 3
    have z4 := Q1'.free 4
    have p0 := Q1'.cell 0
    have p1 := Q1'.cell 1
    have p2 := Q1'.cell 2
    have p3 := Q1'.cell 3
    have p4 := Q1'.cell 4
    simp only [List.getElem?_toArray, List.getElem?_cons_zero, List.getElem?_cons_succ] at r0 r1 r2 r3 r4 p0 p1 p2 p3 p4
    clear Q0' Q1'
    go_wp2_with fail
    refine bodyPost_ret (v := .agg #[.int .i64 c, .string r, .slice b (n + 1) d', .string bb, .int .i64 k]) (by simp [results, Tryd.results17, go_sem, p0, p1, p2, p3, p4]) rfl ⟨b, d', by rw [HNN.out]; unfold closeF; rw [if_pos rfl, List.length_append]; rfl, HBN.out, ?_⟩
    have h5 := own_five b1 _ LL2.out HLE.out (.int .i64 c) (.string r) (.slice b (n + 1) d') (.string bb) (.int .i64 k)
    exact ⟨isFlds_keepR F3.out h5.2 (fun ad had => by have := HBL.out ad had; intro e; omega), h5.1⟩
end Go.Proofs.YtbbphklhnngjmaaDoor

/- What a row of rewrite says of its variables: the powers of ten, start's words; a world that lays them. -/
namespace Go.Proofs.YtbbphklhnngjmaaDoor
open Go.ChangeShapes Go.WideShapes Go.ChangeAt Go.RowKit

theorem laidR {W : World} {d0 d1 d3 : String × DataW Unit} {rest : List (String × DataW Unit)} (hsh : W.ShapedOpen Tryd.prog)
    (h : laidMet Tryd.prog (d0 :: d1 :: ("internal/strconv.uint64pow10", Rows.laid_internal_strconv_uint64pow10) :: d3 :: ("steward/start.reasons", Rows.laid_steward_start_reasons) :: rest) W) : LaidR W :=
  ⟨maxL_shaped hsh, pow_laid h, reas_laid (laidMet.tail (laidMet.tail (laidMet.tail (laidMet.tail h))))⟩
noncomputable def rwHeap (h : Array Obj) : Array Obj :=
  let h0 := h.modify 5 (layAs (numsOf Rows.laid_math_bits_deBruijn32tab).toArray)
  let h1 := h0.modify 6 (layAs (numsOf Rows.laid_math_bits_deBruijn64tab).toArray)
  let h2 := h1.modify 1 (layAs (numsOf Rows.laid_internal_strconv_uint64pow10).toArray)
  let h3 := h2.modify 3 (layAs (numsOf Rows.laid_unicode_utf8_acceptRanges).toArray)
  let h4 := h3.modify 0 (layAs reasC.toArray)
  h4.modify 2 (layAs (numsOf Go.Pinned.utf8First).toArray)
noncomputable def rwWorld (os : Os) : World :=
  let w0 := World.holding Tryd.prog os ⟨#[], #[], []⟩
  { w0 with heap := rwHeap w0.heap }
end Go.Proofs.YtbbphklhnngjmaaDoor

/- rewrite: Own at 503, the fixed facts. -/
namespace Go.Proofs.YtbbphklhnngjmaaDoor
open Go.RowKit

set_option maxRecDepth 100000 in
set_option maxHeartbeats 4000000 in
theorem rown42 (w : World) (hP : Pow w) (hR : Reas w) :
    Calls Tryd.prog 10 #[.int .i64 503, .string ⟨#[71, 69, 84]⟩, .bool true] w fun e w' => ∃ b d, e = .returned (.agg #[.int .i64 503, .string (bs rea503), .slice b 3 d, .string (bs bod503), .int .i64 1]) ∧ Below w.heap.size w w' := by
  have HO := Lib.hid (fun W h1 h2 => rown35 W h1 h2)
  have HC := Lib.hid (fun r bb a d ha W hf => closing65 503 1 r bb a d [ctF, clF] true (by decide) ha W hf)
  rw [show (closeF true [ctF, clF]).length = 3 from rfl, show [ctF, clF].length = 2 from rfl] at HC
  generalize bs rea503 = R at *
  generalize bs bod503 = X at *
  have R0 := Row.new w 37 #[.int .i64 0, .string ⟨#[]⟩, .slice none 0 0, .string ⟨#[]⟩, .int .i64 0]
  have L0 := below_alloc w (.cells #[.int .i64 0, .string ⟨#[]⟩, .slice none 0 0, .string ⟨#[]⟩, .int .i64 0] 37)
  have HP := Lib.hid (hP.below L0)
  have HR := Lib.hid (hR.below L0)
  clear hP hR
  go_enter Tryd.func10, Tryd.ntmps10
  go_wp2_with fail
  obtain ⟨b0, hb0⟩ : ∃ b0, b0 = w.heap.size := ⟨_, rfl⟩
  have hle : w.heap.size ≤ b0 := Nat.le_of_eq hb0.symm
  have HLE := Lib.hid hle
  rw [← hb0] at R0 ⊢
  generalize World.alloc w _ = w0 at *
  have RR0 := Lib.hid R0
  have LL0 := Lib.hid L0
  clear R0 L0 hb0 hle
  with_reducible refine (HO.out w0 HP.out HR.out).mono ?_
  rintro e w1 ⟨g, rfl, hg, hf, hb1⟩
  have RR1 := Lib.hid (RR0.out.below hb1)
  have LL1 := Lib.hid (LL0.out.trans (hb1.mono LL0.out.size))
  have R2 := Row.new w1 37 #[.int .i64 503, .string R, .slice (some ⟨g, 0, none⟩) 2 2, .string X, .int .i64 1]
  have L2 := below_alloc w1 (.cells #[.int .i64 503, .string R, .slice (some ⟨g, 0, none⟩) 2 2, .string X, .int .i64 1] 37)
  have F2 := Lib.hid (hf.below L2)
  have RR2 := Lib.hid (RR1.out.below L2)
  have LL2 := Lib.hid (LL1.out.trans (L2.mono LL1.out.size))
  clear hf hb1 HP HR RR0 LL0 hg HO RR1 LL1 L2
  go_upto_region 2 with fail
  obtain ⟨b1, hb1⟩ : ∃ b1, b1 = w1.heap.size := ⟨_, rfl⟩
  rw [← hb1] at R2 ⊢
  generalize World.alloc w1 _ = w2 at *
  have r0 := R2.cell 0
  have r1 := R2.cell 1
  have r2 := R2.cell 2
  have r3 := R2.cell 3
  have r4 := R2.cell 4
  simp only [List.getElem?_toArray, List.getElem?_cons_zero, List.getElem?_cons_succ] at r0 r1 r2 r3 r4
  have HC2 := Lib.hid (HC.out R X (some ⟨g, 0, none⟩) 2 (fun h => by cases h) w2 F2.out)
  clear R2 hb1 HC F2
  go_wp2_with fail
  with_reducible refine HC2.out.mono ?_
  rintro e w3 ⟨b, d', rfl, _, _, hb3⟩
  have RR3 := RR2.out.below hb3
  have LL3 := Lib.hid (LL2.out.trans (hb3.mono LL2.out.size))
  have z0 := RR3.free 0
  have z1 := RR3.free 1
  have z2 := RR3.free 2
  have z3 := RR3.free 3
  have z4 := RR3.free 4
  have p0 := RR3.cell 0
  have p1 := RR3.cell 1
  have p2 := RR3.cell 2
  have p3 := RR3.cell 3
  have p4 := RR3.cell 4
  simp only [List.getElem?_toArray, List.getElem?_cons_zero, List.getElem?_cons_succ] at p0 p1 p2 p3 p4
  clear hb3 RR3 HC2 RR2 LL2
  go_wp2_with fail
  refine bodyPost_ret (v := .agg #[.int .i64 503, .string R, .slice b 3 d', .string X, .int .i64 1]) (by simp [results, Tryd.results10, go_sem, p0, p1, p2, p3, p4]) rfl ⟨b, d', rfl, ?_⟩
  exact (own_five b0 _ LL3.out HLE.out (.int .i64 503) (.string R) (.slice b 3 d') (.string X) (.int .i64 1)).1
def awF : List Fld := [([67, 111, 110, 110, 101, 99, 116, 105, 111, 110], [99, 108, 111, 115, 101, 44, 32, 88, 45, 65]), ([88, 45, 65], [49]), ([72, 111, 115, 116], [97])]
def awG : List Fld := [([72, 111, 115, 116], [97])]
theorem awF_hops : hopsR (bsOf (tokF connB awF)) awF = awG := by decide +kernel
theorem awF_sum : sumS (allB connB awF) ≤ 900000000 := by decide +kernel
set_option maxRecDepth 100000 in
set_option maxHeartbeats 4000000 in
theorem awake13 (w : World) (hw : LaidR w) :
    Calls Tryd.prog 4 #[] w fun e w' => e = .returned (.bool true) ∧ Below w.heap.size w w' := by
  have F0 : IsFlds (w.alloc (.cells #[.string ⟨#[67, 111, 110, 110, 101, 99, 116, 105, 111, 110]⟩, .string ⟨#[99, 108, 111, 115, 101, 44, 32, 88, 45, 65]⟩, .string ⟨#[88, 45, 65]⟩, .string ⟨#[49]⟩, .string ⟨#[72, 111, 115, 116]⟩, .string ⟨#[97]⟩] 33)) (some ⟨w.heap.size, 0, none⟩) 3 awF := isFlds_new3R w [67, 111, 110, 110, 101, 99, 116, 105, 111, 110] [99, 108, 111, 115, 101, 44, 32, 88, 45, 65] [88, 45, 65] [49] [72, 111, 115, 116] [97] 33
  have L0 := below_alloc w (.cells #[.string ⟨#[67, 111, 110, 110, 101, 99, 116, 105, 111, 110]⟩, .string ⟨#[99, 108, 111, 115, 101, 44, 32, 88, 45, 65]⟩, .string ⟨#[88, 45, 65]⟩, .string ⟨#[49]⟩, .string ⟨#[72, 111, 115, 116]⟩, .string ⟨#[97]⟩] 33)
  have HH := Lib.hid (fun A W hM hf => hops41 (some A) 3 awF (by decide) (fun h => by cases h) (fun f hf => by simp only [awF, List.mem_cons, List.not_mem_nil, or_false] at hf; rcases hf with rfl | rfl | rfl <;> exact ⟨by decide, by decide⟩) awF_sum _ awF_hops.symm W hM hf)
  rw [show awF.length = 3 from rfl, show awG.length = 1 from rfl] at HH
  have HO := Lib.hid (fun W h1 h2 => rown42 W h1 h2)
  have HW := Lib.hid (hw.below L0)
  have F00 := Lib.hid F0
  have LL0 := Lib.hid L0
  generalize bs rea503 = R at *
  generalize bs bod503 = X at *
  clear hw F0 L0
  go_enter Tryd.func4, Tryd.ntmps4
  go_wp2_with fail
  obtain ⟨b0, hb0⟩ : ∃ b0, b0 = w.heap.size := ⟨_, rfl⟩
  rw [← hb0] at F00 ⊢
  generalize World.alloc w _ = w0 at *
  clear hb0
  with_reducible refine (HH.out ⟨b0, 0, none⟩ w0 HW.out.m F00.out).mono ?_
  rintro e w1 ⟨b, d, rfl, _, hf1, hb1⟩
  obtain h0 | ⟨bk, o, rfl, hbk, hc, hcell⟩ := hf1
  · cases h0
  obtain ⟨c1, _⟩ := hcell 0 _ rfl
  have HC1 := Lib.hid c1
  have W1 := Lib.hid (HW.out.below hb1)
  have LL1 := Lib.hid (LL0.out.trans (hb1.mono LL0.out.size))
  have HBK := Lib.hid hbk
  have hc1 : 1 ≤ d := hc
  clear HH HW F00 LL0 hb1 hcell hbk hc c1
  go_wp2_with fail
  with_reducible refine (HO.out w1 W1.out.p W1.out.r).mono ?_
  rintro e w2 ⟨b2, d2, rfl, hb2⟩
  have R3 := Row.new w2 37 #[.int .i64 503, .string R, .slice b2 3 d2, .string X, .int .i64 1]
  have L3 := below_alloc w2 (.cells #[.int .i64 503, .string R, .slice b2 3 d2, .string X, .int .i64 1] 37)
  have c1 : (w2.alloc (.cells #[.int .i64 503, .string R, .slice b2 3 d2, .string X, .int .i64 1] 37)).cell? ⟨bk, o, none⟩ = some (.string ⟨#[72, 111, 115, 116]⟩) := by
    rw [(bcell L3).1 _ _ (Nat.lt_of_lt_of_le HBK.out hb2.size), (bcell hb2).1 _ _ HBK.out]
    exact HC1.out
  have LL3 := Lib.hid ((LL1.out.trans (hb2.mono LL1.out.size)).trans (L3.mono (Nat.le_trans LL1.out.size hb2.size)))
  clear hb2 LL1 HC1 HBK L3
  go_upto_region 3 with fail
  obtain ⟨b1, hb1⟩ : ∃ b1, b1 = w2.heap.size := ⟨_, rfl⟩
  rw [← hb1] at R3 ⊢
  generalize World.alloc w2 _ = w3 at *
  have r0 := R3.cell 0
  have r2 := R3.cell 2
  simp only [List.getElem?_toArray, List.getElem?_cons_zero, List.getElem?_cons_succ] at r0 r2
  clear R3 hb1
  go_wp2_with fail
  go_ret
  exact ⟨rfl, LL3.out⟩
end Go.Proofs.YtbbphklhnngjmaaDoor

/- rewrite: the reference's Hop, Hops. -/
namespace Go.Proofs.YtbbphklhnngjmaaDoor
open Go.RowKit

def nineB : List ByteArray := nineR.map bs
theorem nine_strs (w : World) (T : TypeId) : IsStrs (w.alloc (.cells #[.string ⟨#[99, 111, 110, 110, 101, 99, 116, 105, 111, 110]⟩, .string ⟨#[107, 101, 101, 112, 45, 97, 108, 105, 118, 101]⟩, .string ⟨#[112, 114, 111, 120, 121, 45, 99, 111, 110, 110, 101, 99, 116, 105, 111, 110]⟩, .string ⟨#[112, 114, 111, 120, 121, 45, 97, 117, 116, 104, 101, 110, 116, 105, 99, 97, 116, 101]⟩, .string ⟨#[112, 114, 111, 120, 121, 45, 97, 117, 116, 104, 111, 114, 105, 122, 97, 116, 105, 111, 110]⟩, .string ⟨#[116, 101]⟩, .string ⟨#[116, 114, 97, 105, 108, 101, 114]⟩, .string ⟨#[116, 114, 97, 110, 115, 102, 101, 114, 45, 101, 110, 99, 111, 100, 105, 110, 103]⟩, .string ⟨#[117, 112, 103, 114, 97, 100, 101]⟩] T)) (some ⟨w.heap.size, 0, none⟩) 9 nineB := by
  have hr := Row.new w T #[.string ⟨#[99, 111, 110, 110, 101, 99, 116, 105, 111, 110]⟩, .string ⟨#[107, 101, 101, 112, 45, 97, 108, 105, 118, 101]⟩, .string ⟨#[112, 114, 111, 120, 121, 45, 99, 111, 110, 110, 101, 99, 116, 105, 111, 110]⟩, .string ⟨#[112, 114, 111, 120, 121, 45, 97, 117, 116, 104, 101, 110, 116, 105, 99, 97, 116, 101]⟩, .string ⟨#[112, 114, 111, 120, 121, 45, 97, 117, 116, 104, 111, 114, 105, 122, 97, 116, 105, 111, 110]⟩, .string ⟨#[116, 101]⟩, .string ⟨#[116, 114, 97, 105, 108, 101, 114]⟩, .string ⟨#[116, 114, 97, 110, 115, 102, 101, 114, 45, 101, 110, 99, 111, 100, 105, 110, 103]⟩, .string ⟨#[117, 112, 103, 114, 97, 100, 101]⟩]
  refine .inr ⟨w.heap.size, 0, rfl, by simp, by decide, fun j y hy => ?_⟩
  have e : #[.string ⟨#[99, 111, 110, 110, 101, 99, 116, 105, 111, 110]⟩, .string ⟨#[107, 101, 101, 112, 45, 97, 108, 105, 118, 101]⟩, .string ⟨#[112, 114, 111, 120, 121, 45, 99, 111, 110, 110, 101, 99, 116, 105, 111, 110]⟩, .string ⟨#[112, 114, 111, 120, 121, 45, 97, 117, 116, 104, 101, 110, 116, 105, 99, 97, 116, 101]⟩, .string ⟨#[112, 114, 111, 120, 121, 45, 97, 117, 116, 104, 111, 114, 105, 122, 97, 116, 105, 111, 110]⟩, .string ⟨#[116, 101]⟩, .string ⟨#[116, 114, 97, 105, 108, 101, 114]⟩, .string ⟨#[116, 114, 97, 110, 115, 102, 101, 114, 45, 101, 110, 99, 111, 100, 105, 110, 103]⟩, .string ⟨#[117, 112, 103, 114, 97, 100, 101]⟩] = (nineB.map Value.string).toArray := rfl
  rw [Nat.zero_add, hr.cell j, e, List.getElem?_toArray, List.getElem?_map, hy]
  rfl
def nineA (n : List UInt8) (j : Nat) : Bool := (nineR.take j).any fun h => decide (n = h)
def tokB1 (n : List UInt8) (t : ByteArray) : Bool := decide (n = t.data.toList ∧ t.data.toList ≠ hostB.data.toList.map lowC ∧ t.data.toList ≠ clenB.data.toList.map lowC)
def tokA (n : List UInt8) (toks : List ByteArray) (j : Nat) : Bool := (toks.take j).any fun t => tokB1 n t
theorem hopR_split (n : List UInt8) (toks : List ByteArray) : hopR n toks = (nineA (n.map lowC) 9 || tokA (n.map lowC) toks toks.length) := by
  unfold hopR nineA tokA
  rw [List.take_of_length_le (Nat.le_refl _), List.take_of_length_le (by decide)]
  rfl
theorem any_step {α : Type} {p : α → Bool} {l : List α} {j : Nat} (hj : j < l.length) : (l.take (j + 1)).any p = ((l.take j).any p || p l[j]) := by
  rw [List.take_add_one, List.getElem?_eq_getElem hj, Option.toList_some, List.any_append]
  simp
theorem any_yes {α : Type} {p : α → Bool} {l : List α} {j : Nat} (hj : j < l.length) (h : p l[j] = true) : l.any p = true := List.any_eq_true.2 ⟨l[j], List.getElem_mem hj, h⟩
theorem str_eqd (a b : ByteArray) : (a.toList == b.toList) = decide (a.data.toList = b.data.toList) := by
  have := bs_beq a.data.toList b.data.toList
  rwa [bs_of, bs_of] at this
set_option maxRecDepth 100000 in
set_option maxHeartbeats 4000000 in
theorem hop85 (n : List UInt8) (hn : n.length ≤ 1000000000) (b : Option Addr) (d : Nat) (toks : List ByteArray) (htl : toks.length ≤ 1000000000) (R : Bool) (hR : R = hopR n toks) (w : World) (hx : IsStrs w b d toks) :
    Calls Tryd.prog 15 #[.string (bs n), .slice b toks.length d] w fun e w' => e = .returned (.bool R) ∧ Below w.heap.size w w' := by
  rw [hopR_split] at hR
  have HL := Lib.hid (fun W => lowR n hn W)
  generalize n.map lowC = m at *
  have HR := Lib.hid hR
  have HX := Lib.hid hx
  obtain ⟨N, hN⟩ : ∃ N, N = bs m := ⟨_, rfl⟩
  rw [← hN] at HL
  have HNN : Hid (∀ a : ByteArray, (N.toList == a.toList) = decide (m = a.data.toList)) := fun a => by rw [hN]; exact str_eqd (bs m) a
  clear hR hx hN
  generalize bs n = B0 at *
  go_enter Tryd.func15, Tryd.ntmps15
  go_wp2_with fail
  refine (HL.out w).mono ?_
  rintro e w1 ⟨rfl, hb1⟩
  have L0 := Lib.hid (hb1.trans ((below_alloc w1 (.cells #[.string ⟨#[99, 111, 110, 110, 101, 99, 116, 105, 111, 110]⟩, .string ⟨#[107, 101, 101, 112, 45, 97, 108, 105, 118, 101]⟩, .string ⟨#[112, 114, 111, 120, 121, 45, 99, 111, 110, 110, 101, 99, 116, 105, 111, 110]⟩, .string ⟨#[112, 114, 111, 120, 121, 45, 97, 117, 116, 104, 101, 110, 116, 105, 99, 97, 116, 101]⟩, .string ⟨#[112, 114, 111, 120, 121, 45, 97, 117, 116, 104, 111, 114, 105, 122, 97, 116, 105, 111, 110]⟩, .string ⟨#[116, 101]⟩, .string ⟨#[116, 114, 97, 105, 108, 101, 114]⟩, .string ⟨#[116, 114, 97, 110, 115, 102, 101, 114, 45, 101, 110, 99, 111, 100, 105, 110, 103]⟩, .string ⟨#[117, 112, 103, 114, 97, 100, 101]⟩] 9)).mono hb1.size))
  have N0 := Lib.hid (nine_strs w1 9)
  have hnl : nineB.length = 9 := rfl
  have HX0 := Lib.hid (HX.out.below L0.out)
  clear hb1 HL HX
  go_wp2_with fail
  generalize World.alloc w1 _ = w2 at *
  go_loopw [14] (fun i wr => ∃ j : Nat, j ≤ 9 ∧ i = .int .i64 (j : Int) ∧ Hid (nineA m j = false) ∧ w2 = wr) (fun i _ => 9 - (intOf i).toNat)
  case atStart => exact ⟨0, Nat.zero_le _, rfl, rfl, rfl⟩
  case round =>
    obtain ⟨j, hj, rfl, hno, rfl⟩ := hrel
    by_cases hlt : j < 9
    · obtain h0 | ⟨bk, o, hbo, hbk, hc, hcell⟩ := N0.out
      · rw [h0] at hnl; simp at hnl
      injection hbo with hbo
      injection hbo with e1 e2
      subst e1 e2
      have c1 := hcell j nineB[j] (List.getElem?_eq_getElem (by omega))
      have hst : nineA m (j + 1) = (nineA m j || decide (m = nineB[j].data.toList)) := by
        unfold nineA
        rw [any_step (show j < nineR.length from hlt)]
        congr 2
        simp [nineB, bs]
      rw [hno.out, Bool.false_or] at hst
      have hcm := HNN.out nineB[j]
      obtain ⟨q, hq⟩ : ∃ q, q = decide (m = nineB[j].data.toList) := ⟨_, rfl⟩
      rw [← hq] at hst hcm
      have HT : Hid (q = true → R = true) := fun e => by
        rw [HR.out]
        have : nineA m 9 = true := by
          unfold nineA
          rw [List.take_of_length_le (by decide)]
          refine any_yes (show j < nineR.length from hlt) ?_
          rw [← e, hq]
          simp [nineB, bs]
        rw [this]; rfl
      obtain ⟨x, hxe⟩ : ∃ x, x = nineB[j] := ⟨_, rfl⟩
      rw [← hxe] at c1 hcm
      rw [Nat.zero_add] at c1
      have HST := Lib.hid hst
      clear hcell hq hxe hst hno
      have j1 : (j : Int) < 9 := by omega
      cases q
      · go_wp2_with fail
        go_roundw
        case rel => exact ⟨j + 1, hlt, by go_num, HST, trivial⟩
        case measure => simp [intOf]; omega
      · go_wp2_with fail
        go_ret
        exact ⟨by rw [HT.out trivial]; rfl, L0.out⟩
    · obtain rfl : j = 9 := by omega
      rw [hno.out, Bool.false_or] at HR
      have HR2 := Lib.hid HR.out
      clear N0 hno HR hlt hj
      go_wp2_with fail
      go_loopw [24] (fun i wr => ∃ j : Nat, j ≤ toks.length ∧ i = .int .i64 (j : Int) ∧ Hid (tokA m toks j = false) ∧ w2 = wr) (fun i _ => toks.length - (intOf i).toNat)
      case atStart => exact ⟨0, Nat.zero_le _, rfl, rfl, rfl⟩
      case round =>
        obtain ⟨j, hj, rfl, hno, rfl⟩ := hrel
        by_cases hlt : j < toks.length
        · obtain h0 | ⟨bk, o, rfl, hbk, hc, hcell⟩ := HX0.out
          · subst h0; simp at hlt
          have c1 := hcell j toks[j] (by simp [hlt])
          have hst : tokA m toks (j + 1) = (tokA m toks j || tokB1 m toks[j]) := by
            unfold tokA
            exact any_step hlt
          rw [hno.out, Bool.false_or] at hst
          have hcm := HNN.out toks[j]
          have hc2 : (toks[j].toList == [104, 111, 115, 116]) = decide (toks[j].data.toList = [104, 111, 115, 116]) := by have := str_eqd toks[j] ⟨#[104, 111, 115, 116]⟩; rwa [show (⟨#[104, 111, 115, 116]⟩ : ByteArray).toList = [104, 111, 115, 116] from by rw [ByteArray.toList_eq]] at this
          have hc3 : (toks[j].toList == [99, 111, 110, 116, 101, 110, 116, 45, 108, 101, 110, 103, 116, 104]) = decide (toks[j].data.toList = [99, 111, 110, 116, 101, 110, 116, 45, 108, 101, 110, 103, 116, 104]) := by have := str_eqd toks[j] ⟨#[99, 111, 110, 116, 101, 110, 116, 45, 108, 101, 110, 103, 116, 104]⟩; rwa [show (⟨#[99, 111, 110, 116, 101, 110, 116, 45, 108, 101, 110, 103, 116, 104]⟩ : ByteArray).toList = [99, 111, 110, 116, 101, 110, 116, 45, 108, 101, 110, 103, 116, 104] from by rw [ByteArray.toList_eq]] at this
          have hcase : (decide (m = toks[j].data.toList) = false ∧ tokB1 m toks[j] = false) ∨ (decide (m = toks[j].data.toList) = true ∧ decide (toks[j].data.toList = [104, 111, 115, 116]) = true ∧ tokB1 m toks[j] = false) ∨ (decide (m = toks[j].data.toList) = true ∧ decide (toks[j].data.toList = [104, 111, 115, 116]) = false ∧ decide (toks[j].data.toList = [99, 111, 110, 116, 101, 110, 116, 45, 108, 101, 110, 103, 116, 104]) = true ∧ tokB1 m toks[j] = false) ∨ (decide (m = toks[j].data.toList) = true ∧ decide (toks[j].data.toList = [104, 111, 115, 116]) = false ∧ decide (toks[j].data.toList = [99, 111, 110, 116, 101, 110, 116, 45, 108, 101, 110, 103, 116, 104]) = false ∧ tokB1 m toks[j] = true) := by
            unfold tokB1
            rw [show hostB.data.toList.map lowC = [104, 111, 115, 116] from by decide +kernel, show clenB.data.toList.map lowC = [99, 111, 110, 116, 101, 110, 116, 45, 108, 101, 110, 103, 116, 104] from by decide +kernel]
            by_cases h1 : m = toks[j].data.toList
            · by_cases h2 : toks[j].data.toList = [104, 111, 115, 116]
              · simp [h1, h2]
              · by_cases h3 : toks[j].data.toList = [99, 111, 110, 116, 101, 110, 116, 45, 108, 101, 110, 103, 116, 104]
                · simp [h1, h3]
                · simp [h1, h2, h3]
            · simp [h1]
          have HT : Hid (tokB1 m toks[j] = true → R = true) := fun e => by
            rw [HR2.out]
            unfold tokA
            rw [List.take_of_length_le (Nat.le_refl _)]
            exact any_yes hlt e
          generalize decide (m = toks[j].data.toList) = q1 at *
          generalize decide (toks[j].data.toList = [104, 111, 115, 116]) = q2 at *
          generalize decide (toks[j].data.toList = [99, 111, 110, 116, 101, 110, 116, 45, 108, 101, 110, 103, 116, 104]) = q3 at *
          generalize tokB1 m toks[j] = q4 at *
          generalize toks[j] = x at *
          have HST := Lib.hid hst
          clear hcell hst hno
          have j1 : (j : Int) < toks.length := by omega
          rcases hcase with ⟨rfl, rfl⟩ | ⟨rfl, rfl, rfl⟩ | ⟨rfl, rfl, rfl, rfl⟩ | ⟨rfl, rfl, rfl, rfl⟩
          · go_wp2_with fail
            go_roundw
            case rel => exact ⟨j + 1, hlt, by go_num, HST, trivial⟩
            case measure => simp [intOf]; omega
          · go_wp2_with fail
            go_roundw
            case rel => exact ⟨j + 1, hlt, by go_num, HST, trivial⟩
            case measure => simp [intOf]; omega
          · go_wp2_with fail
            go_roundw
            case rel => exact ⟨j + 1, hlt, by go_num, HST, trivial⟩
            case measure => simp [intOf]; omega
          · go_wp2_with fail
            go_ret
            exact ⟨by rw [HT.out trivial]; rfl, L0.out⟩
        · obtain rfl : j = toks.length := by omega
          rw [hno.out] at HR2
          have HR3 := Lib.hid HR2.out
          clear hno HR2
          go_wp2_with fail
          go_ret
          exact ⟨by rw [HR3.out]; rfl, L0.out⟩
theorem hopsR_keep {ts : List ByteArray} {fs : List Fld} {j : Nat} (hj : j < fs.length) : hopsR ts (fs.take (j + 1)) = hopsR ts (fs.take j) ++ if hopR fs[j].1 ts = true then [] else [fs[j]] := by
  unfold hopsR
  rw [List.take_add_one, List.getElem?_eq_getElem hj, Option.toList_some, List.filter_append]
  congr 1
  cases h : hopR fs[j].1 ts <;> simp [h]
theorem hopsR_len (ts : List ByteArray) (fs : List Fld) : (hopsR ts fs).length ≤ fs.length := List.length_filter_le _ _
theorem hopsR_mem {ts : List ByteArray} {fs : List Fld} {f : Fld} (h : f ∈ hopsR ts fs) : f ∈ fs := (List.mem_filter.1 h).1
theorem hopsR_sub (ts : List ByteArray) (fs : List Fld) : (hopsR ts fs).Sublist fs := List.filter_sublist
theorem len_take_le {α : Type} (l : List α) (j : Nat) : (l.take j).length ≤ j := by rw [List.length_take]; omega
set_option maxHeartbeats 4000000 in
set_option maxRecDepth 100000 in
/-- The reference's Hops. -/
theorem rhops48 (a : Option Addr) (c : Nat) (fs : List Fld) (hfl : fs.length ≤ 1000000) (hok : ∀ f ∈ fs, FldOk f) (hn1 : ∀ f ∈ fs, f.1.length ≤ 1000000000) (hsum : sumS (allB connB fs) ≤ 900000000) (ts : List ByteArray) (hts : ts = bsOf (tokF connB fs)) (w : World) (hf : IsFlds w a c fs) :
    Calls Tryd.prog 9 #[.slice a fs.length c] w fun e w' => ∃ u, e = .returned u ∧ w'.ownsRow w.heap.size 40 2 u (hopsR ts fs).length (cellsF (hopsR ts fs)) ∧ Below w.heap.size w w' := by
  obtain ⟨i0, hi, hz0, hz1, hz2⟩ := info_parts infoRef
  have HFF := Lib.hid hf
  have HN1 := Lib.hid hn1
  have hcase : tokF ⟨#[99, 111, 110, 110, 101, 99, 116, 105, 111, 110]⟩ fs = tokF connB fs := tok_case (by decide +kernel) fs
  have hall : allB ⟨#[99, 111, 110, 110, 101, 99, 116, 105, 111, 110]⟩ fs = allB connB fs := allB_caseW (by decide +kernel) fs
  have HTK := Lib.hid (rtokens53s a c fs ⟨#[99, 111, 110, 110, 101, 99, 116, 105, 111, 110]⟩ hfl hok (by decide) (by rw [hall]; omega) w hf)
  rw [hcase, ← hts] at HTK
  have HTL : ts.length ≤ 1000000000 := by rw [hts]; have := tokF_len connB fs; omega
  clear hf hok hcase hall hts hsum hn1
  go_enter Tryd.func9, Tryd.ntmps9
  go_wp2_with fail
  refine HTK.out.mono ?_
  rintro e w0 ⟨tb, td, rfl, hs0, hb0⟩
  have L0 := Lib.hid (below_alloc w0 (.cells #[] 40))
  have HB0 := Lib.hid hb0
  have HF0 := Lib.hid (HFF.out.below hb0)
  have HS0 := Lib.hid hs0
  have O0 : Hid ((w0.alloc (.cells #[] 40)).ownsRow w0.heap.size 40 2 (.slice (some ⟨w0.heap.size, 0, none⟩) 0 0) (hopsR ts (fs.take 0)).length (cellsF (hopsR ts (fs.take 0)))) := World.ownsRow_lit w0 #[] 0 (Nat.le_refl _) (by decide) (by simp)
  clear hb0 hs0 HTK HFF
  go_wp2_with fail
  generalize World.alloc w0 _ = w00 at *
  go_loopw [4, 12] (fun v i wr => ∃ j : Nat, j ≤ fs.length ∧ i = .int .i64 (j : Int) ∧ Hid (wr.ownsRow w0.heap.size 40 2 v (hopsR ts (fs.take j)).length (cellsF (hopsR ts (fs.take j)))) ∧ Hid (Below w0.heap.size w0 wr)) (fun _ i _ => fs.length - (intOf i).toNat)
  case atStart => exact ⟨0, Nat.zero_le _, rfl, O0, L0⟩
  case round =>
    clear O0 L0
    obtain ⟨j, hj, rfl, ho, hb⟩ := hrel
    by_cases hlt : j < fs.length
    · obtain h0 | ⟨bk, o, rfl, hbk, hc, hcell⟩ := HF0.out.below hb.out
      · subst h0; simp at hlt
      obtain ⟨c1, c2⟩ := hcell j fs[j] (by simp [hlt])
      have hst := hopsR_keep (ts := ts) hlt
      have hdl := Nat.le_trans (hopsR_len ts (fs.take j)) (len_take_le fs j)
      obtain ⟨q, hq⟩ : ∃ q, q = hopR fs[j].1 ts := ⟨_, rfl⟩
      have HI := Lib.hid (fun W h => hop85 fs[j].1 (HN1.out _ (List.getElem_mem hlt)) tb td ts HTL q hq W h)
      rw [← hq] at hst
      obtain ⟨f, hfe⟩ : ∃ f, f = fs[j] := ⟨_, rfl⟩
      rw [← hfe] at c1 c2 hst HI
      have HST := Lib.hid hst
      clear hcell hfe hq hst
      have j1 : (j : Int) < fs.length := by omega
      have hce : cellsF [f] = [.string (bs f.1), .string (bs f.2)] := rfl
      have HCE := Lib.hid hce
      clear hce
      generalize bs f.1 = N at *
      generalize bs f.2 = V at *
      have hgr := hb.out.size
      have hsz : (wr.alloc (.cells #[.string N, .string V] 40)).heap.size = wr.heap.size + 1 := World.size_alloc _ _
      have B1 := Lib.hid (hb.out.alloc hgr (.cells #[.string N, .string V] 40))
      have O1 := Lib.hid (ho.out.alloc (.cells #[.string N, .string V] 40))
      have S1 := Lib.hid (HS0.out.below B1.out)
      have d1 : (wr.alloc (.cells #[.string N, .string V] 40)).cell? ⟨wr.heap.size, 0, none⟩ = some (.string N) := by simp
      have d2 : (wr.alloc (.cells #[.string N, .string V] 40)).cell? ⟨wr.heap.size, 1, none⟩ = some (.string V) := by simp
      clear ho hb
      go_wp2_with fail
      generalize World.alloc wr _ = wa at *
      refine (HI.out wa S1.out).mono ?_
      rintro e wb ⟨rfl, hbb⟩
      have hlta : wr.heap.size < wa.heap.size := by omega
      have e1 : wb.cell? ⟨wr.heap.size, 0, none⟩ = some (.string N) := by rw [(bcell hbb).1 _ _ hlta]; exact d1
      have e2 : wb.cell? ⟨wr.heap.size, 1, none⟩ = some (.string V) := by rw [(bcell hbb).1 _ _ hlta]; exact d2
      have B2 := Lib.hid (B1.out.trans (hbb.mono B1.out.size))
      have O2 := Lib.hid (own_below O1.out hbb)
      clear hbb B1 O1 d1 d2 c1 c2 S1
      cases q
      · have hst2 := HST.out
        rw [if_neg (by simp)] at hst2
        have HO2 : Hid ((wb.alloc (.cells #[.string N, .string V] 40)).ownsRow w0.heap.size 40 2 _ (hopsR ts (fs.take j)).length (cellsF (hopsR ts (fs.take j)))) := O2.out.alloc _
        have hb2 : Hid (Below w0.heap.size w0 (wb.alloc (.cells #[.string N, .string V] 40))) := B2.out.alloc B2.out.size _
        have HNW := Lib.hid (cells_new1 wb N V 40)
        have hbz := B2.out.size
        have hcc : cellsF (hopsR ts (fs.take (j + 1))) = cellsF (hopsR ts (fs.take j)) ++ [.string N, .string V] := by
          rw [hst2, cellsF_append, HCE.out]
        have hll : (hopsR ts (fs.take (j + 1))).length = (hopsR ts (fs.take j)).length + 1 := by rw [hst2]; simp
        have HCC := Lib.hid hcc
        have HLL := Lib.hid hll
        clear hst2 hcc hll O2 B2
        obtain ⟨k, hk⟩ : ∃ k, k = (hopsR ts (fs.take j)).length := ⟨_, rfl⟩
        rw [← hk] at HO2 HLL hdl
        have HKK := Lib.hid hk
        clear hk
        go_wp2_with (at_builtin; refine wpList_append_own_at _ rfl _ _ 22 rfl w0.heap.size 40 i0 (.agg #[.string ⟨#[]⟩, .string ⟨#[]⟩]) 2 32 Tryd.underlying22 hi hz0 hz1 hz2 rfl (by decide) _ _ _ rfl HO2.out ⟨wb.heap.size, 0, none⟩ 1 1 [.string N, .string V] rfl rfl HNW.out (by intro u hu; simp at hu; rcases hu with rfl | rfl <;> rfl) (by unfold maxLen; omega) (by omega) (by simp; omega) ?_)
        intro v' w2 hown' hgrow _ _
        have hb3 : Hid (Below w0.heap.size w0 w2) := hb2.out.grown hgrow hb2.out.size (fun k hk => (HO2.out.lt k hk).1)
        rw [← HCC.out] at hown'
        have hown2 : w2.ownsRow w0.heap.size 40 2 v' (hopsR ts (fs.take (j + 1))).length (cellsF (hopsR ts (fs.take (j + 1)))) := by rw [HLL.out]; exact hown'
        have HO3 := Lib.hid hown2
        clear hown' hown2 hgrow hb2 HO2 HNW HCC HLL
        go_wp2_with fail
        go_roundw
        case rel => exact ⟨j + 1, hlt, by go_num, HO3, hb3⟩
        case measure => simp [intOf]; omega
      · have hst2 := HST.out
        rw [if_pos rfl, List.append_nil] at hst2
        have HO3 := O2.out
        rw [← hst2] at HO3
        have HO4 := Lib.hid HO3
        clear hst2 HO3 O2
        go_wp2_with fail
        go_roundw
        case rel => exact ⟨j + 1, hlt, by go_num, HO4, B2⟩
        case measure => simp [intOf]; omega
    · obtain rfl : j = fs.length := by omega
      have ho2 := ho.out
      rw [List.take_of_length_le (Nat.le_refl _)] at ho2
      have HO := Lib.hid ho2
      clear ho ho2
      go_wp2_with fail
      go_ret
      exact ⟨_, rfl, own_mono HO.out HB0.out.size, HB0.out.trans (hb.out.mono HB0.out.size)⟩
end Go.Proofs.YtbbphklhnngjmaaDoor

/- The walk of the statement RewriteHops. -/
namespace Go.Proofs.YtbbphklhnngjmaaDoor
open Go.RowKit

set_option maxRecDepth 100000 in
set_option maxHeartbeats 4000000 in
theorem lawRewriteHops (a : Option Addr) (c : Nat) (xs0 : List Fld) (hlx : xs0.length ≤ 9223372036854775807) (w : World) (hw : LaidR w) (hx : IsFlds w a c xs0) :
    Calls Tryd.prog 3 #[.slice a xs0.length c] w fun e w' => e = .returned (.bool true) ∧ Below w.heap.size w w' := by
  have HAW := Lib.hid (fun W h => awake13 W h)
  have HFX := Lib.hid (fun W h => few39 a c xs0 12 (by decide) hlx W h)
  have lx := fewF_length xs0 12
  have hsm : ∀ f ∈ fewF xs0 12, f.1.length ≤ 20 ∧ f.2.length ≤ 40 := fewF_small xs0 12
  obtain ⟨xs, hxs⟩ : ∃ xs, xs = fewF xs0 12 := ⟨_, rfl⟩
  rw [← hxs] at HFX lx hsm
  have hok : ∀ f ∈ xs, FldOk f := fun f hf => ⟨by have := (hsm f hf).1; omega, by have := (hsm f hf).2; omega⟩
  have hsum : sumS (allB connB xs) ≤ 900000000 := by
    have h1 := sumS_small (allB connB xs) 40 (allB_small hsm)
    have h2 : (allB connB xs).length ≤ xs.length := by unfold allB; rw [List.length_map]; exact List.length_filter_le _ _
    omega
  have HOW := Lib.hid (fun p q W h => own40 p q xs (by omega) W h)
  obtain ⟨gs, hgs⟩ : ∃ gs, gs = hopsR (bsOf (tokF connB xs)) xs := ⟨_, rfl⟩
  have hgl : gs.length ≤ 12 := by rw [hgs]; exact Nat.le_trans (hopsR_len _ _) lx
  have HHO := Lib.hid (fun p q ha W hM h => hops41 p q xs (by omega) ha hok hsum gs hgs W hM h)
  have HRH := Lib.hid (fun p q W h => rhops48 p q xs (by omega) hok (fun f hf => by have := (hsm f hf).1; omega) hsum (bsOf (tokF connB xs)) rfl W h)
  rw [← hgs] at HRH
  have HIS := Lib.hid (fun b1 d1 b2 d2 W h1 h2 => lawIs45 b1 d1 gs b2 d2 gs true (by simp) (by omega) (by omega) W h1 h2)
  obtain ⟨n, hn⟩ : ∃ n, n = xs.length := ⟨_, rfl⟩
  have HN := Lib.hid hn
  have HX := Lib.hid hx
  have HW := Lib.hid hw
  clear hx hw hxs hok hsum hsm lx hgs hgl hn
  go_enter Tryd.func3, Tryd.ntmps3
  go_wp2_with fail
  with_reducible refine (HAW.out w HW.out).mono ?_
  rintro e w1 ⟨rfl, hb1⟩
  have X1 := Lib.hid (HX.out.below hb1)
  have W1 := Lib.hid (HW.out.below hb1)
  have B1 := Lib.hid hb1
  clear hb1 HX HW HAW
  go_wp2_with fail
  refine (HFX.out w1 X1.out).mono ?_
  rintro e w2 ⟨u, rfl, ho, hb2⟩
  obtain ⟨a2, c2, rfl, _, _, hf2, _⟩ := own_isFldsB ho
  have F2 := Lib.hid hf2
  have W2 := Lib.hid (W1.out.below hb2)
  have B2 := Lib.hid (B1.out.trans (hb2.mono B1.out.size))
  clear ho hf2 hb2 X1 W1 B1 HFX
  go_wp2_with fail
  with_reducible refine (HOW.out a2 c2 w2 F2.out).mono ?_
  rintro e w3 ⟨u, rfl, ho, hb3⟩
  obtain ⟨a3, c3, rfl, _, hbn, hf3, _⟩ := own_isFldsB ho
  have F3 := Lib.hid hf3
  have N3 := Lib.hid hbn
  have X3 := Lib.hid (F2.out.below hb3)
  have W3 := Lib.hid (W2.out.below hb3)
  have B3 := Lib.hid (B2.out.trans (hb3.mono B2.out.size))
  clear ho hf3 hb3 hbn F2 W2 B2 HOW
  go_wp2_with fail
  with_reducible refine (HHO.out a3 c3 N3.out w3 W3.out.m F3.out).mono ?_
  rintro e w4 ⟨a4, c4, rfl, _, hf4, hb4⟩
  have F4 := Lib.hid hf4
  have X4 := Lib.hid (X3.out.below hb4)
  have B4 := Lib.hid (B3.out.trans (hb4.mono B3.out.size))
  clear hf4 hb4 F3 N3 X3 W3 B3 HHO
  go_wp2_with fail
  with_reducible refine (HRH.out a2 c2 w4 X4.out).mono ?_
  rintro e w5 ⟨u, rfl, ho, hb5⟩
  obtain ⟨a5, c5, rfl, _, _, hf5, _⟩ := own_isFldsB ho
  have F5 := Lib.hid hf5
  have G5 := Lib.hid (F4.out.below hb5)
  have B5 := Lib.hid (B4.out.trans (hb5.mono B4.out.size))
  clear ho hf5 hb5 F4 X4 B4 HRH
  go_wp2_with fail
  with_reducible refine (HIS.out a4 c4 a5 c5 w5 G5.out F5.out).mono ?_
  rintro e w6 ⟨rfl, hb6⟩
  have B6 := Lib.hid (B5.out.trans (hb6.mono B5.out.size))
  clear hb6 F5 G5 B5 HIS
  go_wp2_with fail
  go_ret
  exact ⟨rfl, B6.out⟩
end Go.Proofs.YtbbphklhnngjmaaDoor

/- A slice of fields that is handed in. -/
namespace Go.Proofs.YtbbphklhnngjmaaDoor
open Go.ChangeShapes Go.WideShapes Go.ChangeAt Go.RowKit

/-- A string's bytes. -/
def strL (v : Value) : List UInt8 := match v with
  | .string s => s.data.toList
  | _ => []
theorem strL_bs (s : ByteArray) : Value.string (bs (strL (.string s))) = .string s := by
  cases s; rfl
theorem flds_open {H : Type} {enc : TypeId × Value → H} {P : Program} {t e u : TypeId} {W : World} {base : Nat} {held : Bool} (ht : P.underlying t = some (.slice e)) (hu : (P.underlying e).map fieldsOf = some [(u, 0), (u, 1)]) (hs : P.underlying u = some .string) (hc : P.cellsOf u = 1) (ce : P.cellsOf e = 2)
    {r : Reach} {b0 : Nat} {v : Value} {d : DataW H} {ps : List MemPlace} (hval : Value.okWide P W r b0 t v) (hd : DataW.Trod enc P W base (fun _ => true) held t v d ps) :
    ∃ a c fs, v = .slice a fs.length c ∧ IsFlds W a c fs ∧ fs.length ≤ maxLen := by
  obtain ⟨a, l, c, rfl⟩ := okWide_slice ht hval
  obtain ⟨fuel, hf⟩ := hd
  obtain ⟨fa, hfa, hm⟩ := fieldsOf_struct hu (List.cons_ne_nil _ _)
  obtain ⟨fl, hfl⟩ : ∃ fl, fl = fa.toList := ⟨_, rfl⟩
  rw [← hfl] at hm
  have hl2 : fl.length = 2 := by have := congrArg List.length hm; simpa using this
  match fl, hl2 with
  | [f0, f1], _ =>
    simp only [List.map_cons, List.map_nil, List.cons.injEq, Prod.mk.injEq, and_true] at hm
    obtain ⟨⟨t0, o0⟩, t1, o1⟩ := hm
    have hfa2 : fa = #[f0, f1] := by rw [← Array.toArray_toList (xs := fa), ← hfl]
    rw [hfa2] at hfa
    rcases Go.Deep.open_slice_pairs ht hfa ce o0 o1 (by rw [t0]; exact hc) (by rw [t1]; exact hc) hf with ⟨hcs, _⟩ | ⟨a', l', c', m, n, V0, V1, D0, D1, P0, P1, hcs, _, hl, hmx, hme, _, hcell⟩
    · simp [Value.cells] at hcs
      obtain ⟨rfl, rfl, rfl⟩ := hcs
      exact ⟨none, 0, [], rfl, .inl rfl, by simp⟩
    · simp [Value.cells] at hcs
      obtain ⟨rfl, h1, h2⟩ := hcs
      subst h1 h2
      simp only [if_true] at hme
      subst hme
      obtain ⟨fs, hfs⟩ : ∃ fs : List Fld, fs = (List.range l).map fun i => (strL (V0 i), strL (V1 i)) := ⟨_, rfl⟩
      have hlen : fs.length = l := by rw [hfs]; simp
      refine ⟨some a', m, fs, by rw [hlen], ?_, by rw [hlen]; omega⟩
      by_cases h0 : l = 0
      · left; rw [hfs, h0]; rfl
      · right
        have c0 := (hcell 0 (by omega)).1
        have hs0 := World.cell?_spot c0
        have ha0 : a'.add (0 * 2) = a' := by simp [Addr.add]
        rw [ha0] at hs0 c0
        obtain ⟨bk, o, sp⟩ := a'
        simp only at hs0
        subst hs0
        refine ⟨bk, o, rfl, World.block_lt_of_cell? W _ c0, by rw [hlen]; exact hl, fun j f hj => ?_⟩
        have hjl : j < l := by
          rcases Nat.lt_or_ge j l with h | h
          · exact h
          · rw [List.getElem?_eq_none (by omega)] at hj; cases hj
        obtain ⟨g0, g1, g2, g3⟩ := hcell j (by omega)
        rw [t0] at g2
        rw [t1] at g3
        obtain ⟨s0, e0, _, _⟩ := DataW.trod_string hs g2
        obtain ⟨s1, e1, _, _⟩ := DataW.trod_string hs g3
        simp only [List.cons.injEq, and_true] at e0 e1
        rw [hfs] at hj
        simp only [List.getElem?_map, List.getElem?_range hjl, Option.map_some, Option.some.injEq] at hj
        subst hj
        rw [Addr.add_mid] at g0 g1
        rw [e0] at g0
        rw [e1] at g1
        refine ⟨?_, ?_⟩
        · simp only [e0]
          rw [strL_bs]; exact g0
        · simp only [e1]
          rw [strL_bs, Nat.add_assoc]; exact g1
end Go.Proofs.YtbbphklhnngjmaaDoor

