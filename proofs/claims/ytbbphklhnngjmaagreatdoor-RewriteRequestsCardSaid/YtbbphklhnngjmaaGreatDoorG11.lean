/- Packed: RwB, Keep, RwD, TabsR, RwF, RwG. -/
import Derived.Deep.Cut
import Derived.Test.YtbbphklhnngjmaaGreatDoorG03
import Derived.Test.YtbbphklhnngjmaaGreatDoorG07
import Derived.Test.YtbbphklhnngjmaaGreatDoorG08
import Derived.Test.YtbbphklhnngjmaaGreatDoorG10
import Derived.Test.YtbbphklhnngjmaaGreatDoorShelf
/- rewrite: slices.DeleteFunc of texts; hopNames, Hops. -/
namespace Go.Proofs.YtbbphklhnngjmaaGreatDoor
open Go.RowKit

theorem own_openS {w : World} {base : Nat} {v : Value} {ys : List ByteArray} (h : w.ownsRow base 9 1 v ys.length (ys.map Value.string)) :
    (v = .slice none 0 0 ∧ ys = []) ∨ ∃ g cap, v = .slice (some ⟨g, 0, none⟩) ys.length cap ∧ base ≤ g ∧ ys.length ≤ cap ∧ Open1 w g ys.length ∧ ∀ (k : Nat) x, ys[k]? = some x → StrAt w g k x := by
  obtain ⟨_, ⟨rfl, h0⟩ | ⟨g, cap, cur, rfl, hbg, hg, hcap, _, hcs, htk⟩⟩ := h
  · exact .inl ⟨rfl, List.eq_nil_of_length_eq_zero h0⟩
  · refine .inr ⟨g, cap, rfl, hbg, hcap, ⟨(Array.getElem?_eq_some_iff.1 hg).1, fun k hk => ?_⟩, fun k f hf => ?_⟩
    · have hks : k < cur.size := by omega
      exact ⟨by simp [World.cell?, hg, hks], by simp [World.frozen?, hg]⟩
    · have hj := (List.getElem?_eq_some_iff.1 hf).1
      have g1 : (ys.map Value.string)[k]? = some (.string f) := by rw [List.getElem?_map, hf]; rfl
      rw [← htk, List.getElem?_take, if_pos (by omega)] at g1
      simp only [Array.getElem?_toList] at g1
      unfold StrAt
      simp [World.cell?, hg, g1]
set_option maxRecDepth 1000000 in
set_option maxHeartbeats 4000000 in
theorem delete106_nil (w : World) :
    Calls Tryz.prog 106 #[.slice none 0 0, staysV] w fun e w' => e = .returned (.slice none 0 0) ∧ Below w.heap.size w w' := by
  have HI := Lib.hid (index125 none 0 [] (by simp) w (.inl rfl))
  have e0 : findS [] = -1 := rfl
  rw [e0] at HI
  obtain ⟨V, hV⟩ : ∃ V, V = staysV := ⟨_, rfl⟩
  rw [← hV] at HI ⊢
  clear hV e0
  go_enter Tryz.func106, Tryz.ntmps106
  go_wp2_with fail
  refine HI.out.mono ?_
  rintro e w1 ⟨rfl, hb1⟩
  go_wp2_with fail
  go_ret
  exact ⟨rfl, hb1⟩
set_option maxRecDepth 1000000 in
set_option maxHeartbeats 4000000 in
theorem delete106 (w0 : World) (g cap : Nat) (fs : List ByteArray) (hfl : fs.length ≤ 1000000000) (hg : w0.heap.size ≤ g) (hcap : fs.length ≤ cap)
    (w : World) (hbl : Below w0.heap.size w0 w) (hop : Open1 w g fs.length) (hp : ∀ (k : Nat) f, fs[k]? = some f → StrAt w g k f) :
    Calls Tryz.prog 106 #[.slice (some ⟨g, 0, none⟩) fs.length cap, staysV] w fun e w' =>
      e = .returned (.slice (some ⟨g, 0, none⟩) (goes fs).length cap) ∧ IsStrs w' (some ⟨g, 0, none⟩) cap (goes fs) ∧ Below w0.heap.size w0 w' := by
  have hif : IsStrs w (some ⟨g, 0, none⟩) cap fs := .inr ⟨g, 0, rfl, hop.1, hcap, fun j f hf => by rw [Nat.zero_add]; exact hp j f hf⟩
  have HI := Lib.hid (index125 (some ⟨g, 0, none⟩) cap fs hfl w hif)
  obtain ⟨V, hV⟩ : ∃ V, V = staysV := ⟨_, rfl⟩
  rw [← hV] at HI ⊢
  have HV := Lib.hid hV
  have HOP := Lib.hid hop
  have HP := Lib.hid hp
  clear hV hop hp hif
  rcases findS_cases fs with ⟨hi, hno⟩ | ⟨i, hil, hi, hyes, hno⟩
  · rw [hi] at HI
    have hd := goes_none hno
    have HD := Lib.hid hd
    rw [hd]
    clear hi hno hd
    go_enter Tryz.func106, Tryz.ntmps106
    go_wp2_with fail
    refine HI.out.mono ?_
    rintro e w1 ⟨rfl, hb1⟩
    go_wp2_with fail
    go_ret
    refine ⟨rfl, ?_, hbl.trans (hb1.mono hbl.size)⟩
    have : IsStrs w (some ⟨g, 0, none⟩) cap fs := .inr ⟨g, 0, rfl, HOP.out.1, hcap, fun j f hf => by rw [Nat.zero_add]; exact HP.out j f hf⟩
    exact this.below hb1
  · rw [hi] at HI
    have ht : goes (fs.take (i + 1)) = fs.take i := by rw [goes_drop hil hyes, goes_none hno]
    have hl : i = (goes (fs.take (i + 1))).length := by rw [ht, List.length_take]; omega
    have HT := Lib.hid ht
    have HL := Lib.hid hl
    have i1 : ((i : Int) == -1) = false := beq_eq_false_iff_ne.2 (by omega)
    clear hi hno hyes ht hl
    go_enter Tryz.func106, Tryz.ntmps106
    go_wp2_with fail
    refine HI.out.mono ?_
    rintro e w1 ⟨rfl, hb1⟩
    have b1 := hbl.trans (hb1.mono hbl.size)
    have O1 : Hid (Open1 w1 g fs.length) := HOP.out.below hb1
    have P1 : Hid (∀ (k : Nat) f, fs[k]? = some f → StrAt w1 g k f) := fun k f hf => (HP.out k f hf).below hb1 HOP.out.1
    go_wp2_with fail
    clear i1 hbl hb1
    go_loopw [5, 6] (fun vi vj wr => ∃ i j : Nat, vi = .int .i64 (i : Int) ∧ vj = .int .i64 (j : Int) ∧ i < j ∧ j ≤ fs.length ∧ Hid (i = (goes (fs.take j)).length) ∧ Hid (Open1 wr g fs.length) ∧ Hid (∀ (k : Nat) f, (goes (fs.take j))[k]? = some f → StrAt wr g k f) ∧ Hid (∀ (k : Nat) f, j ≤ k → fs[k]? = some f → StrAt wr g k f) ∧ Below w0.heap.size w0 wr)
      (fun _ vj _ => fs.length - (intOf vj).toNat)
    case atStart =>
      refine ⟨i, i + 1, rfl, by first | rfl | go_num, by omega, by omega, HL, O1, ?_, fun k f _ hf => P1.out k f hf, b1⟩
      show ∀ _ _, _
      rw [HT.out]
      intro k f hf
      rw [List.getElem?_take] at hf
      split at hf
      · exact P1.out k f hf
      · cases hf
    case round =>
      clear O1 P1 b1 HL HT hil HI HOP HP
      obtain ⟨i, j, rfl, rfl, hij, hj, hlen, hO, hK, hS, hb⟩ := hrel
      by_cases hlt : j < fs.length
      · have c1 : StrAt wr g j fs[j] := hS.out j fs[j] (Nat.le_refl _) (by simp [hlt])
        have hgl := hO.out.1
        obtain ⟨q, hq⟩ : ∃ q, q = stayB fs[j] := ⟨_, rfl⟩
        obtain ⟨f, hfe⟩ : ∃ f, f = fs[j] := ⟨_, rfl⟩
        have HKeep : Hid (q = false → goes (fs.take (j + 1)) = goes (fs.take j) ++ [f]) := fun e => by rw [hfe]; exact goes_keep hlt (hq ▸ e)
        have HDrop : Hid (q = true → goes (fs.take (j + 1)) = goes (fs.take j)) := fun e => goes_drop hlt (hq ▸ e)
        rw [← hfe] at c1 hq
        clear hfe
        have HC := Lib.hid (fun W => stays104 f q hq W)
        clear hq
        unfold StrAt at c1
        have j1 : (j : Int) < fs.length := by omega
        rw [HV.out]
        unfold staysV
        go_wp2_with fail
        refine (HC.out _).mono ?_
        rintro e w2 ⟨rfl, hb2⟩
        have b2 := hb.trans (hb2.mono hb.size)
        have O2 : Hid (Open1 w2 g fs.length) := hO.out.below hb2
        have K2 : Hid (∀ (k : Nat) f, (goes (fs.take j))[k]? = some f → StrAt w2 g k f) := fun k f hf => (hK.out k f hf).below hb2 hgl
        have S2 : Hid (∀ (k : Nat) f, j ≤ k → fs[k]? = some f → StrAt w2 g k f) := fun k f hk hf => (hS.out k f hk hf).below hb2 hgl
        clear hb2 hO hK hS c1 HC hb
        cases q
        · have HK3 := Lib.hid (HKeep.out rfl)
          clear HKeep HDrop
          obtain ⟨u0, hu0⟩ := Option.isSome_iff_exists.1 (O2.out.2 i (by omega)).1
          have z0 := (O2.out.2 i (by omega)).2
          have ii : (i : Int) < fs.length := by omega
          have hput := StrAt.put O2.out (show i < fs.length by omega) f
          have O3 : Hid (Open1 (w2.setCell ⟨g, i, none⟩ (.string f)) g fs.length) := O2.out.set _ _
          have hl3 : Hid (i + 1 = (goes (fs.take (j + 1))).length) := by
            show i + 1 = _
            rw [HK3.out, List.length_append, ← hlen.out]; rfl
          have K3 : Hid (∀ (k : Nat) f', (goes (fs.take (j + 1)))[k]? = some f' → StrAt (w2.setCell ⟨g, i, none⟩ (.string f)) g k f') := by
            intro k f' hf
            rw [HK3.out] at hf
            by_cases hk : k < i
            · rw [List.getElem?_append_left (by rw [← hlen.out]; exact hk)] at hf
              exact (K2.out k f' hf).set _ _ (by omega)
            · rw [List.getElem?_append_right (by rw [← hlen.out]; omega), ← hlen.out] at hf
              have hk0 : k - i = 0 := by
                have := (List.getElem?_eq_some_iff.1 hf).1
                simp at this
                omega
              rw [hk0] at hf
              obtain rfl : f = f' := by simpa using hf
              obtain rfl : k = i := by omega
              exact hput
          have S3 : Hid (∀ (k : Nat) f', j + 1 ≤ k → fs[k]? = some f' → StrAt (w2.setCell ⟨g, i, none⟩ (.string f)) g k f') := fun k f' hk hf =>
            (S2.out k f' (by omega) hf).set _ _ (by omega)
          have b3 := b2.setCell (p := ⟨g, i, none⟩) hg (.string f)
          clear hput O2 K2 S2 hlen HK3
          go_wp2_with fail
          go_roundw
          case rel => exact ⟨i + 1, j + 1, by go_num, by go_num, by omega, hlt, hl3, O3, K3, S3, b3⟩
          case measure => simp [intOf]; omega
        · have HD3 := Lib.hid (HDrop.out rfl)
          clear HKeep HDrop
          have hl3 : Hid (i = (goes (fs.take (j + 1))).length) := by show i = _; rw [HD3.out]; exact hlen.out
          have K3 : Hid (∀ (k : Nat) f, (goes (fs.take (j + 1)))[k]? = some f → StrAt w2 g k f) := by
            intro k f hf
            rw [HD3.out] at hf
            exact K2.out k f hf
          have S3 : Hid (∀ (k : Nat) f, j + 1 ≤ k → fs[k]? = some f → StrAt w2 g k f) := fun k f hk hf => S2.out k f (by omega) hf
          clear K2 S2 hlen HD3
          go_wp2_with fail
          go_roundw
          case rel => exact ⟨i, j + 1, rfl, by go_num, by omega, hlt, hl3, O2, K3, S3, b2⟩
          case measure => simp [intOf]; omega
      · obtain rfl : j = fs.length := by omega
        have hK2 := hK.out
        have hl2 := hlen.out
        rw [List.take_of_length_le (Nat.le_refl _)] at hK2 hl2
        have hclr := run_clear1 wr 0 g i (fs.length - i) (cap - i) (by omega) (fun k hk => (hO.out.2 _ (by omega)).1) (fun k hk => (hO.out.2 _ (by omega)).2)
        have HKK := Lib.hid hK2
        have HLL := Lib.hid hl2
        have ii : (i : Int) ≤ fs.length := by omega
        have ic : (i : Int) ≤ cap := by omega
        have i00 : (0 : Int) ≤ i := by omega
        have hcc : (fs.length : Int) ≤ cap := by omega
        have hgl := hO.out.1
        have hbz : Below w0.heap.size w0 (wr.setCells g i (Builtin.zeroCells #[.string ⟨#[]⟩] (fs.length - i)).toList) := below_setCells g hg _ _ _ hb
        clear hK2 hl2 hK hlen hS
        have hsz : g < (wr.setCells g i (Builtin.zeroCells #[.string ⟨#[]⟩] (fs.length - i)).toList).heap.size := Nat.lt_of_lt_of_le (Nat.lt_of_lt_of_le hgl (Nat.le_of_eq (size_setCells g _ _ _).symm)) (Nat.le_refl _)
        go_wp2_with fail
        go_ret
        refine ⟨by rw [← HLL.out]; rfl, ?_, hbz⟩
        have hcl : (goes fs).length ≤ cap := by have := HLL.out; omega
        refine .inr ⟨g, 0, rfl, hsz, hcl, fun k f hf => ?_⟩
        have hki : k < i := by have := (List.getElem?_eq_some_iff.1 hf).1; have := HLL.out; omega
        have p0 := HKK.out k f hf
        rw [Nat.zero_add]
        rw [cell_setCells_before g _ _ _ _ (by omega)]; exact p0
theorem goes_len (xs : List ByteArray) : (goes xs).length ≤ xs.length := List.length_filter_le _ _
theorem hopP_row {w : World} {B : Nat} {v : Value} {ts : List ByteArray} {n : Nat} (hn : n = (goes ts).length) (h : w.ownsRow B 9 1 v (9 + n) (nineP.map Value.string ++ (goes ts).map Value.string)) : ∃ b d, v = .slice b (hopP ts).length d ∧ IsStrs w b d (hopP ts) := by
  have e : 9 + n = (hopP ts).length := by unfold hopP; rw [List.length_append, hn]; rfl
  have e2 : nineP.map Value.string ++ (goes ts).map Value.string = (hopP ts).map Value.string := by unfold hopP; rw [List.map_append]
  rw [e, e2] at h
  obtain ⟨b, d, h1, h2, _⟩ := own_isStrsB h
  exact ⟨b, d, h1, h2⟩
set_option maxRecDepth 1000000 in
set_option maxHeartbeats 4000000 in
theorem hopNames79 (a : Option Addr) (c : Nat) (fs : List Fld) (hfl : fs.length ≤ 1000000) (hok : ∀ f ∈ fs, FldOk f) (hsum : sumS (allB connB fs) ≤ 1000000000) (w : World) (hM : MaxL w) (hf : IsFlds w a c fs) :
    Calls Tryz.prog 79 #[.slice a fs.length c] w fun e w' => ∃ b d, e = .returned (.slice b (hopP (bsOf (tokF connB fs))).length d) ∧ IsStrs w' b d (hopP (bsOf (tokF connB fs))) ∧ Below w.heap.size w w' := by
  obtain ⟨i0, hi, hz0, hz1, hz2⟩ := info_parts info9
  have HT := Lib.hid (fun W hM h => tokens52 a c fs connB hfl hok hsum W hM h)
  rw [show connB = ⟨#[67, 111, 110, 110, 101, 99, 116, 105, 111, 110]⟩ from rfl] at HT
  have htl := tokF_len connB fs
  have L0 := Lib.hid (below_alloc w (.cells #[.string ⟨#[67, 111, 110, 110, 101, 99, 116, 105, 111, 110]⟩, .string ⟨#[75, 101, 101, 112, 45, 65, 108, 105, 118, 101]⟩, .string ⟨#[80, 114, 111, 120, 121, 45, 67, 111, 110, 110, 101, 99, 116, 105, 111, 110]⟩, .string ⟨#[80, 114, 111, 120, 121, 45, 65, 117, 116, 104, 101, 110, 116, 105, 99, 97, 116, 101]⟩, .string ⟨#[80, 114, 111, 120, 121, 45, 65, 117, 116, 104, 111, 114, 105, 122, 97, 116, 105, 111, 110]⟩, .string ⟨#[84, 69]⟩, .string ⟨#[84, 114, 97, 105, 108, 101, 114]⟩, .string ⟨#[84, 114, 97, 110, 115, 102, 101, 114, 45, 69, 110, 99, 111, 100, 105, 110, 103]⟩, .string ⟨#[85, 112, 103, 114, 97, 100, 101]⟩] 9))
  have O0 : Hid ((w.alloc (.cells #[.string ⟨#[67, 111, 110, 110, 101, 99, 116, 105, 111, 110]⟩, .string ⟨#[75, 101, 101, 112, 45, 65, 108, 105, 118, 101]⟩, .string ⟨#[80, 114, 111, 120, 121, 45, 67, 111, 110, 110, 101, 99, 116, 105, 111, 110]⟩, .string ⟨#[80, 114, 111, 120, 121, 45, 65, 117, 116, 104, 101, 110, 116, 105, 99, 97, 116, 101]⟩, .string ⟨#[80, 114, 111, 120, 121, 45, 65, 117, 116, 104, 111, 114, 105, 122, 97, 116, 105, 111, 110]⟩, .string ⟨#[84, 69]⟩, .string ⟨#[84, 114, 97, 105, 108, 101, 114]⟩, .string ⟨#[84, 114, 97, 110, 115, 102, 101, 114, 45, 69, 110, 99, 111, 100, 105, 110, 103]⟩, .string ⟨#[85, 112, 103, 114, 97, 100, 101]⟩] 9)).ownsRow w.heap.size 9 1 (.slice (some ⟨w.heap.size, 0, none⟩) 9 9) 9 (nineP.map Value.string)) := World.ownsRow_lit w #[.string ⟨#[67, 111, 110, 110, 101, 99, 116, 105, 111, 110]⟩, .string ⟨#[75, 101, 101, 112, 45, 65, 108, 105, 118, 101]⟩, .string ⟨#[80, 114, 111, 120, 121, 45, 67, 111, 110, 110, 101, 99, 116, 105, 111, 110]⟩, .string ⟨#[80, 114, 111, 120, 121, 45, 65, 117, 116, 104, 101, 110, 116, 105, 99, 97, 116, 101]⟩, .string ⟨#[80, 114, 111, 120, 121, 45, 65, 117, 116, 104, 111, 114, 105, 122, 97, 116, 105, 111, 110]⟩, .string ⟨#[84, 69]⟩, .string ⟨#[84, 114, 97, 105, 108, 101, 114]⟩, .string ⟨#[84, 114, 97, 110, 115, 102, 101, 114, 45, 69, 110, 99, 111, 100, 105, 110, 103]⟩, .string ⟨#[85, 112, 103, 114, 97, 100, 101]⟩] 9 (Nat.le_refl _) (by decide) (by simp)
  have F0 := Lib.hid (hf.below L0.out)
  have M0 := Lib.hid (hM.below L0.out)
  have hs0 : (w.alloc (.cells #[.string ⟨#[67, 111, 110, 110, 101, 99, 116, 105, 111, 110]⟩, .string ⟨#[75, 101, 101, 112, 45, 65, 108, 105, 118, 101]⟩, .string ⟨#[80, 114, 111, 120, 121, 45, 67, 111, 110, 110, 101, 99, 116, 105, 111, 110]⟩, .string ⟨#[80, 114, 111, 120, 121, 45, 65, 117, 116, 104, 101, 110, 116, 105, 99, 97, 116, 101]⟩, .string ⟨#[80, 114, 111, 120, 121, 45, 65, 117, 116, 104, 111, 114, 105, 122, 97, 116, 105, 111, 110]⟩, .string ⟨#[84, 69]⟩, .string ⟨#[84, 114, 97, 105, 108, 101, 114]⟩, .string ⟨#[84, 114, 97, 110, 115, 102, 101, 114, 45, 69, 110, 99, 111, 100, 105, 110, 103]⟩, .string ⟨#[85, 112, 103, 114, 97, 100, 101]⟩] 9)).heap.size = w.heap.size + 1 := World.size_alloc _ _
  rw [show ⟨#[67, 111, 110, 110, 101, 99, 116, 105, 111, 110]⟩ = connB from rfl] at HT
  obtain ⟨TS, hTS⟩ : ∃ TS, TS = tokF connB fs := ⟨_, rfl⟩
  rw [← hTS] at htl ⊢
  have HTL : Hid ((bsOf TS).length ≤ 1000000000) := by show _ ≤ _; omega
  have HT2 : Hid (∀ W, MaxL W → IsFlds W a c fs → Calls Tryz.prog 100 #[.slice a fs.length c, .string ⟨#[67, 111, 110, 110, 101, 99, 116, 105, 111, 110]⟩] W fun e w' => ∃ u, e = .returned u ∧ w'.ownsRow W.heap.size 9 1 u TS.length (valsOf TS) ∧ Below W.heap.size W w') := by
    show ∀ W, _
    rw [hTS]
    exact HT.out
  clear hTS HT hM hf hok hsum htl
  go_enter Tryz.func79, Tryz.ntmps79
  go_wp2_with fail
  generalize World.alloc w _ = w0 at *
  refine (HT2.out w0 M0.out F0.out).mono ?_
  rintro e w1 ⟨u, rfl, ho, hb1⟩
  have hu : w1.ownsRow w0.heap.size 9 1 u (bsOf TS).length ((bsOf TS).map Value.string) := by rw [← valsOf_bs, bsOf_length]; exact ho
  have L1 := Lib.hid (L0.out.trans (hb1.mono L0.out.size))
  have O1 := Lib.hid (own_below O0.out hb1)
  have hb1' := Lib.hid hb1
  have hg1 := hb1.size
  clear ho hb1 F0 M0 HT2
  rcases own_openS hu with ⟨rfl, hnil⟩ | ⟨g, cap, rfl, hg, hcap, hop, hpa⟩
  · have HD := Lib.hid (delete106_nil w1)
    unfold staysV at HD
    clear hu
    go_wp2_with fail
    refine HD.out.mono ?_
    rintro e w2 ⟨rfl, hb2⟩
    have L2 := Lib.hid (L1.out.trans (hb2.mono L1.out.size))
    have O2 := Lib.hid (own_below O1.out hb2)
    clear hb2 L1 O1 HD
    go_wp2_with (at_builtin; refine wpList_append_own_none rfl _ _ 88 rfl w.heap.size 9 i0 1 Tryz.underlying88 hi _ _ _ rfl O2.out rfl ?_)
    go_ret
    rw [hnil]
    have hr : w2.ownsRow w.heap.size 9 1 (.slice (some ⟨w.heap.size, 0, none⟩) 9 9) (9 + 0) (nineP.map Value.string ++ (goes []).map Value.string) := O2.out
    obtain ⟨b, d, h1, h2⟩ := hopP_row (ts := []) rfl hr
    exact ⟨b, d, by rw [h1]; rfl, h2, L2.out⟩
  · have HD := Lib.hid (delete106 w0 g cap (bsOf TS) HTL.out hg hcap w1 hb1'.out hop hpa)
    unfold staysV at HD
    have HGL := Lib.hid (goes_len (bsOf TS))
    have hT1 := HTL.out
    obtain ⟨n, hn⟩ : ∃ n, n = (goes (bsOf TS)).length := ⟨_, rfl⟩
    have HN := Lib.hid hn
    have hn1 : n ≤ 1000000000 := by have := HGL.out; omega
    rw [← hn] at HD
    clear hu hop hpa hn HGL hT1 hcap
    go_wp2_with fail
    refine HD.out.mono ?_
    rintro e w2 ⟨rfl, hs2, hb2⟩
    have L2 := Lib.hid (L0.out.trans (hb2.mono L0.out.size))
    have O2 := Lib.hid (own_below O0.out hb2)
    have HC : Hid (∀ (k : Nat) u, ((goes (bsOf TS)).map Value.string)[k]? = some u → w2.cell? ((⟨g, 0, none⟩ : Addr).add k) = some u) := by
      intro k u hu
      rw [Addr.add_mid]
      rw [List.getElem?_map] at hu
      obtain ⟨x, hx, rfl⟩ := Option.map_eq_some_iff.1 hu
      obtain h0 | ⟨bk, o, h2, hbk, hc, hcell⟩ := hs2
      · rw [h0] at hx; simp at hx
      · cases h2
        exact hcell k x hx
    have HL : Hid (((goes (bsOf TS)).map Value.string).length = n * 1) := by show _ = _; rw [List.length_map, ← HN.out, Nat.mul_one]
    have H1 : Hid (∀ u ∈ (goes (bsOf TS)).map Value.string, u.oneCell' = true) := by
      intro u hu
      obtain ⟨x, _, rfl⟩ := List.mem_map.1 hu
      rfl
    have hs22 := L2.out.size
    clear hb2 L1 O1 HD L0 O0 hs2 HTL
    go_wp2_with (at_builtin; refine wpList_append_own _ rfl _ _ 88 rfl w.heap.size 9 i0 (.string ⟨#[]⟩) 1 16 Tryz.underlying88 hi hz0 hz1 hz2 rfl (by decide) _ _ _ rfl O2.out ⟨g, 0, none⟩ n cap ((goes (bsOf TS)).map Value.string) rfl HL.out HC.out H1.out (by unfold maxLen; omega) (by omega) hs22 ?_)
    intro v' w3 hown' hgrow _
    have L3 := Lib.hid (L2.out.grown hgrow hs22 (fun k hk => (O2.out.lt k hk).1))
    obtain ⟨b, d, h1, h2⟩ := hopP_row HN.out hown'
    clear hown' hgrow O2 HC HL H1
    go_wp2_with fail
    go_ret
    exact ⟨b, d, by rw [h1]; rfl, h2, L3.out⟩
set_option maxRecDepth 1000000 in
set_option maxHeartbeats 4000000 in
/-- Hops. -/
theorem hops41 (a : Option Addr) (c : Nat) (fs : List Fld) (hfl : fs.length ≤ 1000000) (ha : a = none → c = 0 ∧ fs = []) (hok : ∀ f ∈ fs, FldOk f) (hsum : sumS (allB connB fs) ≤ 900000000) (gs : List Fld) (hgs : gs = hopsR (bsOf (tokF connB fs)) fs) (w : World) (hM : MaxL w) (hf : IsFlds w a c fs) :
    Calls Tryz.prog 41 #[.slice a fs.length c] w fun e w' => ∃ b d, e = .returned (.slice b gs.length d) ∧ (b = none → d = 0 ∧ gs = []) ∧ IsFlds w' b d gs ∧ Below w.heap.size w w' := by
  have HH := Lib.hid (hopNames79 a c fs hfl hok (by omega) w hM hf)
  have HPL : (hopP (bsOf (tokF connB fs))).length ≤ 1000000000 := by
    have h1 := tokF_len connB fs
    have h2 := goes_len (bsOf (tokF connB fs))
    unfold hopP
    rw [List.length_append]
    have : nineP.length = 9 := rfl
    omega
  obtain ⟨HP, hHP⟩ : ∃ HP, HP = hopP (bsOf (tokF connB fs)) := ⟨_, rfl⟩
  have hgs2 : gs = dropL HP fs := by rw [hgs, hHP, hops_eq]
  rw [← hHP] at HH HPL
  rw [hgs2]
  have HD := Lib.hid (fun b d W hx h => drop55 a c fs b d HP (by omega) HPL ha hok W h hx)
  have HF := Lib.hid hf
  clear hHP hgs2 hgs hf hM hok hsum ha HPL
  go_enter Tryz.func41, Tryz.ntmps41
  go_wp2_with fail
  refine HH.out.mono ?_
  rintro e w1 ⟨b1, d1, rfl, hs1, hb1⟩
  have HD1 := Lib.hid (HD.out b1 d1 w1 hs1 (HF.out.below hb1))
  clear HD HH hs1
  go_wp2_with fail
  refine HD1.out.mono ?_
  rintro e w2 ⟨a2, c2, rfl, h0, hf2, hb2⟩
  have H0 := Lib.hid h0
  have F2 := Lib.hid hf2
  have B2 := Lib.hid (hb1.trans (hb2.mono hb1.size))
  clear h0 hf2 hb1 hb2 HD1
  go_wp2_with fail
  go_ret
  exact ⟨a2, c2, rfl, H0.out, F2.out, B2.out⟩
end Go.Proofs.YtbbphklhnngjmaaGreatDoor

/- Memory of an object that lies in some blocks G, its own: what a call that writes there leaves as it was. -/
namespace Go.Proofs.YtbbphklhnngjmaaGreatDoor
open Go.RowKit

/-- Nothing has changed but blocks of G and new ones. -/
structure Keep (G : Nat → Prop) (w w' : World) : Prop where
  os : w'.os = w.os
  tape : w'.tape = w.tape
  output : w'.output = w.output
  size : w.heap.size ≤ w'.heap.size
  block : ∀ k, k < w.heap.size → ¬ G k → w'.heap[k]? = w.heap[k]?
/-- The blocks to come are G's. -/
def Up (G : Nat → Prop) (w : World) : Prop := ∀ k, w.heap.size ≤ k → G k
/-- The first size is small enough for B. -/
def Floor (G : Nat → Prop) (B : Nat) : Prop := ∀ k, G k → B ≤ k
section
variable {G : Nat → Prop} {a w w' : World} {B : Nat}
theorem Keep.refl (G : Nat → Prop) (w : World) : Keep G w w := ⟨rfl, rfl, rfl, Nat.le_refl _, fun _ _ _ => rfl⟩
theorem Keep.trans {b c : World} (h : Keep G a b) (k : Keep G b c) : Keep G a c :=
  ⟨k.os.trans h.os, k.tape.trans h.tape, k.output.trans h.output, Nat.le_trans h.size k.size, fun i hi hn => (k.block i (Nat.lt_of_lt_of_le hi h.size) hn).trans (h.block i hi hn)⟩
theorem Keep.of_below (h : Below w.heap.size w w') : Keep G w w' := ⟨h.os, h.tape, h.output, h.size, fun k hk _ => h.block k hk⟩
theorem Keep.more {G' : Nat → Prop} (h : Keep G w w') (hg : ∀ k, k < w.heap.size → G k → G' k) : Keep G' w w' := ⟨h.os, h.tape, h.output, h.size, fun k hk hn => h.block k hk (fun hk2 => hn (hg k hk hk2))⟩
theorem Keep.bel (h : Keep G w w') (hf : Floor G B) (hB : B ≤ w.heap.size) : Below B w w' :=
  ⟨h.os, h.tape, h.output, h.size, fun k hk => h.block k (by omega) (fun hg => by have := hf k hg; omega)⟩
theorem Keep.grown {row : Option Nat} (hg : w.grownBy w' row) (hr : ∀ k, row = some k → G k) : Keep G w w' :=
  ⟨hg.os, hg.tape, hg.output, hg.size, fun k hk hn => hg.block k hk (fun e => hn (hr k e.symm))⟩
theorem Keep.setCell (w : World) {p : Addr} (hp : G p.block) (u : Value) : Keep G w (w.setCell p u) :=
  ⟨rfl, rfl, rfl, by simp [World.setCell], fun k _ hn => Below.heap_setCell w p u k (fun e => hn (by rw [e]; exact hp))⟩
theorem Keep.alloc (w : World) (o : Obj) : Keep G w (w.alloc o) := .of_below (below_alloc w o)
theorem Keep.drew (w : World) : Keep G w w.drew := ⟨rfl, rfl, rfl, Nat.le_refl _, fun _ _ _ => rfl⟩
theorem Keep.drewN (w : World) (n : Nat) : Keep G w (w.drewN n) := ⟨rfl, rfl, rfl, Nat.le_refl _, fun _ _ _ => rfl⟩
theorem Up.keep (h : Up G w) (hk : Keep G w w') : Up G w' := fun k hk2 => h k (Nat.le_trans hk.size hk2)
theorem Up.below (h : Up G w) (hk : Below w.heap.size w w') : Up G w' := fun k hk2 => h k (Nat.le_trans hk.size hk2)
end

/-- Block g is just these cells; none is frozen. -/
def Row (w : World) (g : Nat) (t : TypeId) (cs : Array Value) : Prop := w.heap[g]? = some (.cells cs t (0, 0))
section
variable {w w' : World} {g : Nat} {t : TypeId} {cs : Array Value} {G : Nat → Prop}
theorem Row.lt (h : Row w g t cs) : g < w.heap.size := (Array.getElem?_eq_some_iff.1 h).1
theorem Row.cell (h : Row w g t cs) (i : Nat) : w.cell? ⟨g, i, none⟩ = cs[i]? := cell_of_row w g i cs t (0, 0) h
theorem Row.free (h : Row w g t cs) (i : Nat) : w.frozen? ⟨g, i, none⟩ = false := by
  unfold Row at h
  simp [World.frozen?, h]
theorem Row.new (w : World) (t : TypeId) (cs : Array Value) : Row (w.alloc (.cells cs t)) w.heap.size t cs := heap_alloc_new w _
theorem Row.keep (h : Row w g t cs) (hk : Keep G w w') (hg : ¬ G g) : Row w' g t cs := (hk.block g h.lt hg).trans h
theorem Row.below (h : Row w g t cs) (hb : Below w.heap.size w w') : Row w' g t cs := (hb.block g h.lt).trans h
theorem Row.grown {row : Option Nat} (h : Row w g t cs) (hb : w.grownBy w' row) (hg : row ≠ some g) : Row w' g t cs := (hb.block g h.lt (fun e => hg e.symm)).trans h
theorem Row.alloc (h : Row w g t cs) (o : Obj) : Row (w.alloc o) g t cs := h.below (below_alloc w o)
theorem Row.put (h : Row w g t cs) (i : Nat) (u : Value) : Row (w.setCell ⟨g, i, none⟩ u) g t (cs.setIfInBounds i u) := by
  unfold Row at h ⊢
  simp [World.setCell, Array.getElem?_modify, h]
theorem Row.far (h : Row w g t cs) {p : Addr} (hp : g ≠ p.block) (u : Value) : Row (w.setCell p u) g t cs := (Below.heap_setCell w p u g hp).trans h
theorem Row.drew (h : Row w g t cs) : Row w.drew g t cs := h
theorem Row.drewN (h : Row w g t cs) (n : Nat) : Row (w.drewN n) g t cs := h
end

/-- A row of elements that the object owns. -/
def Own (w : World) (e : TypeId) (n : Nat) (v : Value) (m : Nat) (xs : List Value) : Prop := w.ownsRow 0 e n v m xs
theorem own_lt {w : World} {e : TypeId} {n m : Nat} {v : Value} {xs : List Value} (h : w.ownsRow 0 e n v m xs) {k : Nat} (hk : v.ownBlock = some k) : k < w.heap.size := (h.lt k hk).2
theorem own_ne {w : World} {e t : TypeId} {n m g : Nat} {v : Value} {xs : List Value} {cs : Array Value} (h : w.ownsRow 0 e n v m xs) (hg : Row w g t cs) (hne : e ≠ t) : v.ownBlock ≠ some g := by
  obtain ⟨_, ⟨rfl, _⟩ | ⟨k, cap, cur, rfl, _, hk, _⟩⟩ := h
  · simp [Value.ownBlock]
  · intro he
    have : k = g := by simpa [Value.ownBlock] using he
    subst this
    unfold Row at hg
    rw [hk] at hg
    injection hg with h2
    injection h2 with _ h3
    exact hne h3
theorem own_keep {w w' : World} {G : Nat → Prop} {e : TypeId} {n m : Nat} {v : Value} {xs : List Value} (h : w.ownsRow 0 e n v m xs) (hk : Keep G w w') (hg : ∀ k, v.ownBlock = some k → ¬ G k) : w'.ownsRow 0 e n v m xs := by
  obtain ⟨hl, h0 | ⟨g, cap, cur, rfl, hb, hc, r⟩⟩ := h
  · exact ⟨hl, .inl h0⟩
  · exact ⟨hl, .inr ⟨g, cap, cur, rfl, hb, (hk.block g (Array.getElem?_eq_some_iff.1 hc).1 (hg g rfl)).trans hc, r⟩⟩
theorem own_bel {w w' : World} {e : TypeId} {n m : Nat} {v : Value} {xs : List Value} (h : w.ownsRow 0 e n v m xs) (hb : Below w.heap.size w w') : w'.ownsRow 0 e n v m xs :=
  own_keep (G := fun _ => False) h (.of_below hb) (fun _ _ h => h)
theorem own_grown {w w' : World} {row : Option Nat} {e : TypeId} {n m : Nat} {v : Value} {xs : List Value} (h : w.ownsRow 0 e n v m xs) (hg : w.grownBy w' row) (hr : ∀ k, v.ownBlock = some k → row ≠ some k) : w'.ownsRow 0 e n v m xs :=
  own_keep (G := fun k => row = some k) h (.grown hg (fun _ h => h)) hr
theorem own_set {w : World} {e t : TypeId} {n m g i : Nat} {v : Value} {xs : List Value} {cs : Array Value} (h : w.ownsRow 0 e n v m xs) (hg : Row w g t cs) (hne : e ≠ t) (u : Value) : (w.setCell ⟨g, i, none⟩ u).ownsRow 0 e n v m xs :=
  own_keep (G := fun k => k = g) h (Keep.setCell (G := fun k => k = g) w (p := ⟨g, i, none⟩) rfl u) (fun k hk e => own_ne h hg hne (by rw [hk, e]))
theorem own_slice {w : World} {base : Nat} {e : TypeId} {n m : Nat} {v : Value} {xs : List Value} (h : w.ownsRow base e n v m xs) : ∃ a c, v = .slice a m c := by
  obtain ⟨_, ⟨rfl, h0⟩ | ⟨g, cap, cur, rfl, _⟩⟩ := h
  · exact ⟨none, 0, by rw [h0]⟩
  · exact ⟨_, _, rfl⟩
theorem own_len {w : World} {base : Nat} {e : TypeId} {n m m' : Nat} {v : Value} {xs : List Value} (h : w.ownsRow base e n v m xs) (he : m = m') : w.ownsRow base e n v m' xs := he ▸ h
end Go.Proofs.YtbbphklhnngjmaaGreatDoor

/- rewrite: response.Own at 503, closing, rewrite.Own, the fixed facts. -/
namespace Go.Proofs.YtbbphklhnngjmaaGreatDoor
open Go.RowKit

theorem isFlds_keepR {G : Nat → Prop} {w w' : World} {a : Option Addr} {c : Nat} {fs : List Fld} (h : IsFlds w a c fs) (hk : Keep G w w') (hg : ∀ ad, a = some ad → ¬ G ad.block) : IsFlds w' a c fs := by
  rcases h with h | ⟨bk, o, rfl, hbk, hc, hcell⟩
  · exact .inl h
  · have hn : ¬ G bk := hg ⟨bk, o, none⟩ rfl
    refine .inr ⟨bk, o, rfl, Nat.lt_of_lt_of_le hbk hk.size, hc, fun j f hj => ?_⟩
    have := hcell j f hj
    unfold World.cell? at this ⊢
    rw [hk.block bk hbk hn]
    exact this
theorem isFlds_new2R (w : World) (a b c d : List UInt8) (T : TypeId) : IsFlds (w.alloc (.cells #[.string (bs a), .string (bs b), .string (bs c), .string (bs d)] T)) (some ⟨w.heap.size, 0, none⟩) 2 [(a, b), (c, d)] := by
  refine .inr ⟨w.heap.size, 0, rfl, by simp, by simp, fun j g hf => ?_⟩
  match j, hf with
  | 0, hf => obtain rfl := Option.some.inj hf; simp
  | 1, hf => obtain rfl := Option.some.inj hf; simp
  | j + 2, hf => simp at hf
theorem isFlds_new3R (w : World) (a b c d e f : List UInt8) (T : TypeId) : IsFlds (w.alloc (.cells #[.string (bs a), .string (bs b), .string (bs c), .string (bs d), .string (bs e), .string (bs f)] T)) (some ⟨w.heap.size, 0, none⟩) 3 [(a, b), (c, d), (e, f)] := by
  refine .inr ⟨w.heap.size, 0, rfl, by simp, by simp, fun j g hf => ?_⟩
  match j, hf with
  | 0, hf => obtain rfl := Option.some.inj hf; simp
  | 1, hf => obtain rfl := Option.some.inj hf; simp
  | 2, hf => obtain rfl := Option.some.inj hf; simp
  | j + 3, hf => simp at hf
/-- What rewrite's fixed facts ask of the world. -/
def LaidR (w : World) : Prop := MaxL w ∧ Pow w ∧ Reas w
theorem LaidR.below {w w' : World} (h : LaidR w) (hb : Below w.heap.size w w') : LaidR w' := ⟨h.1.below hb, h.2.1.below hb, h.2.2.below hb⟩
theorem own_isFldsB {w : World} {base : Nat} {T : TypeId} {v : Value} {fs : List Fld} (h : w.ownsRow base T 2 v fs.length (cellsF fs)) : ∃ a c, v = .slice a fs.length c ∧ c ≤ 9223372036854775807 ∧ (a = none → c = 0 ∧ fs = []) ∧ IsFlds w a c fs ∧ ∀ ad, a = some ad → base ≤ ad.block := by
  have ho2 := h
  obtain ⟨b, d, rfl, h1, h2⟩ := own_isFldsT h
  obtain ⟨_, ⟨h3, _⟩ | ⟨g, cap, cur, h3, hg, _, _, hcm, _⟩⟩ := ho2
  · injection h3 with e1 e2 e3
    subst e1 e3
    exact ⟨none, 0, rfl, by omega, h1, h2, fun ad e => by cases e⟩
  · injection h3 with e1 e2 e3
    subst e1 e3
    exact ⟨_, _, rfl, by unfold maxLen at hcm; omega, h1, h2, fun ad e => by obtain rfl := Option.some.inj e; exact hg⟩
theorem LaidR.m {w : World} (h : LaidR w) : MaxL w := by unfold LaidR at h; exact h.1
theorem LaidR.p {w : World} (h : LaidR w) : Pow w := by unfold LaidR at h; exact h.2.1
theorem LaidR.r {w : World} (h : LaidR w) : Reas w := by unfold LaidR at h; exact h.2.2
def rea503 : List UInt8 := [83, 101, 114, 118, 105, 99, 101, 32, 85, 110, 97, 118, 97, 105, 108, 97, 98, 108, 101]
def bod503 : List UInt8 := [53, 48, 51, 32, 83, 101, 114, 118, 105, 99, 101, 32, 85, 110, 97, 118, 97, 105, 108, 97, 98, 108, 101, 10]
def ctF : Fld := ([67, 111, 110, 116, 101, 110, 116, 45, 84, 121, 112, 101], [116, 101, 120, 116, 47, 112, 108, 97, 105, 110])
def clF : Fld := ([67, 111, 110, 116, 101, 110, 116, 45, 76, 101, 110, 103, 116, 104], [50, 52])
def ccF : Fld := ([67, 111, 110, 110, 101, 99, 116, 105, 111, 110], [99, 108, 111, 115, 101])
theorem reason_503R : reasonL 503 = rea503 := by rfl
theorem prt_503 : prtI 10 503 = [53, 48, 51] := by decide +kernel
theorem prt_24 : prtI 10 24 = [50, 52] := by decide +kernel
theorem own_five {w : World} (g : Nat) (B0 : Nat) {base : World} (hb : Below B0 base w) (hg : B0 ≤ g) (v0 v1 v2 v3 v4 : Value) :
    Below B0 base (((((w.setCell ⟨g, 0, none⟩ v0).setCell ⟨g, 1, none⟩ v1).setCell ⟨g, 2, none⟩ v2).setCell ⟨g, 3, none⟩ v3).setCell ⟨g, 4, none⟩ v4)
    ∧ Keep (fun j => j = g) w (((((w.setCell ⟨g, 0, none⟩ v0).setCell ⟨g, 1, none⟩ v1).setCell ⟨g, 2, none⟩ v2).setCell ⟨g, 3, none⟩ v3).setCell ⟨g, 4, none⟩ v4) := by
  have KB : ∀ (v : World) (i : Nat) (u : Value), Keep (fun j => j = g) v (v.setCell ⟨g, i, none⟩ u) := fun v i u => Keep.setCell (G := fun j => j = g) v (p := ⟨g, i, none⟩) rfl u
  exact ⟨((((hb.setCell (p := ⟨g, 0, none⟩) hg _).setCell (p := ⟨g, 1, none⟩) hg _).setCell (p := ⟨g, 2, none⟩) hg _).setCell (p := ⟨g, 3, none⟩) hg _).setCell (p := ⟨g, 4, none⟩) hg _,
    ((((KB w 0 v0).trans (KB _ 1 v1)).trans (KB _ 2 v2)).trans (KB _ 3 v3)).trans (KB _ 4 v4)⟩
set_option maxRecDepth 100000 in
set_option maxHeartbeats 4000000 in
theorem rown35 (w : World) (hP : Pow w) (hR : Reas w) :
    Calls Tryz.prog 35 #[.int .i64 503] w fun e w' => ∃ g, e = .returned (.agg #[.int .i64 503, .string (bs rea503), .slice (some ⟨g, 0, none⟩) 2 2, .string (bs bod503), .int .i64 1]) ∧ w.heap.size ≤ g ∧ IsFlds w' (some ⟨g, 0, none⟩) 2 [ctF, clF] ∧ Below w.heap.size w w' := by
  have HRE : Hid (∀ W, Reas W → Calls Tryz.prog 72 #[.int .i64 503] W fun e w' => e = .returned (.string (bs rea503)) ∧ Below W.heap.size W w') := fun W h => by
    have := reason22 503 W h
    rwa [reason_503R] at this
  have HD1 : Hid (∀ W, Pow W → Calls Tryz.prog 73 #[.int .i64 503] W fun e w' => e = .returned (.string (bs [53, 48, 51])) ∧ Below W.heap.size W w') := fun W h => by
    have := digits28 503 (by decide) W h
    rw [prt_503] at this
    exact this
  have HD2 : Hid (∀ W, Pow W → Calls Tryz.prog 73 #[.int .i64 24] W fun e w' => e = .returned (.string (bs [50, 52])) ∧ Below W.heap.size W w') := fun W h => by
    have := digits28 24 (by decide) W h
    rw [prt_24] at this
    exact this
  have A1 := fun V => add_str [53, 48, 51] [32] (by decide) V
  have A2 := fun V => add_str [53, 48, 51, 32] rea503 (by decide) V
  have A3 := fun V => add_str ([53, 48, 51, 32] ++ rea503) [10] (by decide) V
  have e32 : bs [32] = ⟨#[32]⟩ := rfl
  have e10 : bs [10] = ⟨#[10]⟩ := rfl
  rw [e32, show ([53, 48, 51] : List UInt8) ++ [32] = [53, 48, 51, 32] from rfl] at A1
  rw [e10, show ([53, 48, 51, 32] : List UInt8) ++ rea503 ++ [10] = bod503 from rfl] at A3
  have hz : (bs bod503).size = 24 := rfl
  have F2 : ∀ W, IsFlds (World.alloc W (.cells #[.string (bs [67, 111, 110, 116, 101, 110, 116, 45, 84, 121, 112, 101]), .string (bs [116, 101, 120, 116, 47, 112, 108, 97, 105, 110]), .string (bs [67, 111, 110, 116, 101, 110, 116, 45, 76, 101, 110, 103, 116, 104]), .string (bs [50, 52])] 62)) (some ⟨W.heap.size, 0, none⟩) 2 [ctF, clF] := fun W => isFlds_new2R W _ _ _ _ _
  have e1 : bs [67, 111, 110, 116, 101, 110, 116, 45, 84, 121, 112, 101] = ⟨#[67, 111, 110, 116, 101, 110, 116, 45, 84, 121, 112, 101]⟩ := rfl
  have e2 : bs [116, 101, 120, 116, 47, 112, 108, 97, 105, 110] = ⟨#[116, 101, 120, 116, 47, 112, 108, 97, 105, 110]⟩ := rfl
  have e3 : bs [67, 111, 110, 116, 101, 110, 116, 45, 76, 101, 110, 103, 116, 104] = ⟨#[67, 111, 110, 116, 101, 110, 116, 45, 76, 101, 110, 103, 116, 104]⟩ := rfl
  rw [e1, e2, e3] at F2
  have FF := Lib.hid F2
  generalize hx5 : bs bod503 = X5 at *
  generalize hx4 : bs ([53, 48, 51, 32] ++ rea503) = X4 at *
  generalize hx3 : bs [53, 48, 51, 32] = X3 at *
  generalize hx2 : bs [53, 48, 51] = X2 at *
  generalize hx1 : bs rea503 = X1 at *
  generalize hx0 : bs [50, 52] = X0 at *
  have R0 := Row.new w 33 #[.int .i64 0, .string ⟨#[]⟩, .slice none 0 0, .string ⟨#[]⟩, .int .i64 0]
  have L0 := below_alloc w (.cells #[.int .i64 0, .string ⟨#[]⟩, .slice none 0 0, .string ⟨#[]⟩, .int .i64 0] 33)
  clear hx5 hx4 hx3 hx2 hx1 hx0 e32 e10 e1 e2 e3 F2
  have HP := Lib.hid (hP.below L0)
  have HR := Lib.hid (hR.below L0)
  clear hP hR
  go_enter Tryz.func35, Tryz.ntmps35
  go_wp2_with fail
  obtain ⟨b0, hb0⟩ : ∃ b0, b0 = w.heap.size := ⟨_, rfl⟩
  have hle : w.heap.size ≤ b0 := Nat.le_of_eq hb0.symm
  have HLE := Lib.hid hle
  rw [← hb0] at R0 ⊢
  generalize World.alloc w _ = w0 at *
  have RR0 := Lib.hid R0
  have LL0 := Lib.hid L0
  clear R0 L0 hb0 hle
  with_reducible refine (HRE.out w0 HR.out).mono ?_
  rintro e w1 ⟨rfl, hb1⟩
  have P1 := Lib.hid (HP.out.below hb1)
  have RR1 := Lib.hid (RR0.out.below hb1)
  have LL1 := Lib.hid (LL0.out.trans (hb1.mono LL0.out.size))
  clear hb1 HP HR RR0 LL0
  go_wp2_with fail
  with_reducible refine (HD1.out w1 P1.out).mono ?_
  rintro e w2 ⟨rfl, hb2⟩
  have P2 := Lib.hid (P1.out.below hb2)
  have RR2 := Lib.hid (RR1.out.below hb2)
  have LL2 := Lib.hid (LL1.out.trans (hb2.mono LL1.out.size))
  clear hb2 P1 RR1 LL1
  go_wp2_with fail
  with_reducible refine (HD2.out w2 P2.out).mono ?_
  rintro e w3 ⟨rfl, hb3⟩
  have RR3 := Lib.hid (RR2.out.below hb3)
  have LL3 := Lib.hid (LL2.out.trans (hb3.mono LL2.out.size))
  clear hb3 P2 RR2 LL2
  have LA := below_alloc w3 (.cells #[.string ⟨#[67, 111, 110, 116, 101, 110, 116, 45, 84, 121, 112, 101]⟩, .string ⟨#[116, 101, 120, 116, 47, 112, 108, 97, 105, 110]⟩, .string ⟨#[67, 111, 110, 116, 101, 110, 116, 45, 76, 101, 110, 103, 116, 104]⟩, .string X0] 62)
  have RA := RR3.out.below LA
  have LL4 := Lib.hid (LL3.out.trans (LA.mono LL3.out.size))
  have F4 := Lib.hid (FF.out w3)
  have hne : b0 ≠ w3.heap.size := Nat.ne_of_lt RR3.out.lt
  have HNE := Lib.hid hne
  have z0 := RA.free 0
  have z1 := RA.free 1
  have z2 := RA.free 2
  have z3 := RA.free 3
  have z4 := RA.free 4
  have p0 := RA.cell 0
  have p1 := RA.cell 1
  have p2 := RA.cell 2
  have p3 := RA.cell 3
  have p4 := RA.cell 4
  simp only [List.getElem?_toArray, List.getElem?_cons_zero, List.getElem?_cons_succ] at p0 p1 p2 p3 p4
  clear LA RA hne FF
  go_wp2_with fail
  refine bodyPost_ret (v := .agg #[.int .i64 503, .string X1, .slice (some ⟨w3.heap.size, 0, none⟩) 2 2, .string X5, .int .i64 1]) (by simp [results, Tryz.results35, go_sem, p0, p1, p2, p3, p4]) rfl ⟨_, rfl, LL3.out.size, ?_⟩
  have h5 := own_five b0 _ LL4.out HLE.out (.int .i64 503) (.string X1) (.slice (some ⟨w3.heap.size, 0, none⟩) 2 2) (.string X5) (.int .i64 1)
  exact ⟨isFlds_keepR F4.out h5.2 (fun ad had => by obtain rfl := Option.some.inj had; exact fun e => HNE.out e.symm), h5.1⟩
/-- The fields with Connection: close added. -/
def closeF (q : Bool) (fs : List Fld) : List Fld := if q = true then fs ++ [ccF] else fs
set_option maxRecDepth 100000 in
set_option maxHeartbeats 4000000 in
theorem closing65 (c k : Int) (r bb : ByteArray) (a : Option Addr) (d : Nat) (fs : List Fld) (q : Bool) (hfl : fs.length ≤ 1000000) (ha : a = none → d = 0 ∧ fs = []) (w : World) (hf : IsFlds w a d fs) :
    Calls Tryz.prog 65 #[.agg #[.int .i64 c, .string r, .slice a fs.length d, .string bb, .int .i64 k], .bool q] w fun e w' => ∃ b d', e = .returned (.agg #[.int .i64 c, .string r, .slice b (closeF q fs).length d', .string bb, .int .i64 k]) ∧ (b = none → d' = 0 ∧ closeF q fs = []) ∧ IsFlds w' b d' (closeF q fs) ∧ Below w.heap.size w w' := by
  have HA : Hid (∀ W, IsFlds W a d fs → Calls Tryz.prog 46 #[.slice a fs.length d, .string ⟨#[67, 111, 110, 110, 101, 99, 116, 105, 111, 110]⟩, .string ⟨#[99, 108, 111, 115, 101]⟩] W fun e w' => ∃ u, e = .returned u ∧ w'.ownsRow W.heap.size 62 2 u (fs ++ [ccF]).length (cellsF (fs ++ [ccF])) ∧ Below W.heap.size W w') := fun W h => add48 a d fs [67, 111, 110, 110, 101, 99, 116, 105, 111, 110] [99, 108, 111, 115, 101] (by omega) ha W h
  have HN := Lib.hid ha
  have HF0 := Lib.hid hf
  obtain ⟨n, hn⟩ : ∃ n, n = fs.length := ⟨_, rfl⟩
  rw [← hn] at HA ⊢
  have HNN := Lib.hid hn
  have R0 := Row.new w 33 #[.int .i64 c, .string r, .slice a n d, .string bb, .int .i64 k]
  have L0 := (below_alloc w (.cells #[.int .i64 c, .string r, .slice a n d, .string bb, .int .i64 k] 33))
  have R1 := Row.new (w.alloc (.cells #[.int .i64 c, .string r, .slice a n d, .string bb, .int .i64 k] 33)) 33 #[.int .i64 0, .string ⟨#[]⟩, .slice none 0 0, .string ⟨#[]⟩, .int .i64 0]
  have L1 := L0.alloc (by simp) (.cells #[.int .i64 0, .string ⟨#[]⟩, .slice none 0 0, .string ⟨#[]⟩, .int .i64 0] 33)
  have R0' := R0.alloc (.cells #[.int .i64 0, .string ⟨#[]⟩, .slice none 0 0, .string ⟨#[]⟩, .int .i64 0] 33)
  rw [show (w.alloc (.cells #[.int .i64 c, .string r, .slice a n d, .string bb, .int .i64 k] 33)).heap.size = w.heap.size + 1 by simp] at R1
  have HF := Lib.hid (hf.below L1)
  clear hf hn ha R0 L0
  go_enter Tryz.func65, Tryz.ntmps65
  go_upto_region 1 with fail
  obtain ⟨b0, hb0⟩ : ∃ b0, b0 = w.heap.size := ⟨_, rfl⟩
  obtain ⟨b1, hb1⟩ : ∃ b1, b1 = w.heap.size + 1 := ⟨_, rfl⟩
  have hle : w.heap.size ≤ b1 := by omega
  have hle0 : w.heap.size ≤ b0 := by omega
  have hne : b0 ≠ b1 := by omega
  rw [← hb0] at R0'
  rw [← hb1] at R1 ⊢
  rw [← hb0]
  generalize World.alloc (World.alloc w _) _ = w1 at *
  have LL := Lib.hid L1
  have HLE := Lib.hid hle
  have HLE0 := Lib.hid hle0
  have HNE := Lib.hid hne
  have HB0 : Hid (b0 < w1.heap.size) := R0'.lt
  have HB1 : Hid (b1 < w1.heap.size) := R1.lt
  have RR0 := Lib.hid R0'
  have RR1 := Lib.hid R1
  clear R1 R0' L1 hb0 hb1 hle hle0 hne
  cases q
  · skip
    have r0 := RR0.out.cell 0
    have r1 := RR0.out.cell 1
    have r2 := RR0.out.cell 2
    have r3 := RR0.out.cell 3
    have r4 := RR0.out.cell 4
    have z0 := RR1.out.free 0
    have z1 := RR1.out.free 1
    have z2 := RR1.out.free 2
    have z3 := RR1.out.free 3
    have z4 := RR1.out.free 4
    have p0 := RR1.out.cell 0
    have p1 := RR1.out.cell 1
    have p2 := RR1.out.cell 2
    have p3 := RR1.out.cell 3
    have p4 := RR1.out.cell 4
    simp only [List.getElem?_toArray, List.getElem?_cons_zero, List.getElem?_cons_succ] at r0 r1 r2 r3 r4 p0 p1 p2 p3 p4
    go_wp2_with fail
    refine bodyPost_ret (v := .agg #[.int .i64 c, .string r, .slice a n d, .string bb, .int .i64 k]) (by simp [results, Tryz.results65, go_sem, p0, p1, p2, p3, p4]) rfl ⟨a, d, by rw [HNN.out]; rfl, HN.out, ?_⟩
    have h5 := own_five b1 _ LL.out HLE.out (.int .i64 c) (.string r) (.slice a n d) (.string bb) (.int .i64 k)
    exact ⟨HF0.out.below h5.1, h5.1⟩
  · have r2 := RR0.out.cell 2
    simp only [List.getElem?_toArray, List.getElem?_cons_zero, List.getElem?_cons_succ] at r2
    go_wp2_with fail
    with_reducible refine (HA.out w1 HF.out).mono ?_
    rintro e w2 ⟨u, rfl, ho, hb⟩
    obtain ⟨b, d', rfl, _, hbn, hf2, hbl⟩ := own_isFldsB ho
    have hl2 : (fs ++ [ccF]).length = n + 1 := by rw [List.length_append, ← HNN.out]; rfl
    rw [hl2]
    have Q0 := RR0.out.below hb
    have Q1 := RR1.out.below hb
    have LL2 := Lib.hid ((LL.out.trans (hb.mono LL.out.size)).setCell (p := ⟨b0, 2, none⟩) HLE0.out (.slice b (n + 1) d'))
    have K2 : Keep (fun j => j = b0) w2 (w2.setCell ⟨b0, 2, none⟩ (.slice b (n + 1) d')) := Keep.setCell (G := fun j => j = b0) w2 (p := ⟨b0, 2, none⟩) rfl _
    have F3 := Lib.hid (isFlds_keepR hf2 K2 (fun ad had => by have := hbl ad had; have := HB0.out; intro e; omega))
    have HBL : Hid (∀ ad, b = some ad → b1 < ad.block) := fun ad had => by have := hbl ad had; have := HB1.out; omega
    have HBN := Lib.hid hbn
    have y2 := Q0.free 2
    have x2 := Q0.cell 2
    have Q0' := Q0.put 2 (.slice b (n + 1) d')
    have Q1' := Q1.far (p := ⟨b0, 2, none⟩) (fun e => HNE.out e.symm) (.slice b (n + 1) d')
    have e0 : (#[.int .i64 c, .string r, .slice a n d, .string bb, .int .i64 k] : Array Value).setIfInBounds 2 (.slice b (n + 1) d') = #[.int .i64 c, .string r, .slice b (n + 1) d', .string bb, .int .i64 k] := rfl
    rw [e0] at Q0'
    simp only [List.getElem?_toArray, List.getElem?_cons_zero, List.getElem?_cons_succ] at x2
    clear hf2 K2 hbn hbl ho hb Q0 Q1 e0 HF r2 hl2
    go_upto_region 3 with fail
    obtain ⟨w3, hw3⟩ : ∃ w3, w3 = w2.setCell ⟨b0, 2, none⟩ (.slice b (n + 1) d') := ⟨_, rfl⟩
    rw [← hw3] at LL2 F3 Q0' Q1' ⊢
    clear hw3 x2 y2
    have r0 := Q0'.cell 0
    have r1 := Q0'.cell 1
    have r2 := Q0'.cell 2
    have r3 := Q0'.cell 3
    have r4 := Q0'.cell 4
    have z0 := Q1'.free 0
    have z1 := Q1'.free 1
    have z2 := Q1'.free 2
    have z3 := Q1'.free 3
    have z4 := Q1'.free 4
    have p0 := Q1'.cell 0
    have p1 := Q1'.cell 1
    have p2 := Q1'.cell 2
    have p3 := Q1'.cell 3
    have p4 := Q1'.cell 4
    simp only [List.getElem?_toArray, List.getElem?_cons_zero, List.getElem?_cons_succ] at r0 r1 r2 r3 r4 p0 p1 p2 p3 p4
    clear Q0' Q1'
    go_wp2_with fail
    refine bodyPost_ret (v := .agg #[.int .i64 c, .string r, .slice b (n + 1) d', .string bb, .int .i64 k]) (by simp [results, Tryz.results65, go_sem, p0, p1, p2, p3, p4]) rfl ⟨b, d', by rw [HNN.out]; unfold closeF; rw [if_pos rfl, List.length_append]; rfl, HBN.out, ?_⟩
    have h5 := own_five b1 _ LL2.out HLE.out (.int .i64 c) (.string r) (.slice b (n + 1) d') (.string bb) (.int .i64 k)
    exact ⟨isFlds_keepR F3.out h5.2 (fun ad had => by have := HBL.out ad had; intro e; omega), h5.1⟩
end Go.Proofs.YtbbphklhnngjmaaGreatDoor

/- What a row of rewrite says of its variables: the powers of ten, start's words; a world that lays them. -/
namespace Go.Proofs.YtbbphklhnngjmaaGreatDoor
open Go.ChangeShapes Go.WideShapes Go.ChangeAt Go.RowKit

theorem laidR {W : World} {d0 d1 d3 : String × DataW Unit} {rest : List (String × DataW Unit)} (hsh : W.ShapedOpen Tryz.prog)
    (h : laidMet Tryz.prog (d0 :: d1 :: ("internal/strconv.uint64pow10", Rows.laid_internal_strconv_uint64pow10) :: d3 :: ("steward/start.reasons", Rows.laid_steward_start_reasons) :: rest) W) : LaidR W :=
  ⟨maxL_shaped hsh, pow_laid h, reas_laid (laidMet.tail (laidMet.tail (laidMet.tail (laidMet.tail h))))⟩
noncomputable def rwHeap (h : Array Obj) : Array Obj :=
  let h0 := h.modify 3 (layAs (numsOf Rows.laid_math_bits_deBruijn32tab).toArray)
  let h1 := h0.modify 4 (layAs (numsOf Rows.laid_math_bits_deBruijn64tab).toArray)
  let h2 := h1.modify 2 (layAs (numsOf Rows.laid_internal_strconv_uint64pow10).toArray)
  let h3 := h2.modify 6 (layAs (numsOf Rows.laid_unicode_utf8_acceptRanges).toArray)
  let h4 := h3.modify 0 (layAs reasC.toArray)
  h4.modify 5 (layAs (numsOf Go.Pinned.utf8First).toArray)
noncomputable def rwWorld (os : Os) : World :=
  let w0 := World.holding Tryz.prog os ⟨#[], #[], []⟩
  { w0 with heap := rwHeap w0.heap }
end Go.Proofs.YtbbphklhnngjmaaGreatDoor

/- rewrite: Drop and Hops with the room and the block of what they return; setLength; Join with a separator. -/
namespace Go.Proofs.YtbbphklhnngjmaaGreatDoor
open Go.RowKit

/-- The fields that go on. -/
def hopsF (fs : List Fld) : List Fld := hopsR (bsOf (tokF connB fs)) fs
theorem own_room {w : World} {base : Nat} {T : TypeId} {v : Value} {n s : Nat} {xs : List Value} (h : w.ownsRow base T s v n xs) : ∀ a m c, v = .slice a m c → c ≤ 9223372036854775807 := by
  intro a m c hv
  obtain ⟨_, ⟨h3, _⟩ | ⟨g, cap, cur, h3, hg, _, _, hcm, _⟩⟩ := h
  · rw [h3] at hv; injection hv with e1 e2 e3; omega
  · rw [h3] at hv; injection hv with e1 e2 e3; unfold maxLen at hcm; omega
set_option maxRecDepth 100000 in
set_option maxHeartbeats 2000000 in
theorem drop55m (a : Option Addr) (c : Nat) (fs : List Fld) (b : Option Addr) (d : Nat) (xs : List ByteArray) (hfl : fs.length ≤ 1000000000) (hx1 : xs.length ≤ 1000000000) (ha : a = none → c = 0 ∧ fs = []) (hok : ∀ f ∈ fs, FldOk f) (w : World) (hf : IsFlds w a c fs) (hx : IsStrs w b d xs) :
    Calls Tryz.prog 78 #[.slice a fs.length c, .slice b xs.length d] w fun e w' => ∃ a' c', e = .returned (.slice a' (dropL xs fs).length c') ∧ c' ≤ 9223372036854775807 ∧ (a' = none → c' = 0 ∧ dropL xs fs = []) ∧ (∀ ad, a' = some ad → w.heap.size ≤ ad.block) ∧ IsFlds w' a' c' (dropL xs fs) ∧ Below w.heap.size w w' := by
  have HX := Lib.hid hx
  have HC := Lib.hid (clone77 a c fs hfl ha w hf)
  have HOK := Lib.hid hok
  clear hx hf ha hok
  go_enter Tryz.func78, Tryz.ntmps78
  go_wp2_with fail
  refine HC.out.mono ?_
  rintro e w1 ⟨v, rfl, hown, hb1⟩
  have X1 : Hid (IsStrs w1 b d xs) := HX.out.below hb1
  have hcm := own_room hown
  obtain ⟨rfl, rfl⟩ | ⟨g, cap, rfl, hg, hcap, hop, hpa⟩ := own_open hown
  · have HD := Lib.hid (delete76_nil b d xs hx1 w1 X1.out)
    unfold hasV at HD
    clear HX HC HOK hown hcm
    go_wp2_with fail
    refine HD.out.mono ?_
    rintro e w2 ⟨rfl, hb2⟩
    go_wp2_with fail
    go_ret
    exact ⟨none, 0, rfl, by omega, fun _ => ⟨rfl, rfl⟩, (fun ad e => by cases e), .inl rfl, hb1.trans (hb2.mono hb1.size)⟩
  · have HCM : Hid (cap ≤ 9223372036854775807) := hcm _ _ _ rfl
    have HG := Lib.hid hg
    have HD := Lib.hid (delete76 w g cap fs b d xs hfl hx1 HOK.out HX.out hg hcap w1 hb1 hop hpa)
    unfold hasV at HD
    clear HX HC HOK hown hcm hop hpa X1
    go_wp2_with fail
    refine HD.out.mono ?_
    rintro e w2 ⟨rfl, hfl2, hb2⟩
    have HF2 := Lib.hid hfl2
    clear hfl2 HD
    go_wp2_with fail
    go_ret
    exact ⟨some ⟨g, 0, none⟩, cap, rfl, HCM.out, (fun h => by cases h), (fun ad e => by obtain rfl := Option.some.inj e; exact HG.out), HF2.out, hb2⟩
set_option maxRecDepth 1000000 in
set_option maxHeartbeats 4000000 in
/-- Hops. -/
theorem hops41m (a : Option Addr) (c : Nat) (fs : List Fld) (hfl : fs.length ≤ 1000000) (ha : a = none → c = 0 ∧ fs = []) (hok : ∀ f ∈ fs, FldOk f) (hsum : sumS (allB connB fs) ≤ 900000000) (gs : List Fld) (hgs : gs = hopsF fs) (w : World) (hM : MaxL w) (hf : IsFlds w a c fs) :
    Calls Tryz.prog 41 #[.slice a fs.length c] w fun e w' => ∃ b d, e = .returned (.slice b gs.length d) ∧ d ≤ 9223372036854775807 ∧ (b = none → d = 0 ∧ gs = []) ∧ (∀ ad, b = some ad → w.heap.size ≤ ad.block) ∧ IsFlds w' b d gs ∧ Below w.heap.size w w' := by
  have HH := Lib.hid (hopNames79 a c fs hfl hok (by omega) w hM hf)
  have HPL : (hopP (bsOf (tokF connB fs))).length ≤ 1000000000 := by
    have h1 := tokF_len connB fs
    have h2 := goes_len (bsOf (tokF connB fs))
    unfold hopP
    rw [List.length_append]
    have : nineP.length = 9 := rfl
    omega
  obtain ⟨HP, hHP⟩ : ∃ HP, HP = hopP (bsOf (tokF connB fs)) := ⟨_, rfl⟩
  have hgs2 : gs = dropL HP fs := by rw [hgs, hHP, hops_eq]; rfl
  rw [← hHP] at HH HPL
  rw [hgs2]
  have HD := Lib.hid (fun b d W hx h => drop55m a c fs b d HP (by omega) HPL ha hok W h hx)
  have HF := Lib.hid hf
  clear hHP hgs2 hgs hf hM hok hsum ha HPL
  go_enter Tryz.func41, Tryz.ntmps41
  go_wp2_with fail
  refine HH.out.mono ?_
  rintro e w1 ⟨b1, d1, rfl, hs1, hb1⟩
  have HD1 := Lib.hid (HD.out b1 d1 w1 hs1 (HF.out.below hb1))
  clear HD HH hs1
  go_wp2_with fail
  refine HD1.out.mono ?_
  rintro e w2 ⟨a2, c2, rfl, hcm, h0, hnw, hf2, hb2⟩
  have HCM := Lib.hid hcm
  have HNW : Hid (∀ ad, a2 = some ad → w.heap.size ≤ ad.block) := fun ad e => Nat.le_trans hb1.size (hnw ad e)
  have H0 := Lib.hid h0
  have F2 := Lib.hid hf2
  have B2 := Lib.hid (hb1.trans (hb2.mono hb1.size))
  clear h0 hf2 hb1 hb2 HD1 hcm hnw
  go_wp2_with fail
  go_ret
  exact ⟨a2, c2, rfl, HCM.out, H0.out, HNW.out, F2.out, B2.out⟩
/-- Set with the room and the block of what it returns. -/
theorem set46m (a : Option Addr) (c : Nat) (fs : List Fld) (n v : List UInt8) (hfl : fs.length ≤ 100000000) (hcm : c ≤ 9223372036854775807) (ha : a = none → c = 0 ∧ fs = []) (hok : ∀ f ∈ fs, FldOk f) (w : World) (hf : IsFlds w a c fs) :
    Calls Tryz.prog 44 #[.slice a fs.length c, .string (bs n), .string (bs v)] w fun e w' => ∃ b d, e = .returned (.slice b (setF n v fs).length d) ∧ d ≤ 9223372036854775807 ∧ (b = none → d = 0 ∧ setF n v fs = []) ∧ (∀ ad, b = some ad → w.heap.size ≤ ad.block) ∧ IsFlds w' b d (setF n v fs) ∧ Below w.heap.size w w' := by
  refine (set46 a c fs n v hfl hcm ha hok w hf).mono ?_
  rintro e w' ⟨u, rfl, ho, hb⟩
  obtain ⟨b, d, rfl, h0, h1, h2, h3⟩ := own_isFldsB ho
  exact ⟨b, d, rfl, h0, h1, h3, h2, hb⟩
theorem add48m (a : Option Addr) (c : Nat) (fs : List Fld) (n v : List UInt8) (hfl : fs.length ≤ 100000000) (ha : a = none → c = 0 ∧ fs = []) (w : World) (hf : IsFlds w a c fs) :
    Calls Tryz.prog 46 #[.slice a fs.length c, .string (bs n), .string (bs v)] w fun e w' => ∃ b d, e = .returned (.slice b (fs ++ [(n, v)]).length d) ∧ d ≤ 9223372036854775807 ∧ (b = none → d = 0 ∧ fs ++ [(n, v)] = []) ∧ (∀ ad, b = some ad → w.heap.size ≤ ad.block) ∧ IsFlds w' b d (fs ++ [(n, v)]) ∧ Below w.heap.size w w' := by
  refine (add48 a c fs n v hfl ha w hf).mono ?_
  rintro e w' ⟨u, rfl, ho, hb⟩
  obtain ⟨b, d, rfl, h0, h1, h2, h3⟩ := own_isFldsB ho
  exact ⟨b, d, rfl, h0, h1, h3, h2, hb⟩
def clenN : List UInt8 := [67, 111, 110, 116, 101, 110, 116, 45, 76, 101, 110, 103, 116, 104]
set_option maxRecDepth 100000 in
set_option maxHeartbeats 4000000 in
theorem setlen47 (a : Option Addr) (c : Nat) (fs : List Fld) (bd : ByteArray) (hbd : bd.size < 9223372036854775808) (hfl : fs.length ≤ 100000000) (hcm : c ≤ 9223372036854775807) (ha : a = none → c = 0 ∧ fs = []) (hok : ∀ f ∈ fs, FldOk f) (gs : List Fld) (hgs : gs = setF clenN (prtI 10 (bd.size : Int)) fs) (w : World) (hP : Pow w) (hf : IsFlds w a c fs) :
    Calls Tryz.prog 47 #[.slice a fs.length c, .string bd] w fun e w' => ∃ b d, e = .returned (.slice b gs.length d) ∧ d ≤ 9223372036854775807 ∧ (b = none → d = 0 ∧ gs = []) ∧ (∀ ad, b = some ad → w.heap.size ≤ ad.block) ∧ IsFlds w' b d gs ∧ Below w.heap.size w w' := by
  subst hgs
  have HD : Hid (∀ W, Pow W → Calls Tryz.prog 73 #[.int .i64 (bd.size : Int)] W fun e w' => e = .returned (.string (bs (prtI 10 (bd.size : Int)))) ∧ Below W.heap.size W w') := fun W h => digits28 (bd.size : Int) (by omega) W h
  have HS := Lib.hid (fun W h => set46m a c fs clenN (prtI 10 (bd.size : Int)) hfl hcm ha hok W h)
  rw [show bs clenN = ⟨#[67, 111, 110, 116, 101, 110, 116, 45, 76, 101, 110, 103, 116, 104]⟩ from rfl] at HS
  generalize setF clenN (prtI 10 (bd.size : Int)) fs = gs at *
  generalize bs (prtI 10 (bd.size : Int)) = X at *
  have HF := Lib.hid hf
  have HP := Lib.hid hP
  clear hf hP hok ha
  go_enter Tryz.func47, Tryz.ntmps47
  go_wp2_with fail
  with_reducible refine (HD.out w HP.out).mono ?_
  rintro e w1 ⟨rfl, hb1⟩
  have F1 := Lib.hid (HF.out.below hb1)
  have B1 := Lib.hid hb1
  clear hb1 HF HP HD
  go_wp2_with fail
  with_reducible refine (HS.out w1 F1.out).mono ?_
  rintro e w2 ⟨b, d, rfl, h1, h2, h3, hf2, hb2⟩
  have H1 := Lib.hid h1
  have H2 := Lib.hid h2
  have H3 := Lib.hid h3
  have F2 := Lib.hid hf2
  have B2 := Lib.hid hb2
  clear h1 h2 h3 hf2 hb2 F1 HS
  go_wp2_with fail
  go_ret
  exact ⟨b, d, rfl, H1.out, H2.out, (fun ad e => Nat.le_trans B1.out.size (H3.out ad e)), F2.out, B1.out.trans (B2.out.mono B1.out.size)⟩
/-- The values of X-Forwarded-For, and the client. -/
def whoL (vs : List ByteArray) (cl : List UInt8) : List UInt8 := (vs.map (fun v => v.data.toList ++ [44, 32])).flatten ++ cl
theorem inter_snoc (sep cl : List UInt8) : ∀ vs : List (List UInt8), sep.intercalate (vs ++ [cl]) = (vs.map (fun v => v ++ sep)).flatten ++ cl
  | [] => by simp [List.intercalate]
  | [v] => by simp [List.intercalate]
  | v :: y :: r => by
    have ih := inter_snoc sep cl (y :: r)
    simp only [List.cons_append, List.map_cons, List.flatten_cons, List.append_assoc] at ih ⊢
    rw [← ih]
    simp [List.intercalate]
theorem join_who (vs : List ByteArray) (cl : ByteArray) : Lib.join ((vs ++ [cl]).map (·.data.toList)) [44, 32] = whoL vs cl.data.toList := by
  show ([44, 32] : List UInt8).intercalate _ = _
  rw [List.map_append, List.map_singleton, inter_snoc]
  unfold whoL
  rw [List.map_map]
  rfl
theorem whoL_len (vs : List ByteArray) (cl : List UInt8) : (whoL vs cl).length ≤ sumS vs + vs.length + cl.length := by
  unfold whoL
  rw [List.length_append]
  have : ∀ vs : List ByteArray, (vs.map (fun v => v.data.toList ++ [44, 32])).flatten.length ≤ sumS vs + vs.length := by
    intro vs
    induction vs with
    | nil => simp
    | cons a r ih =>
      have e : sumS (a :: r) = a.size + 1 + sumS r := by simp [sumS]
      rw [List.map_cons, List.flatten_cons, List.length_append, List.length_append, e, List.length_cons, ← Lib.size_eq]
      simp only [List.length_cons, List.length_nil]
      omega
  have := this vs
  omega
theorem join45 (bk o c : Nat) (vs : List ByteArray) (cl : ByteArray) (hn : vs.length ≤ 1000000) (hc : vs.length + 1 ≤ c) (hl : (whoL vs cl.data.toList).length ≤ 140737488355328) (w : World) (hbk : bk < w.heap.size) (hcell : ∀ (j : Nat) x, (vs ++ [cl])[j]? = some x → w.cell? ⟨bk, o + j, none⟩ = some (.string x)) :
    Calls Tryz.prog 45 #[.slice (some ⟨bk, o, none⟩) (vs ++ [cl]).length c, .string ⟨#[44, 32]⟩] w fun e w' => e = .returned (.string (bs (whoL vs cl.data.toList))) ∧ Below w.heap.size w w' := by
  have h := Tryz.strings_Join bk o c (vs ++ [cl]) ⟨#[44, 32]⟩ w hcell hbk (by simp; omega) (by simp; omega) (by rw [show (ByteArray.data ⟨#[44, 32]⟩).toList = [44, 32] from rfl, join_who]; exact hl)
  rw [show (ByteArray.data ⟨#[44, 32]⟩).toList = [44, 32] from rfl, join_who] at h
  exact h
end Go.Proofs.YtbbphklhnngjmaaGreatDoor

/- rewrite: Request. -/
namespace Go.Proofs.YtbbphklhnngjmaaGreatDoor
open Go.RowKit

def xffN : List UInt8 := [88, 45, 70, 111, 114, 119, 97, 114, 100, 101, 100, 45, 70, 111, 114]
def xffB : ByteArray := ⟨#[88, 45, 70, 111, 114, 119, 97, 114, 100, 101, 100, 45, 70, 111, 114]⟩
def viaF : Fld := ([86, 105, 97], [49, 46, 49, 32, 115, 116, 101, 119, 97, 114, 100])
/-- The fields that go to a backend, but for the length. -/
def reqG (fs : List Fld) (cl : List UInt8) : List Fld := setF xffN (whoL (allB xffB (hopsF fs)) cl) (hopsF fs) ++ [viaF]
/-- The fields that go to a backend. -/
def reqF (fs : List Fld) (cl : List UInt8) (k : Int) (bl : Nat) : List Fld := if k = 0 then reqG fs cl else setF clenN (prtI 10 (bl : Int)) (reqG fs cl)
def reqK (k : Int) : Int := if k = 0 then 0 else 1
/-- Few and short fields. -/
def SmF (fs : List Fld) (k m : Nat) : Prop := fs.length ≤ k ∧ ∀ f ∈ fs, f.1.length ≤ m ∧ f.2.length ≤ m
theorem SmF.ok {fs : List Fld} {k m : Nat} (h : SmF fs k m) (hm : m ≤ 4000000000) : ∀ f ∈ fs, FldOk f := fun f hf => ⟨by have := (h.2 f hf).1; omega, by have := (h.2 f hf).2; omega⟩
theorem setF_memR {n v : List UInt8} {fs : List Fld} {f : Fld} (h : f ∈ setF n v fs) : f = (n, v) ∨ f ∈ fs := by
  unfold setF at h
  simp only at h
  split at h
  · rcases List.mem_append.1 h with h | h
    · exact .inr (List.mem_of_mem_take h)
    · rcases List.mem_cons.1 h with h | h
      · exact .inl h
      · exact .inr (List.mem_of_mem_drop (dropL_mem h))
  · rcases List.mem_append.1 h with h | h
    · exact .inr h
    · exact .inl (List.mem_singleton.1 h)
theorem SmF.set {fs : List Fld} {k m : Nat} (h : SmF fs k m) {n v : List UInt8} (hn : n.length ≤ m) (hv : v.length ≤ m) : SmF (setF n v fs) (k + 1) m :=
  ⟨Nat.le_trans (setF_len n v fs) (Nat.succ_le_succ h.1), fun f hf => by rcases setF_memR hf with rfl | hf; exact ⟨hn, hv⟩; exact h.2 f hf⟩
theorem SmF.add {fs : List Fld} {k m : Nat} (h : SmF fs k m) {f : Fld} (hn : f.1.length ≤ m) (hv : f.2.length ≤ m) : SmF (fs ++ [f]) (k + 1) m :=
  ⟨by rw [List.length_append]; have := h.1; simpa using this, fun g hg => by rcases List.mem_append.1 hg with hg | hg; exact h.2 g hg; obtain rfl := List.mem_singleton.1 hg; exact ⟨hn, hv⟩⟩
theorem SmF.more {fs : List Fld} {k m k' m' : Nat} (h : SmF fs k m) (hk : k ≤ k') (hm : m ≤ m') : SmF fs k' m' := ⟨Nat.le_trans h.1 hk, fun f hf => ⟨Nat.le_trans (h.2 f hf).1 hm, Nat.le_trans (h.2 f hf).2 hm⟩⟩
theorem SmF.hops {fs : List Fld} {k m : Nat} (h : SmF fs k m) : SmF (hopsF fs) k m := ⟨Nat.le_trans (List.length_filter_le _ _) h.1, fun f hf => h.2 f (List.mem_filter.1 hf).1⟩
theorem SmF.sum {fs : List Fld} {k m : Nat} (h : SmF fs k m) (x : ByteArray) : sumS (allB x fs) ≤ k * (m + 1) := by
  have h1 := sumS_small (allB x fs) m (fun y hy => by
    unfold allB at hy
    obtain ⟨f, hf, rfl⟩ := List.mem_map.1 hy
    rw [bs_size]
    exact (h.2 f (List.mem_filter.1 hf).1).2)
  refine Nat.le_trans h1 (Nat.mul_le_mul_right _ (Nat.le_trans ?_ h.1))
  unfold allB
  rw [List.length_map]
  exact List.length_filter_le _ _
theorem allB_lenR (x : ByteArray) (fs : List Fld) : (allB x fs).length ≤ fs.length := by
  unfold allB
  rw [List.length_map]
  exact List.length_filter_le _ _
theorem whoL_small {fs : List Fld} (h : SmF fs 1000 10000) {cl : List UInt8} (hc : cl.length ≤ 10000) : (whoL (allB xffB (hopsF fs)) cl).length ≤ 20000000 := by
  have h1 := whoL_len (allB xffB (hopsF fs)) cl
  have h2 := h.hops.sum xffB
  have h3 := allB_lenR xffB (hopsF fs)
  have h4 := h.hops.1
  omega
theorem SmF.reqG {fs : List Fld} (h : SmF fs 1000 10000) {cl : List UInt8} (hc : cl.length ≤ 10000) : SmF (reqG fs cl) 1002 20000000 := by
  unfold Go.Proofs.YtbbphklhnngjmaaGreatDoor.reqG
  exact ((h.hops.more (Nat.le_refl _) (by decide)).set (by decide) (whoL_small h hc)).add (by decide) (by decide)
theorem cells_new1s (w : World) (x : ByteArray) (T : TypeId) : ∀ (k : Nat) u, [Value.string x][k]? = some u → (w.alloc (.cells #[.string x] T)).cell? ((⟨w.heap.size, 0, none⟩ : Addr).add k) = some u := by
  intro k u hu
  rw [Addr.add_mid]
  match k, hu with
  | 0, hu => obtain rfl := Option.some.inj hu; simp
  | k + 1, hu => simp at hu
theorem own_snoc {w : World} {B : Nat} {v : Value} {n : Nat} {vs : List ByteArray} {cl : ByteArray} (hn : n = vs.length) (h : w.ownsRow B 9 1 v (n + 1) (vs.map Value.string ++ [.string cl])) : ∃ g c, v = .slice (some ⟨g, 0, none⟩) (n + 1) c ∧ vs.length + 1 ≤ c ∧ g < w.heap.size ∧ ∀ (j : Nat) x, (vs ++ [cl])[j]? = some x → w.cell? ⟨g, 0 + j, none⟩ = some (.string x) := by
  have e : n + 1 = (vs ++ [cl]).length := by rw [List.length_append, hn]; rfl
  have e2 : vs.map Value.string ++ [.string cl] = (vs ++ [cl]).map Value.string := by rw [List.map_append]; rfl
  rw [e, e2] at h
  rcases own_openS h with ⟨_, h2⟩ | ⟨g, cap, rfl, hg, hcap, hop, hpa⟩
  · simp at h2
  · exact ⟨g, cap, by rw [e], by rw [List.length_append] at hcap; exact hcap, hop.1, fun j x hx => by rw [Nat.zero_add]; exact hpa j x hx⟩
set_option maxRecDepth 100000 in
set_option maxHeartbeats 8000000 in
theorem rreq16 (mm tt bb : ByteArray) (kk : Int) (cl : List UInt8) (a : Option Addr) (c : Nat) (fs : List Fld) (hfew : SmF fs 1000 10000) (hcl : cl.length ≤ 10000) (hbb : bb.size < 9223372036854775808) (ha : a = none → c = 0 ∧ fs = []) (gs : List Fld) (hgs : gs = reqF fs cl kk bb.size) (K : Int) (hK : K = reqK kk) (w : World) (hw : LaidR w) (hf : IsFlds w a c fs) :
    Calls Tryz.prog 16 #[.agg #[.string mm, .string tt, .slice a fs.length c, .string bb, .int .i64 kk], .string (bs cl)] w fun e w' => ∃ b d, e = .returned (.agg #[.string mm, .string tt, .slice b gs.length d, .string bb, .int .i64 K]) ∧ IsFlds w' b d gs ∧ Below w.heap.size w w' := by
  obtain ⟨i0, hi, hz0, hz1, hz2⟩ := info_parts info9
  have hok := hfew.ok (by decide)
  have HH : Hid (∀ W, MaxL W → IsFlds W a c fs → Calls Tryz.prog 41 #[.slice a fs.length c] W fun e w' => ∃ b d, e = .returned (.slice b (hopsF fs).length d) ∧ d ≤ 9223372036854775807 ∧ (b = none → d = 0 ∧ hopsF fs = []) ∧ (∀ ad, b = some ad → W.heap.size ≤ ad.block) ∧ IsFlds w' b d (hopsF fs) ∧ Below W.heap.size W w') := fun W hM h => hops41m a c fs (by have := hfew.1; omega) ha hok (by have := hfew.sum connB; omega) _ rfl W hM h
  have hws := whoL_small hfew hcl
  have hGs := hfew.reqG hcl
  have hGS : reqG fs cl = setF xffN (whoL (allB xffB (hopsF fs)) cl) (hopsF fs) ++ [viaF] := rfl
  have hHf := hfew.hops
  obtain ⟨H, hH⟩ : ∃ H, H = hopsF fs := ⟨_, rfl⟩
  rw [← hH] at HH hws hGS hHf
  have HA : Hid (∀ b d W, IsFlds W b d H → Calls Tryz.prog 43 #[.slice b H.length d, .string ⟨#[88, 45, 70, 111, 114, 119, 97, 114, 100, 101, 100, 45, 70, 111, 114]⟩] W fun e w' => ∃ u, e = .returned u ∧ w'.ownsRow W.heap.size 9 1 u (allB xffB H).length ((allB xffB H).map Value.string) ∧ Below W.heap.size W w') := fun b d W h => all44 b d H xffB (by have := hHf.1; omega) (hHf.ok (by decide)) W h
  have hvn := allB_lenR xffB H
  have hHn := hHf.1
  obtain ⟨VS, hVS⟩ : ∃ VS, VS = allB xffB H := ⟨_, rfl⟩
  rw [← hVS] at HA hws hGS hvn
  have HJ : Hid (∀ g c W, VS.length + 1 ≤ c → g < W.heap.size → (∀ (j : Nat) x, (VS ++ [bs cl])[j]? = some x → W.cell? ⟨g, 0 + j, none⟩ = some (.string x)) → Calls Tryz.prog 45 #[.slice (some ⟨g, 0, none⟩) (VS ++ [bs cl]).length c, .string ⟨#[44, 32]⟩] W fun e w' => e = .returned (.string (bs (whoL VS cl))) ∧ Below W.heap.size W w') := fun g c W h1 h2 h3 => join45 g 0 c VS (bs cl) (by omega) h1 (by rw [bs_list]; omega) W h2 h3
  have HS : Hid (∀ b d W, d ≤ 9223372036854775807 → (b = none → d = 0 ∧ H = []) → IsFlds W b d H → Calls Tryz.prog 44 #[.slice b H.length d, .string ⟨#[88, 45, 70, 111, 114, 119, 97, 114, 100, 101, 100, 45, 70, 111, 114]⟩, .string (bs (whoL VS cl))] W fun e w' => ∃ b d, e = .returned (.slice b (setF xffN (whoL VS cl) H).length d) ∧ d ≤ 9223372036854775807 ∧ (b = none → d = 0 ∧ setF xffN (whoL VS cl) H = []) ∧ (∀ ad, b = some ad → W.heap.size ≤ ad.block) ∧ IsFlds w' b d (setF xffN (whoL VS cl) H) ∧ Below W.heap.size W w') := fun b d W h1 h2 h => set46m b d H xffN (whoL VS cl) (by omega) h1 h2 (hHf.ok (by decide)) W h
  have hsl := setF_len xffN (whoL VS cl) H
  have hso : SmF (setF xffN (whoL VS cl) H) 1001 20000000 := (hHf.more (Nat.le_refl _) (by decide)).set (by decide) hws
  obtain ⟨WHO, hWHO⟩ : ∃ X, X = bs (whoL VS cl) := ⟨_, rfl⟩
  rw [← hWHO] at HJ HS
  obtain ⟨SF, hSF⟩ : ∃ X, X = setF xffN (whoL VS cl) H := ⟨_, rfl⟩
  rw [← hSF] at HS hGS hsl hso
  obtain ⟨G, hG⟩ : ∃ X, X = reqG fs cl := ⟨_, rfl⟩
  rw [← hG] at hGS hGs
  have HV : Hid (∀ b d W, (b = none → d = 0 ∧ SF = []) → IsFlds W b d SF → Calls Tryz.prog 46 #[.slice b SF.length d, .string ⟨#[86, 105, 97]⟩, .string ⟨#[49, 46, 49, 32, 115, 116, 101, 119, 97, 114, 100]⟩] W fun e w' => ∃ b d, e = .returned (.slice b G.length d) ∧ d ≤ 9223372036854775807 ∧ (b = none → d = 0 ∧ G = []) ∧ (∀ ad, b = some ad → W.heap.size ≤ ad.block) ∧ IsFlds w' b d G ∧ Below W.heap.size W w') := fun b d W h2 h => by
    have := add48m b d SF viaF.1 viaF.2 (by have := hso.1; omega) h2 W h
    rw [show SF ++ [(viaF.1, viaF.2)] = G from hGS.symm] at this
    exact this
  have HLN : Hid (kk ≠ 0 → ∀ b d W, Pow W → d ≤ 9223372036854775807 → (b = none → d = 0 ∧ G = []) → IsFlds W b d G → Calls Tryz.prog 47 #[.slice b G.length d, .string bb] W fun e w' => ∃ b d, e = .returned (.slice b gs.length d) ∧ d ≤ 9223372036854775807 ∧ (b = none → d = 0 ∧ gs = []) ∧ (∀ ad, b = some ad → W.heap.size ≤ ad.block) ∧ IsFlds w' b d gs ∧ Below W.heap.size W w') := fun hne b d W hP h1 h2 h => setlen47 b d G bb hbb (by have := hGs.1; omega) h1 h2 (hGs.ok (by decide)) gs (by rw [hgs, hG]; unfold reqF; rw [if_neg hne]) W hP h
  have HG0 : Hid (kk = 0 → gs = G ∧ K = 0) := fun h => ⟨by rw [hgs, hG]; unfold reqF; rw [if_pos h], by rw [hK]; unfold reqK; rw [if_pos h]⟩
  have HG1 : Hid (kk ≠ 0 → K = 1) := fun h => by rw [hK]; unfold reqK; rw [if_neg h]
  have HW := Lib.hid hw
  obtain ⟨n, hn⟩ : ∃ n, n = fs.length := ⟨_, rfl⟩
  rw [← hn] at HH ⊢
  have R0 := Row.new w 45 #[.string mm, .string tt, .slice a n c, .string bb, .int .i64 kk]
  have L0 := (below_alloc w (.cells #[.string mm, .string tt, .slice a n c, .string bb, .int .i64 kk] 45))
  have R1 := Row.new (w.alloc (.cells #[.string mm, .string tt, .slice a n c, .string bb, .int .i64 kk] 45)) 45 #[.string ⟨#[]⟩, .string ⟨#[]⟩, .slice none 0 0, .string ⟨#[]⟩, .int .i64 0]
  have L1 := L0.alloc (by simp) (.cells #[.string ⟨#[]⟩, .string ⟨#[]⟩, .slice none 0 0, .string ⟨#[]⟩, .int .i64 0] 45)
  have R0' := R0.alloc (.cells #[.string ⟨#[]⟩, .string ⟨#[]⟩, .slice none 0 0, .string ⟨#[]⟩, .int .i64 0] 45)
  rw [show (w.alloc (.cells #[.string mm, .string tt, .slice a n c, .string bb, .int .i64 kk] 45)).heap.size = w.heap.size + 1 by simp] at R1
  have HF := Lib.hid (hf.below L1)
  generalize bs cl = CL at *
  have hvn2 : VS.length ≤ 1000 := by omega
  clear hf hn ha R0 L0 hw hgs hK hok hfew hws hGs hGS hHf hH hVS hHn hsl hso hWHO hSF hG hvn hbb hcl
  go_enter Tryz.func16, Tryz.ntmps16
  go_upto_region 1 with fail
  obtain ⟨b0, hb0⟩ : ∃ b0, b0 = w.heap.size := ⟨_, rfl⟩
  obtain ⟨b1, hb1⟩ : ∃ b1, b1 = w.heap.size + 1 := ⟨_, rfl⟩
  have hle : w.heap.size ≤ b1 := by omega
  have hle0 : w.heap.size ≤ b0 := by omega
  have hne : b0 ≠ b1 := by omega
  rw [← hb0] at R0'
  rw [← hb1] at R1 ⊢
  rw [← hb0]
  generalize World.alloc (World.alloc w _) _ = w1 at *
  have LL := Lib.hid L1
  have W1 := Lib.hid (HW.out.below L1)
  have HLE := Lib.hid hle
  have HLE0 := Lib.hid hle0
  have HNE := Lib.hid hne
  have HB0 : Hid (b0 < w1.heap.size) := R0'.lt
  have HB1 : Hid (b1 < w1.heap.size) := R1.lt
  have RR0 := Lib.hid R0'
  have RR1 := Lib.hid R1
  have r2 := R0'.cell 2
  simp only [List.getElem?_toArray, List.getElem?_cons_zero, List.getElem?_cons_succ] at r2
  clear R1 R0' L1 hb0 hb1 hle hle0 hne
  go_wp2_with fail
  with_reducible refine (HH.out w1 W1.out.m HF.out).mono ?_
  rintro e w2 ⟨b, d, rfl, hcm, hbn, hnw, hf2, hb2⟩
  have HCM := Lib.hid hcm
  have HBN := Lib.hid hbn
  have F2 := Lib.hid hf2
  have W2 := Lib.hid (W1.out.below hb2)
  have LL2 := Lib.hid (LL.out.trans (hb2.mono LL.out.size))
  have Q0 := Lib.hid (RR0.out.below hb2)
  have Q1 := Lib.hid (RR1.out.below hb2)
  clear hcm hbn hnw hf2 hb2 r2 HH HF W1 LL RR0 RR1
  go_wp2_with fail
  with_reducible refine (HA.out b d w2 F2.out).mono ?_
  rintro e w3 ⟨u, rfl, ho, hb3⟩
  have LC := below_alloc w3 (.cells #[.string CL] 9)
  have B3 := hb3.trans (LC.mono hb3.size)
  have HO := Lib.hid (ho.alloc (.cells #[.string CL] 9))
  have HNW := Lib.hid (cells_new1s w3 CL 9)
  have hg2 : w2.heap.size ≤ (w3.alloc (.cells #[.string CL] 9)).heap.size := B3.size
  have HB3 := Lib.hid B3
  obtain ⟨nv, hnv⟩ : ∃ nv, nv = VS.length := ⟨_, rfl⟩
  rw [← hnv] at HO hvn2
  have HNV := Lib.hid hnv
  clear LC hb3 ho B3 hnv HA
  go_wp2_with (at_builtin; refine wpList_append_own_at _ rfl _ _ 88 rfl w2.heap.size 9 i0 (.string ⟨#[]⟩) 1 16 Tryz.underlying88 hi hz0 hz1 hz2 rfl (by decide) _ _ _ rfl HO.out ⟨w3.heap.size, 0, none⟩ 1 1 [.string CL] rfl rfl HNW.out (by intro u hu; simp at hu; subst hu; rfl) (by unfold maxLen; omega) (by omega) hg2 ?_)
  intro v' w4 hown' hgrow _ _
  have hb4 : Below w2.heap.size w2 w4 := HB3.out.grown hgrow hg2 (fun k hk => (HO.out.lt k hk).1)
  obtain ⟨g, cc, rfl, hcc, hgl, hcell⟩ := own_snoc HNV.out hown'
  have hj4 := HJ.out g cc w4 hcc hgl hcell
  rw [show (VS ++ [CL]).length = nv + 1 by rw [List.length_append, HNV.out]; rfl] at hj4
  have HJ4 := Lib.hid hj4
  have F4 := Lib.hid (F2.out.below hb4)
  have W4 := Lib.hid (W2.out.below hb4)
  have P0 := Lib.hid (Q0.out.below hb4)
  have P1 := Lib.hid (Q1.out.below hb4)
  have LL4 := Lib.hid (LL2.out.trans (hb4.mono LL2.out.size))
  clear hj4 hown' hgrow hb4 hcc hgl hcell HJ F2 W2 Q0 Q1 LL2 HO HNW HB3 hg2
  go_wp2_with fail
  with_reducible refine HJ4.out.mono ?_
  rintro e w5 ⟨rfl, hb5⟩
  have F5 := Lib.hid (F4.out.below hb5)
  have W5 := Lib.hid (W4.out.below hb5)
  have Q0 := Lib.hid (P0.out.below hb5)
  have Q1 := Lib.hid (P1.out.below hb5)
  have LL5 := Lib.hid (LL4.out.trans (hb5.mono LL4.out.size))
  clear hb5 F4 W4 P0 P1 LL4 HJ4
  go_wp2_with fail
  with_reducible refine (HS.out b d w5 HCM.out HBN.out F5.out).mono ?_
  rintro e w6 ⟨b6, d6, rfl, _, hbn6, _, hf6, hb6⟩
  have F6 := Lib.hid hf6
  have HBN6 := Lib.hid hbn6
  have W6 := Lib.hid (W5.out.below hb6)
  have P0 := Lib.hid (Q0.out.below hb6)
  have P1 := Lib.hid (Q1.out.below hb6)
  have LL6 := Lib.hid (LL5.out.trans (hb6.mono LL5.out.size))
  clear hf6 hb6 hbn6 F5 W5 Q0 Q1 LL5 HS HCM HBN
  go_wp2_with fail
  with_reducible refine (HV.out b6 d6 w6 HBN6.out F6.out).mono ?_
  rintro e w7 ⟨b7, d7, rfl, hcm7, hbn7, hnw7, hf7, hb7⟩
  have HCM7 := Lib.hid hcm7
  have HBN7 := Lib.hid hbn7
  have hlt0 := P0.out.lt
  have hlt1 := P1.out.lt
  have HN0 : Hid (∀ ad, b7 = some ad → ¬ ad.block = b0) := fun ad had => by have := hnw7 ad had; omega
  have HN1 : Hid (∀ ad, b7 = some ad → ¬ ad.block = b1) := fun ad had => by have := hnw7 ad had; omega
  have Q0 := P0.out.below hb7
  have Q1 := P1.out.below hb7
  obtain ⟨m, hm⟩ : ∃ m, m = G.length := ⟨_, rfl⟩
  have HM := Lib.hid hm
  rw [← hm]
  have W7 := W6.out.below hb7
  have LL7 := LL6.out.trans (hb7.mono LL6.out.size)
  have LL8 := Lib.hid (LL7.setCell (p := ⟨b0, 2, none⟩) HLE0.out (.slice b7 m d7))
  have K8 : Keep (fun j => j = b0) w7 (w7.setCell ⟨b0, 2, none⟩ (.slice b7 m d7)) := Keep.setCell (G := fun j => j = b0) w7 (p := ⟨b0, 2, none⟩) rfl _
  have F8 := Lib.hid (isFlds_keepR hf7 K8 HN0.out)
  have x2 := Q0.cell 2
  have y2 := Q0.free 2
  have Q0' := Q0.put 2 (.slice b7 m d7)
  have Q1' := Q1.far (p := ⟨b0, 2, none⟩) (fun e => HNE.out e.symm) (.slice b7 m d7)
  have e0 : (#[.string mm, .string tt, .slice a n c, .string bb, .int .i64 kk] : Array Value).setIfInBounds 2 (.slice b7 m d7) = #[.string mm, .string tt, .slice b7 m d7, .string bb, .int .i64 kk] := rfl
  rw [e0] at Q0'
  have W8 : Hid (LaidR (w7.setCell ⟨b0, 2, none⟩ (.slice b7 m d7))) := HW.out.below LL8.out
  simp only [List.getElem?_toArray, List.getElem?_cons_zero, List.getElem?_cons_succ] at x2
  clear hcm7 hbn7 hnw7 hf7 hb7 Q0 Q1 W7 LL7 K8 e0 F6 W6 P0 P1 LL6 HV HBN6 hm hlt0 hlt1
  go_upto_region 4 with fail
  obtain ⟨w8, hw8⟩ : ∃ w8, w8 = w7.setCell ⟨b0, 2, none⟩ (.slice b7 m d7) := ⟨_, rfl⟩
  rw [← hw8] at LL8 F8 Q0' Q1' W8 ⊢
  clear hw8 x2 y2
  have RR0 := Lib.hid Q0'
  have RR1 := Lib.hid Q1'
  have r0 := Q0'.cell 0
  have r1 := Q0'.cell 1
  have r2 := Q0'.cell 2
  have r3 := Q0'.cell 3
  have r4 := Q0'.cell 4
  simp only [List.getElem?_toArray, List.getElem?_cons_zero, List.getElem?_cons_succ] at r0 r1 r2 r3 r4
  clear Q0' Q1'
  by_cases hk : kk = 0
  · obtain ⟨hgs, hK⟩ := HG0.out hk
    subst hk
    have HGS := Lib.hid hgs
    have HKK := Lib.hid hK
    have z0 := RR1.out.free 0
    have z1 := RR1.out.free 1
    have z2 := RR1.out.free 2
    have z3 := RR1.out.free 3
    have z4 := RR1.out.free 4
    have p0 := RR1.out.cell 0
    have p1 := RR1.out.cell 1
    have p2 := RR1.out.cell 2
    have p3 := RR1.out.cell 3
    have p4 := RR1.out.cell 4
    simp only [List.getElem?_toArray, List.getElem?_cons_zero, List.getElem?_cons_succ] at p0 p1 p2 p3 p4
    clear hgs hK HG0 HG1 HLN
    go_wp2_with fail
    refine bodyPost_ret (v := .agg #[.string mm, .string tt, .slice b7 m d7, .string bb, .int .i64 0]) (by simp [results, Tryz.results16, go_sem, p0, p1, p2, p3, p4]) rfl ⟨b7, d7, by rw [HGS.out, HKK.out, HM.out], ?_⟩
    have h5 := own_five b1 _ LL8.out HLE.out (.string mm) (.string tt) (.slice b7 m d7) (.string bb) (.int .i64 0)
    rw [HGS.out]
    exact ⟨isFlds_keepR F8.out h5.2 HN1.out, h5.1⟩
  · have HL8 := Lib.hid (HLN.out hk b7 d7 w8 W8.out.p HCM7.out HBN7.out F8.out)
    rw [← HM.out] at HL8
    have hkb : (kk == 0) = false := beq_eq_false_iff_ne.2 hk
    obtain rfl := HG1.out hk
    clear HG0 HG1 HLN F8 W8 HN0 HN1 HCM7 HBN7
    go_wp2_with fail
    with_reducible refine HL8.out.mono ?_
    rintro e w9 ⟨b9, d9, rfl, _, _, hnw9, hf9, hb9⟩
    have hlt0 := RR0.out.lt
    have hlt1 := RR1.out.lt
    have HN0 : ∀ ad, b9 = some ad → ¬ ad.block = b0 := fun ad had => by have := hnw9 ad had; omega
    have HN1 : Hid (∀ ad, b9 = some ad → ¬ ad.block = b1) := fun ad had => by have := hnw9 ad had; omega
    have Q0 := RR0.out.below hb9
    have Q1 := RR1.out.below hb9
    obtain ⟨q, hq⟩ : ∃ q, q = gs.length := ⟨_, rfl⟩
    have HQ := Lib.hid hq
    rw [← hq]
    have LL9 := LL8.out.trans (hb9.mono LL8.out.size)
    have LL10 := Lib.hid ((LL9.setCell (p := ⟨b0, 2, none⟩) HLE0.out (.slice b9 q d9)).setCell (p := ⟨b0, 4, none⟩) HLE0.out (.int .i64 1))
    have KB : ∀ (v : World) (i : Nat) (u : Value), Keep (fun j => j = b0) v (v.setCell ⟨b0, i, none⟩ u) := fun v i u => Keep.setCell (G := fun j => j = b0) v (p := ⟨b0, i, none⟩) rfl u
    have F10 := Lib.hid (isFlds_keepR hf9 ((KB w9 2 (.slice b9 q d9)).trans (KB _ 4 (.int .i64 1))) HN0)
    have x2 := Q0.cell 2
    have y2 := Q0.free 2
    have x4 := Q0.cell 4
    have y4 := Q0.free 4
    have Q0' := (Q0.put 2 (.slice b9 q d9)).put 4 (.int .i64 1)
    have Q1' := (Q1.far (p := ⟨b0, 2, none⟩) (fun e => HNE.out e.symm) (.slice b9 q d9)).far (p := ⟨b0, 4, none⟩) (fun e => HNE.out e.symm) (.int .i64 1)
    have e0 : ((#[.string mm, .string tt, .slice b7 m d7, .string bb, .int .i64 kk] : Array Value).setIfInBounds 2 (.slice b9 q d9)).setIfInBounds 4 (.int .i64 1) = #[.string mm, .string tt, .slice b9 q d9, .string bb, .int .i64 1] := rfl
    rw [e0] at Q0'
    simp only [List.getElem?_toArray, List.getElem?_cons_zero, List.getElem?_cons_succ] at x2 x4
    clear hnw9 hf9 hb9 Q0 Q1 LL9 KB e0 HL8 RR0 RR1 LL8 r0 r1 r2 r3 r4 HN0 hlt0 hlt1 hq
    go_upto_region 6 with fail
    obtain ⟨w10, hw10⟩ : ∃ w10, w10 = (w9.setCell ⟨b0, 2, none⟩ (.slice b9 q d9)).setCell ⟨b0, 4, none⟩ (.int .i64 1) := ⟨_, rfl⟩
    rw [← hw10] at LL10 F10 Q0' Q1' ⊢
    clear hw10 x2 y2 x4 y4
    have r0 := Q0'.cell 0
    have r1 := Q0'.cell 1
    have r2 := Q0'.cell 2
    have r3 := Q0'.cell 3
    have r4 := Q0'.cell 4
    have z0 := Q1'.free 0
    have z1 := Q1'.free 1
    have z2 := Q1'.free 2
    have z3 := Q1'.free 3
    have z4 := Q1'.free 4
    have p0 := Q1'.cell 0
    have p1 := Q1'.cell 1
    have p2 := Q1'.cell 2
    have p3 := Q1'.cell 3
    have p4 := Q1'.cell 4
    simp only [List.getElem?_toArray, List.getElem?_cons_zero, List.getElem?_cons_succ] at r0 r1 r2 r3 r4 p0 p1 p2 p3 p4
    clear Q0' Q1'
    go_wp2_with fail
    refine bodyPost_ret (v := .agg #[.string mm, .string tt, .slice b9 q d9, .string bb, .int .i64 1]) (by simp [results, Tryz.results16, go_sem, p0, p1, p2, p3, p4]) rfl ⟨b9, d9, by rw [HQ.out], ?_⟩
    have h5 := own_five b1 _ LL10.out HLE.out (.string mm) (.string tt) (.slice b9 q d9) (.string bb) (.int .i64 1)
    exact ⟨isFlds_keepR F10.out h5.2 HN1.out, h5.1⟩
end Go.Proofs.YtbbphklhnngjmaaGreatDoor

