/- mac: Sum, Tag, Fits of any slice of strings; the walk of the statement MacParts. -/
import Derived.Test.YtfelkdghjbecpaaDoorLawMacSums
import Derived.Test.YtfelkdghjbecpaaDoorLawBlakeParts
import Derived.Test.YtfelkdghjbecpaaDoorMacN
import Derived.Test.YtfelkdghjbecpaaDoorFewN
namespace Go.Proofs.YtfelkdghjbecpaaDoor
open Go.RowKit

theorem msumAny (k : ByteArray) (hk : k.size ≤ 1000000) (a : Option Addr) (c : Nat) (hac : a = none → c = 0) (xs : List ByteArray) (w : World) (ht : Tabs w) (hx : IsStrs w a c xs) (hn : xs.length ≤ 1000) (hl : (flat xs).length ≤ 1000000) :
    Calls Tryd.prog 20 #[.string k, .slice a xs.length c] w fun e w' => e = .returned (.agg (bytesCells 32 (blakeB (macOut k.data.toList (flat xs)))).toArray) ∧ Below w.heap.size w w' := by
  cases a with
  | none =>
    obtain rfl := hac rfl
    obtain h | ⟨bk, o, h, _⟩ := hx
    · subst h
      exact msumNil k hk w ht
    · cases h
  | some ad => exact msum20 k hk ad c xs w ht hx hn hl

set_option maxHeartbeats 400000 in
theorem tagAny (k : ByteArray) (hk : k.size ≤ 1000000) (a : Option Addr) (c : Nat) (hac : a = none → c = 0) (xs : List ByteArray) (w : World) (ht : Tabs w) (hx : IsStrs w a c xs) (hn : xs.length ≤ 1000) (hl : (flat xs).length ≤ 1000000) :
    Calls Tryd.prog 22 #[.string k, .slice a xs.length c] w fun e w' => e = .returned (.string ⟨(tagL k.data.toList (flat xs)).toArray⟩) ∧ Below w.heap.size w w' := by
  have hs := msumAny k hk a c hac xs w ht hx hn hl
  have HS := Lib.hid hs
  clear hs ht hx
  go_enter Tryd.func22, Tryd.ntmps22
  go_wp2_with fail
  refine HS.out.mono ?_
  rintro e w1 ⟨rfl, hb1⟩
  obtain ⟨lo, hlo⟩ : ∃ lo, lo = macOut k.data.toList (flat xs) := ⟨_, rfl⟩
  rw [← hlo]
  have htg : tagL k.data.toList (flat xs) = hexL ((blakeL lo).take 16) := by rw [hlo]; rfl
  have HTG := Lib.hid htg
  clear hlo htg HS
  obtain ⟨hk1, hkb1, hkz1⟩ := hash_kept w1 lo 24 #[.int .u8 0, .int .u8 0, .int .u8 0, .int .u8 0, .int .u8 0, .int .u8 0, .int .u8 0, .int .u8 0, .int .u8 0, .int .u8 0, .int .u8 0, .int .u8 0, .int .u8 0, .int .u8 0, .int .u8 0, .int .u8 0, .int .u8 0, .int .u8 0, .int .u8 0, .int .u8 0, .int .u8 0, .int .u8 0, .int .u8 0, .int .u8 0, .int .u8 0, .int .u8 0, .int .u8 0, .int .u8 0, .int .u8 0, .int .u8 0, .int .u8 0, .int .u8 0] rfl
  have hk16 : Bytes 16 ((w1.alloc (.cells #[.int .u8 0, .int .u8 0, .int .u8 0, .int .u8 0, .int .u8 0, .int .u8 0, .int .u8 0, .int .u8 0, .int .u8 0, .int .u8 0, .int .u8 0, .int .u8 0, .int .u8 0, .int .u8 0, .int .u8 0, .int .u8 0, .int .u8 0, .int .u8 0, .int .u8 0, .int .u8 0, .int .u8 0, .int .u8 0, .int .u8 0, .int .u8 0, .int .u8 0, .int .u8 0, .int .u8 0, .int .u8 0, .int .u8 0, .int .u8 0, .int .u8 0, .int .u8 0] 24)).setCells w1.heap.size 0 (bytesCells 32 (blakeB lo))) w1.heap.size (blakeB lo) := fun i hi => hk1 i (by omega)
  have hcv := bytes_string hk16 32
  rw [hash_half] at hcv
  have hth := hash_there w1 lo 24 #[.int .u8 0, .int .u8 0, .int .u8 0, .int .u8 0, .int .u8 0, .int .u8 0, .int .u8 0, .int .u8 0, .int .u8 0, .int .u8 0, .int .u8 0, .int .u8 0, .int .u8 0, .int .u8 0, .int .u8 0, .int .u8 0, .int .u8 0, .int .u8 0, .int .u8 0, .int .u8 0, .int .u8 0, .int .u8 0, .int .u8 0, .int .u8 0, .int .u8 0, .int .u8 0, .int .u8 0, .int .u8 0, .int .u8 0, .int .u8 0, .int .u8 0, .int .u8 0] rfl
  have hs2 := size32 (blakeB lo)
  have hone := bytesCells_one 32 (blakeB lo)
  have hbel : Below w.heap.size w ((w1.alloc (.cells #[.int .u8 0, .int .u8 0, .int .u8 0, .int .u8 0, .int .u8 0, .int .u8 0, .int .u8 0, .int .u8 0, .int .u8 0, .int .u8 0, .int .u8 0, .int .u8 0, .int .u8 0, .int .u8 0, .int .u8 0, .int .u8 0, .int .u8 0, .int .u8 0, .int .u8 0, .int .u8 0, .int .u8 0, .int .u8 0, .int .u8 0, .int .u8 0, .int .u8 0, .int .u8 0, .int .u8 0, .int .u8 0, .int .u8 0, .int .u8 0, .int .u8 0, .int .u8 0] 24)).setCells w1.heap.size 0 (bytesCells 32 (blakeB lo))) := hb1.trans (hkb1.mono hb1.size)
  have HBEL := Lib.hid hbel
  have hhx := fun W => hex15 ⟨((blakeL lo).take 16).toArray⟩ (by show ((blakeL lo).take 16).toArray.size ≤ _; rw [List.size_toArray, List.length_take]; omega) W
  have HHX := Lib.hid hhx
  clear hk1 hkb1 hkz1 hk16 hbel hb1 hhx
  generalize bytesCells 32 (blakeB lo) = cs at *
  go_wp2_with (refine wpList_store_row rfl 24 _ _ rfl _ cs.toArray rfl rfl hth hs2 hone ?_)
  refine (HHX.out _).mono ?_
  rintro e w2 ⟨rfl, hb2⟩
  have hfin := HBEL.out.trans (hb2.mono HBEL.out.size)
  clear hcv hth hs2 hone HBEL HHX hb2
  go_wp2_with fail
  go_ret
  exact ⟨by rw [HTG.out]; rfl, hfin⟩

set_option maxHeartbeats 400000 in
theorem fitsAny (k t : ByteArray) (hk : k.size ≤ 1000000) (htz : t.size ≤ 1000000) (a : Option Addr) (c : Nat) (hac : a = none → c = 0) (xs : List ByteArray) (w : World) (ht : Tabs w) (hx : IsStrs w a c xs) (hn : xs.length ≤ 1000) (hl : (flat xs).length ≤ 1000000) :
    Calls Tryd.prog 24 #[.string k, .string t, .slice a xs.length c] w fun e w' => e = .returned (.bool (decide (t = ⟨(tagL k.data.toList (flat xs)).toArray⟩))) ∧ Below w.heap.size w w' := by
  have hs := tagAny k hk a c hac xs w ht hx hn hl
  have HS := Lib.hid hs
  clear hs ht hx
  obtain ⟨g, hg⟩ : ∃ g : ByteArray, g = ⟨(tagL k.data.toList (flat xs)).toArray⟩ := ⟨_, rfl⟩
  have hgz : g.size ≤ 9223372036854775807 := by
    rw [hg]
    show (tagL k.data.toList (flat xs)).toArray.size ≤ _
    rw [List.size_toArray, tagL_length]; decide
  have HG := Lib.hid hg
  rw [← hg] at HS
  clear hg
  go_enter Tryd.func24, Tryd.ntmps24
  go_wp2_with fail
  refine HS.out.mono ?_
  rintro e w1 ⟨rfl, hb1⟩
  clear HS
  go_wp2_with (go_at_call 25; refine (same25 t g (by omega) hgz _).mono ?_; rintro e w' ⟨rfl, rfl⟩)
  go_ret
  exact ⟨by rw [HG.out]; rfl, hb1⟩

set_option maxHeartbeats 1000000 in
theorem lawMacParts (key : ByteArray) (a : Option Addr) (c : Nat) (xs : List ByteArray) (hlen : xs.length ≤ 9223372036854775807) (w : World) (ht : Tabs w) (hx : IsStrs w a c xs) :
    Calls Tryd.prog 7 #[.string key, .slice a xs.length c] w fun e w' => e = .returned (.bool true) ∧ Below w.heap.size w w' := by
  have HT := Lib.hid ht
  have HX := Lib.hid hx
  clear ht hx
  go_enter Tryd.func7, Tryd.ntmps7
  go_wp2_with fail
  refine (mawake19 w HT.out).mono ?_
  rintro e w1 ⟨rfl, hb1⟩
  have T1 : Hid (Tabs w1) := HT.out.below hb1
  have X1 : Hid (IsStrs w1 a c xs) := HX.out.below hb1
  clear HT HX
  go_wp2_with fail
  refine (cut11 key 70 _).mono ?_
  rintro e w' ⟨rfl, rfl⟩
  go_wp2_with fail
  refine (few14n a c xs 6 40 (by decide) hlen w1 X1.out).mono ?_
  rintro e w2 ⟨a2, c2, rfl, hx2, hac2, hb2⟩
  obtain ⟨k, hk⟩ : ∃ k, k = cutS key 70 := ⟨_, rfl⟩
  have hkz : k.size ≤ 70 := by rw [hk]; exact cutS_size _ _
  rw [← hk]
  obtain ⟨ys, hys⟩ : ∃ ys, ys = fewS xs 6 40 := ⟨_, rfl⟩
  have hyl : ys.length ≤ 6 := by rw [hys]; exact fewS_length xs 6 40
  have hyz : ∀ y ∈ ys, y.size ≤ 40 := by rw [hys]; exact fewS_size xs 6 40
  rw [← hys] at hx2 ⊢
  have hfl := flat_size ys 40 hyz
  have hflz : (flat ys).length ≤ 240 := Nat.le_trans hfl (Nat.mul_le_mul_right 40 hyl)
  have T2 : Hid (Tabs w2) := T1.out.below hb2
  have X2 := Lib.hid hx2
  have HAC := Lib.hid hac2
  have hbel : Below w.heap.size w w2 := hb1.trans (hb2.mono hb1.size)
  have HYZ := Lib.hid hyz
  clear hys hx2 hb1 hb2 T1 X1 hyz hfl hk hac2
  go_wp2_with fail
  go_loop [5, 7, 16] (fun sv _ i => ∃ (j : Nat) (t : ByteArray), j ≤ ys.length ∧ i = .int .i64 (j : Int) ∧ sv = .string t ∧ Hid (t.data.toList = flat (ys.take j))) (fun _ _ i => ys.length - (intOf i).toNat)
  case atStart => exact ⟨0, ⟨#[]⟩, by omega, rfl, rfl, rfl⟩
  case round =>
    obtain ⟨j, t, hj, rfl, rfl, htl⟩ := hrel
    by_cases hlt : j < ys.length
    · obtain h0 | ⟨bk, o, rfl, hbk, hc, hcell⟩ := X2.out
      · subst h0; simp at hlt
      · have cj := hcell j ys[j] (by simp [hlt])
        have hft := flat_take ys j hlt
        have HFT := Lib.hid hft
        have hyj : ys[j].size ≤ 40 := HYZ.out _ (List.getElem_mem hlt)
        have htz : t.size ≤ 240 := by
          rw [Lib.size_eq, htl.out]
          have h1 : flat ys = flat (ys.take j) ++ flat (ys.drop j) := by
            unfold flat
            rw [← List.flatten_append, ← List.map_append, List.take_append_drop]
          have h2 := congrArg List.length h1
          rw [List.length_append] at h2
          omega
        clear hcell hft
        generalize ys[j] = x at *
        have j1 : (j : Int) < ys.length := by omega
        go_wp2_with fail
        go_round
        case rel =>
          refine ⟨j + 1, t ++ x, hlt, by go_num, rfl, ?_⟩
          show (t ++ x : ByteArray).data.toList = _
          rw [HFT.out, ← htl.out]
          simp
        case measure => simp [intOf]; omega
    · have hjl : j = ys.length := by omega
      have htf : t.data.toList = flat ys := by rw [htl.out, hjl, List.take_length]
      have htz : t.size ≤ 240 := by rw [Lib.size_eq, htf]; exact hflz
      have HTF := Lib.hid htf
      clear htl htf
      obtain ⟨l, hl⟩ : ∃ l, l = macOut k.data.toList (flat ys) := ⟨_, rfl⟩
      have heq := hash_eq l
      have HEQ := Lib.hid heq
      have hs1 := msumAny k (by omega) a2 c2 HAC.out ys w2 T2.out X2.out (by omega) (by omega)
      rw [← hl] at hs1
      have HS1 := Lib.hid hs1
      have hs2 := fun W (hW : Tabs W) => msum_one k t (by omega) (by omega) W 9 hW
      rw [HTF.out, ← hl] at hs2
      have HS2 := Lib.hid hs2
      obtain ⟨T, hT⟩ : ∃ T : ByteArray, T = ⟨(tagL k.data.toList (flat ys)).toArray⟩ := ⟨_, rfl⟩
      have hTz : T.size ≤ 32 := by rw [hT]; show (tagL _ _).toArray.size ≤ _; rw [List.size_toArray, tagL_length]; decide
      have hs3 := fun W (hW : Tabs W) => tag_one k t (by omega) (by omega) W 9 hW
      rw [HTF.out, ← hT] at hs3
      have HS3 := Lib.hid hs3
      have hs4 := fun W (hW : Tabs W) (hX : IsStrs W a2 c2 ys) => fitsAny k T (by omega) (by omega) a2 c2 HAC.out ys W hW hX (by omega) (by omega)
      rw [← hT] at hs4
      have HS4 : Hid (∀ W, Tabs W → IsStrs W a2 c2 ys → Calls Tryd.prog 24 #[.string k, .string T, .slice a2 ys.length c2] W fun e w' => e = .returned (.bool true) ∧ Below W.heap.size W w') := fun W hW hX => by simpa using hs4 W hW hX
      clear heq hs1 hs2 hs3 hs4 hl hT HTF
      go_wp2_with fail
      refine HS1.out.mono ?_
      rintro e w3 ⟨rfl, hb3⟩
      have T3 : Hid (Tabs w3) := T2.out.below hb3
      have X3 : Hid (IsStrs w3 a2 c2 ys) := X2.out.below hb3
      have hbel3 : Below w.heap.size w w3 := hbel.trans (hb3.mono hbel.size)
      clear hb3 hbel T2 X2 HS1
      generalize hcs : bytesCells 32 (blakeB l) = cs at *
      clear hcs
      go_wp2_with fail
      refine (HS2.out w3 T3.out).mono ?_
      rintro e w4 ⟨rfl, hb4⟩
      have T4 : Hid (Tabs w4) := T3.out.below hb4
      have X4 : Hid (IsStrs w4 a2 c2 ys) := X3.out.below hb4
      have hbel4 : Below w.heap.size w w4 := hbel3.trans (hb4.mono hbel3.size)
      clear hb4 hbel3 T3 X3 HS2
      have heq := HEQ.out
      go_wp2_with fail
      clear heq
      refine (HS3.out w4 T4.out).mono ?_
      rintro e w5 ⟨rfl, hb5⟩
      have T5 : Hid (Tabs w5) := T4.out.below hb5
      have X5 : Hid (IsStrs w5 a2 c2 ys) := X4.out.below hb5
      have hbel5 : Below w.heap.size w w5 := hbel4.trans (hb5.mono hbel4.size)
      clear hb5 hbel4 T4 X4 HS3
      go_wp2_with fail
      refine (HS4.out w5 T5.out X5.out).mono ?_
      rintro e w6 ⟨rfl, hb6⟩
      have hbel6 : Below w.heap.size w w6 := hbel5.trans (hb6.mono hbel5.size)
      clear hb6 hbel5 T5 X5 HS4
      go_wp2_with fail
      go_ret
      exact ⟨rfl, hbel6⟩
end Go.Proofs.YtfelkdghjbecpaaDoor
