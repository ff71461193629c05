/- mac: Sum. -/
import Derived.Test.YtllmlngfmcbaaaaGreatDoorMacC
import Derived.Test.YtllmlngfmcbaaaaGreatDoorFew
namespace Go.Proofs.YtllmlngfmcbaaaaGreatDoor
open Go.RowKit

theorem new_row (w : World) (s : ByteArray) (B b : Nat) (hB : B ≤ w.heap.size) (hb : w.heap.size = b) : (w.alloc (.cells #[.string s] 9)).ownsRow B 9 1 (.slice (some ⟨b, 0, none⟩) 1 1) 1 [.string s] := by
  subst hb
  exact ⟨rfl, .inr ⟨w.heap.size, 1, #[.string s], rfl, hB, heap_alloc_new w _, Nat.le_refl _, by decide, rfl, rfl⟩⟩
theorem strs_news {w : World} {ad : Addr} {c : Nat} {xs : List ByteArray} (h : IsStrs w (some ad) c xs) : ∀ j u, (xs.map Value.string)[j]? = some u → w.cell? (ad.add j) = some u := by
  intro j u hu
  obtain h | ⟨bk, o, ha, hlt, hc, hcell⟩ := h
  · subst h; simp at hu
  · obtain rfl := Option.some.inj ha
    rw [List.getElem?_map, Option.map_eq_some_iff] at hu
    obtain ⟨x, hx, rfl⟩ := hu
    rw [Addr.add_mid]
    exact hcell j x hx
theorem row_slice {w : World} {B n : Nat} {e : TypeId} {v : Value} {xs : List Value} (h : w.ownsRow B e 1 v n xs) : ∃ a c, v = .slice a n c := by
  obtain ⟨_, ⟨h1, h2⟩ | ⟨g, cap, cur, h1, _⟩⟩ := h
  · exact ⟨none, 0, by rw [h1, h2]⟩
  · exact ⟨_, _, h1⟩
theorem bytes_drew {n : Nat} {w : World} {b : Nat} {f : Nat → Int} (h : Bytes n w b f) : Bytes n w.drew b f := h
theorem flat_cons (s : ByteArray) (xs : List ByteArray) : flat (s :: xs) = s.data.toList ++ flat xs := rfl

set_option maxRecDepth 100000 in
set_option maxHeartbeats 1000000 in
theorem msum20 (k : ByteArray) (hk : k.size ≤ 1000000) (ad : Addr) (c : Nat) (xs : List ByteArray) (w : World) (ht : Tabs w) (hx : IsStrs w (some ad) c xs) (hn : xs.length ≤ 1000) (hl : (flat xs).length ≤ 1000000) :
    Calls Tryz.prog 36 #[.string k, .slice (some ad) xs.length c] w fun e w' => e = .returned (.agg (bytesCells 32 (blakeB (macOut k.data.toList (flat xs)))).toArray) ∧ Below w.heap.size w w' := by
  obtain ⟨i0, hi, hz0, hz1, hz2⟩ := info_parts info9
  have HT := Lib.hid ht
  have HX := Lib.hid hx
  clear ht hx
  have hz0' : Bytes 32 (w.alloc (.cells #[.int .u8 0, .int .u8 0, .int .u8 0, .int .u8 0, .int .u8 0, .int .u8 0, .int .u8 0, .int .u8 0, .int .u8 0, .int .u8 0, .int .u8 0, .int .u8 0, .int .u8 0, .int .u8 0, .int .u8 0, .int .u8 0, .int .u8 0, .int .u8 0, .int .u8 0, .int .u8 0, .int .u8 0, .int .u8 0, .int .u8 0, .int .u8 0, .int .u8 0, .int .u8 0, .int .u8 0, .int .u8 0, .int .u8 0, .int .u8 0, .int .u8 0, .int .u8 0] 60)) w.heap.size (fun _ => 0) := bytes_zero w 32 60
  have O0 := Lib.hid hz0'
  have L0 := below_alloc w (.cells #[.int .u8 0, .int .u8 0, .int .u8 0, .int .u8 0, .int .u8 0, .int .u8 0, .int .u8 0, .int .u8 0, .int .u8 0, .int .u8 0, .int .u8 0, .int .u8 0, .int .u8 0, .int .u8 0, .int .u8 0, .int .u8 0, .int .u8 0, .int .u8 0, .int .u8 0, .int .u8 0, .int .u8 0, .int .u8 0, .int .u8 0, .int .u8 0, .int .u8 0, .int .u8 0, .int .u8 0, .int .u8 0, .int .u8 0, .int .u8 0, .int .u8 0, .int .u8 0] 60)
  have Z0 : w.heap.size < (w.alloc (.cells #[.int .u8 0, .int .u8 0, .int .u8 0, .int .u8 0, .int .u8 0, .int .u8 0, .int .u8 0, .int .u8 0, .int .u8 0, .int .u8 0, .int .u8 0, .int .u8 0, .int .u8 0, .int .u8 0, .int .u8 0, .int .u8 0, .int .u8 0, .int .u8 0, .int .u8 0, .int .u8 0, .int .u8 0, .int .u8 0, .int .u8 0, .int .u8 0, .int .u8 0, .int .u8 0, .int .u8 0, .int .u8 0, .int .u8 0, .int .u8 0, .int .u8 0, .int .u8 0] 60)).heap.size := by simp
  have T0 : Hid (Tabs (w.alloc (.cells #[.int .u8 0, .int .u8 0, .int .u8 0, .int .u8 0, .int .u8 0, .int .u8 0, .int .u8 0, .int .u8 0, .int .u8 0, .int .u8 0, .int .u8 0, .int .u8 0, .int .u8 0, .int .u8 0, .int .u8 0, .int .u8 0, .int .u8 0, .int .u8 0, .int .u8 0, .int .u8 0, .int .u8 0, .int .u8 0, .int .u8 0, .int .u8 0, .int .u8 0, .int .u8 0, .int .u8 0, .int .u8 0, .int .u8 0, .int .u8 0, .int .u8 0, .int .u8 0] 60))) := HT.out.below L0
  have X0 : Hid (IsStrs (w.alloc (.cells #[.int .u8 0, .int .u8 0, .int .u8 0, .int .u8 0, .int .u8 0, .int .u8 0, .int .u8 0, .int .u8 0, .int .u8 0, .int .u8 0, .int .u8 0, .int .u8 0, .int .u8 0, .int .u8 0, .int .u8 0, .int .u8 0, .int .u8 0, .int .u8 0, .int .u8 0, .int .u8 0, .int .u8 0, .int .u8 0, .int .u8 0, .int .u8 0, .int .u8 0, .int .u8 0, .int .u8 0, .int .u8 0, .int .u8 0, .int .u8 0, .int .u8 0, .int .u8 0] 60)) (some ad) c xs) := HX.out.below L0
  clear hz0' HT HX
  go_enter Tryz.func36, Tryz.ntmps36
  go_wp2_with fail
  generalize World.alloc w _ = w0 at *
  generalize hBB : w.heap.size = B at *
  have HBB := Lib.hid hBB
  have hL0s : B ≤ w0.heap.size := Nat.le_of_lt Z0
  clear hBB
  refine (padOf34 k (by omega) w0 T0.out).mono ?_
  rintro e w1 ⟨rfl, hb1⟩
  have T1 : Hid (Tabs w1) := T0.out.below hb1
  have X1 : Hid (IsStrs w1 (some ad) c xs) := X0.out.below hb1
  have O1 : Hid (Bytes 32 w1 B (fun _ => 0)) := O0.out.below hb1 Z0
  have hbel1 : Below B w w1 := L0.trans (hb1.mono hL0s)
  have Z1 : B < w1.heap.size := Nat.lt_of_lt_of_le Z0 hb1.size
  clear T0 X0 O0 L0 Z0 hb1 hL0s
  have hz64 : Bytes 64 (w1.alloc (.cells #[.int .u8 0, .int .u8 0, .int .u8 0, .int .u8 0, .int .u8 0, .int .u8 0, .int .u8 0, .int .u8 0, .int .u8 0, .int .u8 0, .int .u8 0, .int .u8 0, .int .u8 0, .int .u8 0, .int .u8 0, .int .u8 0, .int .u8 0, .int .u8 0, .int .u8 0, .int .u8 0, .int .u8 0, .int .u8 0, .int .u8 0, .int .u8 0, .int .u8 0, .int .u8 0, .int .u8 0, .int .u8 0, .int .u8 0, .int .u8 0, .int .u8 0, .int .u8 0, .int .u8 0, .int .u8 0, .int .u8 0, .int .u8 0, .int .u8 0, .int .u8 0, .int .u8 0, .int .u8 0, .int .u8 0, .int .u8 0, .int .u8 0, .int .u8 0, .int .u8 0, .int .u8 0, .int .u8 0, .int .u8 0, .int .u8 0, .int .u8 0, .int .u8 0, .int .u8 0, .int .u8 0, .int .u8 0, .int .u8 0, .int .u8 0, .int .u8 0, .int .u8 0, .int .u8 0, .int .u8 0, .int .u8 0, .int .u8 0, .int .u8 0, .int .u8 0] 68)) w1.heap.size (fun _ => 0) := bytes_zero w1 64 68
  have hst := bytes_stored hz64 (byteAt (keyB k.data.toList))
  have hrange := bytesCells_range hst
  have hu64 := Tryz.underlying68
  have hs64 := size64 (byteAt (keyB k.data.toList))
  have hone64 := bytesCells_one 64 (byteAt (keyB k.data.toList))
  have hs64' : (Tryz.prog.info? 68).map (·.size) = some (bytesCells 64 (byteAt (keyB k.data.toList))).toArray.size := by rw [List.size_toArray]; exact hs64
  have h64 : (bytesCells 64 (byteAt (keyB k.data.toList))).toArray.size = 64 := by rw [List.size_toArray, bytesCells_length]
  have hth64 : (w1.alloc (.cells #[.int .u8 0, .int .u8 0, .int .u8 0, .int .u8 0, .int .u8 0, .int .u8 0, .int .u8 0, .int .u8 0, .int .u8 0, .int .u8 0, .int .u8 0, .int .u8 0, .int .u8 0, .int .u8 0, .int .u8 0, .int .u8 0, .int .u8 0, .int .u8 0, .int .u8 0, .int .u8 0, .int .u8 0, .int .u8 0, .int .u8 0, .int .u8 0, .int .u8 0, .int .u8 0, .int .u8 0, .int .u8 0, .int .u8 0, .int .u8 0, .int .u8 0, .int .u8 0, .int .u8 0, .int .u8 0, .int .u8 0, .int .u8 0, .int .u8 0, .int .u8 0, .int .u8 0, .int .u8 0, .int .u8 0, .int .u8 0, .int .u8 0, .int .u8 0, .int .u8 0, .int .u8 0, .int .u8 0, .int .u8 0, .int .u8 0, .int .u8 0, .int .u8 0, .int .u8 0, .int .u8 0, .int .u8 0, .int .u8 0, .int .u8 0, .int .u8 0, .int .u8 0, .int .u8 0, .int .u8 0, .int .u8 0, .int .u8 0, .int .u8 0, .int .u8 0] 68)).there w1.heap.size 0 (bytesCells 64 (byteAt (keyB k.data.toList))).toArray.size := by rw [h64]; exact bytes_there hz64
  have hon := only_setCells w1.heap.size (bytesCells 64 (byteAt (keyB k.data.toList))) 0 (w1.alloc (.cells #[.int .u8 0, .int .u8 0, .int .u8 0, .int .u8 0, .int .u8 0, .int .u8 0, .int .u8 0, .int .u8 0, .int .u8 0, .int .u8 0, .int .u8 0, .int .u8 0, .int .u8 0, .int .u8 0, .int .u8 0, .int .u8 0, .int .u8 0, .int .u8 0, .int .u8 0, .int .u8 0, .int .u8 0, .int .u8 0, .int .u8 0, .int .u8 0, .int .u8 0, .int .u8 0, .int .u8 0, .int .u8 0, .int .u8 0, .int .u8 0, .int .u8 0, .int .u8 0, .int .u8 0, .int .u8 0, .int .u8 0, .int .u8 0, .int .u8 0, .int .u8 0, .int .u8 0, .int .u8 0, .int .u8 0, .int .u8 0, .int .u8 0, .int .u8 0, .int .u8 0, .int .u8 0, .int .u8 0, .int .u8 0, .int .u8 0, .int .u8 0, .int .u8 0, .int .u8 0, .int .u8 0, .int .u8 0, .int .u8 0, .int .u8 0, .int .u8 0, .int .u8 0, .int .u8 0, .int .u8 0, .int .u8 0, .int .u8 0, .int .u8 0, .int .u8 0] 68))
  have L2 : Below w1.heap.size w1 ((w1.alloc (.cells #[.int .u8 0, .int .u8 0, .int .u8 0, .int .u8 0, .int .u8 0, .int .u8 0, .int .u8 0, .int .u8 0, .int .u8 0, .int .u8 0, .int .u8 0, .int .u8 0, .int .u8 0, .int .u8 0, .int .u8 0, .int .u8 0, .int .u8 0, .int .u8 0, .int .u8 0, .int .u8 0, .int .u8 0, .int .u8 0, .int .u8 0, .int .u8 0, .int .u8 0, .int .u8 0, .int .u8 0, .int .u8 0, .int .u8 0, .int .u8 0, .int .u8 0, .int .u8 0, .int .u8 0, .int .u8 0, .int .u8 0, .int .u8 0, .int .u8 0, .int .u8 0, .int .u8 0, .int .u8 0, .int .u8 0, .int .u8 0, .int .u8 0, .int .u8 0, .int .u8 0, .int .u8 0, .int .u8 0, .int .u8 0, .int .u8 0, .int .u8 0, .int .u8 0, .int .u8 0, .int .u8 0, .int .u8 0, .int .u8 0, .int .u8 0, .int .u8 0, .int .u8 0, .int .u8 0, .int .u8 0, .int .u8 0, .int .u8 0, .int .u8 0, .int .u8 0] 68)).setCells w1.heap.size 0 (bytesCells 64 (byteAt (keyB k.data.toList)))) := hon.below (below_alloc _ _) (Nat.le_refl _)
  have Z2 : w1.heap.size < ((w1.alloc (.cells #[.int .u8 0, .int .u8 0, .int .u8 0, .int .u8 0, .int .u8 0, .int .u8 0, .int .u8 0, .int .u8 0, .int .u8 0, .int .u8 0, .int .u8 0, .int .u8 0, .int .u8 0, .int .u8 0, .int .u8 0, .int .u8 0, .int .u8 0, .int .u8 0, .int .u8 0, .int .u8 0, .int .u8 0, .int .u8 0, .int .u8 0, .int .u8 0, .int .u8 0, .int .u8 0, .int .u8 0, .int .u8 0, .int .u8 0, .int .u8 0, .int .u8 0, .int .u8 0, .int .u8 0, .int .u8 0, .int .u8 0, .int .u8 0, .int .u8 0, .int .u8 0, .int .u8 0, .int .u8 0, .int .u8 0, .int .u8 0, .int .u8 0, .int .u8 0, .int .u8 0, .int .u8 0, .int .u8 0, .int .u8 0, .int .u8 0, .int .u8 0, .int .u8 0, .int .u8 0, .int .u8 0, .int .u8 0, .int .u8 0, .int .u8 0, .int .u8 0, .int .u8 0, .int .u8 0, .int .u8 0, .int .u8 0, .int .u8 0, .int .u8 0, .int .u8 0] 68)).setCells w1.heap.size 0 (bytesCells 64 (byteAt (keyB k.data.toList)))).heap.size := Nat.lt_of_lt_of_eq (by simp) hon.size.symm
  have P2 := Lib.hid hst
  have L2' := Lib.hid L2
  have Z2' := Lib.hid Z2
  clear hz64 hst h64 hon L2 Z2
  generalize hcs : bytesCells 64 (byteAt (keyB k.data.toList)) = cs at *
  have HCS := Lib.hid hcs
  clear hcs
  go_wp2_with (first
    | (refine wpList_load_row rfl 68 _ rfl _ rfl cs _ hrange hu64 rfl hs64 ?_)
    | (refine wpList_store_row rfl 68 _ _ rfl _ cs.toArray rfl rfl hth64 hs64' hone64 ?_))
  generalize hW : World.setCells (World.alloc w1 _) _ _ _ = w2 at *
  clear hW hrange hs64' hone64 hth64
  have T2 : Hid (Tabs w2) := T1.out.below L2'.out
  have X2 : Hid (IsStrs w2 (some ad) c xs) := X1.out.below L2'.out
  have O2 : Hid (Bytes 32 w2 B (fun _ => 0)) := O1.out.below L2'.out Z1
  have hbel2 : Below B w w2 := hbel1.trans (L2'.out.mono (Nat.le_of_lt Z1))
  have hz2' : w1.heap.size < w2.heap.size := Z2'.out
  have hB1 : B < w1.heap.size := Z1
  clear T1 X1 O1 hbel1 L2' Z2' Z1
  generalize w1.heap.size = b5 at *
  have hmk := fun W => masked_key k.data.toList 54 54 rfl W
  have hmk2 := fun W => masked_key k.data.toList 92 92 rfl W
  rw [HCS.out] at hmk hmk2
  have HMK2 := Lib.hid hmk2
  refine (hmk w2).mono ?_
  rintro e w3 ⟨rfl, hb3⟩
  clear hmk hmk2
  have T3 : Hid (Tabs w3) := T2.out.below hb3
  have X3 : Hid (IsStrs w3 (some ad) c xs) := X2.out.below hb3
  have O3 : Hid (Bytes 32 w3 B (fun _ => 0)) := O2.out.below hb3 (by omega)
  have P3 : Hid (Bytes 64 w3 b5 (byteAt (keyB k.data.toList))) := P2.out.below hb3 hz2'
  have hs3 := hb3.size
  have hbel3 : Below B w w3 := hbel2.trans (hb3.mono (by omega))
  have hb53 : b5 < w3.heap.size := by omega
  clear T2 X2 O2 P2 hb3 hbel2 hz2' hs3
  obtain ⟨m54, hm54⟩ : ∃ m : ByteArray, m = ⟨(maskL k.data.toList 54).toArray⟩ := ⟨_, rfl⟩
  have hmd : m54.data.toList = maskL k.data.toList 54 := by rw [hm54]
  have HMD := Lib.hid hmd
  rw [← hm54]
  clear hm54 hmd
  have hrow := new_row w3 m54 w3.heap.size w3.heap.size (Nat.le_refl _) rfl
  have hnews := strs_news (X3.out.below (below_alloc w3 (.cells #[.string m54] 9)))
  have hone1 : ∀ u ∈ xs.map Value.string, u.oneCell' = true := fun u hu => by
    simp at hu
    obtain ⟨x, _, rfl⟩ := hu
    rfl
  have HROW := Lib.hid hrow
  have HNEWS := Lib.hid hnews
  have HONE := Lib.hid hone1
  have hlen : (xs.map Value.string).length = xs.length * 1 := by simp
  clear hrow hnews hone1
  go_wp2_with (at_builtin; refine wpList_append_own _ rfl _ _ 35 rfl w3.heap.size 9 i0 (.string ⟨#[]⟩) 1 16 Tryz.underlying35 hi hz0 hz1 hz2 rfl (by decide) _ _ _ rfl HROW.out ad xs.length c (xs.map Value.string) rfl hlen HNEWS.out HONE.out (by unfold maxLen; omega) (by omega) (by simp) ?_)
  intro v' w4 hown4 hgrow4 _
  have hb4 : Below w3.heap.size w3 w4 := (below_alloc w3 (.cells #[.string m54] 9)).grown hgrow4 (by simp) (fun k hk => by simp [Value.ownBlock] at hk; omega)
  obtain ⟨a4, c4, rfl⟩ := row_slice hown4
  have hkl : (m54 :: xs).length = 1 + xs.length := by simp; omega
  have hst4 : IsStrs w4 a4 c4 (m54 :: xs) := isStrs_of_row (ys := m54 :: xs) hown4 hkl
  have T4 : Hid (Tabs w4) := T3.out.below hb4
  have O4 : Hid (Bytes 32 w4 B (fun _ => 0)) := O3.out.below hb4 (by omega)
  have P4 : Hid (Bytes 64 w4 b5 (byteAt (keyB k.data.toList))) := P3.out.below hb4 hb53
  have hs4 := hb4.size
  have hbel4 : Below B w w4 := hbel3.trans (hb4.mono (by omega))
  have hb54 : b5 < w4.heap.size := by omega
  have S4 := Lib.hid hst4
  have hfl : flat (m54 :: xs) = macIn k.data.toList (flat xs) := by rw [flat_cons, HMD.out]; rfl
  have hfz : (flat (m54 :: xs)).length ≤ 2000000 := by rw [flat_cons, List.length_append, HMD.out, maskL_length]; omega
  have hsum : Calls Tryz.prog 49 #[.slice a4 (1 + xs.length) c4] w4 fun e w' => e = .returned (.agg (bytesCells 32 (blakeB (macIn k.data.toList (flat xs)))).toArray) ∧ Below w4.heap.size w4 w' := by
    have := bsum12 a4 c4 (m54 :: xs) w4 T4.out S4.out (by simp; omega) (by omega)
    rw [hfl, hkl] at this
    exact this
  have HSUM := Lib.hid hsum
  clear hown4 hgrow4 hst4 T3 X3 O3 P3 hb4 hbel3 hs4 S4 hfl hfz hsum HROW HNEWS HONE hlen hkl hi hz0 hz1 hz2 hb53
  go_wp2_with fail
  refine HSUM.out.mono ?_
  rintro e w5 ⟨rfl, hb5⟩
  have T5 : Hid (Tabs w5) := T4.out.below hb5
  have O5 : Hid (Bytes 32 w5 B (fun _ => 0)) := O4.out.below hb5 (by omega)
  have P5 : Hid (Bytes 64 w5 b5 (byteAt (keyB k.data.toList))) := P4.out.below hb5 hb54
  have hs5 := hb5.size
  have hbel5 : Below B w w5 := hbel4.trans (hb5.mono (by omega))
  have hb55 : b5 < w5.heap.size := by omega
  clear T4 O4 P4 hbel4 hb5 hs5 HSUM hb54
  obtain ⟨li, hli⟩ : ∃ li, li = macIn k.data.toList (flat xs) := ⟨_, rfl⟩
  rw [← hli]
  have HLI := Lib.hid hli
  clear hli
  obtain ⟨hk6, hkb6, hkz6⟩ := hash_kept w5 li 60 #[.int .u8 0, .int .u8 0, .int .u8 0, .int .u8 0, .int .u8 0, .int .u8 0, .int .u8 0, .int .u8 0, .int .u8 0, .int .u8 0, .int .u8 0, .int .u8 0, .int .u8 0, .int .u8 0, .int .u8 0, .int .u8 0, .int .u8 0, .int .u8 0, .int .u8 0, .int .u8 0, .int .u8 0, .int .u8 0, .int .u8 0, .int .u8 0, .int .u8 0, .int .u8 0, .int .u8 0, .int .u8 0, .int .u8 0, .int .u8 0, .int .u8 0, .int .u8 0] rfl
  have hth6 := hash_there w5 li 60 #[.int .u8 0, .int .u8 0, .int .u8 0, .int .u8 0, .int .u8 0, .int .u8 0, .int .u8 0, .int .u8 0, .int .u8 0, .int .u8 0, .int .u8 0, .int .u8 0, .int .u8 0, .int .u8 0, .int .u8 0, .int .u8 0, .int .u8 0, .int .u8 0, .int .u8 0, .int .u8 0, .int .u8 0, .int .u8 0, .int .u8 0, .int .u8 0, .int .u8 0, .int .u8 0, .int .u8 0, .int .u8 0, .int .u8 0, .int .u8 0, .int .u8 0, .int .u8 0] rfl
  have hs6 := size32 (blakeB li)
  have hone6 := bytesCells_one 32 (blakeB li)
  have K6 := Lib.hid hk6
  have KB6 := Lib.hid hkb6
  have KZ6 := Lib.hid hkz6
  clear hk6 hkb6 hkz6
  generalize hcs6 : bytesCells 32 (blakeB li) = cs6 at *
  clear hcs6
  go_wp2_with (refine wpList_store_row rfl 60 _ _ rfl _ cs6.toArray rfl rfl hth6 hs6 hone6 ?_)
  generalize hW : World.setCells (World.alloc w5 _) _ _ _ = w6 at *
  clear hW hth6 hs6 hone6
  have T6 : Hid (Tabs w6) := T5.out.below KB6.out
  have O6 : Hid (Bytes 32 w6 B (fun _ => 0)) := O5.out.below KB6.out (by omega)
  have P6 : Hid (Bytes 64 w6 b5 (byteAt (keyB k.data.toList))) := P5.out.below KB6.out hb55
  have hbel6 : Below B w w6 := hbel5.trans (KB6.out.mono (by omega))
  have hz6 : w5.heap.size < w6.heap.size := KZ6.out
  have hbb : b5 < w5.heap.size := hb55
  clear T5 O5 P5 hbel5 KB6 KZ6 hb55
  generalize w5.heap.size = b6 at *
  have HS64 := Lib.hid hs64
  clear hs64
  refine region_mixt 6 [some (.agg cs.toArray), some (.string ⟨(maskL k.data.toList 92).toArray⟩), some (.slice (some ⟨b6, 0, none⟩) 32 32), some (.string ⟨(blakeL li).toArray⟩), none, some (.agg (bytesCells 32 (blakeB (macOut k.data.toList (flat xs)))).toArray)]
    [[false, false, false, false, false, false], [true, false, false, false, false, false], [false, false, false, false, false, false], [false, false, true, false, false, false], [false, true, false, true, false, false], [false, true, false, false, true, false]]
    (fun L x w1 => Hid (Bytes 64 w1 b5 (byteAt (keyB k.data.toList))) ∧ Hid (Bytes 32 w1 b6 (blakeB li)) ∧ Hid (Bytes 32 w1 B (fun _ => 0)) ∧ Hid (Tabs w1) ∧ Below B w w1 ∧ b6 < w1.heap.size ∧ (L 4 = true → ∃ b, x 4 = .slice (some ⟨b, 0, none⟩) 2 2 ∧ w1.cell? ⟨b, 0, none⟩ = some (.string ⟨(maskL k.data.toList 92).toArray⟩) ∧ w1.cell? ⟨b, 1, none⟩ = some (.string ⟨(blakeL li).toArray⟩)))
    (by kernel_rfl) (by kernel_rfl) (by kernel_rfl) (by kernel_rfl) (by kernel_rfl) (by decide) ?_ ?_ ?_
  · intro _
    exact ⟨Lib.hid (bytes_drew P6.out), Lib.hid (bytes_drew K6.out), Lib.hid (bytes_drew O6.out), Lib.hid T6.out.drew, hbel6.drew, hz6, fun h => (by cases h)⟩
  · simp only [List.take_succ_cons, List.take_zero]
    refine ⟨?_, ?_, ?_, ?_, ?_, ?_, trivial⟩
    all_goals
      intro L x w9 hS hl hp K hK
      have c1 := hS.1
      have c2 := hS.2.1
      have c3 := hS.2.2.1
      have c4 := hS.2.2.2.1
      have c5 := hS.2.2.2.2.1
      have c6 := hS.2.2.2.2.2.1
      have c7 := hS.2.2.2.2.2.2
      clear hS P6 K6 O6 T6 hbel6
      replace hK := hK.out
      simp only [actMix, pickV, List.tail_cons, List.headD_cons, Act.put, List.setIfInBounds_toArray, List.set_cons_zero, List.set_cons_succ] at hK ⊢
    · clear hp
      rw [if_pos (by rfl)]
      have hr := bytesCells_range c1.out
      rw [HCS.out] at hr
      refine wp_load_mid 68 _ rfl b5 0 rfl cs _ hr hu64 rfl HS64.out ?_
      simp only [Act.put, List.setIfInBounds_toArray, List.set_cons_zero, List.set_cons_succ]
      with_reducible refine hK _ ?_
      exact ⟨c1, c2, c3, c4, c5, c6, fun h => by simpa [updV] using c7 (by simpa [setL] using h)⟩
    · clear hp
      go_simp
      refine (HMK2.out _).mono ?_
      rintro e w8 ⟨rfl, hb8⟩
      with_reducible refine hK _ ?_
      have hs8 := hb8.size
      refine ⟨Lib.hid (c1.out.below hb8 (by omega)), Lib.hid (c2.out.below hb8 (by omega)), Lib.hid (c3.out.below hb8 (by omega)), c4.out.below hb8, c5.trans (hb8.mono (by omega)), by omega, fun h => ?_⟩
      have := c7 (by simpa [setL] using h)
      obtain ⟨b9, h1, h2, h3⟩ := this
      obtain ⟨hc8, _⟩ := bcell hb8
      have hlt9 := World.block_lt_of_cell? w9 _ h2
      exact ⟨b9, by simpa [updV] using h1, by rw [hc8 _ _ hlt9]; exact h2, by rw [hc8 _ _ hlt9]; exact h3⟩
    · clear hp
      go_simp
      with_reducible refine hK _ ?_
      exact ⟨c1, c2, c3, c4, c5, c6, fun h => by simpa [updV] using c7 (by simpa [setL] using h)⟩
    · clear hp
      have hcv := bytes_string c2.out 32
      rw [hash_str] at hcv
      go_simp
      with_reducible refine hK _ ?_
      exact ⟨c1, c2, c3, c4, c5, c6, fun h => by simpa [updV] using c7 (by simpa [setL] using h)⟩
    · clear hp c7
      go_simp
      with_reducible refine hK _ _ ?_
      have hb8 := below_alloc w9 (.cells #[.string ⟨(maskL k.data.toList 92).toArray⟩, .string ⟨(blakeL li).toArray⟩] 9)
      exact ⟨Lib.hid (c1.out.below hb8 (by omega)), Lib.hid (c2.out.below hb8 (by omega)), Lib.hid (c3.out.below hb8 (by omega)), c4.out.below hb8, c5.trans (hb8.mono (by omega)), Nat.lt_of_lt_of_le c6 hb8.size, fun _ => ⟨w9.heap.size, by simp [updV], by simp, by simp⟩⟩
    · have h4 : L 4 = true := allL_mem hp 4 (by decide +kernel)
      obtain ⟨b9, h1, h2, h3⟩ := c7 h4
      clear hp c7
      rw [h1] at hK ⊢
      go_simp
      have hlt9 := World.block_lt_of_cell? w9 _ h2
      have hf2 : flat [⟨(maskL k.data.toList 92).toArray⟩, ⟨(blakeL li).toArray⟩] = macOut k.data.toList (flat xs) := by
        rw [HLI.out]
        show maskL k.data.toList 92 ++ (blakeL _ ++ []) = _
        rw [List.append_nil]; rfl
      refine (bsum12 (some ⟨b9, 0, none⟩) 2 [⟨(maskL k.data.toList 92).toArray⟩, ⟨(blakeL li).toArray⟩] w9 c4.out (.inr ⟨b9, 0, rfl, hlt9, by simp, fun j x hx => ?_⟩) (by simp) (by rw [hf2]; unfold macOut; rw [List.length_append, maskL_length, blakeL_length]; decide)).mono ?_
      · match j, hx with
        | 0, hx => obtain rfl := Option.some.inj hx; exact h2
        | 1, hx => obtain rfl := Option.some.inj hx; exact h3
        | j + 2, hx => simp at hx
      rintro e w8 ⟨rfl, hb8⟩
      rw [hf2]
      with_reducible refine hK _ ?_
      have hs8 := hb8.size
      obtain ⟨hc8, _⟩ := bcell hb8
      exact ⟨Lib.hid (c1.out.below hb8 (by omega)), Lib.hid (c2.out.below hb8 (by omega)), Lib.hid (c3.out.below hb8 (by omega)), c4.out.below hb8, c5.trans (hb8.mono (by omega)), by omega, fun _ => ⟨b9, by simpa [updV] using h1, by rw [hc8 _ _ hlt9]; exact h2, by rw [hc8 _ _ hlt9]; exact h3⟩⟩
  · intro L x w9 hS hL
    have c3 := hS.2.2.1
    have c5 := hS.2.2.2.2.1
    clear hS hL P6 K6 O6 T6 hbel6
    simp only [actMix, pickV, List.tail_cons, List.headD_cons, Act.put, List.setIfInBounds_toArray, List.set_cons_zero, List.set_cons_succ, List.replicate_succ, List.replicate_zero, List.drop_succ_cons, List.drop_zero, List.take_succ_cons, List.take_zero]
    have hth := bytes_there c3.out
    have hlen9 := bytesCells_length 32 (blakeB (macOut k.data.toList (flat xs)))
    have hone9 := bytesCells_one 32 (blakeB (macOut k.data.toList (flat xs)))
    have hs9 := size32 (blakeB (macOut k.data.toList (flat xs)))
    have hu := Tryz.underlying60
    have hs9' : (Tryz.prog.info? 60).map (·.size) = some (bytesCells 32 (blakeB (macOut k.data.toList (flat xs)))).length := by rw [hlen9]; kernel_rfl
    generalize hcs9 : bytesCells 32 (blakeB (macOut k.data.toList (flat xs))) = cs9 at *
    have ht9 : w9.there B 0 cs9.toArray.size := by rw [List.size_toArray, hlen9]; exact hth
    have ht9' : w9.there B 0 cs9.length := by rw [hlen9]; exact hth
    have HT9 := Lib.hid ht9'
    have HS9 := Lib.hid hs9'
    have HCS9 := Lib.hid hcs9
    clear hlen9 hth ht9' hs9' hcs9
    go_wp2_with (refine wpList_store_row rfl 60 _ _ rfl _ cs9.toArray rfl rfl ht9 hs9 hone9 ?_)
    refine bodyPost_ret (v := .agg cs9.toArray) (results_row _ 4 60 rfl _ _ B _ rfl (run_loadVar_mid _ _ 0 _ cs9 _ (range_setCells cs9 HT9.out) hu rfl HS9.out)) rfl ⟨by rw [HCS9.out], ?_⟩
    rw [HBB.out]
    exact (only_setCells B cs9 0 w9).below c5 (Nat.le_refl _)
end Go.Proofs.YtllmlngfmcbaaaaGreatDoor
