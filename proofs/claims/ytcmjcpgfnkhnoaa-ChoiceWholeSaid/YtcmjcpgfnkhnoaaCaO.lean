/- stewardlaw16.Own. -/
import Derived.Test.YtcmjcpgfnkhnoaaCaL
namespace Go.Proofs.Ytcmjcpgfnkhnoaa
open Go.RowKit

theorem infoCand : (Try.prog.info? 54).map (fun i => (i.zero, i.size, i.bytes)) = some (some (.agg #[.string ⟨#[]⟩, .int .i64 0, .int .i64 0, .float .f64 0]), 4, 40) := by kernel_rfl
theorem cells_cand (w : World) (n : ByteArray) (v b : Int) (t : Nat) (T : TypeId) : ∀ (k : Nat) u, [Value.string n, .int .i64 v, .int .i64 b, .float .f64 t][k]? = some u → (w.alloc (.cells #[.string n, .int .i64 v, .int .i64 b, .float .f64 t] T)).cell? ((⟨w.heap.size, 0, none⟩ : Addr).add k) = some u := by
  intro k u hu
  rw [Addr.add_mid]
  match k, hu with
  | 0, hu => obtain rfl := Option.some.inj hu; simp
  | 1, hu => obtain rfl := Option.some.inj hu; simp
  | 2, hu => obtain rfl := Option.some.inj hu; simp
  | 3, hu => obtain rfl := Option.some.inj hu; simp
  | k + 4, hu => simp at hu
theorem cand_one (n : ByteArray) (v b : Int) (t : Nat) : ∀ u ∈ [Value.string n, Value.int .i64 v, .int .i64 b, .float .f64 t], u.oneCell' = true := by intro u hu; simp at hu; rcases hu with rfl | rfl | rfl | rfl <;> rfl
theorem cellsC_step {cs : List Cand} {j : Nat} (hj : j < cs.length) : cellsC (cs.take (j + 1)) = cellsC (cs.take j) ++ [.string cs[j].nm, .int .i64 cs[j].w, .int .i64 cs[j].b, .float .f64 cs[j].t] := by
  rw [List.take_add_one, List.getElem?_eq_getElem hj, Option.toList_some, cellsC_append]
  rfl
set_option maxHeartbeats 2000000 in
set_option maxRecDepth 100000 in
theorem own18_nil (a : Option Addr) (c : Nat) (w : World) :
    Calls Try.prog 18 #[.slice a 0 c, .int .i64 20] w fun e w' => ∃ v, e = .returned (.tuple #[.slice none 0 0, v]) ∧ w' = w := by
  have hm := minI 0 20 0 (by decide)
  cases a <;> (
  go_enter Try.func18, Try.ntmps18
  go_wp2_with fail
  go_loopw [6, 17] (fun u i wr => u = .slice none 0 0 ∧ i = .int .i64 0 ∧ wr = w) (fun _ _ _ => 0)
  case atStart => exact ⟨rfl, rfl, rfl⟩
  case round =>
    obtain ⟨rfl, rfl, rfl⟩ := hrel
    go_wp2_with fail
    go_ret2
    exact ⟨_, rfl, rfl⟩)
set_option maxHeartbeats 4000000 in
set_option maxRecDepth 100000 in
theorem own18_some (bk o c : Nat) (cs : List Cand) (h0 : 0 < cs.length) (hfl : cs.length ≤ 9223372036854775807) (w : World) (hbk : bk < w.heap.size) (hc : cs.length ≤ c) (hcell : ∀ (j : Nat) e, cs[j]? = some e → w.cell? ⟨bk, o + j * 4, none⟩ = some (.string e.nm) ∧ w.cell? ⟨bk, o + j * 4 + 1, none⟩ = some (.int .i64 e.w) ∧ w.cell? ⟨bk, o + j * 4 + 2, none⟩ = some (.int .i64 e.b) ∧ w.cell? ⟨bk, o + j * 4 + 3, none⟩ = some (.float .f64 e.t)) :
    Calls Try.prog 18 #[.slice (some ⟨bk, o, none⟩) cs.length c, .int .i64 20] w fun e w' => ∃ u v, e = .returned (.tuple #[u, v]) ∧ w'.ownsRow w.heap.size 54 4 u (cs.take 20).length (cellsC (cs.take 20)) ∧ Below w.heap.size w w' := by
  obtain ⟨i0, hi, hz0, hz1, hz2⟩ := info_parts infoCand
  have HFF : Hid (IsCands w (some ⟨bk, o, none⟩) c cs) := .inr ⟨bk, o, rfl, hbk, hc, hcell⟩
  obtain ⟨n, hn⟩ : ∃ n, n = min cs.length 20 := ⟨_, rfl⟩
  have hmn := minI cs.length 20 n (by omega)
  have hn20 : n ≤ 20 := by omega
  have hnl : n ≤ cs.length := by omega
  have hnc : (n : Int) ≤ c := by omega
  have hnl' : (n : Int) ≤ cs.length := by omega
  have HT : Hid (cs.take 20 = cs.take n) := by
    show _ = _
    by_cases h : cs.length ≤ 20
    · rw [List.take_of_length_le h, List.take_of_length_le (by omega)]
    · rw [show n = 20 by omega]
  have HMN : Hid (min 20 cs.length = n) := by show _ = _; omega
  have hsf := store_flt Try.prog
  clear hcell hn
  go_enter Try.func18, Try.ntmps18
  go_wp2_with fail
  go_loopw [6, 17] (fun v i wr => ∃ j : Nat, j ≤ n ∧ i = .int .i64 (j : Int) ∧ Hid (wr.ownsRow w.heap.size 54 4 v j (cellsC (cs.take j))) ∧ Hid (Below w.heap.size w wr)) (fun _ i _ => n - (intOf i).toNat)
  case atStart => exact ⟨0, Nat.zero_le _, rfl, World.ownsRow_nil _ _ _ _, Below.refl _ _⟩
  case round =>
    obtain ⟨j, hj, rfl, ho, hb⟩ := hrel
    by_cases hlt : j < n
    · obtain h0' | ⟨bk', o', ha, hbk', hc', hcell⟩ := HFF.out.below hb.out
      · subst h0'; simp at h0
      injection ha with ha
      injection ha with ha1 ha2
      subst ha1 ha2
      have hlc : j < cs.length := by omega
      obtain ⟨c1, c2, c3, c4⟩ := hcell j cs[j] (by simp [hlc])
      have hst := Lib.hid (cellsC_step hlc)
      obtain ⟨f, hfe⟩ : ∃ f, f = cs[j] := ⟨_, rfl⟩
      rw [← hfe] at c1 c2 c3 c4 hst
      clear hcell hfe
      obtain ⟨N, V, B, T⟩ := f
      simp only at c1 c2 c3 c4 hst
      have j1 : (j : Int) < n := by omega
      have hsz : (wr.alloc (.cells #[.string N, .int .i64 V, .int .i64 B, .float .f64 T] 72)).heap.size = wr.heap.size + 1 := World.size_alloc _ _
      have hnews := cells_cand (wr.alloc (.cells #[.string N, .int .i64 V, .int .i64 B, .float .f64 T] 72)) N V B T 54
      rw [hsz] at hnews
      have HNW := Lib.hid hnews
      have HO2 : Hid (((wr.alloc (.cells #[.string N, .int .i64 V, .int .i64 B, .float .f64 T] 72)).alloc (.cells #[.string N, .int .i64 V, .int .i64 B, .float .f64 T] 54)).ownsRow w.heap.size 54 4 _ j (cellsC (cs.take j))) := (ho.out.alloc _).alloc _
      have hgr := hb.out.size
      have hb2 : Hid (Below w.heap.size w ((wr.alloc (.cells #[.string N, .int .i64 V, .int .i64 B, .float .f64 T] 72)).alloc (.cells #[.string N, .int .i64 V, .int .i64 B, .float .f64 T] 54))) := (hb.out.alloc hgr _).alloc (by rw [hsz]; omega) _
      clear hnews ho hb
      go_wp2_with (at_builtin; refine wpList_append_own _ rfl _ _ 49 rfl w.heap.size 54 i0 (.agg #[.string ⟨#[]⟩, .int .i64 0, .int .i64 0, .float .f64 0]) 4 40 Try.underlying49 hi hz0 hz1 hz2 rfl (by decide) _ _ _ rfl HO2.out ⟨wr.heap.size + 1, 0, none⟩ 1 1 [.string N, .int .i64 V, .int .i64 B, .float .f64 T] rfl rfl HNW.out (cand_one N V B T) (by unfold maxLen; omega) (by omega) (by simp; omega) ?_)
      intro v' w2 hown' hgrow _
      have hb3 : Hid (Below w.heap.size w w2) := hb2.out.grown hgrow hb2.out.size (fun k hk => (HO2.out.lt k hk).1)
      rw [← hst.out] at hown'
      have HO3 := Lib.hid hown'
      clear hown' hgrow hb2 HO2 HNW hst
      go_wp2_with fail
      go_roundw
      case rel => exact ⟨j + 1, by omega, by go_num, HO3, hb3⟩
      case measure => simp [intOf]; omega
    · obtain rfl : j = n := by omega
      have hne : ¬ ((j : Int) < j) := by omega
      go_wp2_with fail
      go_ret2
      refine ⟨_, ⟨_, rfl⟩, ?_, hb.out⟩
      rw [HT.out, HMN.out]; exact ho.out
end Go.Proofs.Ytcmjcpgfnkhnoaa
