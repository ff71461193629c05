/- stewardlaw06.Own. -/
import Derived.Test.YtneagccakoakpaaDoorFldM
namespace Go.Proofs.YtneagccakoakpaaDoor
open Go.RowKit

theorem cells_new1 (w : World) (n v : ByteArray) (T : TypeId) : ∀ (k : Nat) u, [Value.string n, .string v][k]? = some u → (w.alloc (.cells #[.string n, .string v] T)).cell? ((⟨w.heap.size, 0, none⟩ : Addr).add k) = some u := by
  intro k u hu
  rw [Addr.add_mid]
  match k, hu with
  | 0, hu => obtain rfl := Option.some.inj hu; simp
  | 1, hu => obtain rfl := Option.some.inj hu; simp
  | k + 2, hu => simp at hu
theorem cellsF_step {fs : List Fld} {j : Nat} (hj : j < fs.length) : cellsF (fs.take (j + 1)) = cellsF (fs.take j) ++ [.string (bs fs[j].1), .string (bs fs[j].2)] := by
  rw [List.take_add_one, List.getElem?_eq_getElem hj, Option.toList_some, cellsF_append]
  rfl
set_option maxHeartbeats 4000000 in
set_option maxRecDepth 100000 in
theorem own40 (a : Option Addr) (c : Nat) (fs : List Fld) (hfl : fs.length ≤ 1000000) (w : World) (hf : IsFlds w a c fs) :
    Calls Tryd.prog 40 #[.slice a fs.length c] w fun e w' => ∃ u, e = .returned u ∧ w'.ownsRow w.heap.size 42 2 u fs.length (cellsF fs) ∧ Below w.heap.size w w' := by
  obtain ⟨i0, hi, hz0, hz1, hz2⟩ := info_parts infoFld
  have HFF := Lib.hid hf
  clear hf
  go_enter Tryd.func40, Tryd.ntmps40
  go_wp2_with fail
  go_loopw [3, 8] (fun v i wr => ∃ j : Nat, j ≤ fs.length ∧ i = .int .i64 (j : Int) ∧ Hid (wr.ownsRow w.heap.size 42 2 v j (cellsF (fs.take j))) ∧ Hid (Below w.heap.size w wr)) (fun _ i _ => fs.length - (intOf i).toNat)
  case atStart => exact ⟨0, Nat.zero_le _, rfl, World.ownsRow_nil _ _ _ _, Below.refl _ _⟩
  case round =>
    obtain ⟨j, hj, rfl, ho, hb⟩ := hrel
    by_cases hlt : j < fs.length
    · obtain h0 | ⟨bk, o, rfl, hbk, hc, hcell⟩ := HFF.out.below hb.out
      · subst h0; simp at hlt
      obtain ⟨c1, c2⟩ := hcell j fs[j] (by simp [hlt])
      have hst := Lib.hid (cellsF_step hlt)
      obtain ⟨f, hfe⟩ : ∃ f, f = fs[j] := ⟨_, rfl⟩
      rw [← hfe] at c1 c2 hst
      clear hcell hfe
      obtain ⟨n, v⟩ := f
      simp only at c1 c2 hst
      generalize bs n = N at *
      generalize bs v = V at *
      have j1 : (j : Int) < fs.length := by omega
      have hsz : (wr.alloc (.cells #[.string N, .string V] 45)).heap.size = wr.heap.size + 1 := World.size_alloc _ _
      have hnews := cells_new1 (wr.alloc (.cells #[.string N, .string V] 45)) N V 42
      rw [hsz] at hnews
      have HNW := Lib.hid hnews
      have HO2 : Hid (((wr.alloc (.cells #[.string N, .string V] 45)).alloc (.cells #[.string N, .string V] 42)).ownsRow w.heap.size 42 2 _ j (cellsF (fs.take j))) := (ho.out.alloc _).alloc _
      have hgr := hb.out.size
      have hb2 : Hid (Below w.heap.size w ((wr.alloc (.cells #[.string N, .string V] 45)).alloc (.cells #[.string N, .string V] 42))) := (hb.out.alloc hgr _).alloc (by rw [hsz]; omega) _
      clear hnews ho hb
      go_wp2_with (at_builtin; refine wpList_append_own _ rfl _ _ 52 rfl w.heap.size 42 i0 (.agg #[.string ⟨#[]⟩, .string ⟨#[]⟩]) 2 32 Tryd.underlying52 hi hz0 hz1 hz2 rfl (by decide) _ _ _ rfl HO2.out ⟨wr.heap.size + 1, 0, none⟩ 1 1 [.string N, .string V] rfl rfl HNW.out (by intro u hu; simp at hu; rcases hu with rfl | rfl <;> rfl) (by unfold maxLen; omega) (by omega) (by simp; omega) ?_)
      intro v' w2 hown' hgrow _
      have hb3 : Hid (Below w.heap.size w w2) := hb2.out.grown hgrow hb2.out.size (fun k hk => (HO2.out.lt k hk).1)
      rw [← hst.out] at hown'
      have HO3 := Lib.hid hown'
      clear hown' hgrow hb2 HO2 HNW hst
      go_wp2_with fail
      go_roundw
      case rel => exact ⟨j + 1, hlt, by go_num, HO3, hb3⟩
      case measure => simp [intOf]; omega
    · obtain rfl : j = fs.length := by omega
      have ho2 := ho.out
      rw [List.take_of_length_le (Nat.le_refl _)] at ho2
      have HO := Lib.hid ho2
      clear ho ho2
      go_wp2_with fail
      go_ret
      exact ⟨_, rfl, HO.out, hb.out⟩
end Go.Proofs.YtneagccakoakpaaDoor
