/- maglev.Table: Names, Walk. -/
import Derived.Test.YtlcpkplipfcdaaaDoorMgU
import Derived.Lib.Slices
namespace Go.Proofs.YtlcpkplipfcdaaaDoor
open Go.RowKit Go.Maps

theorem strs_cells {w : World} {bk o c : Nat} {ns : List ByteArray} (h : ∀ (j : Nat) x, ns[j]? = some x → w.cell? ⟨bk, o + j, none⟩ = some (.string x)) : ∀ (k : Nat) u, (ns.map Value.string)[k]? = some u → w.cell? ((⟨bk, o, none⟩ : Addr).add k) = some u := by
  have _ := c
  intro k u hu
  rw [List.getElem?_map] at hu
  obtain ⟨x, hx, rfl⟩ := Option.map_eq_some_iff.1 hu
  rw [Addr.add_mid]
  exact h k x hx
set_option maxRecDepth 100000 in
set_option maxHeartbeats 2000000 in
theorem cloneM (a : Option Addr) (c : Nat) (ns : List ByteArray) (hl : ns.length ≤ 1000) (w : World) (hf : IsStrs w a c ns) :
    Calls Tryd.prog 47 #[.slice a ns.length c] w fun e w' => ∃ v, e = .returned v ∧ w'.ownsRow w.heap.size 9 1 v ns.length (ns.map Value.string) ∧ Below w.heap.size w w' := by
  obtain ⟨i0, hi, hz0, hz1, hz2⟩ := info_parts infoSt
  have hnil := fun W (x : Option Addr) (n c' : Nat) => Lib.run_eql_slice_nil (P := Tryd.prog) W 36 9 x n c' 0 0 Tryd.underlying36
  cases a with
  | none =>
    obtain rfl : ns = [] := by
      rcases hf with h | ⟨_, _, h, _⟩
      · exact h
      · cases h
    have h1 := fun W => hnil W none 0 c
    clear hnil hf
    go_enter Tryd.func47, Tryd.ntmps47
    go_wp2_with fail
    go_ret
    exact ⟨_, rfl, World.ownsRow_nil _ _ _ _, Below.refl _ _⟩
  | some ad =>
    have h1 := fun W => hnil W (some ad) ns.length c
    have HF := Lib.hid hf
    have O0 : Hid ((w.alloc (.cells #[] 9)).ownsRow w.heap.size 9 1 (.slice (some ⟨w.heap.size, 0, none⟩) 0 0) 0 []) := World.ownsRow_lit w #[] 0 (Nat.le_refl _) (by decide) (by simp)
    have L0 := below_alloc w (.cells #[] 9)
    have hcells : Hid (∀ (k : Nat) u, (ns.map Value.string)[k]? = some u → (w.alloc (.cells #[] 9)).cell? (ad.add k) = some u) := by
      intro k u hu
      obtain h0 | ⟨bk, o, h2, hbk, hc, hcell⟩ := HF.out.below L0
      · subst h0; simp at hu
      · obtain rfl : ad = ⟨bk, o, none⟩ := by injection h2
        exact strs_cells (c := c) hcell k u hu
    have HL : Hid ((ns.map Value.string).length = ns.length * 1) := by show _ = _; simp
    have h1c : ∀ u ∈ ns.map Value.string, u.oneCell' = true := by intro u hu; obtain ⟨x, _, rfl⟩ := List.mem_map.1 hu; rfl
    have H1C := Lib.hid h1c
    clear hnil hf HF h1c
    go_enter Tryd.func47, Tryd.ntmps47
    go_wp2_with (at_builtin; refine wpList_append_own _ rfl _ _ 36 rfl w.heap.size 9 i0 (.string ⟨#[]⟩) 1 16 Tryd.underlying36 hi hz0 hz1 hz2 rfl (by decide) _ _ _ rfl O0.out ad ns.length c (ns.map Value.string) rfl HL.out hcells.out H1C.out (by unfold maxLen; omega) (by omega) (by simp) ?_)
    intro v' w1 hown' hgrow _
    have hb1 : Below w.heap.size w w1 := L0.grown hgrow (by simp) (fun k hk => by simp [Value.ownBlock] at hk; omega)
    have HO := Lib.hid hown'
    clear hown' hgrow O0 hcells
    go_wp2_with fail
    go_ret
    exact ⟨_, rfl, by have := HO.out; simpa using this, hb1⟩
set_option maxHeartbeats 1000000 in
theorem namesM (tb m : Nat) (ns : List ByteArray) (hn : ns.length ≤ 1000) (own : Nat → Int) (w : World) (h : TableAt w tb ns m own) :
    Calls Tryd.prog 23 #[.pointer (some ⟨tb, 0, none⟩)] w fun e w' => ∃ a c, e = .returned (.slice a ns.length c) ∧ IsStrs w' a c ns ∧ Below w.heap.size w w' := by
  obtain ⟨a, c, ob, h1, h2, h3, h4, h5, h6⟩ := h
  have HC := Lib.hid (cloneM a c ns hn w h3)
  clear h3 h4
  go_enter Tryd.func23, Tryd.ntmps23
  go_wp2_with (go_at_call 47; refine HC.out.mono ?_; rintro e w' ⟨v, rfl, ho, hb⟩)
  go_ret
  obtain ⟨a', c', rfl⟩ := own_slice ho
  exact ⟨a', c', rfl, (isStrs_ownM ho).2, hb⟩
end Go.Proofs.YtlcpkplipfcdaaaDoor
