/- fields: slices.Clone, slices.DeleteFunc, Drop. -/
import Derived.Test.YtneagccakoakpaaDoorFldC
import Derived.Lib.SliceRun
import Derived.Laws.IdiomCopy
import Derived.Laws.OwnMore
namespace Go.Proofs.YtneagccakoakpaaDoor
open Go.RowKit

/-- The cells of fields. -/
def cellsF (fs : List Fld) : List Value := fs.flatMap fun f => [.string (bs f.1), .string (bs f.2)]
theorem cellsF_length (fs : List Fld) : (cellsF fs).length = fs.length * 2 := by
  induction fs with
  | nil => rfl
  | cons f r ih => simp [cellsF] at ih ⊢; omega
theorem cellsF_at : ∀ (fs : List Fld) (j : Nat) (f : Fld), fs[j]? = some f → (cellsF fs)[j * 2]? = some (.string (bs f.1)) ∧ (cellsF fs)[j * 2 + 1]? = some (.string (bs f.2))
  | [], j, f, h => by simp at h
  | g :: r, 0, f, h => by
    obtain rfl : g = f := by simpa using h
    simp [cellsF]
  | g :: r, j + 1, f, h => by
    have ih := cellsF_at r j f (by simpa using h)
    have e : cellsF (g :: r) = .string (bs g.1) :: .string (bs g.2) :: cellsF r := rfl
    rw [e, show (j + 1) * 2 = j * 2 + 1 + 1 by omega, show j * 2 + 1 + 1 + 1 = (j * 2 + 1) + 1 + 1 by omega]
    simpa using ih
theorem cellsF_one (fs : List Fld) : ∀ u ∈ cellsF fs, u.oneCell' = true := by
  intro u hu
  unfold cellsF at hu
  obtain ⟨f, _, hf⟩ := List.mem_flatMap.1 hu
  simp at hf
  rcases hf with rfl | rfl <;> rfl
theorem isFlds_cells {w : World} {bk o : Nat} {fs : List Fld} (hcell : ∀ (j : Nat) f, fs[j]? = some f → w.cell? ⟨bk, o + j * 2, none⟩ = some (.string (bs f.1)) ∧ w.cell? ⟨bk, o + j * 2 + 1, none⟩ = some (.string (bs f.2))) :
    ∀ (k : Nat) u, (cellsF fs)[k]? = some u → w.cell? ((⟨bk, o, none⟩ : Addr).add k) = some u := by
  intro k u hu
  rw [Addr.add_mid]
  have hk := (List.getElem?_eq_some_iff.1 hu).1
  rw [cellsF_length] at hk
  have hj : k / 2 < fs.length := by omega
  have hf := List.getElem?_eq_getElem hj
  obtain ⟨h1, h2⟩ := hcell (k / 2) _ hf
  obtain ⟨g1, g2⟩ := cellsF_at fs (k / 2) _ hf
  rcases Nat.mod_two_eq_zero_or_one k with hm | hm
  · have e : k / 2 * 2 = k := by omega
    rw [e] at h1 g1
    rw [h1, ← hu, g1]
  · have e : k / 2 * 2 + 1 = k := by omega
    rw [show o + k / 2 * 2 + 1 = o + (k / 2 * 2 + 1) by omega, e] at h2
    rw [e] at g2
    rw [h2, ← hu, g2]
theorem infoFld : (Tryd.prog.info? 42).map (fun i => (i.zero, i.size, i.bytes)) = some (some (.agg #[.string ⟨#[]⟩, .string ⟨#[]⟩]), 2, 32) := by kernel_rfl
/-- A row that owns fields reads as them. -/
theorem own_isFlds {w : World} {base : Nat} {v : Value} {fs : List Fld} (h : w.ownsRow base 42 2 v fs.length (cellsF fs)) : ∃ a c, v = .slice a fs.length c ∧ IsFlds w a c fs := by
  obtain ⟨_, ⟨rfl, h0⟩ | ⟨g, cap, cur, rfl, _, hg, hcap, _, hcs, htk⟩⟩ := h
  · obtain rfl : fs = [] := List.eq_nil_of_length_eq_zero h0
    exact ⟨none, 0, rfl, .inl rfl⟩
  · refine ⟨some ⟨g, 0, none⟩, cap, rfl, .inr ⟨g, 0, rfl, (Array.getElem?_eq_some_iff.1 hg).1, hcap, fun j f hf => ?_⟩⟩
    obtain ⟨g1, g2⟩ := cellsF_at fs j f hf
    have hj := (List.getElem?_eq_some_iff.1 hf).1
    rw [← htk, List.getElem?_take, if_pos (by omega)] at g1 g2
    rw [Nat.zero_add]
    simp only [Array.getElem?_toList] at g1 g2
    exact ⟨by simp [World.cell?, hg, g1], by simp [World.cell?, hg, g2]⟩

set_option maxRecDepth 100000 in
set_option maxHeartbeats 2000000 in
theorem clone77 (a : Option Addr) (c : Nat) (fs : List Fld) (hfl : fs.length ≤ 1000000000) (ha : a = none → c = 0 ∧ fs = []) (w : World) (hf : IsFlds w a c fs) :
    Calls Tryd.prog 77 #[.slice a fs.length c] w fun e w' => ∃ v, e = .returned v ∧ w'.ownsRow w.heap.size 42 2 v fs.length (cellsF fs) ∧ Below w.heap.size w w' := by
  obtain ⟨i0, hi, hz0, hz1, hz2⟩ := info_parts infoFld
  have hnil := fun W (x : Option Addr) (n c' : Nat) => Lib.run_eql_slice_nil (P := Tryd.prog) W 52 42 x n c' 0 0 Tryd.underlying52
  cases a with
  | none =>
    obtain ⟨rfl, rfl⟩ := ha rfl
    have h1 := fun W => hnil W none 0 0
    clear hnil hf
    go_enter Tryd.func77, Tryd.ntmps77
    go_wp2_with fail
    go_ret
    exact ⟨_, rfl, World.ownsRow_nil _ _ _ _, Below.refl _ _⟩
  | some ad =>
    have h1 := fun W => hnil W (some ad) fs.length c
    have HF := Lib.hid hf
    have O0 : Hid ((w.alloc (.cells #[] 42)).ownsRow w.heap.size 42 2 (.slice (some ⟨w.heap.size, 0, none⟩) 0 0) 0 []) := World.ownsRow_lit w #[] 0 (Nat.le_refl _) (by decide) (by simp)
    have L0 := below_alloc w (.cells #[] 42)
    have hcells : Hid (∀ (k : Nat) u, (cellsF fs)[k]? = some u → (w.alloc (.cells #[] 42)).cell? (ad.add k) = some u) := by
      intro k u hu
      obtain h0 | ⟨bk, o, h2, hbk, hc, hcell⟩ := HF.out.below L0
      · subst h0; simp [cellsF] at hu
      · obtain rfl : ad = ⟨bk, o, none⟩ := by injection h2
        exact isFlds_cells hcell k u hu
    have hlen := cellsF_length fs
    have HL := Lib.hid hlen
    clear hnil hf ha hlen HF
    go_enter Tryd.func77, Tryd.ntmps77
    go_wp2_with (at_builtin; refine wpList_append_own _ rfl _ _ 52 rfl w.heap.size 42 i0 (.agg #[.string ⟨#[]⟩, .string ⟨#[]⟩]) 2 32 Tryd.underlying52 hi hz0 hz1 hz2 rfl (by decide) _ _ _ rfl O0.out ad fs.length c (cellsF fs) rfl HL.out hcells.out (cellsF_one fs) (by unfold maxLen; omega) (by omega) (by simp) ?_)
    intro v' w1 hown' hgrow _
    have hb1 : Below w.heap.size w w1 := L0.grown hgrow (by simp) (fun k hk => by simp [Value.ownBlock] at hk; omega)
    have HO := Lib.hid hown'
    clear hown' hgrow O0 hcells
    go_wp2_with fail
    go_ret
    exact ⟨_, rfl, HO.out, hb1⟩
end Go.Proofs.YtneagccakoakpaaDoor
