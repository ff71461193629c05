/- fields: slices.Concat. -/
import Derived.Test.YtneagccakoakpaaDoorFldI
import Derived.Laws.AppendOwnNone
namespace Go.Proofs.YtneagccakoakpaaDoor
open Go.RowKit

/-- A part: where it lies, its capacity, its fields. -/
abbrev Part := Option Addr × Nat × List Fld
def partV (p : Part) : Value := .slice p.1 p.2.2.length p.2.1
def flatP (L : List Part) : List Fld := L.flatMap (·.2.2)
def PartOk (w : World) (p : Part) : Prop := IsFlds w p.1 p.2.1 p.2.2 ∧ (p.1 = none → p.2.1 = 0 ∧ p.2.2 = [])
theorem flatP_step {L : List Part} {j : Nat} (hj : j < L.length) : flatP (L.take (j + 1)) = flatP (L.take j) ++ L[j].2.2 := by
  unfold flatP
  rw [List.take_add_one, List.getElem?_eq_getElem hj, Option.toList_some, List.flatMap_append]
  simp
theorem flatP_le {L : List Part} {j : Nat} : (flatP (L.take j)).length ≤ (flatP L).length := by
  conv => rhs; rw [← List.take_append_drop j L]
  unfold flatP
  rw [List.flatMap_append, List.length_append]
  omega
theorem cellsF_append (a b : List Fld) : cellsF (a ++ b) = cellsF a ++ cellsF b := by simp [cellsF]
set_option maxHeartbeats 4000000 in
set_option maxRecDepth 100000 in
theorem concat73 (g : Nat) (L : List Part) (hL : L.length ≤ 1000) (hsum : (flatP L).length ≤ 1000000000) (w : World) (hg : g < w.heap.size) (hcell : ∀ (j : Nat) p, L[j]? = some p → w.cell? ⟨g, j, none⟩ = some (partV p)) (hok : ∀ p ∈ L, PartOk w p) :
    Calls Tryd.prog 73 #[.slice (some ⟨g, 0, none⟩) L.length L.length] w fun e w' => ∃ v, e = .returned v ∧ w'.ownsRow w.heap.size 42 2 v (flatP L).length (cellsF (flatP L)) ∧ Below w.heap.size w w' := by
  obtain ⟨i0, hi, hz0, hz1, hz2⟩ := info_parts infoFld
  have HC := Lib.hid hcell
  have HK := Lib.hid hok
  have HS := Lib.hid hsum
  have HG := Lib.hid (grow94 (flatP L).length hsum w)
  clear hcell hok hsum
  go_enter Tryd.func73, Tryd.ntmps73
  go_wp2_with fail
  go_loopw [3, 11] (fun s i wr => ∃ j : Nat, j ≤ L.length ∧ i = .int .i64 (j : Int) ∧ s = .int .i64 (((flatP (L.take j)).length : Nat) : Int) ∧ w = wr) (fun _ i _ => L.length - (intOf i).toNat)
  case atStart => exact ⟨0, Nat.zero_le _, rfl, rfl, rfl⟩
  case round =>
    obtain ⟨j, hj, rfl, rfl, rfl⟩ := hrel
    by_cases hlt : j < L.length
    · have cj := HC.out j L[j] (by simp [hlt])
      have hle := flatP_le (L := L) (j := j + 1)
      rw [flatP_step hlt, List.length_append] at hle
      have hst : Hid ((flatP (L.take (j + 1))).length = (flatP (L.take j)).length + L[j].2.2.length) := by show _ = _; rw [flatP_step hlt, List.length_append]
      have hs1 := HS.out
      obtain ⟨p, hp⟩ : ∃ p, p = L[j] := ⟨_, rfl⟩
      rw [← hp] at cj hle hst
      clear hp
      obtain ⟨a, c, fs⟩ := p
      simp only at hle hst
      have cj' : w.cell? ⟨g, j, none⟩ = some (.slice a fs.length c) := cj
      clear cj
      generalize (flatP (L.take j)).length = m at *
      generalize (flatP L).length = M at *
      have j1 : (j : Int) < L.length := by omega
      have m1 : wrap64 ((m : Int) + fs.length) = ((m + fs.length : Nat) : Int) := by unfold wrap64; omega
      have m2 : ¬ (((m + fs.length : Nat) : Int) < 0) := by omega
      go_wp2_with fail
      go_roundw
      case rel => exact ⟨j + 1, hlt, by go_num, by rw [hst.out, Int.natCast_add], by first | rfl | trivial⟩
      case measure => simp [intOf]; omega
    · obtain rfl : j = L.length := by omega
      have ht : flatP (L.take L.length) = flatP L := by rw [List.take_of_length_le (Nat.le_refl _)]
      rw [ht]
      clear ht
      have HX : Hid (∃ m, m = (flatP L).length) := ⟨_, rfl⟩
      go_wp2_with fail
      refine HG.out.mono ?_
      rintro e w1 ⟨v1, rfl, ho1, hb1⟩
      have HO1 := Lib.hid ho1
      have HB1 := Lib.hid hb1
      clear ho1 hb1 HG HX
      go_wp2_with fail
      go_loopw [6, 27] (fun v i wr => ∃ j : Nat, j ≤ L.length ∧ i = .int .i64 (j : Int) ∧ Hid (wr.ownsRow w.heap.size 42 2 v (flatP (L.take j)).length (cellsF (flatP (L.take j)))) ∧ Hid (Below w.heap.size w wr)) (fun _ i _ => L.length - (intOf i).toNat)
      case atStart => exact ⟨0, Nat.zero_le _, rfl, HO1.out, HB1.out⟩
      case round =>
        clear HO1 HB1
        obtain ⟨j, hj, rfl, ho, hb⟩ := hrel
        by_cases hlt : j < L.length
        · have cj := HC.out j L[j] (by simp [hlt])
          obtain ⟨hpf, hpn⟩ := HK.out L[j] (List.getElem_mem hlt)
          have hle := flatP_le (L := L) (j := j + 1)
          rw [flatP_step hlt, List.length_append] at hle
          have hst := Lib.hid (flatP_step hlt)
          have hs1 := HS.out
          rw [← (bcell hb.out).1 _ _ hg] at cj
          have hpw := hpf.below hb.out
          obtain ⟨p, hp⟩ : ∃ p, p = L[j] := ⟨_, rfl⟩
          rw [← hp] at cj hle hst hpn hpw
          clear hp hpf
          obtain ⟨a, c, fs⟩ := p
          simp only at hle hst hpn hpw
          have cj' : wr.cell? ⟨g, j, none⟩ = some (.slice a fs.length c) := cj
          clear cj
          have hgr := hb.out.size
          generalize flatP (L.take j) = F at *
          generalize (flatP L).length = M at *
          have j1 : (j : Int) < L.length := by omega
          have hg2 : g < wr.heap.size := by omega
          cases a with
          | none =>
            obtain ⟨rfl, rfl⟩ := hpn rfl
            go_wp2_with (at_builtin; refine wpList_append_own_none rfl _ _ 52 rfl w.heap.size 42 i0 2 Tryd.underlying52 hi _ _ _ rfl ho.out rfl ?_)
            go_roundw
            case rel => exact ⟨j + 1, hlt, by go_num, by rw [hst.out, List.append_nil]; exact ho, hb⟩
            case measure => simp [intOf]; omega
          | some ad =>
            have hcells : Hid (∀ (k : Nat) u, (cellsF fs)[k]? = some u → wr.cell? (ad.add k) = some u) := by
              intro k u hu
              obtain h0 | ⟨bk, o, h2, hbk, hc, hcl⟩ := hpw
              · subst h0; simp [cellsF] at hu
              · obtain rfl : ad = ⟨bk, o, none⟩ := by injection h2
                exact isFlds_cells hcl k u hu
            have HL := Lib.hid (cellsF_length fs)
            have HM : Hid (F.length + fs.length ≤ 1000000000) := by show _ ≤ _; omega
            clear hpw hpn hle hs1
            go_wp2_with (at_builtin; refine wpList_append_own _ rfl _ _ 52 rfl w.heap.size 42 i0 (.agg #[.string ⟨#[]⟩, .string ⟨#[]⟩]) 2 32 Tryd.underlying52 hi hz0 hz1 hz2 rfl (by decide) _ _ _ rfl ho.out ad fs.length c (cellsF fs) rfl HL.out hcells.out (cellsF_one fs) (by have := HM.out; unfold maxLen; omega) (by have := HM.out; omega) (by omega) ?_)
            intro v' w2 hown' hgrow _
            have hb2 : Hid (Below w.heap.size w w2) := hb.out.grown hgrow (by omega) (fun k hk => (ho.out.lt k hk).1)
            have HO2 : Hid (w2.ownsRow w.heap.size 42 2 v' (F ++ fs).length (cellsF (F ++ fs))) := by
              show World.ownsRow _ _ _ _ _ _ _
              rw [List.length_append, cellsF_append]
              exact hown'
            rw [← hst.out] at HO2
            clear hown' hgrow ho hb hcells
            go_wp2_with fail
            go_roundw
            case rel => exact ⟨j + 1, hlt, by go_num, HO2, hb2⟩
            case measure => simp [intOf]; omega
        · obtain rfl : j = L.length := by omega
          have ho2 := ho.out
          rw [List.take_of_length_le (Nat.le_refl _)] at ho2
          have HO := Lib.hid ho2
          clear ho ho2
          go_wp2_with fail
          go_ret
          exact ⟨_, rfl, HO.out, hb.out⟩
end Go.Proofs.YtneagccakoakpaaDoor
