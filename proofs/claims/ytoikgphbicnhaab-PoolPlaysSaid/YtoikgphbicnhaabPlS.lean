/- The reference's pool: put. -/
import Derived.Test.YtoikgphbicnhaabPlR
import Derived.Laws.OwnMore
namespace Go.Proofs.Ytoikgphbicnhaab
open Go.RowKit Go.Maps Go.Shelf Go.Sort

/-- One backend, as put keeps it. -/
def repB (b x : Bk) : Bk := if x.nm = b.nm then b else x
theorem putB_step {l : List Bk} {b : Bk} {j : Nat} (hj : j < l.length) : putB (l.take (j + 1)) b = putB (l.take j) b ++ (if live (repB b l[j]) = true then [repB b l[j]] else []) := by
  rw [List.take_add_one, List.getElem?_eq_getElem hj, Option.toList_some]
  unfold putB setB repB
  rw [List.map_append, List.filter_append]
  congr 1
  simp only [List.map_cons, List.map_nil, List.filter_cons, List.filter_nil]
theorem own_baseP {w : World} {base base' : Nat} {e : TypeId} {n m : Nat} {v : Value} {xs : List Value} (h : w.ownsRow base e n v m xs) (hb : base' ≤ base) : w.ownsRow base' e n v m xs := by
  obtain ⟨hl, h0 | ⟨g, cap, cur, rfl, hbs, r⟩⟩ := h
  · exact ⟨hl, .inl h0⟩
  · exact ⟨hl, .inr ⟨g, cap, cur, rfl, Nat.le_trans hb hbs, r⟩⟩
set_option maxHeartbeats 4000000 in
set_option maxRecDepth 100000 in
theorem rput40 (a : Option Addr) (c : Nat) (l : List Bk) (hl : l.length ≤ 1100) (b : Bk) (w : World) (h : IsBks w a c l) :
    Calls Try.prog 40 #[.slice a l.length c, bkV b] w fun e w' => ∃ v, e = .returned v ∧ w'.ownsRow w.heap.size 61 5 v (putB l b).length (cellsB (putB l b)) ∧ Below w.heap.size w w' := by
  obtain ⟨i0, hi, hz0, hz1, hz2⟩ := info_partsP infoRk
  have HI := Lib.hid h
  obtain ⟨nb, wb, cb, sb, zb⟩ := b
  simp only [bkV, bkC]
  obtain ⟨B, hB⟩ : ∃ B : Bk, B = ⟨nb, wb, cb, sb, zb⟩ := ⟨_, rfl⟩
  rw [← hB]
  have HBD := Lib.hid hB
  obtain ⟨wa, hwa⟩ : ∃ wa, wa = w.alloc (.cells #[.string nb, .int .i64 wb, .int .i64 cb, .int .i64 sb, .int .i64 zb] 61) := ⟨_, rfl⟩
  have HB0 : Hid (Below w.heap.size w wa) := by rw [hwa]; exact below_alloc w _
  obtain ⟨rb, hrb⟩ : ∃ rb, rb = w.heap.size := ⟨_, rfl⟩
  have HRB : Hid (Row wa rb 61 #[.string nb, .int .i64 wb, .int .i64 cb, .int .i64 sb, .int .i64 zb]) := by rw [hwa, hrb]; exact Row.new w _ _
  have HO1 : Hid ((wa.alloc (.cells #[] 61)).ownsRow wa.heap.size 61 5 (.slice (some ⟨wa.heap.size, 0, none⟩) 0 0) 0 []) := World.ownsRow_lit wa #[] 0 (Nat.le_refl _) (by decide) (by simp)
  have HB1 : Hid (Below wa.heap.size wa (wa.alloc (.cells #[] 61))) := below_alloc wa _
  clear h hB
  go_enter Try.func40, Try.ntmps40
  go_upto_region 1 with fail
  rw [← hwa, ← hrb]
  clear hwa hrb
  go_wp2_with fail
  go_loopw [5, 11] (fun u i wr => ∃ (j m : Nat), j ≤ l.length ∧ m ≤ j ∧ i = .int .i64 (j : Int) ∧ (putB (l.take j) B).length = m ∧ Hid (wr.ownsRow wa.heap.size 61 5 u m (cellsB (putB (l.take j) B))) ∧ Hid (Below wa.heap.size wa wr)) (fun _ i _ => l.length - (intOf i).toNat)
  case atStart => exact ⟨0, 0, Nat.zero_le _, Nat.le_refl _, rfl, rfl, HO1, HB1⟩
  case round =>
    obtain ⟨j, m, hj, hmj, rfl, hm, ho, hb⟩ := hrel
    have HM := Lib.hid hm
    clear hm
    obtain ⟨ua, uc, hu⟩ := own_slice ho.out
    subst hu
    by_cases hjl : j < l.length
    · have j1 : (j : Int) < l.length := by omega
      obtain h0 | ⟨bk, oo, rfl, hbk, hcc, hcell⟩ := HI.out.below (HB0.out.trans (hb.out.mono HB0.out.size))
      · subst h0; simp at hjl
      obtain ⟨x0, x1, x2, x3, x4⟩ := hcell j l[j] (by simp [hjl])
      have hstp := putB_step (b := B) hjl
      obtain ⟨E, hE⟩ : ∃ E, E = l[j] := ⟨_, rfl⟩
      rw [← hE] at x0 x1 x2 x3 x4 hstp
      obtain ⟨n1, w1, c1, s1, z1⟩ := E
      simp only at x0 x1 x2 x3 x4
      have HSTP := Lib.hid hstp
      have hbs := beq_same n1 nb
      have hrr := HRB.out.below hb.out
      have r0 : wr.cell? ⟨rb, 0, none⟩ = some (.string nb) := hrr.cell 0
      have r1 : wr.cell? ⟨rb, 1, none⟩ = some (.int .i64 wb) := hrr.cell 1
      have r2 : wr.cell? ⟨rb, 2, none⟩ = some (.int .i64 cb) := hrr.cell 2
      have r3 : wr.cell? ⟨rb, 3, none⟩ = some (.int .i64 sb) := hrr.cell 3
      have r4 : wr.cell? ⟨rb, 4, none⟩ = some (.int .i64 zb) := hrr.cell 4
      have hrlt := hrr.lt
      clear hcell hE hstp hcc hrr
      by_cases hn : n1 = nb
      · rw [decide_eq_true hn] at hbs
        have hrep : repB B ⟨n1, w1, c1, s1, z1⟩ = ⟨nb, wb, cb, sb, zb⟩ := by rw [HBD.out]; unfold repB; simp [hn]
        have HREP := Lib.hid hrep
        clear hn hrep
        by_cases h2 : sb = 2
        · subst h2
          by_cases h3 : 0 < zb
          · have t3 : decide (0 < zb) = true := decide_eq_true h3
            have hlv : live (⟨nb, wb, cb, 2, zb⟩ : Bk) = true := by unfold live; simp [h3]
            have HLV := Lib.hid hlv
            clear h3 hlv
            have hst := HSTP.out
            rw [show repB B ⟨n1, w1, c1, s1, z1⟩ = (⟨nb, wb, cb, 2, zb⟩ : Bk) from HREP.out, show live (⟨nb, wb, cb, 2, zb⟩ : Bk) = true from HLV.out, if_pos rfl] at hst
            have HST := Lib.hid hst
            clear hst
            have HSA := Lib.hid ((ho.out.alloc (.cells #[.string nb, .int .i64 wb, .int .i64 cb, .int .i64 2, .int .i64 zb] 61)).alloc (.cells #[.string nb, .int .i64 wb, .int .i64 cb, .int .i64 2, .int .i64 zb] 61))
            have hba := hb.out.alloc hb.out.size (.cells #[.string nb, .int .i64 wb, .int .i64 cb, .int .i64 2, .int .i64 zb] 61)
            have HBA := Lib.hid (hba.alloc hba.size (.cells #[.string nb, .int .i64 wb, .int .i64 cb, .int .i64 2, .int .i64 zb] 61))
            have hca := rk_new (wr.alloc (.cells #[.string nb, .int .i64 wb, .int .i64 cb, .int .i64 2, .int .i64 zb] 61)) (⟨nb, wb, cb, 2, zb⟩ : Bk)
            rw [World.size_alloc] at hca
            have HCA := Lib.hid hca
            have HON := Lib.hid (bk_one (⟨nb, wb, cb, 2, zb⟩ : Bk))
            have hm60 : m ≤ 1100 := by omega
            clear hca hba ho hb
            go_wp2_with (at_builtin; refine wpList_append_lies _ rfl _ _ 26 rfl wa.heap.size 61 i0 (.agg #[.string ⟨#[]⟩, .int .i64 0, .int .i64 0, .int .i64 0, .int .i64 0]) 5 48 Try.underlying26 hi hz0 hz1 hz2 rfl (by decide) _ _ _ rfl HSA.out ⟨wr.heap.size + 1, 0, none⟩ 1 1 (bkL (⟨nb, wb, cb, 2, zb⟩ : Bk)) rfl rfl HCA.out HON.out (by decide) (by unfold maxLen; omega) (by omega) HBA.out.size _ rfl ?_; intro g9 k9 w10 hown' hgrow hv9 hlt9; have HO9 := Lib.hid hown'; have HG9 : Hid (((wr.alloc (.cells #[.string nb, .int .i64 wb, .int .i64 cb, .int .i64 2, .int .i64 zb] 61)).alloc (.cells #[.string nb, .int .i64 wb, .int .i64 cb, .int .i64 2, .int .i64 zb] 61)).grownBy w10 (Value.ownBlock (.slice ua m uc))) := hgrow; clear hown' hgrow hv9 hlt9)
            go_roundw
            case rel =>
              refine ⟨j + 1, m + 1, hjl, by omega, by go_num, by rw [HST.out, List.length_append, HM.out]; rfl, ?_, ?_⟩
              · have h2 := HO9.out
                rw [HST.out, cellsB_append]
                exact h2
              · exact HBA.out.grown HG9.out HBA.out.size (fun k hk => (HSA.out.lt k hk).1)
            case measure => simp [intOf]; omega
          · have t3 : decide (0 < zb) = false := decide_eq_false h3
            have hlv : live (⟨nb, wb, cb, 2, zb⟩ : Bk) = false := by unfold live; rw [t3]; rfl
            have HLV := Lib.hid hlv
            clear h3 hlv
            have hst := HSTP.out
            rw [show repB B ⟨n1, w1, c1, s1, z1⟩ = (⟨nb, wb, cb, 2, zb⟩ : Bk) from HREP.out, show live (⟨nb, wb, cb, 2, zb⟩ : Bk) = false from HLV.out, if_neg (by simp), List.append_nil] at hst
            have HST := Lib.hid hst
            clear hst
            have HOZ := Lib.hid (ho.out.alloc (.cells #[.string nb, .int .i64 wb, .int .i64 cb, .int .i64 2, .int .i64 zb] 61))
            have HBZ := Lib.hid (hb.out.alloc hb.out.size (.cells #[.string nb, .int .i64 wb, .int .i64 cb, .int .i64 2, .int .i64 zb] 61))
            clear ho hb
            go_wp2_with fail
            go_roundw
            case rel => exact ⟨j + 1, m, hjl, by omega, by go_num, by rw [HST.out]; exact HM.out, by rw [HST.out]; exact HOZ, HBZ⟩
            case measure => simp [intOf]; omega
        · have t2 : (sb != 2) = true := by simp [h2]
          have hlv : live (⟨nb, wb, cb, sb, zb⟩ : Bk) = true := by unfold live; simp [h2]
          have HLV := Lib.hid hlv
          clear h2 hlv
          have hst := HSTP.out
          rw [show repB B ⟨n1, w1, c1, s1, z1⟩ = (⟨nb, wb, cb, sb, zb⟩ : Bk) from HREP.out, show live (⟨nb, wb, cb, sb, zb⟩ : Bk) = true from HLV.out, if_pos rfl] at hst
          have HST := Lib.hid hst
          clear hst
          have HSA := Lib.hid ((ho.out.alloc (.cells #[.string nb, .int .i64 wb, .int .i64 cb, .int .i64 sb, .int .i64 zb] 61)).alloc (.cells #[.string nb, .int .i64 wb, .int .i64 cb, .int .i64 sb, .int .i64 zb] 61))
          have hba := hb.out.alloc hb.out.size (.cells #[.string nb, .int .i64 wb, .int .i64 cb, .int .i64 sb, .int .i64 zb] 61)
          have HBA := Lib.hid (hba.alloc hba.size (.cells #[.string nb, .int .i64 wb, .int .i64 cb, .int .i64 sb, .int .i64 zb] 61))
          have hca := rk_new (wr.alloc (.cells #[.string nb, .int .i64 wb, .int .i64 cb, .int .i64 sb, .int .i64 zb] 61)) (⟨nb, wb, cb, sb, zb⟩ : Bk)
          rw [World.size_alloc] at hca
          have HCA := Lib.hid hca
          have HON := Lib.hid (bk_one (⟨nb, wb, cb, sb, zb⟩ : Bk))
          have hm60 : m ≤ 1100 := by omega
          clear hca hba ho hb
          go_wp2_with (at_builtin; refine wpList_append_lies _ rfl _ _ 26 rfl wa.heap.size 61 i0 (.agg #[.string ⟨#[]⟩, .int .i64 0, .int .i64 0, .int .i64 0, .int .i64 0]) 5 48 Try.underlying26 hi hz0 hz1 hz2 rfl (by decide) _ _ _ rfl HSA.out ⟨wr.heap.size + 1, 0, none⟩ 1 1 (bkL (⟨nb, wb, cb, sb, zb⟩ : Bk)) rfl rfl HCA.out HON.out (by decide) (by unfold maxLen; omega) (by omega) HBA.out.size _ rfl ?_; intro g9 k9 w10 hown' hgrow hv9 hlt9; have HO9 := Lib.hid hown'; have HG9 : Hid (((wr.alloc (.cells #[.string nb, .int .i64 wb, .int .i64 cb, .int .i64 sb, .int .i64 zb] 61)).alloc (.cells #[.string nb, .int .i64 wb, .int .i64 cb, .int .i64 sb, .int .i64 zb] 61)).grownBy w10 (Value.ownBlock (.slice ua m uc))) := hgrow; clear hown' hgrow hv9 hlt9)
          go_roundw
          case rel =>
            refine ⟨j + 1, m + 1, hjl, by omega, by go_num, by rw [HST.out, List.length_append, HM.out]; rfl, ?_, ?_⟩
            · have h2 := HO9.out
              rw [HST.out, cellsB_append]
              exact h2
            · exact HBA.out.grown HG9.out HBA.out.size (fun k hk => (HSA.out.lt k hk).1)
          case measure => simp [intOf]; omega
      · rw [decide_eq_false hn] at hbs
        have hrep : repB B ⟨n1, w1, c1, s1, z1⟩ = ⟨n1, w1, c1, s1, z1⟩ := by rw [HBD.out]; unfold repB; simp [hn]
        have HREP := Lib.hid hrep
        clear hn hrep
        by_cases h2 : s1 = 2
        · subst h2
          by_cases h3 : 0 < z1
          · have t3 : decide (0 < z1) = true := decide_eq_true h3
            have hlv : live (⟨n1, w1, c1, 2, z1⟩ : Bk) = true := by unfold live; simp [h3]
            have HLV := Lib.hid hlv
            clear h3 hlv
            have hst := HSTP.out
            rw [show repB B ⟨n1, w1, c1, 2, z1⟩ = (⟨n1, w1, c1, 2, z1⟩ : Bk) from HREP.out, show live (⟨n1, w1, c1, 2, z1⟩ : Bk) = true from HLV.out, if_pos rfl] at hst
            have HST := Lib.hid hst
            clear hst
            have HSA := Lib.hid ((ho.out.alloc (.cells #[.string n1, .int .i64 w1, .int .i64 c1, .int .i64 2, .int .i64 z1] 61)).alloc (.cells #[.string n1, .int .i64 w1, .int .i64 c1, .int .i64 2, .int .i64 z1] 61))
            have hba := hb.out.alloc hb.out.size (.cells #[.string n1, .int .i64 w1, .int .i64 c1, .int .i64 2, .int .i64 z1] 61)
            have HBA := Lib.hid (hba.alloc hba.size (.cells #[.string n1, .int .i64 w1, .int .i64 c1, .int .i64 2, .int .i64 z1] 61))
            have hca := rk_new (wr.alloc (.cells #[.string n1, .int .i64 w1, .int .i64 c1, .int .i64 2, .int .i64 z1] 61)) (⟨n1, w1, c1, 2, z1⟩ : Bk)
            rw [World.size_alloc] at hca
            have HCA := Lib.hid hca
            have HON := Lib.hid (bk_one (⟨n1, w1, c1, 2, z1⟩ : Bk))
            have hm60 : m ≤ 1100 := by omega
            clear hca hba ho hb
            go_wp2_with (at_builtin; refine wpList_append_lies _ rfl _ _ 26 rfl wa.heap.size 61 i0 (.agg #[.string ⟨#[]⟩, .int .i64 0, .int .i64 0, .int .i64 0, .int .i64 0]) 5 48 Try.underlying26 hi hz0 hz1 hz2 rfl (by decide) _ _ _ rfl HSA.out ⟨wr.heap.size + 1, 0, none⟩ 1 1 (bkL (⟨n1, w1, c1, 2, z1⟩ : Bk)) rfl rfl HCA.out HON.out (by decide) (by unfold maxLen; omega) (by omega) HBA.out.size _ rfl ?_; intro g9 k9 w10 hown' hgrow hv9 hlt9; have HO9 := Lib.hid hown'; have HG9 : Hid (((wr.alloc (.cells #[.string n1, .int .i64 w1, .int .i64 c1, .int .i64 2, .int .i64 z1] 61)).alloc (.cells #[.string n1, .int .i64 w1, .int .i64 c1, .int .i64 2, .int .i64 z1] 61)).grownBy w10 (Value.ownBlock (.slice ua m uc))) := hgrow; clear hown' hgrow hv9 hlt9)
            go_roundw
            case rel =>
              refine ⟨j + 1, m + 1, hjl, by omega, by go_num, by rw [HST.out, List.length_append, HM.out]; rfl, ?_, ?_⟩
              · have h2 := HO9.out
                rw [HST.out, cellsB_append]
                exact h2
              · exact HBA.out.grown HG9.out HBA.out.size (fun k hk => (HSA.out.lt k hk).1)
            case measure => simp [intOf]; omega
          · have t3 : decide (0 < z1) = false := decide_eq_false h3
            have hlv : live (⟨n1, w1, c1, 2, z1⟩ : Bk) = false := by unfold live; rw [t3]; rfl
            have HLV := Lib.hid hlv
            clear h3 hlv
            have hst := HSTP.out
            rw [show repB B ⟨n1, w1, c1, 2, z1⟩ = (⟨n1, w1, c1, 2, z1⟩ : Bk) from HREP.out, show live (⟨n1, w1, c1, 2, z1⟩ : Bk) = false from HLV.out, if_neg (by simp), List.append_nil] at hst
            have HST := Lib.hid hst
            clear hst
            have HOZ := Lib.hid (ho.out.alloc (.cells #[.string n1, .int .i64 w1, .int .i64 c1, .int .i64 2, .int .i64 z1] 61))
            have HBZ := Lib.hid (hb.out.alloc hb.out.size (.cells #[.string n1, .int .i64 w1, .int .i64 c1, .int .i64 2, .int .i64 z1] 61))
            clear ho hb
            go_wp2_with fail
            go_roundw
            case rel => exact ⟨j + 1, m, hjl, by omega, by go_num, by rw [HST.out]; exact HM.out, by rw [HST.out]; exact HOZ, HBZ⟩
            case measure => simp [intOf]; omega
        · have t2 : (s1 != 2) = true := by simp [h2]
          have hlv : live (⟨n1, w1, c1, s1, z1⟩ : Bk) = true := by unfold live; simp [h2]
          have HLV := Lib.hid hlv
          clear h2 hlv
          have hst := HSTP.out
          rw [show repB B ⟨n1, w1, c1, s1, z1⟩ = (⟨n1, w1, c1, s1, z1⟩ : Bk) from HREP.out, show live (⟨n1, w1, c1, s1, z1⟩ : Bk) = true from HLV.out, if_pos rfl] at hst
          have HST := Lib.hid hst
          clear hst
          have HSA := Lib.hid ((ho.out.alloc (.cells #[.string n1, .int .i64 w1, .int .i64 c1, .int .i64 s1, .int .i64 z1] 61)).alloc (.cells #[.string n1, .int .i64 w1, .int .i64 c1, .int .i64 s1, .int .i64 z1] 61))
          have hba := hb.out.alloc hb.out.size (.cells #[.string n1, .int .i64 w1, .int .i64 c1, .int .i64 s1, .int .i64 z1] 61)
          have HBA := Lib.hid (hba.alloc hba.size (.cells #[.string n1, .int .i64 w1, .int .i64 c1, .int .i64 s1, .int .i64 z1] 61))
          have hca := rk_new (wr.alloc (.cells #[.string n1, .int .i64 w1, .int .i64 c1, .int .i64 s1, .int .i64 z1] 61)) (⟨n1, w1, c1, s1, z1⟩ : Bk)
          rw [World.size_alloc] at hca
          have HCA := Lib.hid hca
          have HON := Lib.hid (bk_one (⟨n1, w1, c1, s1, z1⟩ : Bk))
          have hm60 : m ≤ 1100 := by omega
          clear hca hba ho hb
          go_wp2_with (at_builtin; refine wpList_append_lies _ rfl _ _ 26 rfl wa.heap.size 61 i0 (.agg #[.string ⟨#[]⟩, .int .i64 0, .int .i64 0, .int .i64 0, .int .i64 0]) 5 48 Try.underlying26 hi hz0 hz1 hz2 rfl (by decide) _ _ _ rfl HSA.out ⟨wr.heap.size + 1, 0, none⟩ 1 1 (bkL (⟨n1, w1, c1, s1, z1⟩ : Bk)) rfl rfl HCA.out HON.out (by decide) (by unfold maxLen; omega) (by omega) HBA.out.size _ rfl ?_; intro g9 k9 w10 hown' hgrow hv9 hlt9; have HO9 := Lib.hid hown'; have HG9 : Hid (((wr.alloc (.cells #[.string n1, .int .i64 w1, .int .i64 c1, .int .i64 s1, .int .i64 z1] 61)).alloc (.cells #[.string n1, .int .i64 w1, .int .i64 c1, .int .i64 s1, .int .i64 z1] 61)).grownBy w10 (Value.ownBlock (.slice ua m uc))) := hgrow; clear hown' hgrow hv9 hlt9)
          go_roundw
          case rel =>
            refine ⟨j + 1, m + 1, hjl, by omega, by go_num, by rw [HST.out, List.length_append, HM.out]; rfl, ?_, ?_⟩
            · have h2 := HO9.out
              rw [HST.out, cellsB_append]
              exact h2
            · exact HBA.out.grown HG9.out HBA.out.size (fun k hk => (HSA.out.lt k hk).1)
          case measure => simp [intOf]; omega
    · obtain rfl : j = l.length := by omega
      have hj0 : ¬ ((l.length : Int) < l.length) := by omega
      have hO := ho.out
      have hm := HM.out
      rw [List.take_of_length_le (Nat.le_refl _)] at hO hm
      have HO := Lib.hid (own_baseP hO HB0.out.size)
      have HMM := Lib.hid hm
      clear hO hm ho HM
      go_wp2_with fail
      go_ret
      exact ⟨_, rfl, by rw [HMM.out]; exact HO.out, HB0.out.trans (hb.out.mono HB0.out.size)⟩
end Go.Proofs.Ytoikgphbicnhaab
