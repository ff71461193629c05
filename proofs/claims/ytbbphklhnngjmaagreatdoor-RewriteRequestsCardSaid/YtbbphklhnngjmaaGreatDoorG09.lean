/- Packed: FldI, FldJ, FldK, FldL, FldN, FldO, FldP, LawFldS, FldQ, FewO, FldR. -/
import Derived.Lib.AppendZerosOnto
import Derived.Laws.IdiomCopy
import Derived.Laws.AppendOwnNone
import Derived.BigQuiet
import Derived.OwnWalk
import Derived.Deep.MidRow
import Derived.Laws.AppendOwn
import Derived.Test.YtbbphklhnngjmaaGreatDoorG05
import Derived.Test.YtbbphklhnngjmaaGreatDoorG08
/- fields: slices.Grow, slices.Concat. -/
namespace Go.Proofs.YtbbphklhnngjmaaGreatDoor
open Go.RowKit

set_option maxHeartbeats 4000000 in
set_option maxRecDepth 100000 in
/-- Grow of the nil slice. -/
theorem grow94 (n : Nat) (hn : n ≤ 1000000000) (w : World) :
    Calls Tryz.prog 108 #[.slice none 0 0, .int .i64 n] w fun e w' => ∃ v, e = .returned v ∧ w'.ownsRow w.heap.size 62 2 v 0 [] ∧ Below w.heap.size w w' := by
  obtain ⟨i0, hi, hz0, hz1, hz2⟩ := info_parts infoFld
  by_cases h0 : n = 0
  · subst h0
    have e0 : ((0 : Nat) : Int) = 0 := rfl
    rw [e0]
    go_enter Tryz.func108, Tryz.ntmps108
    go_wp2_with fail
    go_ret
    exact ⟨_, rfl, World.ownsRow_nil _ _ _ _, Below.refl _ _⟩
  · have hold : (Builtin.firstCells i0.size 0 (.slice none 0 0)).run Tryz.prog w.drew = .ok #[] w.drew := run_firstCells_none w.drew i0.size 0 0 0
    obtain ⟨G, hG⟩ : ∃ G, G = grownCap w n 0 62 := ⟨_, rfl⟩
    have hG1 : n ≤ G := by rw [hG]; exact grownCap_ge w _ _ _
    have hG2 : G ≤ 9223372036854775807 := by
      have := grownCap_le_maxLen w n 0 62 (by unfold maxLen; omega)
      rw [← hG] at this
      unfold maxLen at this
      omega
    have hrz : ∀ ty, (Builtin.append_ #[31, 3] ty #[.slice none 0 0, .int .i64 (n : Int)]).run Tryz.prog w =
        .ok (.slice (some ⟨w.heap.size, 0, none⟩) n G) (w.drew.alloc (.cells (#[] ++ Builtin.zeroCells #[.string ⟨#[]⟩, .string ⟨#[]⟩] n ++ Builtin.zeroCells #[.string ⟨#[]⟩, .string ⟨#[]⟩] (G - n)) 62)) := fun ty => by
      have h := Lib.run_append_grow_zeros w 31 3 ty 62 i0 (.agg #[.string ⟨#[]⟩, .string ⟨#[]⟩]) .i64 .i64 Tryz.underlying31 Tryz.underlying3 hi hz0 none 0 0 [] (by simpa using hold) n (by omega) (by rw [hz1]; decide) (by omega) (by omega)
        (by rw [hz2]; omega) (by rw [hz2, Nat.zero_add]; exact growslice_fits (by omega) (by omega))
      rw [Nat.zero_add] at h
      rw [hG]
      exact h
    have h1 : ¬ ((n : Int) < 0) := by omega
    have h3 : wrap64 ((n : Int) - 0) = (n : Int) := by unfold wrap64; omega
    have h4 : (n : Int) > 0 := by omega
    have O : Hid ((w.drew.alloc (.cells (#[] ++ Builtin.zeroCells #[.string ⟨#[]⟩, .string ⟨#[]⟩] n ++ Builtin.zeroCells #[.string ⟨#[]⟩, .string ⟨#[]⟩] (G - n)) 62)).ownsRow w.heap.size 62 2 (.slice (some ⟨w.heap.size, 0, none⟩) 0 G) 0 []) := by
      refine ⟨rfl, .inr ⟨w.heap.size, G, _, rfl, Nat.le_refl _, heap_alloc_new w.drew _, Nat.zero_le _, by unfold maxLen; omega, ?_, by simp⟩⟩
      simp [Builtin.zeroCells]
      omega
    have L : Hid (Below w.heap.size w (w.drew.alloc (.cells (#[] ++ Builtin.zeroCells #[.string ⟨#[]⟩, .string ⟨#[]⟩] n ++ Builtin.zeroCells #[.string ⟨#[]⟩, .string ⟨#[]⟩] (G - n)) 62))) := (Below.refl w.heap.size w).drew.alloc (Nat.le_refl _) _
    clear hold hG hi hz0 hz1 hz2
    generalize World.alloc w.drew _ = w1 at *
    go_enter Tryz.func108, Tryz.ntmps108
    go_wp2_with (at_builtin; refine Lib.wpList_append_run _ rfl _ _ _ _ rfl _ _ rfl rfl _ _ (hrz _) ?_)
    all_goals (go_ret; exact ⟨_, rfl, O.out, L.out⟩)
end Go.Proofs.YtbbphklhnngjmaaGreatDoor

/- fields: slices.Concat. -/
namespace Go.Proofs.YtbbphklhnngjmaaGreatDoor
open Go.RowKit

/-- A part: where it lies, its capacity, its fields. -/
abbrev Part := Option Addr × Nat × List Fld
def partV (p : Part) : Value := .slice p.1 p.2.2.length p.2.1
def flatP (L : List Part) : List Fld := L.flatMap (·.2.2)
def PartOk (w : World) (p : Part) : Prop := IsFlds w p.1 p.2.1 p.2.2 ∧ (p.1 = none → p.2.1 = 0 ∧ p.2.2 = [])
theorem flatP_step {L : List Part} {j : Nat} (hj : j < L.length) : flatP (L.take (j + 1)) = flatP (L.take j) ++ L[j].2.2 := by
  unfold flatP
  rw [List.take_add_one, List.getElem?_eq_getElem hj, Option.toList_some, List.flatMap_append]
  simp
theorem flatP_le {L : List Part} {j : Nat} : (flatP (L.take j)).length ≤ (flatP L).length := by
  conv => rhs; rw [← List.take_append_drop j L]
  unfold flatP
  rw [List.flatMap_append, List.length_append]
  omega
theorem cellsF_append (a b : List Fld) : cellsF (a ++ b) = cellsF a ++ cellsF b := by simp [cellsF]
set_option maxHeartbeats 4000000 in
set_option maxRecDepth 100000 in
theorem concat73 (g : Nat) (L : List Part) (hL : L.length ≤ 1000) (hsum : (flatP L).length ≤ 1000000000) (w : World) (hg : g < w.heap.size) (hcell : ∀ (j : Nat) p, L[j]? = some p → w.cell? ⟨g, j, none⟩ = some (partV p)) (hok : ∀ p ∈ L, PartOk w p) :
    Calls Tryz.prog 82 #[.slice (some ⟨g, 0, none⟩) L.length L.length] w fun e w' => ∃ v, e = .returned v ∧ w'.ownsRow w.heap.size 62 2 v (flatP L).length (cellsF (flatP L)) ∧ Below w.heap.size w w' := by
  obtain ⟨i0, hi, hz0, hz1, hz2⟩ := info_parts infoFld
  have HC := Lib.hid hcell
  have HK := Lib.hid hok
  have HS := Lib.hid hsum
  have HG := Lib.hid (grow94 (flatP L).length hsum w)
  clear hcell hok hsum
  go_enter Tryz.func82, Tryz.ntmps82
  go_wp2_with fail
  go_loopw [3, 11] (fun s i wr => ∃ j : Nat, j ≤ L.length ∧ i = .int .i64 (j : Int) ∧ s = .int .i64 (((flatP (L.take j)).length : Nat) : Int) ∧ w = wr) (fun _ i _ => L.length - (intOf i).toNat)
  case atStart => exact ⟨0, Nat.zero_le _, rfl, rfl, rfl⟩
  case round =>
    obtain ⟨j, hj, rfl, rfl, rfl⟩ := hrel
    by_cases hlt : j < L.length
    · have cj := HC.out j L[j] (by simp [hlt])
      have hle := flatP_le (L := L) (j := j + 1)
      rw [flatP_step hlt, List.length_append] at hle
      have hst : Hid ((flatP (L.take (j + 1))).length = (flatP (L.take j)).length + L[j].2.2.length) := by show _ = _; rw [flatP_step hlt, List.length_append]
      have hs1 := HS.out
      obtain ⟨p, hp⟩ : ∃ p, p = L[j] := ⟨_, rfl⟩
      rw [← hp] at cj hle hst
      clear hp
      obtain ⟨a, c, fs⟩ := p
      simp only at hle hst
      have cj' : w.cell? ⟨g, j, none⟩ = some (.slice a fs.length c) := cj
      clear cj
      generalize (flatP (L.take j)).length = m at *
      generalize (flatP L).length = M at *
      have j1 : (j : Int) < L.length := by omega
      have m1 : wrap64 ((m : Int) + fs.length) = ((m + fs.length : Nat) : Int) := by unfold wrap64; omega
      have m2 : ¬ (((m + fs.length : Nat) : Int) < 0) := by omega
      go_wp2_with fail
      go_roundw
      case rel => exact ⟨j + 1, hlt, by go_num, by rw [hst.out, Int.natCast_add], by first | rfl | trivial⟩
      case measure => simp [intOf]; omega
    · obtain rfl : j = L.length := by omega
      have ht : flatP (L.take L.length) = flatP L := by rw [List.take_of_length_le (Nat.le_refl _)]
      rw [ht]
      clear ht
      have HX : Hid (∃ m, m = (flatP L).length) := ⟨_, rfl⟩
      go_wp2_with fail
      refine HG.out.mono ?_
      rintro e w1 ⟨v1, rfl, ho1, hb1⟩
      have HO1 := Lib.hid ho1
      have HB1 := Lib.hid hb1
      clear ho1 hb1 HG HX
      go_wp2_with fail
      go_loopw [6, 27] (fun v i wr => ∃ j : Nat, j ≤ L.length ∧ i = .int .i64 (j : Int) ∧ Hid (wr.ownsRow w.heap.size 62 2 v (flatP (L.take j)).length (cellsF (flatP (L.take j)))) ∧ Hid (Below w.heap.size w wr)) (fun _ i _ => L.length - (intOf i).toNat)
      case atStart => exact ⟨0, Nat.zero_le _, rfl, HO1.out, HB1.out⟩
      case round =>
        clear HO1 HB1
        obtain ⟨j, hj, rfl, ho, hb⟩ := hrel
        by_cases hlt : j < L.length
        · have cj := HC.out j L[j] (by simp [hlt])
          obtain ⟨hpf, hpn⟩ := HK.out L[j] (List.getElem_mem hlt)
          have hle := flatP_le (L := L) (j := j + 1)
          rw [flatP_step hlt, List.length_append] at hle
          have hst := Lib.hid (flatP_step hlt)
          have hs1 := HS.out
          rw [← (bcell hb.out).1 _ _ hg] at cj
          have hpw := hpf.below hb.out
          obtain ⟨p, hp⟩ : ∃ p, p = L[j] := ⟨_, rfl⟩
          rw [← hp] at cj hle hst hpn hpw
          clear hp hpf
          obtain ⟨a, c, fs⟩ := p
          simp only at hle hst hpn hpw
          have cj' : wr.cell? ⟨g, j, none⟩ = some (.slice a fs.length c) := cj
          clear cj
          have hgr := hb.out.size
          generalize flatP (L.take j) = F at *
          generalize (flatP L).length = M at *
          have j1 : (j : Int) < L.length := by omega
          have hg2 : g < wr.heap.size := by omega
          cases a with
          | none =>
            obtain ⟨rfl, rfl⟩ := hpn rfl
            go_wp2_with (at_builtin; refine wpList_append_own_none rfl _ _ 31 rfl w.heap.size 62 i0 2 Tryz.underlying31 hi _ _ _ rfl ho.out rfl ?_)
            go_roundw
            case rel => exact ⟨j + 1, hlt, by go_num, by rw [hst.out, List.append_nil]; exact ho, hb⟩
            case measure => simp [intOf]; omega
          | some ad =>
            have hcells : Hid (∀ (k : Nat) u, (cellsF fs)[k]? = some u → wr.cell? (ad.add k) = some u) := by
              intro k u hu
              obtain h0 | ⟨bk, o, h2, hbk, hc, hcl⟩ := hpw
              · subst h0; simp [cellsF] at hu
              · obtain rfl : ad = ⟨bk, o, none⟩ := by injection h2
                exact isFlds_cells hcl k u hu
            have HL := Lib.hid (cellsF_length fs)
            have HM : Hid (F.length + fs.length ≤ 1000000000) := by show _ ≤ _; omega
            clear hpw hpn hle hs1
            go_wp2_with (at_builtin; refine wpList_append_own _ rfl _ _ 31 rfl w.heap.size 62 i0 (.agg #[.string ⟨#[]⟩, .string ⟨#[]⟩]) 2 32 Tryz.underlying31 hi hz0 hz1 hz2 rfl (by decide) _ _ _ rfl ho.out ad fs.length c (cellsF fs) rfl HL.out hcells.out (cellsF_one fs) (by have := HM.out; unfold maxLen; omega) (by have := HM.out; omega) (by omega) ?_)
            intro v' w2 hown' hgrow _
            have hb2 : Hid (Below w.heap.size w w2) := hb.out.grown hgrow (by omega) (fun k hk => (ho.out.lt k hk).1)
            have HO2 : Hid (w2.ownsRow w.heap.size 62 2 v' (F ++ fs).length (cellsF (F ++ fs))) := by
              show World.ownsRow _ _ _ _ _ _ _
              rw [List.length_append, cellsF_append]
              exact hown'
            rw [← hst.out] at HO2
            clear hown' hgrow ho hb hcells
            go_wp2_with fail
            go_roundw
            case rel => exact ⟨j + 1, hlt, by go_num, HO2, hb2⟩
            case measure => simp [intOf]; omega
        · obtain rfl : j = L.length := by omega
          have ho2 := ho.out
          rw [List.take_of_length_le (Nat.le_refl _)] at ho2
          have HO := Lib.hid ho2
          clear ho ho2
          go_wp2_with fail
          go_ret
          exact ⟨_, rfl, HO.out, hb.out⟩
end Go.Proofs.YtbbphklhnngjmaaGreatDoor

/- fields: Add, Set. -/
namespace Go.Proofs.YtbbphklhnngjmaaGreatDoor
open Go.RowKit

theorem own_mono {w : World} {B B' size n : Nat} {e : TypeId} {v : Value} {xs : List Value} (h : w.ownsRow B e size v n xs) (hB : B' ≤ B) : w.ownsRow B' e size v n xs := by
  obtain ⟨hl, h0 | ⟨g, cap, cur, hv, hg, r⟩⟩ := h
  · exact ⟨hl, .inl h0⟩
  · exact ⟨hl, .inr ⟨g, cap, cur, hv, Nat.le_trans hB hg, r⟩⟩
theorem isFlds_new1 (w : World) (n v : List UInt8) (T : TypeId) : IsFlds (w.alloc (.cells #[.string (bs n), .string (bs v)] T)) (some ⟨w.heap.size, 0, none⟩) 1 [(n, v)] := by
  refine .inr ⟨w.heap.size, 0, rfl, by simp, by simp, fun j f hf => ?_⟩
  obtain rfl : j = 0 := by
    have := (List.getElem?_eq_some_iff.1 hf).1
    simp at this
    omega
  obtain rfl : (n, v) = f := by simpa using hf
  simp
set_option maxHeartbeats 4000000 in
set_option maxRecDepth 100000 in
theorem add48 (a : Option Addr) (c : Nat) (fs : List Fld) (n v : List UInt8) (hfl : fs.length ≤ 100000000) (ha : a = none → c = 0 ∧ fs = []) (w : World) (hf : IsFlds w a c fs) :
    Calls Tryz.prog 46 #[.slice a fs.length c, .string (bs n), .string (bs v)] w fun e w' => ∃ u, e = .returned u ∧ w'.ownsRow w.heap.size 62 2 u (fs ++ [(n, v)]).length (cellsF (fs ++ [(n, v)])) ∧ Below w.heap.size w w' := by
  have L1 := below_alloc w (.cells #[.string (bs n), .string (bs v)] 62)
  have F1 := isFlds_new1 w n v 62
  have L2 := below_alloc (w.alloc (.cells #[.string (bs n), .string (bs v)] 62)) (.cells #[.slice a fs.length c, .slice (some ⟨w.heap.size, 0, none⟩) 1 1] 31)
  have hfl2 : flatP [(a, c, fs), (some ⟨w.heap.size, 0, none⟩, 1, [(n, v)])] = fs ++ [(n, v)] := by simp [flatP]
  have hcon := concat73 (w.alloc (.cells #[.string (bs n), .string (bs v)] 62)).heap.size [(a, c, fs), (some ⟨w.heap.size, 0, none⟩, 1, [(n, v)])] (by simp) (by rw [hfl2]; simp; omega) ((w.alloc (.cells #[.string (bs n), .string (bs v)] 62)).alloc (.cells #[.slice a fs.length c, .slice (some ⟨w.heap.size, 0, none⟩) 1 1] 31)) (by simp)
    (fun j p hp => by
      match j, hp with
      | 0, hp => obtain rfl := Option.some.inj hp; simp [partV]
      | 1, hp => obtain rfl := Option.some.inj hp; simp [partV]
      | j + 2, hp => simp at hp)
    (fun p hp => by
      simp only [List.mem_cons, List.not_mem_nil, or_false] at hp
      rcases hp with rfl | rfl
      · exact ⟨(hf.below L1).below L2, ha⟩
      · exact ⟨F1.below L2, fun h => by cases h⟩)
  rw [hfl2, World.size_alloc] at hcon
  have HC := Lib.hid hcon
  have LL : Hid (Below w.heap.size w ((w.alloc (.cells #[.string (bs n), .string (bs v)] 62)).alloc (.cells #[.slice a fs.length c, .slice (some ⟨w.heap.size, 0, none⟩) 1 1] 31))) := L1.trans (L2.mono (by simp))
  clear hcon L1 L2 F1 hf ha hfl2
  generalize fs ++ [(n, v)] = out at *
  go_enter Tryz.func46, Tryz.ntmps46
  go_wp2_with fail
  refine HC.out.mono ?_
  rintro e w1 ⟨u, rfl, ho, hb⟩
  have hs : w.heap.size ≤ ((w.alloc (.cells #[.string (bs n), .string (bs v)] 62)).alloc (.cells #[.slice a fs.length c, .slice (some ⟨w.heap.size, 0, none⟩) 1 1] 31)).heap.size := by simp <;> omega
  have HB : Hid (Below w.heap.size w w1) := LL.out.trans (hb.mono hs)
  have HO : Hid (w1.ownsRow w.heap.size 62 2 u out.length (cellsF out)) := own_mono ho hs
  clear ho hb hs LL HC
  go_wp2_with fail
  go_ret
  exact ⟨_, rfl, HO.out, HB.out⟩
end Go.Proofs.YtbbphklhnngjmaaGreatDoor

/- fields: Set. -/
namespace Go.Proofs.YtbbphklhnngjmaaGreatDoor
open Go.RowKit

/-- The fields with the given one in place of all of its name. -/
def setF (n v : List UInt8) (fs : List Fld) : List Fld :=
  let i := findI [bs n] fs
  if 0 ≤ i then fs.take i.toNat ++ ((n, v) :: dropL [bs n] (fs.drop (i.toNat + 1))) else fs ++ [(n, v)]
/-- What holds while the region runs. -/
structure SetS (W : World) (bk o c i : Nat) (fs : List Fld) (n v : List UInt8) (ds : List Fld) (L : Nat → Bool) (x : Nat → Value) (w : World) : Prop where
  bel : Below W.heap.size W w
  p6 : L 6 = true → ∃ b, x 6 = .slice (some ⟨b, 0, none⟩) 1 1 ∧ IsFlds w (some ⟨b, 0, none⟩) 1 [(n, v)]
  p12 : L 12 = true → ∃ b, x 12 = .slice (some ⟨b, 0, none⟩) 1 1 ∧ IsStrs w (some ⟨b, 0, none⟩) 1 [bs n]
  p13 : L 13 = true → ∃ a' c', x 13 = .slice a' ds.length c' ∧ (a' = none → c' = 0 ∧ ds = []) ∧ IsFlds w a' c' ds
  p14 : L 14 = true → ∃ g b a' c', x 14 = .slice (some ⟨g, 0, none⟩) 3 3 ∧ g < w.heap.size ∧ w.cell? ⟨g, 0, none⟩ = some (.slice (some ⟨bk, o, none⟩) i c) ∧ w.cell? ⟨g, 1, none⟩ = some (.slice (some ⟨b, 0, none⟩) 1 1) ∧ w.cell? ⟨g, 2, none⟩ = some (.slice a' ds.length c') ∧ IsFlds w (some ⟨b, 0, none⟩) 1 [(n, v)] ∧ (a' = none → c' = 0 ∧ ds = []) ∧ IsFlds w a' c' ds
  p15 : L 15 = true → w.ownsRow W.heap.size 62 2 (x 15) (fs.take i ++ ((n, v) :: ds)).length (cellsF (fs.take i ++ ((n, v) :: ds)))
theorem SetS.below {W : World} {bk o c i : Nat} {fs : List Fld} {n v : List UInt8} {ds : List Fld} {L : Nat → Bool} {x : Nat → Value} {w w' : World} (h : SetS W bk o c i fs n v ds L x w) (hb : Below w.heap.size w w') : SetS W bk o c i fs n v ds L x w' := by
  refine ⟨h.bel.trans (hb.mono h.bel.size), fun e => ?_, fun e => ?_, fun e => ?_, fun e => ?_, fun e => own_below (h.p15 e) hb⟩
  · obtain ⟨b, h1, h2⟩ := h.p6 e; exact ⟨b, h1, h2.below hb⟩
  · obtain ⟨b, h1, h2⟩ := h.p12 e; exact ⟨b, h1, h2.below hb⟩
  · obtain ⟨a', c', h1, h2, h3⟩ := h.p13 e; exact ⟨a', c', h1, h2, h3.below hb⟩
  · obtain ⟨g, b, a', c', h1, h2, h3, h4, h5, h6, h7, h8⟩ := h.p14 e
    obtain ⟨hc, _⟩ := bcell hb
    exact ⟨g, b, a', c', h1, Nat.lt_of_lt_of_le h2 hb.size, by rw [hc _ _ h2]; exact h3, by rw [hc _ _ h2]; exact h4, by rw [hc _ _ h2]; exact h5, h6.below hb, h7, h8.below hb⟩
theorem SetS.keep {W : World} {bk o c i : Nat} {fs : List Fld} {n v : List UInt8} {ds : List Fld} {L : Nat → Bool} {x : Nat → Value} {w : World} (h : SetS W bk o c i fs n v ds L x w) (k : Nat) (u : Value) (h6 : k ≠ 6) (h12 : k ≠ 12) (h13 : k ≠ 13) (h14 : k ≠ 14) (h15 : k ≠ 15) :
    SetS W bk o c i fs n v ds (setL L k) (updV x k u) w := by
  refine ⟨h.bel, fun e => ?_, fun e => ?_, fun e => ?_, fun e => ?_, fun e => ?_⟩
  · simp only [setL, if_neg (Ne.symm h6)] at e; simp only [updV, if_neg (Ne.symm h6)]; exact h.p6 e
  · simp only [setL, if_neg (Ne.symm h12)] at e; simp only [updV, if_neg (Ne.symm h12)]; exact h.p12 e
  · simp only [setL, if_neg (Ne.symm h13)] at e; simp only [updV, if_neg (Ne.symm h13)]; exact h.p13 e
  · simp only [setL, if_neg (Ne.symm h14)] at e; simp only [updV, if_neg (Ne.symm h14)]; exact h.p14 e
  · simp only [setL, if_neg (Ne.symm h15)] at e; simp only [updV, if_neg (Ne.symm h15)]; exact h.p15 e
theorem IsFlds.take {w : World} {a : Option Addr} {c : Nat} {fs : List Fld} (h : IsFlds w a c fs) (i : Nat) : IsFlds w a c (fs.take i) := by
  obtain rfl | ⟨bk, o, ha, hlt, hc, hcell⟩ := h
  · exact .inl (by simp)
  · refine .inr ⟨bk, o, ha, hlt, by rw [List.length_take]; omega, fun j f hf => hcell j f ?_⟩
    rw [List.getElem?_take] at hf
    split at hf
    · exact hf
    · cases hf
theorem IsFlds.drop {w : World} {bk o c : Nat} {fs : List Fld} (h : IsFlds w (some ⟨bk, o, none⟩) c fs) (i : Nat) : IsFlds w (some ⟨bk, o + i * 2, none⟩) (c - i) (fs.drop i) := by
  obtain rfl | ⟨bk', o', ha, hlt, hc, hcell⟩ := h
  · exact .inl (by simp)
  · cases ha
    refine .inr ⟨bk, o + i * 2, rfl, hlt, by rw [List.length_drop]; omega, fun j f hf => ?_⟩
    rw [List.getElem?_drop] at hf
    have := hcell (i + j) f hf
    rw [Nat.add_mul] at this
    rw [Nat.add_assoc o, ]
    exact this

set_option maxHeartbeats 4000000 in
set_option maxRecDepth 100000 in
theorem set46 (a : Option Addr) (c : Nat) (fs : List Fld) (n v : List UInt8) (hfl : fs.length ≤ 100000000) (hcm : c ≤ 9223372036854775807) (ha : a = none → c = 0 ∧ fs = []) (hok : ∀ f ∈ fs, FldOk f) (w : World) (hf : IsFlds w a c fs) :
    Calls Tryz.prog 44 #[.slice a fs.length c, .string (bs n), .string (bs v)] w fun e w' => ∃ u, e = .returned u ∧ w'.ownsRow w.heap.size 62 2 u (setF n v fs).length (cellsF (setF n v fs)) ∧ Below w.heap.size w w' := by
  have HI := Lib.hid (index71 a c fs (bs n) (by omega) hok w hf)
  rcases findI_cases [bs n] fs with ⟨hi, hno⟩ | ⟨i, hil, hi, hyes, hno⟩
  · have hset : setF n v fs = fs ++ [(n, v)] := by unfold setF; simp [hi]
    rw [hset]
    rw [hi] at HI
    have HA := Lib.hid (fun W hb => add48 a c fs n v hfl ha W (hf.below hb))
    have hadd : ∀ W, Below w.heap.size w W → Calls Tryz.prog 46 #[.slice a fs.length c, .string (bs n), .string (bs v)] W fun e w' => ∃ u, e = .returned u ∧ w'.ownsRow w.heap.size 62 2 u (fs ++ [(n, v)]).length (cellsF (fs ++ [(n, v)])) ∧ Below w.heap.size w w' := fun W hb =>
      (HA.out W hb).mono fun e w' ⟨u, h1, h2, h3⟩ => ⟨u, h1, own_mono h2 hb.size, hb.trans (h3.mono hb.size)⟩
    have HD := Lib.hid hadd
    clear HA hadd hset hi hno hf ha hok
    generalize fs ++ [(n, v)] = out at *
    go_enter Tryz.func44, Tryz.ntmps44
    go_wp2_with fail
    refine HI.out.mono ?_
    rintro e W ⟨rfl, hb⟩
    go_wp2_with fail
    refine (HD.out W hb).mono ?_
    rintro e w2 ⟨u, rfl, ho, hb2⟩
    have HO := Lib.hid ho
    clear ho
    go_wp2_with fail
    go_ret
    exact ⟨_, rfl, HO.out, hb2⟩
  · rw [hi] at HI
    obtain h0 | ⟨bk, o, rfl, hbk, hc, hcell⟩ := hf
    · subst h0; simp at hil
    have hf : IsFlds w (some ⟨bk, o, none⟩) c fs := .inr ⟨bk, o, rfl, hbk, hc, hcell⟩
    obtain ⟨ds, hds⟩ : ∃ ds, ds = dropL [bs n] (fs.drop (i + 1)) := ⟨_, rfl⟩
    have hset : setF n v fs = fs.take i ++ ((n, v) :: ds) := by unfold setF; simp [hi, hds]
    rw [hset]
    have hdl : ds.length ≤ 100000000 := by
      have : ds.length ≤ (fs.drop (i + 1)).length := by rw [hds]; unfold dropL; exact List.length_filter_le _ _
      rw [List.length_drop] at this
      omega
    have HF := Lib.hid hf
    have HOK := Lib.hid hok
    have HDS := Lib.hid hds
    have HDL := Lib.hid hdl
    clear hset hds hdl hi hyes hno hcell ha hok
    have i1 : ((i : Int) < 0) = False := by simp <;> omega
    have i2 : (i : Int) < fs.length := by omega
    have i3 : (fs.length : Int) ≤ c := by omega
    have i4 : (c : Int) ≤ 9223372036854775807 := by omega
    have i5 : (fs.length : Int) ≤ 100000000 := by omega
    go_enter Tryz.func44, Tryz.ntmps44
    go_wp2_with fail
    refine HI.out.mono ?_
    rintro e W ⟨rfl, hb⟩
    have HF2 : Hid (IsFlds W (some ⟨bk, o, none⟩) c fs) := HF.out.below hb
    clear HF HI hf
    go_wp2_with fail
    have n1 : i ≤ c := by omega
    have E3 : IntKind.i64.wrap ((i : Int) + 1) = (i : Int) + 1 := IntWalk.i64_in _ (by omega)
    obtain ⟨TA, hta⟩ : ∃ TA : Option Addr, TA = if c = i + 1 then some ⟨bk, o, none⟩ else some ⟨bk, o + (i + 1) * 2, none⟩ := ⟨_, rfl⟩
    have HTA := Lib.hid hta
    have TN : Hid (TA ≠ none) := by show _ ≠ _; rw [hta]; split <;> exact fun h => nomatch h
    have TD : Hid (∀ W, IsFlds W (some ⟨bk, o, none⟩) c fs → IsFlds W TA (c - (i + 1)) (fs.drop (i + 1))) := fun W h => by
      rw [hta]
      by_cases he : c = i + 1
      · exact .inl (List.drop_eq_nil_of_le (by omega))
      · rw [if_neg he]; exact h.drop (i + 1)
    clear hta
    refine region_mixt 16 [some (.slice (some ⟨bk, o, none⟩) fs.length c), some (.int .i64 (i : Int)), some (.slice (some ⟨bk, o, none⟩) i c), some (.string (bs n)), some (.string (bs v)), some (.agg #[.string (bs n), .string (bs v)]), none, some (.slice (some ⟨bk, o, none⟩) fs.length c), some (.int .i64 (i : Int)), some (.int .i64 ((i : Int) + 1)), some (.slice TA (fs.length - (i + 1)) (c - (i + 1))), some (.string (bs n)), none, none, none, none]
      [[false, false, false, false, false, false, false, false, false, false, false, false, false, false, false, false], [false, false, false, false, false, false, false, false, false, false, false, false, false, false, false, false], [true, true, false, false, false, false, false, false, false, false, false, false, false, false, false, false], [false, false, false, false, false, false, false, false, false, false, false, false, false, false, false, false], [false, false, false, false, false, false, false, false, false, false, false, false, false, false, false, false], [false, false, false, true, true, false, false, false, false, false, false, false, false, false, false, false], [false, false, false, false, false, true, false, false, false, false, false, false, false, false, false, false], [false, false, false, false, false, false, false, false, false, false, false, false, false, false, false, false], [false, false, false, false, false, false, false, false, false, false, false, false, false, false, false, false], [false, false, false, false, false, false, false, false, true, false, false, false, false, false, false, false], [false, false, false, false, false, false, false, true, false, true, false, false, false, false, false, false], [false, false, false, false, false, false, false, false, false, false, false, false, false, false, false, false], [false, false, false, false, false, false, false, false, false, false, false, true, false, false, false, false], [false, false, false, false, false, false, false, false, false, false, true, false, true, false, false, false], [false, false, true, false, false, false, true, false, false, false, false, false, false, true, false, false], [false, false, false, false, false, false, false, false, false, false, false, false, false, true, true, false]]
      (fun L x w1 => SetS W bk o c i fs n v ds L x w1)
      (by kernel_rfl) (by kernel_rfl) (by kernel_rfl) (by kernel_rfl) (by kernel_rfl) (by decide) ?_ ?_ ?_
    · intro _
      exact ⟨(Below.refl _ _).drew, fun h => (by cases h), fun h => (by cases h), fun h => (by cases h), fun h => (by cases h), fun h => (by cases h)⟩
    · simp only [List.take_succ_cons, List.take_zero]
      refine ⟨?_, ?_, ?_, ?_, ?_, ?_, ?_, ?_, ?_, ?_, ?_, ?_, ?_, ?_, ?_, ?_, trivial⟩
      all_goals
        intro L x w9 hS hl hp K hK
        have hs : SetS W bk o c i fs n v ds L x w9 := hS
        clear hS
        replace hK := hK.out
        simp only [actMix, pickV, List.tail_cons, List.headD_cons, Act.put, List.setIfInBounds_toArray, List.set_cons_zero, List.set_cons_succ] at hK ⊢
      iterate 2
        · clear hp
          go_simp
          with_reducible refine hK _ ?_
          exact hs.keep _ _ (by decide) (by decide) (by decide) (by decide) (by decide)
      · clear hp
        go_simp
        with_reducible refine hK _ ?_
        exact hs.keep _ _ (by decide) (by decide) (by decide) (by decide) (by decide)
      iterate 3
        · clear hp
          go_simp
          with_reducible refine hK _ ?_
          exact hs.keep _ _ (by decide) (by decide) (by decide) (by decide) (by decide)
      · clear hp
        go_simp
        with_reducible refine hK _ _ ?_
        have hb8 := below_alloc w9 (.cells #[.string (bs n), .string (bs v)] 62)
        have hs2 := hs.below hb8
        refine ⟨hs2.bel, fun _ => ⟨w9.heap.size, by simp [updV], isFlds_new1 w9 n v _⟩, fun h => ?_, fun h => ?_, fun h => ?_, fun h => ?_⟩
        · simpa [updV] using hs2.p12 (by simpa [setL] using h)
        · simpa [updV] using hs2.p13 (by simpa [setL] using h)
        · simpa [updV] using hs2.p14 (by simpa [setL] using h)
        · simpa [updV] using hs2.p15 (by simpa [setL] using h)
      iterate 2
        · clear hp
          go_simp
          with_reducible refine hK _ ?_
          exact hs.keep _ _ (by decide) (by decide) (by decide) (by decide) (by decide)
      · clear hp
        have e3 := E3
        go_simp
        with_reducible refine hK _ ?_
        exact hs.keep _ _ (by decide) (by decide) (by decide) (by decide) (by decide)
      · clear hp
        go_simp
        rw [if_pos ⟨by omega, by omega⟩, ← HTA.out]
        simp only [Oper.upon_value, Act.put, List.setIfInBounds_toArray, List.set_cons_zero, List.set_cons_succ]
        with_reducible refine hK _ ?_
        exact hs.keep _ _ (by decide) (by decide) (by decide) (by decide) (by decide)
      · clear hp
        go_simp
        with_reducible refine hK _ ?_
        exact hs.keep _ _ (by decide) (by decide) (by decide) (by decide) (by decide)
      · clear hp
        go_simp
        with_reducible refine hK _ _ ?_
        have hb8 := below_alloc w9 (.cells #[.string (bs n)] 9)
        have hs2 := hs.below hb8
        refine ⟨hs2.bel, fun h => ?_, fun _ => ⟨w9.heap.size, by simp [updV], isStrs_new1 w9 (bs n) _⟩, fun h => ?_, fun h => ?_, fun h => ?_⟩
        · simpa [updV] using hs2.p6 (by simpa [setL] using h)
        · simpa [updV] using hs2.p13 (by simpa [setL] using h)
        · simpa [updV] using hs2.p14 (by simpa [setL] using h)
        · simpa [updV] using hs2.p15 (by simpa [setL] using h)
      · have h12 : L 12 = true := allL_mem hp 12 (by decide +kernel)
        obtain ⟨b12, hx12, hS12⟩ := hs.p12 h12
        have hf9 : IsFlds w9 (some ⟨bk, o, none⟩) c fs := HF2.out.below hs.bel
        clear hp
        rw [hx12] at hK ⊢
        go_simp
        have hdrop := drop55 TA (c - (i + 1)) (fs.drop (i + 1)) (some ⟨b12, 0, none⟩) 1 [bs n] (by rw [List.length_drop]; omega) (by simp) (fun h => absurd h TN.out) (fun f hf => HOK.out f (List.mem_of_mem_drop hf)) w9 (TD.out _ hf9) hS12
        rw [List.length_drop, ← HDS.out] at hdrop
        refine hdrop.mono ?_
        rintro e w8 ⟨a', c', rfl, hn8, hf8, hb8⟩
        have hs2 := hs.below hb8
        with_reducible refine hK _ _ ?_
        refine ⟨hs2.bel, fun h => ?_, fun h => ?_, fun _ => ⟨a', c', by simp [updV], hn8, hf8⟩, fun h => ?_, fun h => ?_⟩
        · simpa [updV] using hs2.p6 (by simpa [setL] using h)
        · simpa [updV] using hs2.p12 (by simpa [setL] using h)
        · simpa [updV] using hs2.p14 (by simpa [setL] using h)
        · simpa [updV] using hs2.p15 (by simpa [setL] using h)
      · have h6 : L 6 = true := allL_mem hp 6 (by decide +kernel)
        have h13 : L 13 = true := allL_mem hp 13 (by decide +kernel)
        obtain ⟨b6, hx6, hS6⟩ := hs.p6 h6
        obtain ⟨a', c', hx13, hn13, hS13⟩ := hs.p13 h13
        clear hp
        rw [hx6, hx13] at hK ⊢
        go_simp
        with_reducible refine hK _ _ ?_
        have hb8 := below_alloc w9 (.cells #[.slice (some ⟨bk, o, none⟩) i c, .slice (some ⟨b6, 0, none⟩) 1 1, .slice a' ds.length c'] 31)
        have hs2 := hs.below hb8
        refine ⟨hs2.bel, fun h => ?_, fun h => ?_, fun h => ?_, fun _ => ⟨w9.heap.size, b6, a', c', by simp [updV], by simp, by simp, by simp, by simp, hS6.below hb8, hn13, hS13.below hb8⟩, fun h => ?_⟩
        · simpa [updV] using hs2.p6 (by simpa [setL] using h)
        · simpa [updV] using hs2.p12 (by simpa [setL] using h)
        · simpa [updV] using hs2.p13 (by simpa [setL] using h)
        · simpa [updV] using hs2.p15 (by simpa [setL] using h)
      · have h14 : L 14 = true := allL_mem hp 14 (by decide +kernel)
        obtain ⟨g, b6, a', c', hx14, hg9, hc0, hc1, hc2, hS6, hn13, hS13⟩ := hs.p14 h14
        clear hp
        rw [hx14] at hK ⊢
        go_simp
        have hfp : flatP [(some ⟨bk, o, none⟩, c, fs.take i), (some ⟨b6, 0, none⟩, 1, [(n, v)]), (a', c', ds)] = fs.take i ++ ((n, v) :: ds) := by simp [flatP]
        have hlt9 : (fs.take i).length = i := by rw [List.length_take]; omega
        have hcon := concat73 g [(some ⟨bk, o, none⟩, c, fs.take i), (some ⟨b6, 0, none⟩, 1, [(n, v)]), (a', c', ds)] (by simp) (by have := HDL.out; rw [hfp, List.length_append, hlt9, List.length_cons]; omega) w9 hg9
          (fun j p hp => by
            match j, hp with
            | 0, hp => obtain rfl := Option.some.inj hp; rw [hc0]; simp only [partV, hlt9]
            | 1, hp => obtain rfl := Option.some.inj hp; rw [hc1]; rfl
            | 2, hp => obtain rfl := Option.some.inj hp; rw [hc2]; rfl
            | j + 3, hp => simp at hp)
          (fun p hp => by
            simp only [List.mem_cons, List.not_mem_nil, or_false] at hp
            rcases hp with rfl | rfl | rfl
            · exact ⟨(HF2.out.below hs.bel).take i, fun h => by cases h⟩
            · exact ⟨hS6, fun h => by cases h⟩
            · exact ⟨hS13, hn13⟩)
        rw [hfp] at hcon
        refine hcon.mono ?_
        rintro e w8 ⟨u, rfl, ho8, hb8⟩
        have hs2 := hs.below hb8
        with_reducible refine hK _ _ ?_
        refine ⟨hs2.bel, fun h => ?_, fun h => ?_, fun h => ?_, fun h => ?_, fun _ => ?_⟩
        · simpa [updV] using hs2.p6 (by simpa [setL] using h)
        · simpa [updV] using hs2.p12 (by simpa [setL] using h)
        · simpa [updV] using hs2.p13 (by simpa [setL] using h)
        · simpa [updV] using hs2.p14 (by simpa [setL] using h)
        · have := own_mono ho8 hs.bel.size
          simpa [updV] using this
    · intro L x w9 hS hL
      have hs : SetS W bk o c i fs n v ds L x w9 := hS
      have HO := Lib.hid (own_mono (hs.p15 (hL 15 (by decide))) hb.size)
      have hbel := hb.trans (hs.bel.mono hb.size)
      clear hS hs hL
      simp only [actMix, pickV, List.tail_cons, List.headD_cons, Act.put, List.setIfInBounds_toArray, List.set_cons_zero, List.set_cons_succ, List.replicate_succ, List.replicate_zero, List.drop_succ_cons, List.drop_zero, List.take_succ_cons, List.take_zero] 
      generalize x 15 = u at *
      go_wp2_with fail
      go_ret
      exact ⟨_, rfl, HO.out, hbel⟩
end Go.Proofs.YtbbphklhnngjmaaGreatDoor

/- stewardlaw06.Own. -/
namespace Go.Proofs.YtbbphklhnngjmaaGreatDoor
open Go.RowKit

theorem cells_new1 (w : World) (n v : ByteArray) (T : TypeId) : ∀ (k : Nat) u, [Value.string n, .string v][k]? = some u → (w.alloc (.cells #[.string n, .string v] T)).cell? ((⟨w.heap.size, 0, none⟩ : Addr).add k) = some u := by
  intro k u hu
  rw [Addr.add_mid]
  match k, hu with
  | 0, hu => obtain rfl := Option.some.inj hu; simp
  | 1, hu => obtain rfl := Option.some.inj hu; simp
  | k + 2, hu => simp at hu
theorem cellsF_step {fs : List Fld} {j : Nat} (hj : j < fs.length) : cellsF (fs.take (j + 1)) = cellsF (fs.take j) ++ [.string (bs fs[j].1), .string (bs fs[j].2)] := by
  rw [List.take_add_one, List.getElem?_eq_getElem hj, Option.toList_some, cellsF_append]
  rfl
set_option maxHeartbeats 4000000 in
set_option maxRecDepth 100000 in
theorem own40 (a : Option Addr) (c : Nat) (fs : List Fld) (hfl : fs.length ≤ 1000000) (w : World) (hf : IsFlds w a c fs) :
    Calls Tryz.prog 36 #[.slice a fs.length c] w fun e w' => ∃ u, e = .returned u ∧ w'.ownsRow w.heap.size 62 2 u fs.length (cellsF fs) ∧ Below w.heap.size w w' := by
  obtain ⟨i0, hi, hz0, hz1, hz2⟩ := info_parts infoFld
  have HFF := Lib.hid hf
  clear hf
  go_enter Tryz.func36, Tryz.ntmps36
  go_wp2_with fail
  go_loopw [3, 8] (fun v i wr => ∃ j : Nat, j ≤ fs.length ∧ i = .int .i64 (j : Int) ∧ Hid (wr.ownsRow w.heap.size 62 2 v j (cellsF (fs.take j))) ∧ Hid (Below w.heap.size w wr)) (fun _ i _ => fs.length - (intOf i).toNat)
  case atStart => exact ⟨0, Nat.zero_le _, rfl, World.ownsRow_nil _ _ _ _, Below.refl _ _⟩
  case round =>
    obtain ⟨j, hj, rfl, ho, hb⟩ := hrel
    by_cases hlt : j < fs.length
    · obtain h0 | ⟨bk, o, rfl, hbk, hc, hcell⟩ := HFF.out.below hb.out
      · subst h0; simp at hlt
      obtain ⟨c1, c2⟩ := hcell j fs[j] (by simp [hlt])
      have hst := Lib.hid (cellsF_step hlt)
      obtain ⟨f, hfe⟩ : ∃ f, f = fs[j] := ⟨_, rfl⟩
      rw [← hfe] at c1 c2 hst
      clear hcell hfe
      obtain ⟨n, v⟩ := f
      simp only at c1 c2 hst
      generalize bs n = N at *
      generalize bs v = V at *
      have j1 : (j : Int) < fs.length := by omega
      have hsz : (wr.alloc (.cells #[.string N, .string V] 53)).heap.size = wr.heap.size + 1 := World.size_alloc _ _
      have hnews := cells_new1 (wr.alloc (.cells #[.string N, .string V] 53)) N V 62
      rw [hsz] at hnews
      have HNW := Lib.hid hnews
      have HO2 : Hid (((wr.alloc (.cells #[.string N, .string V] 53)).alloc (.cells #[.string N, .string V] 62)).ownsRow w.heap.size 62 2 _ j (cellsF (fs.take j))) := (ho.out.alloc _).alloc _
      have hgr := hb.out.size
      have hb2 : Hid (Below w.heap.size w ((wr.alloc (.cells #[.string N, .string V] 53)).alloc (.cells #[.string N, .string V] 62))) := (hb.out.alloc hgr _).alloc (by rw [hsz]; omega) _
      clear hnews ho hb
      go_wp2_with (at_builtin; refine wpList_append_own _ rfl _ _ 31 rfl w.heap.size 62 i0 (.agg #[.string ⟨#[]⟩, .string ⟨#[]⟩]) 2 32 Tryz.underlying31 hi hz0 hz1 hz2 rfl (by decide) _ _ _ rfl HO2.out ⟨wr.heap.size + 1, 0, none⟩ 1 1 [.string N, .string V] rfl rfl HNW.out (by intro u hu; simp at hu; rcases hu with rfl | rfl <;> rfl) (by unfold maxLen; omega) (by omega) (by simp; omega) ?_)
      intro v' w2 hown' hgrow _
      have hb3 : Hid (Below w.heap.size w w2) := hb2.out.grown hgrow hb2.out.size (fun k hk => (HO2.out.lt k hk).1)
      rw [← hst.out] at hown'
      have HO3 := Lib.hid hown'
      clear hown' hgrow hb2 HO2 HNW hst
      go_wp2_with fail
      go_roundw
      case rel => exact ⟨j + 1, hlt, by go_num, HO3, hb3⟩
      case measure => simp [intOf]; omega
    · obtain rfl : j = fs.length := by omega
      have ho2 := ho.out
      rw [List.take_of_length_le (Nat.le_refl _)] at ho2
      have HO := Lib.hid ho2
      clear ho ho2
      go_wp2_with fail
      go_ret
      exact ⟨_, rfl, HO.out, hb.out⟩
end Go.Proofs.YtbbphklhnngjmaaGreatDoor

/- stewardlaw06.Few. -/
namespace Go.Proofs.YtbbphklhnngjmaaGreatDoor
open Go.RowKit

theorem infoRef : (Tryz.prog.info? 53).map (fun i => (i.zero, i.size, i.bytes)) = some (some (.agg #[.string ⟨#[]⟩, .string ⟨#[]⟩]), 2, 32) := by kernel_rfl
/-- The first few fields, cut. -/
def fewF (fs : List Fld) (n : Nat) : List Fld := (fs.take n).map fun f => (f.1.take 20, f.2.take 40)
theorem fewF_step {fs : List Fld} {j : Nat} (hj : j < fs.length) : cellsF (fewF fs (j + 1)) = cellsF (fewF fs j) ++ [.string (bs (fs[j].1.take 20)), .string (bs (fs[j].2.take 40))] := by
  unfold fewF
  rw [List.take_add_one, List.getElem?_eq_getElem hj, Option.toList_some, List.map_append, cellsF_append]
  rfl
/-- What holds while the region runs. -/
structure FewS (w0 : World) (v5 : Value) (k : Nat) (xs : List Value) (N V : ByteArray) (L : Nat → Bool) (x : Nat → Value) (w : World) : Prop where
  bel : Below w0.heap.size w0 w
  own : L 15 = false → w.ownsRow w0.heap.size 53 2 v5 k xs
  p14 : L 14 = true → L 15 = false → ∃ b, x 14 = .slice (some ⟨b, 0, none⟩) 1 1 ∧ ∀ (k : Nat) u, [Value.string N, .string V][k]? = some u → w.cell? ((⟨b, 0, none⟩ : Addr).add k) = some u
  p15 : L 15 = true → L 14 = true ∧ w.ownsRow w0.heap.size 53 2 (x 15) (k + 1) (xs ++ [.string N, .string V])
theorem FewS.keep {w0 : World} {v5 : Value} {k : Nat} {xs : List Value} {N V : ByteArray} {L : Nat → Bool} {x : Nat → Value} {w : World} (h : FewS w0 v5 k xs N V L x w) (i : Nat) (u : Value) (h14 : i ≠ 14) (h15 : i ≠ 15) : FewS w0 v5 k xs N V (setL L i) (updV x i u) w := by
  refine ⟨h.bel, fun e => h.own ?_, fun e e2 => ?_, fun e => ?_⟩
  · simpa only [setL, if_neg (Ne.symm h15)] using e
  · simp only [setL, if_neg (Ne.symm h14)] at e; simp only [setL, if_neg (Ne.symm h15)] at e2; simp only [updV, if_neg (Ne.symm h14)]; exact h.p14 e e2
  · simp only [setL, if_neg (Ne.symm h15)] at e; simp only [updV, if_neg (Ne.symm h15)]; exact ⟨by simp only [setL]; split; rfl; exact (h.p15 e).1, (h.p15 e).2⟩
set_option maxHeartbeats 4000000 in
set_option maxRecDepth 100000 in
theorem few39 (a : Option Addr) (c : Nat) (fs : List Fld) (n : Nat) (hn : n ≤ 1000) (hfl : fs.length ≤ 9223372036854775807) (w : World) (hf : IsFlds w a c fs) :
    Calls Tryz.prog 9 #[.slice a fs.length c, .int .i64 n] w fun e w' => ∃ u, e = .returned u ∧ w'.ownsRow w.heap.size 53 2 u (fewF fs n).length (cellsF (fewF fs n)) ∧ Below w.heap.size w w' := by
  obtain ⟨i0, hi, hz0, hz1, hz2⟩ := info_parts infoRef
  have HFF := Lib.hid hf
  clear hf
  have hdone : ∀ j, j ≤ n → j ≤ fs.length → (¬ j < n ∨ ¬ j < fs.length) → fewF fs j = fewF fs n := fun j h1 h2 h3 => by
    unfold fewF
    rcases h3 with h | h
    · rw [show j = n by omega]
    · rw [List.take_of_length_le (by omega), List.take_of_length_le (by omega)]
  have HDN := Lib.hid hdone
  clear hdone
  go_enter Tryz.func9, Tryz.ntmps9
  go_wp2_with fail
  go_loopw [5, 6] (fun v i wr => ∃ j : Nat, j ≤ n ∧ j ≤ fs.length ∧ i = .int .i64 (j : Int) ∧ Hid ((fewF fs j).length = j) ∧ Hid (wr.ownsRow w.heap.size 53 2 v j (cellsF (fewF fs j))) ∧ Hid (Below w.heap.size w wr)) (fun _ i _ => n - (intOf i).toNat)
  case atStart => exact ⟨0, Nat.zero_le _, Nat.zero_le _, rfl, by simp [Hid, fewF], World.ownsRow_nil _ _ _ _, Below.refl _ _⟩
  case round =>
    obtain ⟨j, hjn, hj, rfl, hlen, ho, hb⟩ := hrel
    by_cases hlt : j < fs.length
    · have j1 : (j : Int) < fs.length := by omega
      by_cases hnt : j < n
      · have j2 : (j : Int) < n := by omega
        obtain h0 | ⟨bk, o, rfl, hbk, hc, hcell⟩ := HFF.out
        · subst h0; simp at hlt
        obtain ⟨c1, c2⟩ := hcell j fs[j] (by simp [hlt])
        have hst := Lib.hid (fewF_step hlt)
        have hln : Hid ((fewF fs (j + 1)).length = j + 1) := by show _ = _; unfold fewF; simp; omega
        obtain ⟨f, hfe⟩ : ∃ f, f = fs[j] := ⟨_, rfl⟩
        rw [← hfe] at c1 c2 hst
        clear hcell hfe
        have HCX : Hid (∀ W, Calls Tryz.prog 8 #[.string (bs f.1), .int .i64 20] W fun e w' => e = .returned (.string (bs (f.1.take 20))) ∧ W = w') := fun W => cut11 (bs f.1) 20 W
        have HCY : Hid (∀ W, Calls Tryz.prog 8 #[.string (bs f.2), .int .i64 40] W fun e w' => e = .returned (.string (bs (f.2.take 40))) ∧ W = w') := fun W => cut11 (bs f.2) 40 W
        generalize bs (f.1.take 20) = N at *
        generalize bs (f.2.take 40) = V at *
        generalize bs f.1 = X at *
        generalize bs f.2 = Y at *
        generalize cellsF (fewF fs j) = xs at *
        go_wp2_with fail
        refine region_mixt 16 [some (u5), some (.slice (some ⟨bk, o, none⟩) fs.length c), some (.int .i64 (j : Int)), some (.pointer (some ⟨bk, o + j * 2, none⟩)), some (.pointer (some ⟨bk, o + j * 2, none⟩)), some (.string X), some (.string N), some (.slice (some ⟨bk, o, none⟩) fs.length c), some (.int .i64 (j : Int)), some (.pointer (some ⟨bk, o + j * 2, none⟩)), some (.pointer (some ⟨bk, o + j * 2 + 1, none⟩)), some (.string Y), some (.string V), some (.agg #[.string N, .string V]), none, none]
          [[false, false, false, false, false, false, false, false, false, false, false, false, false, false, false, false], [false, false, false, false, false, false, false, false, false, false, false, false, false, false, false, false], [false, false, false, false, false, false, false, false, false, false, false, false, false, false, false, false], [false, true, true, false, false, false, false, false, false, false, false, false, false, false, false, false], [false, false, false, true, false, false, false, false, false, false, false, false, false, false, false, false], [false, false, false, false, true, false, false, false, false, false, false, false, false, false, false, false], [false, false, false, false, false, true, false, false, false, false, false, false, false, false, false, false], [false, false, false, false, false, false, false, false, false, false, false, false, false, false, false, false], [false, false, false, false, false, false, false, false, false, false, false, false, false, false, false, false], [false, false, false, false, false, false, false, true, true, false, false, false, false, false, false, false], [false, false, false, false, false, false, false, false, false, true, false, false, false, false, false, false], [false, false, false, false, false, false, false, false, false, false, true, false, false, false, false, false], [false, false, false, false, false, false, true, false, false, false, false, true, false, false, false, false], [false, false, false, false, false, false, true, false, false, false, false, false, true, false, false, false], [false, false, false, false, false, false, false, false, false, false, false, false, false, true, false, false], [true, false, false, false, false, false, false, false, false, false, false, false, true, false, true, false]]
          (fun L x w1 => FewS w u5 j xs N V L x w1)
          (by kernel_rfl) (by kernel_rfl) (by kernel_rfl) (by kernel_rfl) (by kernel_rfl) (by decide) ?_ ?_ ?_
        · intro _
          exact ⟨hb.out.drew, fun _ => ho.out.drew, fun h => (by cases h), fun h => (by cases h)⟩
        · simp only [List.take_succ_cons, List.take_zero]
          refine ⟨?_, ?_, ?_, ?_, ?_, ?_, ?_, ?_, ?_, ?_, ?_, ?_, ?_, ?_, ?_, ?_, trivial⟩
          all_goals
            intro L x w9 hS hl hp K hK
            have hs : FewS w u5 j xs N V L x w9 := hS
            clear hS ho hb
            have r1 : w9.cell? ⟨bk, o + j * 2, none⟩ = some (.string X) := by rw [(bcell hs.bel).1 _ _ hbk]; exact c1
            have r2 : w9.cell? ⟨bk, o + j * 2 + 1, none⟩ = some (.string Y) := by rw [(bcell hs.bel).1 _ _ hbk]; exact c2
            replace hK := hK.out
            simp only [actMix, pickV, List.tail_cons, List.headD_cons, Act.put, List.setIfInBounds_toArray, List.set_cons_zero, List.set_cons_succ] at hK ⊢
          iterate 6
            · clear hp
              go_simp
              with_reducible refine hK _ ?_
              exact hs.keep _ _ (by decide) (by decide)
          · clear hp
            go_simp
            refine (HCX.out _).mono ?_
            rintro e w' ⟨rfl, rfl⟩
            with_reducible refine hK _ ?_
            exact hs.keep _ _ (by decide) (by decide)
          iterate 5
            · clear hp
              go_simp
              with_reducible refine hK _ ?_
              exact hs.keep _ _ (by decide) (by decide)
          · clear hp
            go_simp
            refine (HCY.out _).mono ?_
            rintro e w' ⟨rfl, rfl⟩
            with_reducible refine hK _ ?_
            exact hs.keep _ _ (by decide) (by decide)
          · clear hp
            go_simp
            with_reducible refine hK _ ?_
            exact hs.keep _ _ (by decide) (by decide)
          · have h15 : L 15 = false := by
              cases h : L 15 with
              | false => rfl
              | true => have := (hs.p15 h).1; rw [hl] at this; cases this
            clear hp
            go_simp
            with_reducible refine hK _ _ ?_
            have hs9 := hs.bel.size
            refine ⟨hs.bel.alloc hs9 _, fun e => (hs.own h15).alloc _, fun _ _ => ⟨w9.heap.size, by simp [updV], cells_new1 w9 N V _⟩, fun h => ?_⟩
            simp [setL, h15] at h
          · have h14 : L 14 = true := allL_mem hp 14 (by decide +kernel)
            obtain ⟨b9, hx9, hc9⟩ := hs.p14 h14 hl
            have ho9 := hs.own hl
            have hs9 := hs.bel.size
            clear hp
            rw [hx9] at hK ⊢
            rw [if_pos (by rfl)]
            refine wp_append_own _ _ _ 22 rfl w.heap.size 53 i0 (.agg #[.string ⟨#[]⟩, .string ⟨#[]⟩]) 2 32 Tryz.underlying22 hi hz0 hz1 hz2 rfl (by decide) _ _ _ rfl ho9 ⟨b9, 0, none⟩ 1 1 [.string N, .string V] rfl rfl hc9 (by intro u hu; simp at hu; rcases hu with rfl | rfl <;> rfl) (by unfold maxLen; omega) (by omega) hs9 ?_
            intro v' w1 hown1 hgrow _
            have hb1 : Below w.heap.size w w1 := hs.bel.grown hgrow hs9 (fun k hk => (ho9.lt k hk).1)
            simp only [Act.put, List.setIfInBounds_toArray, List.set_cons_zero, List.set_cons_succ]
            with_reducible refine hK _ _ ?_
            refine ⟨hb1, fun h => ?_, fun _ h => ?_, fun _ => ⟨by simp [setL, h14], by simpa [updV] using hown1⟩⟩
            · simp [setL] at h
            · simp [setL] at h
        intro L x w9 hS hL
        have hs : FewS w u5 j xs N V L x w9 := hS
        have ho9 := (hs.p15 (hL 15 (by decide))).2
        rw [← hst.out] at ho9
        have HO9 := Lib.hid ho9
        have HB9 := Lib.hid hs.bel
        clear hS hL hs ho9 ho hb
        simp only [actMix, pickV, List.tail_cons, List.headD_cons, Act.put, List.setIfInBounds_toArray, List.set_cons_zero, List.set_cons_succ, List.replicate_succ, List.replicate_zero, List.drop_succ_cons, List.drop_zero, List.take_succ_cons, List.take_zero]
        generalize x 15 = v6 at *
        go_wp2_with fail
        go_roundw
        case rel => exact ⟨j + 1, by omega, by omega, by go_num, hln, HO9, HB9⟩
        case measure => simp [intOf]; omega
      · have hd := HDN.out j hjn hj (.inl hnt)
        rw [hd] at ho hlen
        have hle := hlen.out
        have hne : ¬ ((j : Int) < n) := by omega
        go_wp2_with fail
        go_ret
        exact ⟨_, rfl, ho.out, hb.out⟩
    · have hd := HDN.out j hjn hj (.inr hlt)
      rw [hd] at ho hlen
      have hle := hlen.out
      have hne : ¬ ((j : Int) < fs.length) := by omega
      go_wp2_with fail
      go_ret
      exact ⟨_, rfl, ho.out, hb.out⟩
end Go.Proofs.YtbbphklhnngjmaaGreatDoor

/- fields: slices.Equal, Same. -/
namespace Go.Proofs.YtbbphklhnngjmaaGreatDoor
open Go.RowKit

theorem self_strP (T : ByteArray) : (T.toList == T.toList) = true := by simp
theorem bs_inj {a b : List UInt8} (h : bs a = bs b) : a = b := by rw [← bs_list a, h, bs_list]
theorem bs_beq (a b : List UInt8) : ((bs a).toList == (bs b).toList) = decide (a = b) := by
  rw [str_beq]
  by_cases h : a = b
  · subst h; simp
  · rw [decide_eq_false h, decide_eq_false (fun e => h (bs_inj e))]
theorem takeF_step (xs ys : List Fld) (j : Nat) (hx : j < xs.length) (hy : j < ys.length) (h : xs.take j = ys.take j) (he : xs[j] = ys[j]) : xs.take (j + 1) = ys.take (j + 1) := by
  rw [List.take_add_one, List.take_add_one, h, List.getElem?_eq_getElem hx, List.getElem?_eq_getElem hy, he]
end Go.Proofs.YtbbphklhnngjmaaGreatDoor

/- The walk of the statement FieldsSame. -/
namespace Go.Proofs.YtbbphklhnngjmaaGreatDoor
open Go.RowKit

theorem own_isFldsT {w : World} {base : Nat} {T : TypeId} {v : Value} {fs : List Fld} (h : w.ownsRow base T 2 v fs.length (cellsF fs)) : ∃ a c, v = .slice a fs.length c ∧ (a = none → c = 0 ∧ fs = []) ∧ IsFlds w a c fs := by
  obtain ⟨_, ⟨rfl, h0⟩ | ⟨g, cap, cur, rfl, _, hg, hcap, _, hcs, htk⟩⟩ := h
  · obtain rfl : fs = [] := List.eq_nil_of_length_eq_zero h0
    exact ⟨none, 0, rfl, fun _ => ⟨rfl, rfl⟩, .inl rfl⟩
  · refine ⟨some ⟨g, 0, none⟩, cap, rfl, (fun h => by cases h), .inr ⟨g, 0, rfl, (Array.getElem?_eq_some_iff.1 hg).1, hcap, fun j f hf => ?_⟩⟩
    obtain ⟨g1, g2⟩ := cellsF_at fs j f hf
    have hj := (List.getElem?_eq_some_iff.1 hf).1
    rw [← htk, List.getElem?_take, if_pos (by omega)] at g1 g2
    rw [Nat.zero_add]
    simp only [Array.getElem?_toList] at g1 g2
    exact ⟨by simp [World.cell?, hg, g1], by simp [World.cell?, hg, g2]⟩
theorem fewF_length (fs : List Fld) (n : Nat) : (fewF fs n).length ≤ n := by
  unfold fewF; simp; omega
theorem few39s (a : Option Addr) (c : Nat) (fs : List Fld) (n : Nat) (hn : n ≤ 1000) (hfl : fs.length ≤ 9223372036854775807) (w : World) (hf : IsFlds w a c fs) :
    Calls Tryz.prog 9 #[.slice a fs.length c, .int .i64 n] w fun e w' => ∃ b d, e = .returned (.slice b (fewF fs n).length d) ∧ (b = none → d = 0 ∧ fewF fs n = []) ∧ IsFlds w' b d (fewF fs n) ∧ Below w.heap.size w w' := by
  refine (few39 a c fs n hn hfl w hf).mono ?_
  rintro e w' ⟨u, rfl, ho, hb⟩
  obtain ⟨b, d, rfl, h1, h2⟩ := own_isFldsT ho
  exact ⟨b, d, rfl, h1, h2, hb⟩
theorem own40s (a : Option Addr) (c : Nat) (fs : List Fld) (hfl : fs.length ≤ 1000000) (w : World) (hf : IsFlds w a c fs) :
    Calls Tryz.prog 36 #[.slice a fs.length c] w fun e w' => ∃ b d, e = .returned (.slice b fs.length d) ∧ IsFlds w' b d fs ∧ Below w.heap.size w w' := by
  refine (own40 a c fs hfl w hf).mono ?_
  rintro e w' ⟨u, rfl, ho, hb⟩
  obtain ⟨b, d, rfl, _, h2⟩ := own_isFldsT ho
  exact ⟨b, d, rfl, h2, hb⟩
end Go.Proofs.YtbbphklhnngjmaaGreatDoor

/- The reference's Is and Drop; the law's Is. -/
namespace Go.Proofs.YtbbphklhnngjmaaGreatDoor
open Go.RowKit

/-- Has the field this name? -/
def isB (x : ByteArray) (f : Fld) : Bool := decide (f.1.map lowC = x.data.toList.map lowC)
set_option maxRecDepth 100000 in
set_option maxHeartbeats 2000000 in
theorem is70 (f : Fld) (x : ByteArray) (h1 : f.1.length ≤ 4000000000) (hx : x.size ≤ 4000000000) (q : Bool) (hq : q = isB x f) (w : World) :
    Calls Tryz.prog 56 #[.agg #[.string (bs f.1), .string (bs f.2)], .string x] w fun e w' => e = .returned (.bool q) ∧ Below w.heap.size w w' := by
  have HL1 := Lib.hid (fun W => lower21 (bs f.1) (by rw [bs_size]; omega) W)
  have HL2 := Lib.hid (fun W => lower21 x (by omega) W)
  have hcmp : ((⟨((bs f.1).data.toList.map lowC).toArray⟩ : ByteArray).toList == (⟨(x.data.toList.map lowC).toArray⟩ : ByteArray).toList) = q := by
    rw [hq]
    exact bs_beq (f.1.map lowC) (x.data.toList.map lowC)
  have L0 := below_alloc w (.cells #[.string (bs f.1), .string (bs f.2)] 53)
  have c0 : (w.alloc (.cells #[.string (bs f.1), .string (bs f.2)] 53)).cell? ⟨w.heap.size, 0, none⟩ = some (.string (bs f.1)) := by simp
  clear hq
  generalize (⟨((bs f.1).data.toList.map lowC).toArray⟩ : ByteArray) = P at *
  generalize (⟨(x.data.toList.map lowC).toArray⟩ : ByteArray) = Q at *
  generalize bs f.1 = N at *
  generalize bs f.2 = V at *
  go_enter Tryz.func56, Tryz.ntmps56
  go_wp2_with fail
  generalize World.alloc w _ = w0 at *
  refine (HL1.out w0).mono ?_
  rintro e w1 ⟨rfl, hb1⟩
  have b1 := L0.trans (hb1.mono L0.size)
  go_wp2_with fail
  refine (HL2.out w1).mono ?_
  rintro e w2 ⟨rfl, hb2⟩
  have b2 := b1.trans (hb2.mono b1.size)
  go_wp2_with fail
  go_ret
  exact ⟨rfl, b2⟩
def dropR (x : ByteArray) (fs : List Fld) : List Fld := fs.filter fun f => !isB x f
theorem dropR_step {x : ByteArray} {fs : List Fld} {j : Nat} (hj : j < fs.length) : dropR x (fs.take (j + 1)) = dropR x (fs.take j) ++ if isB x fs[j] = true then [] else [fs[j]] := by
  unfold dropR
  rw [List.take_add_one, List.getElem?_eq_getElem hj, Option.toList_some, List.filter_append]
  congr 1
  cases h : isB x fs[j] <;> simp [h]
theorem dropR_len (x : ByteArray) (fs : List Fld) : (dropR x fs).length ≤ fs.length := List.length_filter_le _ _
set_option maxHeartbeats 4000000 in
set_option maxRecDepth 100000 in
theorem drop54 (a : Option Addr) (c : Nat) (fs : List Fld) (x : ByteArray) (hfl : fs.length ≤ 1000000) (hok : ∀ f ∈ fs, FldOk f) (hx : x.size ≤ 4000000000) (w : World) (hf : IsFlds w a c fs) :
    Calls Tryz.prog 20 #[.slice a fs.length c, .string x] w fun e w' => ∃ u, e = .returned u ∧ w'.ownsRow w.heap.size 53 2 u (dropR x fs).length (cellsF (dropR x fs)) ∧ Below w.heap.size w w' := by
  obtain ⟨i0, hi, hz0, hz1, hz2⟩ := info_parts infoRef
  have HFF := Lib.hid hf
  have HOK := Lib.hid hok
  clear hf hok
  have L0 := Lib.hid (below_alloc w (.cells #[] 53))
  have O0 : Hid ((w.alloc (.cells #[] 53)).ownsRow w.heap.size 53 2 (.slice (some ⟨w.heap.size, 0, none⟩) 0 0) (dropR x (fs.take 0)).length (cellsF (dropR x (fs.take 0)))) := World.ownsRow_lit w #[] 0 (Nat.le_refl _) (by decide) (by simp)
  go_enter Tryz.func20, Tryz.ntmps20
  go_wp2_with fail
  go_loopw [5, 11] (fun v i wr => ∃ j : Nat, j ≤ fs.length ∧ i = .int .i64 (j : Int) ∧ Hid (wr.ownsRow w.heap.size 53 2 v (dropR x (fs.take j)).length (cellsF (dropR x (fs.take j)))) ∧ Hid (Below w.heap.size w wr)) (fun _ i _ => fs.length - (intOf i).toNat)
  case atStart => exact ⟨0, Nat.zero_le _, rfl, O0, L0⟩
  case round =>
    clear O0 L0
    obtain ⟨j, hj, rfl, ho, hb⟩ := hrel
    by_cases hlt : j < fs.length
    · obtain h0 | ⟨bk, o, rfl, hbk, hc, hcell⟩ := HFF.out.below hb.out
      · subst h0; simp at hlt
      obtain ⟨c1, c2⟩ := hcell j fs[j] (by simp [hlt])
      have hst := dropR_step (x := x) hlt
      have hok := HOK.out fs[j] (List.getElem_mem hlt)
      have hdl := dropR_len x (fs.take j)
      rw [List.length_take] at hdl
      obtain ⟨q, hq⟩ : ∃ q, q = isB x fs[j] := ⟨_, rfl⟩
      have HI := Lib.hid (fun W => is70 fs[j] x hok.1 hx q hq W)
      rw [← hq] at hst
      obtain ⟨f, hfe⟩ : ∃ f, f = fs[j] := ⟨_, rfl⟩
      rw [← hfe] at c1 c2 hst HI
      have HST := Lib.hid hst
      clear hcell hfe hq hst hok
      have j1 : (j : Int) < fs.length := by omega
      have hce : cellsF [f] = [.string (bs f.1), .string (bs f.2)] := rfl
      have HCE := Lib.hid hce
      clear hce
      generalize bs f.1 = N at *
      generalize bs f.2 = V at *
      have hgr := hb.out.size
      have hsz : (wr.alloc (.cells #[.string N, .string V] 53)).heap.size = wr.heap.size + 1 := World.size_alloc _ _
      have B1 := Lib.hid (hb.out.alloc hgr (.cells #[.string N, .string V] 53))
      have O1 := Lib.hid (ho.out.alloc (.cells #[.string N, .string V] 53))
      have d1 : (wr.alloc (.cells #[.string N, .string V] 53)).cell? ⟨wr.heap.size, 0, none⟩ = some (.string N) := by simp
      have d2 : (wr.alloc (.cells #[.string N, .string V] 53)).cell? ⟨wr.heap.size, 1, none⟩ = some (.string V) := by simp
      clear ho hb
      go_wp2_with fail
      generalize World.alloc wr _ = wa at *
      refine (HI.out wa).mono ?_
      rintro e wb ⟨rfl, hbb⟩
      have hlta : wr.heap.size < wa.heap.size := by omega
      have e1 : wb.cell? ⟨wr.heap.size, 0, none⟩ = some (.string N) := by rw [(bcell hbb).1 _ _ hlta]; exact d1
      have e2 : wb.cell? ⟨wr.heap.size, 1, none⟩ = some (.string V) := by rw [(bcell hbb).1 _ _ hlta]; exact d2
      have B2 := Lib.hid (B1.out.trans (hbb.mono B1.out.size))
      have O2 := Lib.hid (own_below O1.out hbb)
      clear hbb B1 O1 d1 d2 c1 c2
      cases q
      · have hst2 := HST.out
        rw [if_neg (by simp)] at hst2
        have HO2 : Hid ((wb.alloc (.cells #[.string N, .string V] 53)).ownsRow w.heap.size 53 2 _ (dropR x (fs.take j)).length (cellsF (dropR x (fs.take j)))) := O2.out.alloc _
        have hb2 : Hid (Below w.heap.size w (wb.alloc (.cells #[.string N, .string V] 53))) := B2.out.alloc B2.out.size _
        have HNW := Lib.hid (cells_new1 wb N V 53)
        have hbz := B2.out.size
        have hcc : cellsF (dropR x (fs.take (j + 1))) = cellsF (dropR x (fs.take j)) ++ [.string N, .string V] := by
          rw [hst2, cellsF_append, HCE.out]
        have hll : (dropR x (fs.take (j + 1))).length = (dropR x (fs.take j)).length + 1 := by rw [hst2]; simp
        have HCC := Lib.hid hcc
        have HLL := Lib.hid hll
        clear hst2 hcc hll O2 B2
        obtain ⟨k, hk⟩ : ∃ k, k = (dropR x (fs.take j)).length := ⟨_, rfl⟩
        rw [← hk] at HO2 HLL hdl
        have HKK := Lib.hid hk
        clear hk
        go_wp2_with (at_builtin; refine wpList_append_own _ rfl _ _ 22 rfl w.heap.size 53 i0 (.agg #[.string ⟨#[]⟩, .string ⟨#[]⟩]) 2 32 Tryz.underlying22 hi hz0 hz1 hz2 rfl (by decide) _ _ _ rfl HO2.out ⟨wb.heap.size, 0, none⟩ 1 1 [.string N, .string V] rfl rfl HNW.out (by intro u hu; simp at hu; rcases hu with rfl | rfl <;> rfl) (by unfold maxLen; omega) (by omega) (by simp; omega) ?_)
        intro v' w2 hown' hgrow _
        have hb3 : Hid (Below w.heap.size w w2) := hb2.out.grown hgrow hb2.out.size (fun k hk => (HO2.out.lt k hk).1)
        rw [← HCC.out] at hown'
        have hown2 : w2.ownsRow w.heap.size 53 2 v' (dropR x (fs.take (j + 1))).length (cellsF (dropR x (fs.take (j + 1)))) := by rw [HLL.out]; exact hown'
        have HO3 := Lib.hid hown2
        clear hown' hown2 hgrow hb2 HO2 HNW HCC HLL
        go_wp2_with fail
        go_roundw
        case rel => exact ⟨j + 1, hlt, by go_num, HO3, hb3⟩
        case measure => simp [intOf]; omega
      · have hst2 := HST.out
        rw [if_pos rfl, List.append_nil] at hst2
        have HO3 := O2.out
        rw [← hst2] at HO3
        have HO4 := Lib.hid HO3
        clear hst2 HO3 O2
        go_wp2_with fail
        go_roundw
        case rel => exact ⟨j + 1, hlt, by go_num, HO4, B2⟩
        case measure => simp [intOf]; omega
    · obtain rfl : j = fs.length := by omega
      have ho2 := ho.out
      rw [List.take_of_length_le (Nat.le_refl _)] at ho2
      have HO := Lib.hid ho2
      clear ho ho2
      go_wp2_with fail
      go_ret
      exact ⟨_, rfl, HO.out, hb.out⟩
set_option maxRecDepth 100000 in
set_option maxHeartbeats 2000000 in
theorem lawIs45 (a : Option Addr) (c : Nat) (xs : List Fld) (b : Option Addr) (d : Nat) (ys : List Fld) (R : Bool) (hR : R = decide (xs = ys)) (hlx : xs.length ≤ 1000000000) (hly : ys.length ≤ 1000000000) (w : World) (hx : IsFlds w a c xs) (hy : IsFlds w b d ys) :
    Calls Tryz.prog 25 #[.slice a xs.length c, .slice b ys.length d] w fun e w' => e = .returned (.bool R) ∧ Below w.heap.size w w' := by
  by_cases hsz : xs.length = ys.length
  · have HR := Lib.hid hR
    have hne : ((xs.length : Int) != (ys.length : Int)) = false := by simp [hsz]
    have HS := Lib.hid hsz
    have HX := Lib.hid hx
    have HY := Lib.hid hy
    clear hR hsz hx hy
    go_enter Tryz.func25, Tryz.ntmps25
    go_wp2_with fail
    clear hne
    go_loopw [13] (fun i wr => ∃ j : Nat, j ≤ ys.length ∧ i = .int .i64 (j : Int) ∧ Hid (xs.take j = ys.take j) ∧ Below w.heap.size w wr) (fun i _ => ys.length - (intOf i).toNat)
    case atStart => exact ⟨0, Nat.zero_le _, rfl, rfl, Below.refl _ _⟩
    case round =>
      obtain ⟨j, hj, rfl, hr, hbl⟩ := hrel
      by_cases hlt2 : j < ys.length
      · have hlt : j < xs.length := by have := HS.out; omega
        obtain h0 | ⟨bk, o, rfl, hbk, hc, hcell⟩ := HX.out.below hbl
        · subst h0; simp at hlt
        obtain h0 | ⟨bk2, o2, rfl, hbk2, hc2, hcell2⟩ := HY.out.below hbl
        · subst h0; simp at hlt2
        obtain ⟨cj, cj2⟩ := hcell j xs[j] (by simp [hlt])
        obtain ⟨dj, dj2⟩ := hcell2 j ys[j] (by simp [hlt2])
        have j1 : (j : Int) < xs.length := by omega
        have j2 : (j : Int) < ys.length := by omega
        have hbn : ∀ n, Below w.heap.size w (wr.drewN n) := fun n => hbl.trans ⟨rfl, rfl, rfl, Nat.le_refl _, fun _ _ => rfl⟩
        clear hcell hcell2
        by_cases he : xs[j] = ys[j]
        · have hst := Lib.hid (takeF_step xs ys j hlt hlt2 hr.out he)
          rw [← he] at dj dj2
          generalize bs (xs[j]).1 = N at cj dj
          generalize bs (xs[j]).2 = V at cj2 dj2
          have eN := self_strP N
          have eV := self_strP V
          clear he
          go_wp2_with fail
          go_quiet (fail)
          go_wp2_with fail
          go_roundw
          case rel => exact ⟨j + 1, hlt2, by go_num, hst, hbn _⟩
          case measure => simp [intOf]; omega
        · have hno : Hid (¬ xs = ys) := fun e => he (by subst e; rfl)
          have e1 := bs_beq (xs[j]).1 (ys[j]).1
          have e2 := bs_beq (xs[j]).2 (ys[j]).2
          obtain ⟨f, hf⟩ : ∃ f, f = xs[j] := ⟨_, rfl⟩
          obtain ⟨g, hg⟩ : ∃ g, g = ys[j] := ⟨_, rfl⟩
          rw [← hf, ← hg] at e1 e2 he
          rw [← hf] at cj cj2
          rw [← hg] at dj dj2
          clear hf hg
          obtain ⟨n1, v1⟩ := f
          obtain ⟨n2, v2⟩ := g
          simp only at e1 e2 cj cj2 dj dj2
          have hcase : (decide (n1 = n2) = false) ∨ (decide (n1 = n2) = true ∧ decide (v1 = v2) = false) := by
            by_cases h1 : n1 = n2
            · exact .inr ⟨decide_eq_true h1, decide_eq_false (fun h2 => he (by rw [h1, h2]))⟩
            · exact .inl (decide_eq_false h1)
          generalize decide (n1 = n2) = q1 at *
          generalize decide (v1 = v2) = q2 at *
          generalize bs n1 = N1 at *
          generalize bs n2 = N2 at *
          generalize bs v1 = V1 at *
          generalize bs v2 = V2 at *
          clear he
          rcases hcase with rfl | ⟨rfl, rfl⟩
          · go_wp2_with fail
            go_quiet (fail)
            go_wp2_with fail
            go_ret
            exact ⟨by rw [HR.out, decide_eq_false hno.out]; rfl, hbn _⟩
          · go_wp2_with fail
            go_quiet (fail)
            go_wp2_with fail
            go_ret
            exact ⟨by rw [HR.out, decide_eq_false hno.out]; rfl, hbn _⟩
      · obtain rfl : j = ys.length := by omega
        have h1 := hr.out
        have hs2 := HS.out
        rw [List.take_of_length_le (by omega), List.take_of_length_le (by omega)] at h1
        have H1 := Lib.hid h1
        clear h1 hs2
        go_wp2_with fail
        go_ret
        exact ⟨by rw [HR.out, decide_eq_true H1.out]; rfl, hbl⟩
  · have hno : R = false := by rw [hR]; exact decide_eq_false (fun e => hsz (by rw [e]))
    subst hno
    have hne : ((xs.length : Int) != (ys.length : Int)) = true := by simp; omega
    clear hR hsz hx hy
    go_enter Tryz.func25, Tryz.ntmps25
    go_wp2_with fail
    go_ret
    exact ⟨rfl, Below.refl _ _⟩
end Go.Proofs.YtbbphklhnngjmaaGreatDoor

/- stewardlaw01.Few. -/
namespace Go.Proofs.YtbbphklhnngjmaaGreatDoor
open Go.RowKit

theorem info9 : (Tryz.prog.info? 9).map (fun i => (i.zero, i.size, i.bytes)) = some (some (.string ⟨#[]⟩), 1, 16) := by kernel_rfl

/-- The first few, cut. -/
def fewS (xs : List ByteArray) (n m : Nat) : List ByteArray := (xs.take n).map fun s => cutS s m
/-- What has been collected. -/
def rowOf (xs : List ByteArray) (m j : Nat) : List Value := ((xs.take j).map fun s => cutS s m).map Value.string
theorem rowOf_succ (xs : List ByteArray) (m j : Nat) (h : j < xs.length) : rowOf xs m j ++ [.string (cutS xs[j] m)] = rowOf xs m (j + 1) := by
  unfold rowOf
  rw [List.take_succ_eq_append_getElem h, List.map_append, List.map_append]
  rfl
theorem isStrs_of_row {w : World} {B : Nat} {a : Option Addr} {k c : Nat} {ys : List ByteArray} (h : w.ownsRow B 9 1 (.slice a k c) k (ys.map Value.string)) (hk : ys.length = k) : IsStrs w a c ys := by
  obtain ⟨hl, h | ⟨g, cap, cur, he, hB, hg, hn, _, hs, ht⟩⟩ := h
  · left
    exact List.eq_nil_of_length_eq_zero (by omega)
  · right
    obtain ⟨rfl, _, rfl⟩ : a = some ⟨g, 0, none⟩ ∧ k = k ∧ c = cap := by simpa using he
    have hlt : g < w.heap.size := by
      rcases Nat.lt_or_ge g w.heap.size with h | h
      · exact h
      · rw [Array.getElem?_eq_none h] at hg; cases hg
    refine ⟨g, 0, rfl, hlt, by omega, fun j x hx => ?_⟩
    have h1 : (ys.map Value.string)[j]? = some (.string x) := by rw [List.getElem?_map, hx]; rfl
    have h2 := World.ownsRow.cells (w := w) (base := B) (e := 9) (size := 1) (v := .slice (some ⟨g, 0, none⟩) k c) (n := k) (xs := ys.map Value.string) ⟨hl, .inr ⟨g, c, cur, rfl, hB, hg, hn, by assumption, hs, ht⟩⟩ rfl j _ h1
    rwa [Addr.add_mid] at h2

def FewPostN (w : World) (ys : List ByteArray) (e : Ending) (w' : World) : Prop :=
  ∃ a c, e = .returned (.slice a ys.length c) ∧ IsStrs w' a c ys ∧ (a = none → c = 0) ∧ Below w.heap.size w w'

end Go.Proofs.YtbbphklhnngjmaaGreatDoor

/- fields' Get, Has, Size, All; the reference's All. -/
namespace Go.Proofs.YtbbphklhnngjmaaGreatDoor
open Go.RowKit

theorem has_is (x : ByteArray) (f : Fld) : hasB [x] f = isB x f := by
  unfold hasB isB
  rw [List.any_cons, List.any_nil, Bool.or_false]
  exact decide_eq_decide.2 ⟨fun h => h.symm, fun h => h.symm⟩
/-- All values of a name. -/
def allB (x : ByteArray) (fs : List Fld) : List ByteArray := (fs.filter (isB x)).map fun f => bs f.2
theorem allB_step {x : ByteArray} {fs : List Fld} {j : Nat} (hj : j < fs.length) : allB x (fs.take (j + 1)) = allB x (fs.take j) ++ if isB x fs[j] = true then [bs fs[j].2] else [] := by
  unfold allB
  rw [List.take_add_one, List.getElem?_eq_getElem hj, Option.toList_some, List.filter_append, List.map_append]
  congr 1
  cases h : isB x fs[j] <;> simp [h]
theorem allB_len (x : ByteArray) (fs : List Fld) : (allB x fs).length ≤ fs.length := by
  unfold allB
  rw [List.length_map]
  exact List.length_filter_le _ _
theorem allB_nil {x : ByteArray} {fs : List Fld} (h : ∀ f ∈ fs, hasB [x] f = false) : allB x fs = [] := by
  unfold allB
  rw [List.filter_eq_nil_iff.2 (fun f hf => by rw [← has_is, h f hf]; simp)]
  rfl
theorem allB_first {x : ByteArray} {fs : List Fld} {i : Nat} (hi : i < fs.length) (h : ∀ f ∈ fs.take i, hasB [x] f = false) (hy : hasB [x] fs[i] = true) : ∃ r, allB x fs = bs fs[i].2 :: r := by
  have e : fs = fs.take i ++ fs[i] :: fs.drop (i + 1) := by
    rw [List.getElem_cons_drop, List.take_append_drop]
  refine ⟨allB x (fs.drop (i + 1)), ?_⟩
  conv => lhs; rw [e]
  unfold allB
  rw [List.filter_append, List.filter_eq_nil_iff.2 (fun f hf => by rw [← has_is, h f hf]; simp), List.nil_append, List.filter_cons_of_pos (by rw [← has_is]; exact hy)]
  rfl
/-- The first value; is there one? -/
def getV (l : List ByteArray) : Value := match l with
  | [] => .tuple #[.string ⟨#[]⟩, .bool false]
  | v :: _ => .tuple #[.string v, .bool true]
set_option maxHeartbeats 4000000 in
set_option maxRecDepth 100000 in
theorem rall41 (a : Option Addr) (c : Nat) (fs : List Fld) (x : ByteArray) (hfl : fs.length ≤ 1000000) (hok : ∀ f ∈ fs, FldOk f) (hx : x.size ≤ 4000000000) (w : World) (hf : IsFlds w a c fs) :
    Calls Tryz.prog 49 #[.slice a fs.length c, .string x] w fun e w' => ∃ u, e = .returned u ∧ w'.ownsRow w.heap.size 9 1 u (allB x fs).length ((allB x fs).map Value.string) ∧ Below w.heap.size w w' := by
  obtain ⟨i0, hi, hz0, hz1, hz2⟩ := info_parts info9
  have HFF := Lib.hid hf
  have HOK := Lib.hid hok
  clear hf hok
  have L0 := Lib.hid (below_alloc w (.cells #[] 9))
  have O0 : Hid ((w.alloc (.cells #[] 9)).ownsRow w.heap.size 9 1 (.slice (some ⟨w.heap.size, 0, none⟩) 0 0) (allB x (fs.take 0)).length ((allB x (fs.take 0)).map Value.string)) := World.ownsRow_lit w #[] 0 (Nat.le_refl _) (by decide) (by simp)
  go_enter Tryz.func49, Tryz.ntmps49
  go_wp2_with fail
  go_loopw [5, 11] (fun v i wr => ∃ j : Nat, j ≤ fs.length ∧ i = .int .i64 (j : Int) ∧ Hid (wr.ownsRow w.heap.size 9 1 v (allB x (fs.take j)).length ((allB x (fs.take j)).map Value.string)) ∧ Hid (Below w.heap.size w wr)) (fun _ i _ => fs.length - (intOf i).toNat)
  case atStart => exact ⟨0, Nat.zero_le _, rfl, O0, L0⟩
  case round =>
    clear O0 L0
    obtain ⟨j, hj, rfl, ho, hb⟩ := hrel
    by_cases hlt : j < fs.length
    · have hbw := hb
      obtain h0 | ⟨bk, o, rfl, hbk, hc, hcell⟩ := HFF.out.below hbw.out
      · subst h0; simp at hlt
      obtain ⟨c1, c2⟩ := hcell j fs[j] (by simp [hlt])
      have hst := allB_step (x := x) hlt
      have hok := HOK.out fs[j] (List.getElem_mem hlt)
      have hdl := allB_len x (fs.take j)
      rw [List.length_take] at hdl
      obtain ⟨q, hq⟩ : ∃ q, q = isB x fs[j] := ⟨_, rfl⟩
      have HI := Lib.hid (fun W (_ : True) => is70 fs[j] x hok.1 hx q hq W)
      rw [← hq] at hst
      obtain ⟨f, hfe⟩ : ∃ f, f = fs[j] := ⟨_, rfl⟩
      rw [← hfe] at c1 c2 hst HI
      have HST := Lib.hid hst
      clear hcell hfe hq hst hok
      have j1 : (j : Int) < fs.length := by omega
      generalize bs f.1 = N at *
      generalize bs f.2 = V at *
      have hgr := hb.out.size
      have hsz : (wr.alloc (.cells #[.string N, .string V] 53)).heap.size = wr.heap.size + 1 := World.size_alloc _ _
      have B1 := Lib.hid (hb.out.alloc hgr (.cells #[.string N, .string V] 53))
      have O1 := Lib.hid (ho.out.alloc (.cells #[.string N, .string V] 53))
      have d1 : (wr.alloc (.cells #[.string N, .string V] 53)).cell? ⟨wr.heap.size, 0, none⟩ = some (.string N) := by simp
      have d2 : (wr.alloc (.cells #[.string N, .string V] 53)).cell? ⟨wr.heap.size, 1, none⟩ = some (.string V) := by simp
      clear ho hb
      go_wp2_with fail
      generalize World.alloc wr _ = wa at *
      refine (HI.out wa trivial).mono ?_
      rintro e wb ⟨rfl, hbb⟩
      have hlta : wr.heap.size < wa.heap.size := by omega
      have e1 : wb.cell? ⟨wr.heap.size, 0, none⟩ = some (.string N) := by rw [(bcell hbb).1 _ _ hlta]; exact d1
      have e2 : wb.cell? ⟨wr.heap.size, 1, none⟩ = some (.string V) := by rw [(bcell hbb).1 _ _ hlta]; exact d2
      have B2 := Lib.hid (B1.out.trans (hbb.mono B1.out.size))
      have O2 := Lib.hid (own_below O1.out hbb)
      clear hbb B1 O1 d1 d2 c1 c2
      cases q
      · have hst2 := HST.out
        rw [if_neg (by simp), List.append_nil] at hst2
        have HO3 := O2.out
        rw [← hst2] at HO3
        have HO4 := Lib.hid HO3
        clear hst2 HO3 O2
        go_wp2_with fail
        go_roundw
        case rel => exact ⟨j + 1, hlt, by go_num, HO4, B2⟩
        case measure => simp [intOf]; omega
      · have hst2 := HST.out
        rw [if_pos rfl] at hst2
        have HO2 : Hid ((wb.alloc (.cells #[.string V] 9)).ownsRow w.heap.size 9 1 _ (allB x (fs.take j)).length ((allB x (fs.take j)).map Value.string)) := O2.out.alloc _
        have hb2 : Hid (Below w.heap.size w (wb.alloc (.cells #[.string V] 9))) := B2.out.alloc B2.out.size _
        have hbz := B2.out.size
        have hcc : (allB x (fs.take (j + 1))).map Value.string = (allB x (fs.take j)).map Value.string ++ [.string V] := by
          rw [hst2, List.map_append]; rfl
        have hll : (allB x (fs.take (j + 1))).length = (allB x (fs.take j)).length + 1 := by rw [hst2]; simp
        have HCC := Lib.hid hcc
        have HLL := Lib.hid hll
        clear hst2 hcc hll O2 B2
        obtain ⟨k, hk⟩ : ∃ k, k = (allB x (fs.take j)).length := ⟨_, rfl⟩
        rw [← hk] at HO2 HLL hdl
        clear hk
        go_wp2_with (at_builtin; refine wpList_append_own _ rfl _ _ 88 rfl w.heap.size 9 i0 (.string ⟨#[]⟩) 1 16 Tryz.underlying88 hi hz0 hz1 hz2 rfl (by decide) _ _ _ rfl HO2.out ⟨wb.heap.size, 0, none⟩ 1 1 [.string V] rfl rfl ?c1 ?c2 ?c3 ?c4 ?c5 ?_)
        case c1 => intro i u hu; match i, hu with
          | 0, hu => obtain rfl : Value.string V = u := Option.some.inj hu; rw [Addr.add_mid]; simp
          | i + 1, hu => simp at hu
        case c2 => intro u hu; simp at hu; subst hu; rfl
        case c3 => unfold maxLen; omega
        case c4 => omega
        case c5 => simp; omega
        intro v' w2 hown' hgrow _
        have hb3 : Hid (Below w.heap.size w w2) := hb2.out.grown hgrow hb2.out.size (fun k hk => (HO2.out.lt k hk).1)
        rw [← HCC.out] at hown'
        have hown2 : w2.ownsRow w.heap.size 9 1 v' (allB x (fs.take (j + 1))).length ((allB x (fs.take (j + 1))).map Value.string) := by rw [HLL.out]; exact hown'
        have HO3 := Lib.hid hown2
        clear hown' hown2 hgrow hb2 HO2 HCC HLL
        go_wp2_with fail
        go_roundw
        case rel => exact ⟨j + 1, hlt, by go_num, HO3, hb3⟩
        case measure => simp [intOf]; omega
    · obtain rfl : j = fs.length := by omega
      have ho2 := ho.out
      rw [List.take_of_length_le (Nat.le_refl _)] at ho2
      have HO := Lib.hid ho2
      clear ho ho2
      go_wp2_with fail
      go_ret
      exact ⟨_, rfl, HO.out, hb.out⟩
set_option maxHeartbeats 4000000 in
set_option maxRecDepth 100000 in
theorem all44 (a : Option Addr) (c : Nat) (fs : List Fld) (x : ByteArray) (hfl : fs.length ≤ 1000000) (hok : ∀ f ∈ fs, FldOk f) (w : World) (hf : IsFlds w a c fs) :
    Calls Tryz.prog 43 #[.slice a fs.length c, .string x] w fun e w' => ∃ u, e = .returned u ∧ w'.ownsRow w.heap.size 9 1 u (allB x fs).length ((allB x fs).map Value.string) ∧ Below w.heap.size w w' := by
  obtain ⟨i0, hi, hz0, hz1, hz2⟩ := info_parts info9
  have L0 := Lib.hid (below_alloc w (.cells #[.string x] 9))
  have HFF := Lib.hid (hf.below L0.out)
  have HOK := Lib.hid hok
  have HNM := Lib.hid (isStrs_new1 w x 9)
  have hzz : (w.alloc (.cells #[.string x] 9)).heap.size = w.heap.size + 1 := World.size_alloc _ _
  clear hf hok
  go_enter Tryz.func43, Tryz.ntmps43
  go_wp2_with fail
  obtain ⟨w0, hw0⟩ : ∃ w0, w0 = w.alloc (.cells #[.string x] 9) := ⟨_, rfl⟩
  rw [← hw0] at L0 HFF HNM hzz ⊢
  have HZZ := Lib.hid hzz
  clear hw0 hzz
  go_loopw [6, 14] (fun v i wr => ∃ j : Nat, j ≤ fs.length ∧ i = .int .i64 (j : Int) ∧ Hid (wr.ownsRow w0.heap.size 9 1 v (allB x (fs.take j)).length ((allB x (fs.take j)).map Value.string)) ∧ Hid (Below w0.heap.size w0 wr)) (fun _ i _ => fs.length - (intOf i).toNat)
  case atStart => exact ⟨0, Nat.zero_le _, rfl, World.ownsRow_nil _ _ _ _, Below.refl _ _⟩
  case round =>
    obtain ⟨j, hj, rfl, ho, hb⟩ := hrel
    by_cases hlt : j < fs.length
    · have hbw := hb
      obtain h0 | ⟨bk, o, rfl, hbk, hc, hcell⟩ := HFF.out.below hbw.out
      · subst h0; simp at hlt
      obtain ⟨c1, c2⟩ := hcell j fs[j] (by simp [hlt])
      have hst := allB_step (x := x) hlt
      have hok := HOK.out fs[j] (List.getElem_mem hlt)
      have hdl := allB_len x (fs.take j)
      rw [List.length_take] at hdl
      obtain ⟨q, hq⟩ : ∃ q, q = isB x fs[j] := ⟨_, rfl⟩
      have HI := Lib.hid (fun W h => has72 (some ⟨w.heap.size, 0, none⟩) 1 [x] fs[j] (by simp) hok.1 q (by rw [hq]; exact (has_is x fs[j]).symm) W h)
      unfold fldV at HI
      rw [← hq] at hst
      obtain ⟨f, hfe⟩ : ∃ f, f = fs[j] := ⟨_, rfl⟩
      rw [← hfe] at c1 c2 hst HI
      have HST := Lib.hid hst
      clear hcell hfe hq hst hok
      have j1 : (j : Int) < fs.length := by omega
      generalize bs f.1 = N at *
      generalize bs f.2 = V at *
      have hgr := hb.out.size
      have hsz : (wr.alloc (.cells #[.string N, .string V] 62)).heap.size = wr.heap.size + 1 := World.size_alloc _ _
      have B1 := Lib.hid (hb.out.alloc hgr (.cells #[.string N, .string V] 62))
      have O1 := Lib.hid (ho.out.alloc (.cells #[.string N, .string V] 62))
      have d1 : (wr.alloc (.cells #[.string N, .string V] 62)).cell? ⟨wr.heap.size, 0, none⟩ = some (.string N) := by simp
      have d2 : (wr.alloc (.cells #[.string N, .string V] 62)).cell? ⟨wr.heap.size, 1, none⟩ = some (.string V) := by simp
      clear ho hb
      go_wp2_with fail
      generalize World.alloc wr _ = wa at *
      refine (HI.out wa (HNM.out.below B1.out)).mono ?_
      rintro e wb ⟨rfl, hbb⟩
      have hlta : wr.heap.size < wa.heap.size := by omega
      have e1 : wb.cell? ⟨wr.heap.size, 0, none⟩ = some (.string N) := by rw [(bcell hbb).1 _ _ hlta]; exact d1
      have e2 : wb.cell? ⟨wr.heap.size, 1, none⟩ = some (.string V) := by rw [(bcell hbb).1 _ _ hlta]; exact d2
      have B2 := Lib.hid (B1.out.trans (hbb.mono B1.out.size))
      have O2 := Lib.hid (own_below O1.out hbb)
      clear hbb B1 O1 d1 d2 c1 c2
      cases q
      · have hst2 := HST.out
        rw [if_neg (by simp), List.append_nil] at hst2
        have HO3 := O2.out
        rw [← hst2] at HO3
        have HO4 := Lib.hid HO3
        clear hst2 HO3 O2
        go_wp2_with fail
        go_roundw
        case rel => exact ⟨j + 1, hlt, by go_num, HO4, B2⟩
        case measure => simp [intOf]; omega
      · have hst2 := HST.out
        rw [if_pos rfl] at hst2
        have HO2 : Hid ((wb.alloc (.cells #[.string V] 9)).ownsRow w0.heap.size 9 1 _ (allB x (fs.take j)).length ((allB x (fs.take j)).map Value.string)) := O2.out.alloc _
        have hb2 : Hid (Below w0.heap.size w0 (wb.alloc (.cells #[.string V] 9))) := B2.out.alloc B2.out.size _
        have hbz := B2.out.size
        have hcc : (allB x (fs.take (j + 1))).map Value.string = (allB x (fs.take j)).map Value.string ++ [.string V] := by
          rw [hst2, List.map_append]; rfl
        have hll : (allB x (fs.take (j + 1))).length = (allB x (fs.take j)).length + 1 := by rw [hst2]; simp
        have HCC := Lib.hid hcc
        have HLL := Lib.hid hll
        clear hst2 hcc hll O2 B2
        obtain ⟨k, hk⟩ : ∃ k, k = (allB x (fs.take j)).length := ⟨_, rfl⟩
        rw [← hk] at HO2 HLL hdl
        clear hk
        go_wp2_with (at_builtin; refine wpList_append_own _ rfl _ _ 88 rfl w0.heap.size 9 i0 (.string ⟨#[]⟩) 1 16 Tryz.underlying88 hi hz0 hz1 hz2 rfl (by decide) _ _ _ rfl HO2.out ⟨wb.heap.size, 0, none⟩ 1 1 [.string V] rfl rfl ?c1 ?c2 ?c3 ?c4 ?c5 ?_)
        case c1 => intro i u hu; match i, hu with
          | 0, hu => obtain rfl : Value.string V = u := Option.some.inj hu; rw [Addr.add_mid]; simp
          | i + 1, hu => simp at hu
        case c2 => intro u hu; simp at hu; subst hu; rfl
        case c3 => unfold maxLen; omega
        case c4 => omega
        case c5 => simp; omega
        intro v' w2 hown' hgrow _
        have hb3 : Hid (Below w0.heap.size w0 w2) := hb2.out.grown hgrow hb2.out.size (fun k hk => (HO2.out.lt k hk).1)
        rw [← HCC.out] at hown'
        have hown2 : w2.ownsRow w0.heap.size 9 1 v' (allB x (fs.take (j + 1))).length ((allB x (fs.take (j + 1))).map Value.string) := by rw [HLL.out]; exact hown'
        have HO3 := Lib.hid hown2
        clear hown' hown2 hgrow hb2 HO2 HCC HLL
        go_wp2_with fail
        go_roundw
        case rel => exact ⟨j + 1, hlt, by go_num, HO3, hb3⟩
        case measure => simp [intOf]; omega
    · obtain rfl : j = fs.length := by omega
      have ho2 := ho.out
      rw [List.take_of_length_le (Nat.le_refl _)] at ho2
      have HO := Lib.hid ho2
      clear ho ho2
      go_wp2_with fail
      go_ret
      exact ⟨_, rfl, own_mono HO.out (by have := HZZ.out; omega), L0.out.trans (hb.out.mono L0.out.size)⟩
end Go.Proofs.YtbbphklhnngjmaaGreatDoor

