/- maglev.Table: Size, At, Pick, Shares. -/
import Derived.Test.YtlcpkplipfcdaaaDoorMgG
import Derived.BigQuiet
namespace Go.Proofs.YtlcpkplipfcdaaaDoor
open Go.RowKit

/-- Every owner is nobody, or a name's place. -/
def OwnOk (n m : Nat) (own : Nat → Int) : Prop := ∀ q, q < m → own q = -1 ∨ (0 ≤ own q ∧ own q < n)
/-- The name at a place. -/
def atN (ns : List ByteArray) (m : Nat) (own : Nat → Int) (p : Int) : ByteArray :=
  if p < 0 ∨ (m : Int) ≤ p then ⟨#[]⟩ else if own p.toNat = -1 then ⟨#[]⟩ else (ns[(own p.toNat).toNat]?).getD ⟨#[]⟩
theorem TableAt.below {w w' : World} {tb m : Nat} {ns : List ByteArray} {own : Nat → Int} (h : TableAt w tb ns m own) (hb : Below w.heap.size w w') : TableAt w' tb ns m own := by
  obtain ⟨a, c, ob, h1, h2, h3, h4, h5, h6⟩ := h
  obtain ⟨b1, b2⟩ := bcell hb
  exact ⟨a, c, ob, by rw [b1 _ _ h5]; exact h1, by rw [b1 _ _ h5]; exact h2, h3.below hb, h4.keep h6 hb, Nat.lt_of_lt_of_le h5 hb.size, Nat.lt_of_lt_of_le h6 hb.size⟩
theorem Assigned.ok {k : Nat → UInt8} {es : List Ent} {m : Nat} {own : Nat → Int} (h : Assigned k es m own) (hp : primeB m = true) (hv : ∀ e ∈ es, okW e = true) : OwnOk es.length m own := by
  intro q _
  rcases h with ⟨_, rfl⟩ | ⟨hne, T, _, rfl⟩
  · exact .inl rfl
  · exact (Par.run_inv (parOf_ok (k := k) hne hp hv).1 T).rng q
set_option maxHeartbeats 1000000 in
theorem size11 (tb m : Nat) (ns : List ByteArray) (own : Nat → Int) (w : World) (h : TableAt w tb ns m own) :
    Calls Tryd.prog 15 #[.pointer (some ⟨tb, 0, none⟩)] w fun e w' => e = .returned (.int .i64 (m : Int)) ∧ w' = w := by
  obtain ⟨a, c, ob, h1, h2, h3, h4, h5, h6⟩ := h
  clear h3 h4
  go_enter Tryd.func15, Tryd.ntmps15
  go_wp2_with fail
  go_ret
  exact ⟨rfl, rfl⟩
set_option maxRecDepth 100000 in
set_option maxHeartbeats 2000000 in
theorem at13 (tb m : Nat) (ns : List ByteArray) (hn : ns.length ≤ 1000) (own : Nat → Int) (hok : OwnOk ns.length m own) (p : Int) (w : World) (h : TableAt w tb ns m own) :
    Calls Tryd.prog 17 #[.pointer (some ⟨tb, 0, none⟩), .int .i64 p] w fun e w' => e = .returned (.string (atN ns m own p)) ∧ Below w.heap.size w w' := by
  obtain ⟨a, c, ob, h1, h2, h3, h4, h5, h6⟩ := h
  have H3 := Lib.hid h3
  have H4 := Lib.hid h4
  have HK := Lib.hid hok
  clear h3 h4 hok
  by_cases p0 : p < 0
  · have HR : Hid (atN ns m own p = ⟨#[]⟩) := if_pos (.inl p0)
    go_enter Tryd.func17, Tryd.ntmps17
    go_wp2_with fail
    go_ret
    exact ⟨by rw [HR.out]; rfl, Below.refl _ _⟩
  by_cases p1 : (m : Int) ≤ p
  · have HR : Hid (atN ns m own p = ⟨#[]⟩) := if_pos (.inr p1)
    go_enter Tryd.func17, Tryd.ntmps17
    go_wp2_with fail
    go_ret
    exact ⟨by rw [HR.out]; rfl, Below.refl _ _⟩
  obtain ⟨q, rfl⟩ : ∃ q : Nat, p = (q : Int) := ⟨p.toNat, by omega⟩
  have hq : q < m := by omega
  have hoc := (H4.out q hq).1
  have q1 : (q : Int) < m := by omega
  by_cases ho : own q = -1
  · have HR : Hid (atN ns m own (q : Int) = ⟨#[]⟩) := by
      show _ = _
      unfold atN
      rw [if_neg (by omega), Int.toNat_natCast, if_pos ho]
    rw [ho] at hoc
    go_enter Tryd.func17, Tryd.ntmps17
    go_wp2_with fail
    go_ret
    exact ⟨by rw [HR.out]; rfl, Below.refl _ _⟩
  obtain ⟨i, hi⟩ : ∃ i : Nat, own q = (i : Int) := ⟨(own q).toNat, by have := HK.out q hq; omega⟩
  have hil : i < ns.length := by have := HK.out q hq; omega
  have HR : Hid (atN ns m own (q : Int) = ns[i]) := by
    show _ = _
    unfold atN
    rw [if_neg (by omega), Int.toNat_natCast, if_neg ho, hi, Int.toNat_natCast, List.getElem?_eq_getElem hil, Option.getD_some]
  rw [hi] at hoc
  obtain h0 | ⟨bk, o, rfl, hbk, hc, hcell⟩ := H3.out
  · subst h0; simp at hil
  have hcs := hcell i ns[i] (List.getElem?_eq_getElem hil)
  have i1 : (i : Int) < ns.length := by omega
  have i2 : ((i : Int) == -1) = false := by rw [beq_eq_false_iff_ne]; omega
  generalize ns[i] = N at *
  clear hcell ho hi
  go_enter Tryd.func17, Tryd.ntmps17
  go_upto_region 3 with fail
  go_quiet (fail)
  go_wp2_with fail
  go_ret
  exact ⟨by rw [HR.out]; rfl, ⟨rfl, rfl, rfl, Nat.le_refl _, fun _ _ => rfl⟩⟩
/-- How many of the first places an entry has. -/
def shN (own : Nat → Int) (i j : Nat) : Nat := cntF (fun q => decide (own q = (i : Int))) j
theorem shN_step (own : Nat → Int) (i j : Nat) : shN own i (j + 1) = shN own i j + (if own j = (i : Int) then 1 else 0) := by
  unfold shN
  rw [cntF]
  by_cases h : own j = (i : Int) <;> simp [h]
theorem shN_le (own : Nat → Int) (i j : Nat) : shN own i j ≤ j := cntF_le _ _
def shV (n : Nat) (own : Nat → Int) (j : Nat) : List Value := (List.range n).map fun i => .int .i64 (shN own i j : Nat)
theorem shV_at {n : Nat} {own : Nat → Int} {i j : Nat} (h : i < n) : (shV n own j)[i]? = some (.int .i64 (shN own i j : Nat)) := by simp [shV, h]
theorem shV_none {n : Nat} {own : Nat → Int} {j : Nat} (h : own j = -1) : shV n own (j + 1) = shV n own j := by
  unfold shV
  refine List.map_congr_left fun i _ => ?_
  rw [shN_step, if_neg (by omega)]; rfl
theorem shV_put {n : Nat} {own : Nat → Int} {i j : Nat} (h : own j = (i : Int)) : (shV n own j).toArray.setIfInBounds i (.int .i64 ((shN own i j : Nat) + 1)) = (shV n own (j + 1)).toArray := by
  rw [List.setIfInBounds_toArray]
  congr 1
  refine List.ext_getElem? fun q => ?_
  rw [List.getElem?_set]
  by_cases hq : q < n
  · rw [shV_at hq, shV_at hq]
    by_cases e : i = q
    · subst e
      rw [if_pos rfl, if_pos (by simpa [shV] using hq), shN_step, if_pos h]; rfl
    · rw [if_neg e, shN_step, if_neg (by omega)]; rfl
  · have h1 : ∀ j, (shV n own j)[q]? = none := fun j => List.getElem?_eq_none (by simp [shV]; omega)
    rw [h1, h1]
    split
    · rw [if_neg (by simp [shV]; omega)]
    · rfl
theorem shV_zero (n : Nat) (own : Nat → Int) : shV n own 0 = List.replicate n (.int .i64 0) := by
  refine List.ext_getElem? fun q => ?_
  rcases Nat.lt_or_ge q n with h | h
  · rw [shV_at h]; simp [h, shN, cntF]
  · rw [List.getElem?_eq_none (by simpa [shV] using h), List.getElem?_eq_none (by simpa using h)]
set_option maxRecDepth 100000 in
set_option maxHeartbeats 2000000 in
theorem shares16 (tb m : Nat) (hm : m ≤ 1048576) (ns : List ByteArray) (hn : ns.length ≤ 1000) (own : Nat → Int) (hok : OwnOk ns.length m own) (w : World) (h : TableAt w tb ns m own) :
    Calls Tryd.prog 20 #[.pointer (some ⟨tb, 0, none⟩)] w fun e w' => ∃ sb, e = .returned (.slice (some ⟨sb, 0, none⟩) ns.length ns.length) ∧ Row w' sb 3 (shV ns.length own m).toArray ∧ Below w.heap.size w w' := by
  obtain ⟨i0, hi, hz0, hz1, hz2⟩ := info_parts infoInt
  have hrm := run_make (P := Tryd.prog) w 46 3 i0 (.int .i64 0) Tryd.underlying46 hi hz0 .i64 .i64 ns.length ns.length (by omega) (by omega) (by rw [hz2]; omega) (by omega)
  rw [hz1, Int.toNat_natCast, Nat.mul_one] at hrm
  have hcl : madeCells (Value.int .i64 0).cells ns.length = (shV ns.length own 0).toArray := by
    apply Array.toList_inj.1
    rw [shV_zero]
    exact toList_madeCells_one (Value.int .i64 0) ns.length
  rw [hcl] at hrm
  clear hz0 hz1 hz2 hi hcl
  have HK := Lib.hid hok
  obtain ⟨a, c, ob, h1, h2, h3, h4, h5, h6⟩ := h
  have H4 := Lib.hid h4
  clear h3 h4 hok
  obtain ⟨W0, hW0⟩ : ∃ W0, W0 = w.alloc (.cells (shV ns.length own 0).toArray 3) := ⟨_, rfl⟩
  obtain ⟨sb, hsb⟩ : ∃ sb, sb = w.heap.size := ⟨_, rfl⟩
  have HR0 : Hid (Row W0 sb 3 (shV ns.length own 0).toArray) := by rw [hW0, hsb]; exact Row.new w _ _
  have HB0 : Hid (Below w.heap.size w W0) := by rw [hW0]; exact below_alloc w _
  have HSB : Hid (w.heap.size ≤ sb) := by rw [hsb]; exact Nat.le_refl w.heap.size
  have g2 : W0.cell? ⟨tb, 1, none⟩ = some (.slice (some ⟨ob, 0, none⟩) m m) := by rw [(bcell HB0.out).1 _ _ h5]; exact h2
  rw [← hW0, ← hsb] at hrm
  clear hW0 hsb
  go_enter Tryd.func20, Tryd.ntmps20
  go_wp2_with fail
  clear hrm g2 h1 h2
  go_loopw [17] (fun i wr => ∃ j : Nat, j ≤ m ∧ i = .int .i64 (j : Int) ∧ Hid (Row wr sb 3 (shV ns.length own j).toArray) ∧ Hid (Below w.heap.size w wr)) (fun i _ => m - (intOf i).toNat)
  case atStart => exact ⟨0, Nat.zero_le _, rfl, HR0, HB0⟩
  case round =>
    clear HR0 HB0
    obtain ⟨j, hj, rfl, HR, HB⟩ := hrel
    by_cases hlt : j < m
    · have g4 : wr.cell? ⟨ob, j, none⟩ = some (.int .i64 (own j)) := by rw [(bcell HB.out).1 _ _ h6]; exact (H4.out j hlt).1
      have j1 : (j : Int) < m := by omega
      by_cases ho : own j = -1
      · have HN := Lib.hid (shV_none (n := ns.length) ho)
        rw [ho] at g4
        clear ho
        go_wp2_with fail
        go_roundw
        case rel => exact ⟨j + 1, hlt, by go_num, by rw [HN.out]; exact HR, HB⟩
        case measure => simp [intOf]; omega
      · obtain ⟨i, hi⟩ : ∃ i : Nat, own j = (i : Int) := ⟨(own j).toNat, by have := HK.out j hlt; omega⟩
        have hil : i < ns.length := by have := HK.out j hlt; omega
        have HP := Lib.hid (shV_put (n := ns.length) hi)
        have hle := shN_le own i j
        rw [hi] at g4
        have i1 : (i : Int) < ns.length := by omega
        have i2 : ((i : Int) != -1) = true := by rw [bne_iff_ne]; omega
        have gc : wr.cell? ⟨sb, i, none⟩ = some (.int .i64 (shN own i j : Nat)) := by rw [HR.out.cell i, List.getElem?_toArray, shV_at hil]
        have gf := HR.out.free i
        have HR2 := Lib.hid (HR.out.put i (.int .i64 ((shN own i j : Nat) + 1)))
        rw [HP.out] at HR2
        have HB2 := Lib.hid (HB.out.setCell (p := ⟨sb, i, none⟩) HSB.out (.int .i64 ((shN own i j : Nat) + 1)))
        have hw := wrapI ((shN own i j : Nat) + 1) (by omega) (by omega)
        generalize shN own i j = z at *
        clear ho hi HP
        go_wp2_with fail
        go_roundw
        case rel => exact ⟨j + 1, hlt, by go_num, HR2, HB2⟩
        case measure => simp [intOf]; omega
    · obtain rfl : j = m := by omega
      have hne : ¬ (j : Int) < j := by omega
      go_wp2_with fail
      go_ret
      exact ⟨sb, rfl, HR.out, HB.out⟩
end Go.Proofs.YtlcpkplipfcdaaaDoor
