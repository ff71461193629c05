/- Packed: PqA, MgG, MgT, Cut, MgO, MgK, MgQ. -/
import Derived.IntWalk
import Derived.BigQuiet
import Derived.Lib.IndexBytes
import Derived.Lib.SlicesS
import Derived.Test.YtklfpnnnoaaiaabGreatDoorG00
import Derived.Test.YtklfpnnnoaaiaabGreatDoorG01
import Derived.Test.YtklfpnnnoaaiaabGreatDoorG03
import Derived.Test.YtklfpnnnoaaiaabGreatDoorG05
/- prime: leastDivisor, modulo, Is, Gcd; the reference's Is, Gcd, Mod. -/
namespace Go.Proofs.YtklfpnnnoaaiaabGreatDoor
open Go.RowKit

theorem tmodN (a b : Nat) : ((a : Int).tmod (b : Int)) = ((a % b : Nat) : Int) := by rw [Int.tmod_eq_emod_of_nonneg (by omega)]; rfl
theorem tdivN (a b : Nat) : ((a : Int).tdiv (b : Int)) = ((a / b : Nat) : Int) := by rw [Int.tdiv_eq_ediv_of_nonneg (by omega)]; rfl
theorem sq_le {d n m : Nat} (h : d * d ≤ n) (hn : n < m * m) : d < m := by
  rcases Nat.lt_or_ge d m with hl | hl
  · exact hl
  · have := Nat.mul_le_mul hl hl; omega
theorem dvd_of_rem {n d : Nat} (h : ((n % d : Nat) : Int) = 0) : d ∣ n := Nat.dvd_of_mod_eq_zero (by omega)
theorem ndvd_of_rem {n d : Nat} (h : ¬ ((n % d : Nat) : Int) = 0) : ¬ d ∣ n := fun hd => h (by rw [Nat.mod_eq_zero_of_dvd hd]; rfl)
set_option maxHeartbeats 1000000 in
theorem least20 (n : Nat) (h2 : 2 ≤ n) (hm : n ≤ 1048576) (w : World) :
    Calls Tryz.prog 38 #[.int .i64 (n : Int)] w fun e w' => ∃ p : Nat, e = .returned (.int .i64 (p : Int)) ∧ LD n p ∧ w' = w := by
  go_enter Tryz.func38, Tryz.ntmps38
  go_wp2_with fail
  go_loopw [3] (fun d wr => ∃ D : Nat, 2 ≤ D ∧ D ≤ 1025 ∧ d = .int .i64 (D : Int) ∧ NoDiv n D ∧ wr = w) (fun d _ => 1025 - (intOf d).toNat)
  case atStart => exact ⟨2, by omega, by omega, rfl, NoDiv.two n, rfl⟩
  case round =>
    obtain ⟨D, hD2, hDm, rfl, hnd, rfl⟩ := hrel
    have hsq := Nat.mul_le_mul hDm hDm
    have em : (D : Int) * (D : Int) = ((D * D : Nat) : Int) := by simp
    have ew : wrap64 ((D * D : Nat) : Int) = ((D * D : Nat) : Int) := by unfold wrap64; omega
    have er := tmodN n D
    have hz : ¬ (D : Int) = 0 := by omega
    by_cases hc : D * D ≤ n
    · have hD := sq_le (m := 1025) hc (by omega)
      have hc' : ((D * D : Nat) : Int) ≤ (n : Int) := by omega
      by_cases hd : D ∣ n
      · have hr0 : ((n % D : Nat) : Int) = 0 := by rw [Nat.mod_eq_zero_of_dvd hd]; rfl
        have hl := hnd.hit hD2 hd
        have hr1 : ((n : Int).tmod (D : Int)) = 0 := by rw [er, hr0]
        clear er hr0 hd hnd
        generalize D * D = Q at *
        go_wp2_with fail
        go_ret
        exact ⟨D, rfl, hl, rfl⟩
      · have hr0 : ¬ ((n % D : Nat) : Int) = 0 := fun h => hd (dvd_of_rem h)
        have hs := hnd.step hd
        generalize n % D = R at *
        generalize D * D = Q at *
        go_wp2_with fail
        go_roundw
        case rel => exact ⟨D + 1, by omega, by omega, by go_num, hs, by trivial⟩
        case measure => simp [intOf]; omega
    · have hl := hnd.stop h2 (by omega)
      have hc' : ¬ ((D * D : Nat) : Int) ≤ (n : Int) := by omega
      clear hc er
      generalize D * D = Q at *
      go_wp2_with fail
      go_ret
      exact ⟨n, rfl, hl, rfl⟩
set_option maxHeartbeats 1000000 in
theorem refis11 (n : Int) (w : World) :
    Calls Tryz.prog 23 #[.int .i64 n] w fun e w' => e = .returned (.bool (isP n)) ∧ w' = w := by
  by_cases h2 : n < 2
  · rw [isP_low h2]
    go_enter Tryz.func23, Tryz.ntmps23
    go_wp2_with fail
    go_ret
    exact ⟨rfl, rfl⟩
  by_cases hm : 1048576 < n
  · rw [isP_high hm]
    go_enter Tryz.func23, Tryz.ntmps23
    go_wp2_with fail
    go_ret
    exact ⟨rfl, rfl⟩
  obtain ⟨n, rfl⟩ := Int.eq_ofNat_of_zero_le (show 0 ≤ n by omega)
  have h2 : 2 ≤ n := by omega
  have hm : n ≤ 1048576 := by omega
  rw [isP_mid h2 hm]
  have g1 : ¬ ((n : Int) < 2) := by omega
  have g2 : ¬ ((1048576 : Int) < n) := by omega
  go_enter Tryz.func23, Tryz.ntmps23
  go_wp2_with fail
  go_loopw [3] (fun d wr => ∃ D : Nat, 2 ≤ D ∧ D ≤ 1025 ∧ d = .int .i64 (D : Int) ∧ NoDiv n D ∧ wr = w) (fun d _ => 1025 - (intOf d).toNat)
  case atStart => exact ⟨2, by omega, by omega, rfl, NoDiv.two n, rfl⟩
  case round =>
    obtain ⟨D, hD2, hDm, rfl, hnd, rfl⟩ := hrel
    have hsq := Nat.mul_le_mul hDm hDm
    have em : (D : Int) * (D : Int) = ((D * D : Nat) : Int) := by simp
    have ew : wrap64 ((D * D : Nat) : Int) = ((D * D : Nat) : Int) := by unfold wrap64; omega
    have er := tmodN n D
    have hz : ¬ (D : Int) = 0 := by omega
    by_cases hc : D * D ≤ n
    · have hD := sq_le (m := 1025) hc (by omega)
      have hc' : ((D * D : Nat) : Int) ≤ (n : Int) := by omega
      by_cases hd : D ∣ n
      · have hr0 : ((n % D : Nat) : Int) = 0 := by rw [Nat.mod_eq_zero_of_dvd hd]; rfl
        have hl := NoDiv.not hD2 hd hc
        have hr1 : ((n : Int).tmod (D : Int)) = 0 := by rw [er, hr0]
        clear er hr0 hd hnd
        generalize D * D = Q at *
        have HL := Lib.hid hl
        clear hl
        go_wp2_with fail
        go_ret
        exact ⟨by rw [HL.out]; rfl, rfl⟩
      · have hr0 : ¬ ((n % D : Nat) : Int) = 0 := fun h => hd (dvd_of_rem h)
        have hs := hnd.step hd
        generalize n % D = R at *
        generalize D * D = Q at *
        go_wp2_with fail
        go_roundw
        case rel => exact ⟨D + 1, by omega, by omega, by go_num, hs, by trivial⟩
        case measure => simp [intOf]; omega
    · have hl := hnd.prime (by omega) (by omega)
      have hc' : ¬ ((D * D : Nat) : Int) ≤ (n : Int) := by omega
      clear hc er
      generalize D * D = Q at *
      have HL := Lib.hid hl
      clear hl
      go_wp2_with fail
      go_ret
      exact ⟨by rw [HL.out]; rfl, rfl⟩
theorem is17 (n : Int) (w : World) :
    Calls Tryz.prog 24 #[.int .i64 n] w fun e w' => e = .returned (.bool (isP n)) ∧ w' = w := by
  by_cases h2 : n < 2
  · rw [isP_low h2]
    have g : ¬ (1 : Int) < n := by omega
    go_enter Tryz.func24, Tryz.ntmps24
    go_wp2_with fail
    go_ret
    exact ⟨rfl, rfl⟩
  by_cases hm : 1048576 < n
  · rw [isP_high hm]
    have g : (1 : Int) < n := by omega
    have g2 : ¬ n ≤ 1048576 := by omega
    go_enter Tryz.func24, Tryz.ntmps24
    go_wp2_with fail
    go_ret
    exact ⟨rfl, rfl⟩
  obtain ⟨n, rfl⟩ := Int.eq_ofNat_of_zero_le (show 0 ≤ n by omega)
  have g : (1 : Int) < n := by omega
  have g2 : (n : Int) ≤ 1048576 := by omega
  have HL := least20 n (by omega) (by omega) w
  have HI := Lib.hid (fun p hp => isP_LD (n := n) (p := p) (by omega) (by omega) hp)
  go_enter Tryz.func24, Tryz.ntmps24
  go_wp2_with fail
  refine HL.mono ?_
  rintro e w' ⟨p, rfl, hp, rfl⟩
  have HH := Lib.hid (HI.out p hp)
  clear hp HI
  go_wp2_with fail
  go_ret
  exact ⟨by rw [HH.out]; rfl, rfl⟩
theorem tmod_fix (n m : Int) (hm : 0 < m) (hm2 : m ≤ 1048576) : wrap64 (n.tmod m + m) = n.tmod m + m ∧ (n.tmod m + m).tmod m = n % m := by
  have h1 := Int.tmod_lt_of_pos n hm
  have h2 := Int.lt_tmod_of_pos n hm
  refine ⟨by unfold wrap64; omega, ?_⟩
  rw [Int.tmod_eq_emod_of_nonneg (by omega)]
  have h3 := Int.mul_tdiv_add_tmod n m
  have h4 : n.tmod m + m = n + m * (1 - n.tdiv m) := by rw [Int.mul_sub]; omega
  rw [h4, Int.add_mul_emod_self_left]
theorem mod21 (n m : Int) (hm : 0 < m) (hm2 : m ≤ 1048576) (w : World) :
    Calls Tryz.prog 22 #[.int .i64 n, .int .i64 m] w fun e w' => e = .returned (.int .i64 (n % m)) ∧ w' = w := by
  obtain ⟨h1, h2⟩ := tmod_fix n m hm hm2
  have hz : ¬ m = 0 := by omega
  have HR : Hid (n % m = n % m) := rfl
  go_enter Tryz.func22, Tryz.ntmps22
  go_wp2_with fail
  go_ret
  exact ⟨rfl, rfl⟩
/-- A number below 0 counts as 0. -/
def natI (a : Int) : Nat := a.toNat
def gcdI (a b : Int) : Nat := Nat.gcd (natI a) (natI b)
end Go.Proofs.YtklfpnnnoaaiaabGreatDoor

/- maglev.Build (written by genmgg.py). -/
namespace Go.Proofs.YtklfpnnnoaaiaabGreatDoor
open Go.RowKit

/-- What an assignment is made of, of sorted entries. -/
def parOf (k : Nat → UInt8) (es : List Ent) (m : Nat) : Par where
  n := es.length
  m := m
  G := gm (fun i => ((es[i]?.map fun e => e.2.toNat).getD 0)) es.length
  W := fun i => (es[i]?.map fun e => e.2.toNat).getD 0
  F := fun i => (es[i]?.map fun e => firstN k e.1 m).getD 0
  S := fun i => (es[i]?.map fun e => stepN k e.1 m).getD 0
/-- The owners that the document asks for. -/
def Assigned (k : Nat → UInt8) (es : List Ent) (m : Nat) (own : Nat → Int) : Prop :=
  (es = [] ∧ own = fun _ => -1) ∨ (es ≠ [] ∧ ∃ T, ((parOf k es m).run T).cnt = m ∧ own = ((parOf k es m).run T).own)
theorem parOf_W {k : Nat → UInt8} {es : List Ent} {m i : Nat} (hi : i < es.length) : (parOf k es m).W i = es[i].2.toNat := by
  show Option.getD (Option.map _ es[i]?) 0 = _
  rw [List.getElem?_eq_getElem hi, Option.map_some, Option.getD_some]
theorem parOf_F {k : Nat → UInt8} {es : List Ent} {m i : Nat} (hi : i < es.length) : (parOf k es m).F i = firstN k es[i].1 m := by
  show Option.getD (Option.map _ es[i]?) 0 = _
  rw [List.getElem?_eq_getElem hi, Option.map_some, Option.getD_some]
theorem parOf_S {k : Nat → UInt8} {es : List Ent} {m i : Nat} (hi : i < es.length) : (parOf k es m).S i = stepN k es[i].1 m := by
  show Option.getD (Option.map _ es[i]?) 0 = _
  rw [List.getElem?_eq_getElem hi, Option.map_some, Option.getD_some]
theorem okW_range {e : Ent} (h : okW e = true) : 1 ≤ e.2 ∧ e.2 ≤ 65535 := by unfold okW at h; simpa using h
theorem parOf_ok {k : Nat → UInt8} {es : List Ent} {m : Nat} (hne : es ≠ []) (hp : primeB m = true) (hv : ∀ e ∈ es, okW e = true) :
    (parOf k es m).Ok ∧ (∀ i, i < es.length → (parOf k es m).S i < m) ∧ (parOf k es m).G ≤ 65535 := by
  have hm2 := (primeB_spec hp).1
  have hw : ∀ i, i < es.length → 1 ≤ (parOf k es m).W i ∧ (parOf k es m).W i ≤ 65535 := fun i hi => by
    rw [parOf_W hi]
    have := okW_range (hv _ (List.getElem_mem hi))
    omega
  refine ⟨⟨List.length_pos_iff.2 hne, hm2, fun i hi => ?_, fun i hi => ⟨(hw i hi).1, gm_ge hi⟩, gm_mem (List.length_pos_iff.2 hne)⟩, fun i hi => ?_, gm_le fun i hi => (hw i hi).2⟩
  · have hi : i < es.length := hi
    rw [parOf_S hi]
    exact prime_coprime hp (stepN_lt k _ hm2).1 (stepN_lt k _ hm2).2
  · rw [parOf_S hi]; exact (stepN_lt k _ hm2).2
/-- A table in memory. -/
def TableAt (w : World) (tb : Nat) (ns : List ByteArray) (m : Nat) (own : Nat → Int) : Prop :=
  ∃ a c ob, w.cell? ⟨tb, 0, none⟩ = some (.slice a ns.length c) ∧ w.cell? ⟨tb, 1, none⟩ = some (.slice (some ⟨ob, 0, none⟩) m m) ∧ IsStrs w a c ns ∧ OwnersAt w ob m own ∧ tb < w.heap.size ∧ ob < w.heap.size
/-- The claims' cells. -/
def cellsC (k : Nat → UInt8) (m : Nat) (es : List Ent) : List Value := es.flatMap fun e => [.int .i64 e.2, .int .i64 0, .int .i64 (firstN k e.1 m : Nat), .int .i64 (stepN k e.1 m : Nat)]
theorem cellsC_append (k : Nat → UInt8) (m : Nat) (a b : List Ent) : cellsC k m (a ++ b) = cellsC k m a ++ cellsC k m b := by simp only [cellsC, List.flatMap_append]
theorem cellsC_step {k : Nat → UInt8} {m : Nat} {es : List Ent} {j : Nat} (hj : j < es.length) : cellsC k m (es.take (j + 1)) = cellsC k m (es.take j) ++ [.int .i64 es[j].2, .int .i64 0, .int .i64 (firstN k es[j].1 m : Nat), .int .i64 (stepN k es[j].1 m : Nat)] := by
  rw [List.take_add_one, List.getElem?_eq_getElem hj, Option.toList_some, cellsC_append]
  rfl
theorem cellsC_at (k : Nat → UInt8) (m : Nat) : ∀ (es : List Ent) (j : Nat) (e : Ent), es[j]? = some e → (cellsC k m es)[j * 4]? = some (.int .i64 e.2) ∧ (cellsC k m es)[j * 4 + 1]? = some (.int .i64 0) ∧ (cellsC k m es)[j * 4 + 2]? = some (.int .i64 (firstN k e.1 m : Nat)) ∧ (cellsC k m es)[j * 4 + 3]? = some (.int .i64 (stepN k e.1 m : Nat))
  | [], j, e, h => by cases j <;> cases h
  | x :: es, 0, e, h => by
    simp at h; subst h
    exact ⟨rfl, rfl, rfl, rfl⟩
  | x :: es, j + 1, e, h => by
    have := cellsC_at k m es j e (by simpa using h)
    rw [show (j + 1) * 4 = j * 4 + 1 + 1 + 1 + 1 by omega]
    exact this
/-- Owned claims are claims in memory. -/
theorem claims_own {k : Nat → UInt8} {es : List Ent} {m : Nat} (hm : 0 < m) (hv : ∀ e ∈ es, okW e = true) {w : World} {base cb c n : Nat} (h : w.ownsRow base 65 4 (.slice (some ⟨cb, 0, none⟩) n c) es.length (cellsC k m es)) :
    n = es.length ∧ base ≤ cb ∧ cb < w.heap.size ∧ ClaimsAt w cb (parOf k es m) (fun _ => 0) (fun _ => 0) := by
  obtain ⟨_, ⟨hx, _⟩ | ⟨g, cap, cur, hx, hb, hg, hcap, _, hcs, htk⟩⟩ := h
  · injection hx with h1; cases h1
  · injection hx with h1 h2 h3
    obtain rfl : cb = g := by injection h1 with h1; injection h1
    subst h2
    have hat : ∀ (j : Nat) u, (cellsC k m es)[j]? = some u → j < es.length * 4 → w.cell? ⟨cb, j, none⟩ = some u := fun j u hu hj => by
      rw [← htk, List.getElem?_take, if_pos hj] at hu
      simpa [World.cell?, hg] using hu
    refine ⟨rfl, hb, (Array.getElem?_eq_some_iff.1 hg).1, ?_⟩
    have key := fun (i : Nat) (hi : i < es.length) => cellsC_at k m es i es[i] (List.getElem?_eq_getElem hi)
    refine ⟨fun i hi => ?_, fun i hi => ?_, fun i hi => ?_, fun i hi => ?_, fun j _ => Row.free (w := w) (g := cb) hg j⟩
    all_goals
      have hi : i < es.length := hi
      obtain ⟨k0, k1, k2, k3⟩ := key i hi
    · rw [parOf_W hi]
      have := okW_range (hv _ (List.getElem_mem hi))
      rw [hat _ _ k0 (by omega), Int.toNat_of_nonneg (by omega)]
    · exact hat _ _ k1 (by omega)
    · rw [hat _ _ k2 (by omega)]
      have : (parOf k es m).pl i 0 = firstN k es[i].1 m := by
        unfold Par.pl
        rw [parOf_F hi, Nat.zero_mul, Nat.add_zero]
        exact Nat.mod_eq_of_lt (firstN_lt k _ hm)
      rw [this]
    · rw [hat _ _ k3 (by omega), parOf_S hi]
theorem own_zero {w : World} {base : Nat} {e : TypeId} {n m : Nat} {v : Value} {xs : List Value} (h : w.ownsRow base e n v m xs) : w.ownsRow 0 e n v m xs := by
  obtain ⟨hl, h0 | ⟨g, cap, cur, rfl, hb, r⟩⟩ := h
  · exact ⟨hl, .inl h0⟩
  · exact ⟨hl, .inr ⟨g, cap, cur, rfl, Nat.zero_le _, r⟩⟩
theorem own_two {w : World} {base : Nat} {e e' : TypeId} {n n' m m' : Nat} {v v' : Value} {xs xs' : List Value} (h : w.ownsRow base e n v m xs) (h' : w.ownsRow base e' n' v' m' xs') (hne : e ≠ e') : v.ownBlock = none ∨ v.ownBlock ≠ v'.ownBlock := by
  obtain ⟨_, ⟨rfl, _⟩ | ⟨g, cap, cur, rfl, _, hg, _⟩⟩ := h
  · exact .inl (by simp [Value.ownBlock])
  · refine .inr fun e1 => ?_
    exact own_ne (own_zero h') (show Row w g e cur from hg) (Ne.symm hne) (by rw [← e1]; simp [Value.ownBlock])
theorem ownB_keep {w w' : World} {base : Nat} {G : Nat → Prop} {e : TypeId} {n m : Nat} {v : Value} {xs : List Value} (h : w.ownsRow base e n v m xs) (hk : Keep G w w') (hg : ∀ k, v.ownBlock = some k → ¬ G k) : w'.ownsRow base e n v m xs := by
  obtain ⟨hl, h0 | ⟨g, cap, cur, rfl, hb, hc, r⟩⟩ := h
  · exact ⟨hl, .inl h0⟩
  · exact ⟨hl, .inr ⟨g, cap, cur, rfl, hb, (hk.block g (Array.getElem?_eq_some_iff.1 hc).1 (hg g rfl)).trans hc, r⟩⟩
theorem keep_grown {w2 w w1 : World} {tb : Nat} {v : Value} {e : TypeId} {n m : Nat} {xs : List Value} (h : Keep (fun x => x = tb) w2 w) (ho : w.ownsRow w2.heap.size e n v m xs) (hg : w.grownBy w1 v.ownBlock) : Keep (fun x => x = tb) w2 w1 := by
  refine ⟨hg.os.trans h.os, hg.tape.trans h.tape, hg.output.trans h.output, Nat.le_trans h.size hg.size, fun k hk hn => ?_⟩
  rw [hg.block k (Nat.lt_of_lt_of_le hk h.size) (fun e1 => ?_)]
  · exact h.block k hk hn
  · have := (ho.lt k e1.symm).1
    omega
/-- What Build has, when it has come to an entry. -/
structure BdS (w2 : World) (tb : Nat) (j i : Nat) (xs ys : List Value) (v q : Value) (w : World) : Prop where
  row : Row w tb 60 #[v, .slice none 0 0]
  nms : w.ownsRow w2.heap.size 9 1 v j xs
  cls : w.ownsRow w2.heap.size 65 4 q i ys
  keep : Keep (fun x => x = tb) w2 w
theorem BdS.below {w2 : World} {tb j i : Nat} {xs ys : List Value} {v q : Value} {w w' : World} (h : BdS w2 tb j i xs ys v q w) (hb : Below w.heap.size w w') : BdS w2 tb j i xs ys v q w' :=
  ⟨h.row.below hb, ownB_keep h.nms (Keep.of_below hb) (fun _ _ h => h), ownB_keep h.cls (G := fun _ => False) (Keep.of_below hb) (fun _ _ h => h), h.keep.trans (Keep.of_below hb)⟩
theorem BdS.drew {w2 : World} {tb j i : Nat} {xs ys : List Value} {v q : Value} {w : World} (h : BdS w2 tb j i xs ys v q w) : BdS w2 tb j i xs ys v q w.drew :=
  ⟨h.row, h.nms.drew, h.cls.drew, h.keep.trans (Keep.drew w)⟩
theorem BdS.lt {w2 : World} {tb j i : Nat} {xs ys : List Value} {v q : Value} {w : World} (h : BdS w2 tb j i xs ys v q w) : tb < w.heap.size := h.row.lt
/-- The names have grown. -/
theorem BdS.names {w2 : World} {tb j i : Nat} {xs ys : List Value} {v q : Value} {w w1 : World} (h : BdS w2 tb j i xs ys v q w) (htb : tb < w2.heap.size) (hg : w.grownBy w1 v.ownBlock) :
    Row w1 tb 60 #[v, .slice none 0 0] ∧ w1.ownsRow w2.heap.size 65 4 q i ys ∧ Keep (fun x => x = tb) w2 w1 :=
  ⟨h.row.grown hg (fun e => by have := (h.nms.lt tb e).1; omega), h.cls.kept hg (own_two h.cls h.nms (by decide)), keep_grown h.keep h.nms hg⟩
/-- The claims have grown. -/
theorem BdS.claims {w2 : World} {tb j i : Nat} {xs ys : List Value} {v q : Value} {w w1 : World} (h : BdS w2 tb j i xs ys v q w) (htb : tb < w2.heap.size) (hg : w.grownBy w1 q.ownBlock) :
    Row w1 tb 60 #[v, .slice none 0 0] ∧ w1.ownsRow w2.heap.size 9 1 v j xs ∧ Keep (fun x => x = tb) w2 w1 :=
  ⟨h.row.grown hg (fun e => by have := (h.cls.lt tb e).1; omega), h.nms.kept hg (own_two h.nms h.cls (by decide)), keep_grown h.keep h.cls hg⟩
/-- What holds while a name is appended. -/
structure NmS (W w2 : World) (tb eb j : Nat) (xs ys : List Value) (v q : Value) (N : ByteArray) (V : Int) (L : Nat → Bool) (x : Nat → Value) (w : World) : Prop where
  row : Row w tb 60 #[v, .slice none 0 0]
  box : Row w eb 63 #[.string N, .int .i64 V]
  cls : w.ownsRow w2.heap.size 65 4 q j ys
  keep : Keep (fun x => x = tb) w2 w
  z7 : L 7 = false → w = W ∧ L 8 = false
  z8 : L 8 = false → w.ownsRow w2.heap.size 9 1 v j xs
  z6 : L 7 = true → L 8 = false → ∀ k u, [Value.string N][k]? = some u → w.cell? ((⟨W.heap.size, 0, none⟩ : Addr).add k) = some u
  z9 : L 8 = true → w.ownsRow w2.heap.size 9 1 (x 8) (j + 1) (xs ++ [.string N])
theorem NmS.next {W w2 : World} {tb eb j : Nat} {xs ys : List Value} {v q : Value} {N : ByteArray} {V : Int} {L : Nat → Bool} {x : Nat → Value} {w : World} (h : NmS W w2 tb eb j xs ys v q N V L x w) (i : Nat) (u : Value) (h7 : i ≠ 7) (h8 : i ≠ 8) : NmS W w2 tb eb j xs ys v q N V (setL L i) (updV x i u) w := by
  have e7 : setL L i 7 = L 7 := by simp [setL, Ne.symm h7]
  have e8 : setL L i 8 = L 8 := by simp [setL, Ne.symm h8]
  have ex : updV x i u 8 = x 8 := by simp [updV, Ne.symm h8]
  exact ⟨h.row, h.box, h.cls, h.keep, by rw [e7, e8]; exact h.z7, by rw [e8]; exact h.z8, by rw [e7, e8]; exact h.z6, by rw [e8, ex]; exact h.z9⟩
theorem isKey_row {w : World} {b : Nat} {T : TypeId} {k : Nat → UInt8} (h : Row w b T #[.int .u8 (k 0).toNat, .int .u8 (k 1).toNat, .int .u8 (k 2).toNat, .int .u8 (k 3).toNat, .int .u8 (k 4).toNat, .int .u8 (k 5).toNat, .int .u8 (k 6).toNat, .int .u8 (k 7).toNat, .int .u8 (k 8).toNat, .int .u8 (k 9).toNat, .int .u8 (k 10).toNat, .int .u8 (k 11).toNat, .int .u8 (k 12).toNat, .int .u8 (k 13).toNat, .int .u8 (k 14).toNat, .int .u8 (k 15).toNat]) : IsKey w b k := by
  intro i hi
  have h16 : i = 0 ∨ i = 1 ∨ i = 2 ∨ i = 3 ∨ i = 4 ∨ i = 5 ∨ i = 6 ∨ i = 7 ∨ i = 8 ∨ i = 9 ∨ i = 10 ∨ i = 11 ∨ i = 12 ∨ i = 13 ∨ i = 14 ∨ i = 15 := by omega
  rw [h.cell i]
  rcases h16 with rfl | rfl | rfl | rfl | rfl | rfl | rfl | rfl | rfl | rfl | rfl | rfl | rfl | rfl | rfl | rfl <;> rfl
theorem Ini.keep {G : Nat → Prop} {w w' : World} (h : Ini w) (hk : Keep G w w') (hg : ¬ G 0) : Ini w' := by
  have hc := fun o => keep_cell hk h.lt hg o
  exact ⟨by have := h.lt; have := hk.size; omega, by rw [hc]; exact h.c0, by rw [hc]; exact h.c1, by rw [hc]; exact h.c2, by rw [hc]; exact h.c3⟩
theorem cells_str (w : World) (N : ByteArray) (T : TypeId) : ∀ (k : Nat) u, [Value.string N][k]? = some u → (w.alloc (.cells #[.string N] T)).cell? ((⟨w.heap.size, 0, none⟩ : Addr).add k) = some u := by
  intro k u hu
  rw [Addr.add_mid]
  match k, hu with
  | 0, hu => obtain rfl := Option.some.inj hu; simp
  | k + 1, hu => simp at hu
theorem cells_clm (w : World) (a b c d : Value) (T : TypeId) : ∀ (k : Nat) u, [a, b, c, d][k]? = some u → (w.alloc (.cells #[a, b, c, d] T)).cell? ((⟨w.heap.size, 0, none⟩ : Addr).add k) = some u := by
  intro k u hu
  rw [Addr.add_mid]
  match k, hu with
  | 0, hu => obtain rfl := Option.some.inj hu; simp
  | 1, hu => obtain rfl := Option.some.inj hu; simp
  | 2, hu => obtain rfl := Option.some.inj hu; simp
  | 3, hu => obtain rfl := Option.some.inj hu; simp
  | k + 4, hu => simp at hu
theorem clm_one (a b c d : Int) : ∀ u ∈ [Value.int .i64 a, .int .i64 b, .int .i64 c, .int .i64 d], u.oneCell' = true := by intro u hu; simp at hu; rcases hu with rfl | rfl | rfl | rfl <;> rfl
theorem infoClm : (Tryz.prog.info? 65).map (fun i => (i.zero, i.size, i.bytes)) = some (some (.agg #[.int .i64 0, .int .i64 0, .int .i64 0, .int .i64 0]), 4, 32) := by kernel_rfl
theorem infoSt : (Tryz.prog.info? 9).map (fun i => (i.zero, i.size, i.bytes)) = some (some (.string ⟨#[]⟩), 1, 16) := by kernel_rfl
def nmsV (es : List Ent) : List Value := es.map fun e => Value.string e.1
theorem nmsV_step {es : List Ent} {j : Nat} (hj : j < es.length) : nmsV (es.take (j + 1)) = nmsV (es.take j) ++ [.string es[j].1] := by
  rw [List.take_add_one, List.getElem?_eq_getElem hj, Option.toList_some]
  simp only [nmsV, List.map_append, List.map_cons, List.map_nil]
theorem isStrs_ownM {w : World} {base : Nat} {e : TypeId} {a : Option Addr} {m c : Nat} {ns : List ByteArray} (h : w.ownsRow base e 1 (.slice a m c) ns.length (ns.map Value.string)) : m = ns.length ∧ IsStrs w a c ns := by
  obtain ⟨_, ⟨hv, h0⟩ | ⟨g, cap, cur, hv, hb, hg, hcap, _, hcs, htk⟩⟩ := h
  · injection hv with h1 h2 h3
    exact ⟨by omega, .inl (List.eq_nil_of_length_eq_zero h0)⟩
  · injection hv with h1 h2 h3
    have hlt : g < w.heap.size := (Array.getElem?_eq_some_iff.1 hg).1
    subst h1 h2 h3
    refine ⟨rfl, .inr ⟨g, 0, rfl, hlt, hcap, fun j e' he => ?_⟩⟩
    have hj : j < ns.length := by
      rcases Nat.lt_or_ge j ns.length with h | h
      · exact h
      · rw [List.getElem?_eq_none h] at he; cases he
    have q1 : (ns.map Value.string)[j]? = some (.string e') := by rw [List.getElem?_map, he]; rfl
    rw [← htk, List.getElem?_take, if_pos (by omega)] at q1
    rw [Nat.zero_add]
    simp only [World.cell?, hg]
    simpa [Array.getElem?_toList] using q1
/-- What Build ends with. -/
theorem table_end {w w2 w3 w6 : World} {tb : Nat} {es : List Ent} {ys : List Value} {v q : Value} {i cbk ob m : Nat} {own : Nat → Int} (hb : Below w.heap.size w w2) (h0 : w.heap.size ≤ tb) (htb : tb < w2.heap.size) (hD : BdS w2 tb es.length i (nmsV es) ys v q w3) (hc : w2.heap.size ≤ cbk) (hcv : v.ownBlock ≠ some cbk) (hk : Keep (fun k => k = cbk) w3 w6) (hO : OwnersAt w6 ob m own) (ho1 : w3.heap.size ≤ ob) (ho2 : ob < w6.heap.size) :
    TableAt (w6.setCell ⟨tb, 1, none⟩ (.slice (some ⟨ob, 0, none⟩) m m)) tb (es.map (·.1)) m own ∧ Below w.heap.size w (w6.setCell ⟨tb, 1, none⟩ (.slice (some ⟨ob, 0, none⟩) m m)) ∧ w6.cell? ⟨tb, 1, none⟩ = some (.slice none 0 0) ∧ w6.frozen? ⟨tb, 1, none⟩ = false := by
  have hR6 : Row w6 tb 60 #[v, .slice none 0 0] := hD.row.keep hk (by intro e; have e : tb = cbk := e; omega)
  have hRF := hR6.put 1 (.slice (some ⟨ob, 0, none⟩) m m)
  have hkb := Keep.setCell (G := fun y => y = tb) w6 (p := ⟨tb, 1, none⟩) rfl (.slice (some ⟨ob, 0, none⟩) m m)
  have hN6 : w6.ownsRow w2.heap.size 9 1 v es.length (nmsV es) := ownB_keep hD.nms hk (fun y hy e => hcv (by rw [hy, e]))
  have hNF := ownB_keep hN6 hkb (fun y hy e => by have := (hN6.lt y hy).1; have e : y = tb := e; omega)
  obtain ⟨a, c, rfl⟩ := own_slice hNF
  have hne : tb ≠ ob := by have := hD.row.lt; omega
  have hNF2 : (w6.setCell ⟨tb, 1, none⟩ (.slice (some ⟨ob, 0, none⟩) m m)).ownsRow w2.heap.size 9 1 (.slice a es.length c) (es.map (·.1)).length ((es.map (·.1)).map Value.string) := by
    rw [List.length_map, List.map_map]
    exact hNF
  refine ⟨⟨a, c, ob, ?_, ?_, (isStrs_ownM hNF2).2, hO.far hne 1 _, hRF.lt, ?_⟩, ?_, ?_, hR6.free 1⟩
  · rw [hRF.cell, List.length_map]; rfl
  · rw [hRF.cell]; rfl
  · exact Nat.lt_of_lt_of_le ho2 hkb.size
  · have b1 : Below w.heap.size w2 w3 := hD.keep.bel (fun y hy => by have hy : y = tb := hy; omega) hb.size
    have b2 : Below w.heap.size w3 w6 := hk.bel (fun y hy => by have hy : y = cbk := hy; have := hb.size; omega) (Nat.le_trans hb.size b1.size)
    have b3 : Below w.heap.size w6 _ := hkb.bel (fun y hy => by have hy : y = tb := hy; omega) (Nat.le_trans hb.size (Nat.le_trans b1.size b2.size))
    exact ((hb.trans b1).trans b2).trans b3
  · rw [hR6.cell]; rfl
/-- A slice of entries lies in no table. -/
theorem ents_ne {w : World} {a : Option Addr} {c : Nat} {es : List Ent} {tb : Nat} {v u : Value} (h : IsEnts w a c es) (ht : Row w tb 60 #[v, u]) (hv : ∀ s, v ≠ .string s) (hu : ∀ s, u ≠ .string s) (hne : es ≠ []) : ∀ p, a = some p → ¬ p.block = tb := by
  intro p hp e
  obtain h | ⟨bk, o, ha, _, _, hcell⟩ := h
  · exact hne h
  · rw [ha] at hp; injection hp with hp
    subst hp
    have e : bk = tb := e
    obtain ⟨x, es', rfl⟩ : ∃ x es', es = x :: es' := by cases es with
      | nil => exact absurd rfl hne
      | cons x es' => exact ⟨x, es', rfl⟩
    have h0 := (hcell 0 x rfl).1
    rw [e, ht.cell] at h0
    match hh : o + 0 * 2, h0 with
    | 0, h0 => simp at h0; exact hv _ h0
    | 1, h0 => simp at h0; exact hu _ h0
    | n + 2, h0 => simp at h0
set_option maxRecDepth 100000 in
set_option maxHeartbeats 4000000 in
theorem build8 (k : Nat → UInt8) (es : List Ent) (hl : es.length ≤ 6) (hz : ∀ e ∈ es, e.1.size ≤ 1000) (m : Nat) (hm : m ≤ 1048576) (hp : primeB m = true) (h100 : 100 * es.length ≤ m) (hv : validB es = true) (a : Option Addr) (c : Nat) (w : World) (hI : Ini w) (hf : IsEnts w a c es) :
    Calls Tryz.prog 10 #[keyVal k, .slice a es.length c, .int .i64 (m : Int)] w fun e w' => ∃ tb own es', e = .returned (.tuple #[.pointer (some ⟨tb, 0, none⟩), .int .i64 0]) ∧ es'.Perm es ∧ SortedE es' ∧ Assigned k es' m own ∧ TableAt w' tb (es'.map (·.1)) m own ∧ Below w.heap.size w w' := by
  have hm2 := (primeB_spec hp).1
  have hq := is17 (m : Int)
  rw [isP_mid hm2 hm, hp] at hq
  have HQ : Hid (∀ w, Calls Tryz.prog 24 #[.int .i64 (m : Int)] w fun e w' => e = .returned (.bool true) ∧ w' = w) := hq
  clear hq
  have hb0 := below_alloc w (.cells #[.int .u8 (k 0).toNat, .int .u8 (k 1).toNat, .int .u8 (k 2).toNat, .int .u8 (k 3).toNat, .int .u8 (k 4).toNat, .int .u8 (k 5).toNat, .int .u8 (k 6).toNat, .int .u8 (k 7).toNat, .int .u8 (k 8).toNat, .int .u8 (k 9).toNat, .int .u8 (k 10).toNat, .int .u8 (k 11).toNat, .int .u8 (k 12).toNat, .int .u8 (k 13).toNat, .int .u8 (k 14).toNat, .int .u8 (k 15).toNat] 25)
  have R0 := Row.new w 25 #[.int .u8 (k 0).toNat, .int .u8 (k 1).toNat, .int .u8 (k 2).toNat, .int .u8 (k 3).toNat, .int .u8 (k 4).toNat, .int .u8 (k 5).toNat, .int .u8 (k 6).toNat, .int .u8 (k 7).toNat, .int .u8 (k 8).toNat, .int .u8 (k 9).toNat, .int .u8 (k 10).toNat, .int .u8 (k 11).toNat, .int .u8 (k 12).toNat, .int .u8 (k 13).toNat, .int .u8 (k 14).toNat, .int .u8 (k 15).toNat]
  generalize hW : w.alloc (.cells #[.int .u8 (k 0).toNat, .int .u8 (k 1).toNat, .int .u8 (k 2).toNat, .int .u8 (k 3).toNat, .int .u8 (k 4).toNat, .int .u8 (k 5).toNat, .int .u8 (k 6).toNat, .int .u8 (k 7).toNat, .int .u8 (k 8).toNat, .int .u8 (k 9).toNat, .int .u8 (k 10).toNat, .int .u8 (k 11).toNat, .int .u8 (k 12).toNat, .int .u8 (k 13).toNat, .int .u8 (k 14).toNat, .int .u8 (k 15).toNat] 25) = W0 at hb0 R0
  have hV := valid24 a c es (by omega) (fun e he => by have := hz e he; unfold maxLen; omega) W0 (hf.below hb0)
  rw [hv] at hV
  have HV := Lib.hid hV
  have HF0 := Lib.hid (hf.below hb0)
  have HB0 := Lib.hid hb0
  have HI0 := Lib.hid (hI.below hb0)
  have HR0 := Lib.hid R0
  have HIL : Hid (0 < w.heap.size) := hI.lt
  have HZ := Lib.hid hz
  clear hV hf hb0 hI R0 hz
  unfold keyVal
  have m1 : ¬ ((1024 : Int) < (es.length : Int)) := by omega
  have m2 : ¬ ((m : Int) < 100 * (es.length : Int)) := by omega
  go_enter Tryz.func10, Tryz.ntmps10
  have HWH := Lib.hid hW
  clear hW
  go_wp2_with (go_at_call 24; refine (HQ.out _).mono ?_; rintro e w' ⟨rfl, rfl⟩; rw [HWH.out])
  obtain ⟨i0, hi, hz0, hz1, hz2⟩ := info_parts infoSt
  obtain ⟨i1, hi1, hy0, hy1, hy2⟩ := info_parts infoClm
  have HI8 := Lib.hid hi
  have HZ0 := Lib.hid hz0
  have HZ1 := Lib.hid hz1
  have HZ2 := Lib.hid hz2
  have HI9 := Lib.hid hi1
  have HY0 := Lib.hid hy0
  have HY1 := Lib.hid hy1
  have HY2 := Lib.hid hy2
  clear hi hz0 hz1 hz2 hi1 hy0 hy1 hy2
  go_upto_region 5 with (go_at_call 25; refine HV.out.mono ?_; rintro e w' ⟨rfl, hB1⟩; have HI1 := Lib.hid (HI0.out.below hB1); have HR1 := Lib.hid (HR0.out.below hB1); have HF1 := Lib.hid (HF0.out.below hB1); have HB1 := Lib.hid (HB0.out.trans (hB1.mono HB0.out.size)); clear hB1 HV HI0 HR0 HF0 HB0)
  have hba := below_alloc w' (.cells #[.slice none 0 0, .slice none 0 0] 60)
  have RT := Row.new w' 60 #[.slice none 0 0, .slice none 0 0]
  have HI2 := Lib.hid (HI1.out.below hba)
  have HR2 := Lib.hid (HR1.out.below hba)
  have HB2 := Lib.hid (HB1.out.trans (hba.mono HB1.out.size))
  have hS := sorted25 c a es (by omega) _ (HF1.out.below hba)
  have HTB : Hid (w.heap.size ≤ w'.heap.size) := HB1.out.size
  have HNE : Hid (w.heap.size ≠ w'.heap.size) := by show _ ≠ _; have := HR1.out.lt; omega
  clear hba HI1 HR1 HF1 HB1
  generalize w'.alloc (.cells #[.slice none 0 0, .slice none 0 0] 60) = W1 at *
  generalize w'.heap.size = tb at *
  have HS := Lib.hid hS
  have HT := Lib.hid RT
  clear hS RT
  go_wp2_with (go_at_call 26; refine HS.out.mono ?_; rintro e w2 ⟨a2, c2, es', rfl, hperm, hsort, hE, hB2⟩)
  have hlen : es.length = es'.length := hperm.length_eq.symm
  have HP := Lib.hid hperm
  have HSO := Lib.hid hsort
  have HE := Lib.hid hE
  have HI3 := Lib.hid (HI2.out.below hB2)
  have HR3 := Lib.hid (HR2.out.below hB2)
  have HT3 := Lib.hid (HT.out.below hB2)
  have HB3 := Lib.hid (HB2.out.trans (hB2.mono HB2.out.size))
  clear hperm hsort hE hB2 HI2 HR2 HT HB2 HS
  have hl2 : es'.length ≤ 6 := by omega
  rw [hlen]
  have HLEN := Lib.hid hlen
  have HVA : Hid (∀ e ∈ es', okW e = true ∧ e.1.size ≤ 1000) := fun e he => by
    have he2 := (HP.out.mem_iff).1 he
    refine ⟨?_, HZ.out e he2⟩
    unfold validB at hv
    rw [Bool.and_eq_true, List.all_eq_true] at hv
    exact hv.1 e he2
  have HTL : Hid (tb < w2.heap.size ∧ w.heap.size < w2.heap.size) := ⟨HT3.out.lt, HR3.out.lt⟩
  have HT4 : Hid (BdS w2 tb 0 0 (nmsV (es'.take 0)) (cellsC k m (es'.take 0)) (.slice none 0 0) (.slice none 0 0) w2) := ⟨HT3.out, World.ownsRow_nil _ _ _ _, World.ownsRow_nil _ _ _ _, Keep.refl _ _⟩
  clear hlen HZ hv hl h100
  go_loopw [9, 37] (fun q i wr => ∃ (j : Nat) (v : Value), j ≤ es'.length ∧ i = .int .i64 (j : Int) ∧ Hid (j = 0 → q = .slice none 0 0) ∧ Hid (BdS w2 tb j j (nmsV (es'.take j)) (cellsC k m (es'.take j)) v q wr)) (fun _ i _ => es'.length - (intOf i).toNat)
  case atStart => exact ⟨0, _, Nat.zero_le _, rfl, fun _ => rfl, HT4⟩
  case round =>
    clear HT4
    obtain ⟨j, v, hj, rfl, HQ0, HD⟩ := hrel
    by_cases hlt : j < es'.length
    · have hne : es' ≠ [] := by intro e; rw [e] at hlt; simp at hlt
      have htl := HTL.out
      obtain h0 | ⟨bk, o, rfl, hbk, hc, hcell⟩ := HE.out.keep HD.out.keep (ents_ne HE.out HT3.out (by intro s; simp) (by intro s; simp) hne)
      · exact absurd h0 hne
      obtain ⟨c1, c2⟩ := hcell j es'[j] (by simp [hlt])
      have hva := HVA.out es'[j] (List.getElem_mem hlt)
      have HNS := Lib.hid (nmsV_step hlt)
      have HCS := Lib.hid (cellsC_step (k := k) (m := m) hlt)
      have j1 : (j : Int) < es'.length := by omega
      generalize es'[j] = e at *
      obtain ⟨N, V⟩ := e
      simp only at c1 c2 hva HNS HCS
      have HVN := Lib.hid hva.2
      have HD1 := Lib.hid (HD.out.below (below_alloc wr (.cells #[.string N, .int .i64 V] 63)))
      have HBX := Lib.hid (Row.new wr 63 #[.string N, .int .i64 V])
      have HEB : Hid (w2.heap.size ≤ wr.heap.size) := HD.out.keep.size
      have HBK := Lib.hid hbk
      clear hcell hva hbk
      go_upto_region 8 with fail
      clear HD c1 c2
      generalize wr.alloc (.cells #[.string N, .int .i64 V] 63) = Wa at *
      generalize wr.heap.size = eb at *
      generalize nmsV (es'.take j) = xs at *
      generalize cellsC k m (es'.take j) = ys at *
      refine region_mixt 9 [some (.pointer (some ⟨tb, 0, none⟩)), some (.pointer (some ⟨tb, 0, none⟩)), some (.pointer (some ⟨tb, 0, none⟩)), some (.pointer (some ⟨tb, 0, none⟩)), some (v), some (.pointer (some ⟨eb, 0, none⟩)), some (.string N), some (.slice (some ⟨Wa.heap.size, 0, none⟩) 1 1), none]
        [[false, false, false, false, false, false, false, false, false], [false, false, false, false, false, false, false, false, false], [false, true, false, false, false, false, false, false, false], [false, false, true, false, false, false, false, false, false], [false, false, false, true, false, false, false, false, false], [false, false, false, false, false, false, false, false, false], [false, false, false, false, false, true, false, false, false], [false, false, false, false, false, false, true, false, false], [false, false, false, false, true, false, false, true, false]]
        (fun LL xx w9 => NmS Wa.drew w2 tb eb j xs ys v u9 N V LL xx w9)
        (by kernel_rfl) (by kernel_rfl) (by kernel_rfl) (by kernel_rfl) (by kernel_rfl) (by decide) ?_ ?_ ?_
      · intro x
        exact ⟨HD1.out.row, HBX.out, HD1.out.cls.drew, HD1.out.keep.trans (Keep.drew Wa), fun _ => ⟨rfl, rfl⟩, fun _ => HD1.out.nms.drew, (fun h => by cases h), (fun h => by cases h)⟩
      · simp only [List.take_succ_cons, List.take_zero]
        refine ⟨?_, ?_, ?_, ?_, ?_, ?_, ?_, ?_, ?_, trivial⟩
        all_goals
          intro L x w9 hS hl hp K9 hK9
          have hs : NmS Wa.drew w2 tb eb j xs ys v u9 N V L x w9 := hS
          clear hS
          have r0 : w9.cell? ⟨tb, 0, none⟩ = some v := by rw [hs.row.cell]; rfl
          have r1 : w9.cell? ⟨eb, 0, none⟩ = some (.string N) := by rw [hs.box.cell]; rfl
          replace hK9 := hK9.out
          simp only [actMix, pickV, List.tail_cons, List.headD_cons, Act.put, List.setIfInBounds_toArray, List.set_cons_zero, List.set_cons_succ] at hK9 ⊢
        iterate 7
          · clear hp
            go_simp
            with_reducible refine hK9 _ ?_
            exact hs.next _ _ (by decide) (by decide)
        · obtain ⟨rfl, h8⟩ := hs.z7 hl
          clear hp
          go_simp
          with_reducible refine hK9 _ ?_
          refine ⟨hs.row.alloc _, hs.box.alloc _, hs.cls.alloc _, hs.keep.trans (Keep.alloc _ _), fun e => by simp [setL] at e, fun _ => (hs.z8 h8).alloc _, fun _ _ => cells_str _ N _, fun e => ?_⟩
          simp [setL, h8] at e
        · have h7 : L 7 = true := allL_mem hp 7 (by decide +kernel)
          have ho := hs.z8 hl
          have src := hs.z6 h7 hl
          clear hp
          refine wp_append_own _ _ _ 46 rfl w2.heap.size 9 i0 (.string ⟨#[]⟩) 1 16 Tryz.underlying46 HI8.out HZ0.out HZ1.out HZ2.out rfl (by decide) _ _ _ rfl ho ⟨Wa.drew.heap.size, 0, none⟩ 1 1 [.string N] rfl rfl src (by intro u hu; simp at hu; subst hu; rfl) (by unfold maxLen; omega) (by omega) hs.keep.size ?_
          intro v' w1 hown1 hgrow _
          obtain ⟨n1, n2, n3⟩ := BdS.names ⟨hs.row, ho, hs.cls, hs.keep⟩ htl.1 hgrow
          simp only [Act.put, List.setIfInBounds_toArray, List.set_cons_zero, List.set_cons_succ]
          with_reducible refine hK9 _ _ ?_
          refine ⟨n1, hs.box.grown hgrow (fun e => own_ne (own_zero ho) hs.box (by decide) e), n2, n3, fun e => ?_, fun e => by simp [setL] at e, fun _ e => by simp [setL] at e, fun _ => by simpa [updV] using hown1⟩
          simp [setL, h7] at e
      intro L x w9 hS hL
      have hs : NmS Wa.drew w2 tb eb j xs ys v u9 N V L x w9 := hS
      have hown := hs.z9 (hL 8 (by decide))
      simp only [actMix, pickV, List.tail_cons, List.headD_cons, Act.put, List.setIfInBounds_toArray, List.set_cons_zero, List.set_cons_succ, List.replicate_succ, List.replicate_zero, List.drop_succ_cons, List.drop_zero, List.take_succ_cons, List.take_zero]
      generalize x 8 = v' at *
      obtain ⟨g', cap', rfl⟩ := ownsRow_succ hown
      obtain ⟨v', hv'⟩ : ∃ v', v' = Value.slice (some ⟨g', 0, none⟩) (j + 1) cap' := ⟨_, rfl⟩
      rw [← hv'] at hown
      have HRW := Lib.hid hs.row
      have HBX9 := Lib.hid hs.box
      have HCL9 := Lib.hid hs.cls
      have HKP9 := Lib.hid hs.keep
      have HNM9 := Lib.hid hown
      clear hS hs hL hown HD1 HBX
      have r0 : w9.cell? ⟨tb, 0, none⟩ = some v := by rw [HRW.out.cell]; rfl
      have f0 : w9.frozen? ⟨tb, 0, none⟩ = false := HRW.out.free 0
      have hkb := Keep.setCell (G := fun y => y = tb) w9 (p := ⟨tb, 0, none⟩) rfl v'
      have HRW2 : Hid (Row (w9.setCell ⟨tb, 0, none⟩ v') tb 60 #[v', .slice none 0 0]) := HRW.out.put 0 v'
      have HBX2 : Hid (Row (w9.setCell ⟨tb, 0, none⟩ v') eb 63 #[.string N, .int .i64 V]) := HBX9.out.far (by show eb ≠ tb; have := HEB.out; omega) v'
      have HNM2 : Hid ((w9.setCell ⟨tb, 0, none⟩ v').ownsRow w2.heap.size 9 1 v' (j + 1) (xs ++ [.string N])) := ownB_keep HNM9.out hkb (fun y hy e => by have := (HNM9.out.lt y hy).1; omega)
      have HCL2 : Hid ((w9.setCell ⟨tb, 0, none⟩ v').ownsRow w2.heap.size 65 4 u9 j ys) := ownB_keep HCL9.out hkb (fun y hy e => by have := (HCL9.out.lt y hy).1; omega)
      have HKP2 := Lib.hid (HKP9.out.trans hkb)
      clear HRW HBX9 HNM9 HCL9 HKP9 hkb
      rw [hv'] at HRW2 HBX2 HNM2 HCL2 HKP2
      clear hv'
      go_upto_region 9 with fail
      clear r0 f0
      generalize w9.setCell ⟨tb, 0, none⟩ (.slice (some ⟨g', 0, none⟩) (j + 1) cap') = Wb at *
      have hkr := HR3.out.keep HKP2.out HNE.out
      have hky := isKey_row hkr
      have HINI := Lib.hid (HI3.out.keep HKP2.out (by have h1 := HIL.out; have h2 := HTB.out; intro e; have e : 0 = tb := e; omega))
      have q0 := hky 0 (by decide)
      have q1 := hky 1 (by decide)
      have q2 := hky 2 (by decide)
      have q3 := hky 3 (by decide)
      have q4 := hky 4 (by decide)
      have q5 := hky 5 (by decide)
      have q6 := hky 6 (by decide)
      have q7 := hky 7 (by decide)
      have q8 := hky 8 (by decide)
      have q9 := hky 9 (by decide)
      have q10 := hky 10 (by decide)
      have q11 := hky 11 (by decide)
      have q12 := hky 12 (by decide)
      have q13 := hky 13 (by decide)
      have q14 := hky 14 (by decide)
      have q15 := hky 15 (by decide)
      have b0 : Wb.cell? ⟨eb, 0, none⟩ = some (.string N) := by rw [HBX2.out.cell]; rfl
      have b1 : Wb.cell? ⟨eb, 1, none⟩ = some (.int .i64 V) := by rw [HBX2.out.cell]; rfl
      have hcl := claim26 k N V (by have := HVN.out; omega) m hm2 hm Wb HINI.out
      unfold keyVal at hcl
      have HCL := Lib.hid hcl
      clear hcl hkr hky HINI
      have HDB : Hid (BdS w2 tb (j + 1) j (xs ++ [.string N]) ys (.slice (some ⟨g', 0, none⟩) (j + 1) cap') u9 Wb) := ⟨HRW2.out, HNM2.out, HCL2.out, HKP2.out⟩
      clear HRW2 HNM2 HCL2 HKP2 HBX2
      go_wp2_with (first | (go_at_call 27; refine HCL.out.mono ?_; rintro e w5 ⟨rfl, hB5⟩; have HD6 := Lib.hid ((HDB.out.below hB5).below (below_alloc w5 (.cells #[.int .i64 V, .int .i64 0, .int .i64 (firstN k N m : Nat), .int .i64 (stepN k N m : Nat)] 65))); clear hB5 HDB HCL) | (at_builtin; refine wpList_append_own _ rfl _ _ 61 rfl w2.heap.size 65 i1 (.agg #[.int .i64 0, .int .i64 0, .int .i64 0, .int .i64 0]) 4 32 Tryz.underlying61 HI9.out HY0.out HY1.out HY2.out rfl (by decide) _ _ _ rfl HD6.out.cls ⟨w5.heap.size, 0, none⟩ 1 1 [.int .i64 V, .int .i64 0, .int .i64 (firstN k N m : Nat), .int .i64 (stepN k N m : Nat)] rfl rfl (cells_clm _ _ _ _ _ _) (clm_one _ _ _ _) (by unfold maxLen; omega) (by omega) HD6.out.keep.size ?_; intro v9 w9' hown' hgrow _; obtain ⟨n1, n2, n3⟩ := HD6.out.claims htl.1 hgrow; obtain ⟨g9, cap9, rfl⟩ := ownsRow_succ hown'; have HDF : Hid (BdS w2 tb (j + 1) (j + 1) (xs ++ [.string N]) (ys ++ [.int .i64 V, .int .i64 0, .int .i64 (firstN k N m : Nat), .int .i64 (stepN k N m : Nat)]) (.slice (some ⟨g', 0, none⟩) (j + 1) cap') (.slice (some ⟨g9, 0, none⟩) (j + 1) cap9) w9') := ⟨n1, n2, hown', n3⟩; clear n1 n2 n3 hown' hgrow HD6))
      go_roundw
      case rel =>
        refine ⟨j + 1, .slice (some ⟨g', 0, none⟩) (j + 1) cap', hlt, by go_num, (fun e => by cases e), ?_⟩
        rw [HNS.out, HCS.out]
        exact HDF
      case measure => simp [intOf]; omega
    · obtain rfl : j = es'.length := by omega
      have hne : ¬ (es'.length : Int) < es'.length := by omega
      have hd := HD.out
      rw [List.take_length] at hd
      have HDE := Lib.hid hd
      clear HD hd
      by_cases he : es' = []
      · have hq := HQ0.out (by rw [he]; rfl)
        subst hq
        have HAN := Lib.hid (assign27_none m (by omega) hm wr)
        have HAS : Hid (Assigned k es' m fun _ => -1) := .inl ⟨he, rfl⟩
        clear HQ0 he
        go_wp2_with (go_at_call 28; refine HAN.out.mono ?_; rintro e w6 ⟨ob, rfl, hO, ho1, ho2, hB⟩; obtain ⟨te1, te2, te3, te4⟩ := table_end HB3.out HTB.out HTL.out.1 HDE.out (cbk := wr.heap.size + w2.heap.size) (by omega) (by intro e; have := (HDE.out.nms.lt _ e).2; have := HTL.out.1; omega) (Keep.of_below hB) hO ho1 ho2; have TE1 := Lib.hid te1; have TE2 := Lib.hid te2; clear te1 te2 hO ho1 ho2 hB)
        go_ret2
        exact ⟨tb, _, es', rfl, HP.out, HSO.out, HAS.out, TE1.out, TE2.out⟩
      · obtain ⟨hok, hS, hG2⟩ := parOf_ok (k := k) he hp (fun e hm => (HVA.out e hm).1)
        have hcl := HDE.out.cls
        obtain ⟨n', hn'⟩ : ∃ n', es'.length = n' + 1 := ⟨es'.length - 1, by have := List.length_pos_iff.2 he; omega⟩
        rw [hn'] at hcl
        obtain ⟨cb, cap, rfl⟩ := ownsRow_succ hcl
        rw [← hn'] at hcl
        obtain ⟨_, hcb1, hcb2, hC⟩ := claims_own (by omega) (fun e hm => (HVA.out e hm).1) hcl
        have HA := Lib.hid (assign27 (parOf k es' m) hok hm hS rfl hG2 (by show es'.length ≤ _; omega) cap cb wr hcb2 hC)
        have hcv : v.ownBlock ≠ some cb := fun e => by
          rcases own_two HDE.out.nms hcl (by decide) with h | h
          · rw [e] at h; cases h
          · exact h (by rw [e]; simp [Value.ownBlock])
        have HCV := Lib.hid hcv
        have HCB := Lib.hid hcb1
        have HHE := Lib.hid he
        rw [← hn']
        clear HQ0 he hok hS hG2 hcl hn' hcb1 hcb2 hC hcv

        go_wp2_with (go_at_call 28; refine HA.out.mono ?_; rintro e w6 ⟨ob, T, rfl, hT, hO, ho1, ho2, hK⟩; obtain ⟨te1, te2, te3, te4⟩ := table_end HB3.out HTB.out HTL.out.1 HDE.out HCB.out HCV.out hK hO ho1 ho2; have TE1 := Lib.hid te1; have TE2 := Lib.hid te2; have TT := Lib.hid hT; clear te1 te2 hO ho1 ho2 hK hT)
        go_ret2
        exact ⟨tb, _, es', rfl, HP.out, HSO.out, .inr ⟨HHE.out, T, TT.out, rfl⟩, TE1.out, TE2.out⟩
end Go.Proofs.YtklfpnnnoaaiaabGreatDoor

/- maglev.Table: Size, At, Pick, Shares. -/
namespace Go.Proofs.YtklfpnnnoaaiaabGreatDoor
open Go.RowKit

/-- Every owner is nobody, or a name's place. -/
def OwnOk (n m : Nat) (own : Nat → Int) : Prop := ∀ q, q < m → own q = -1 ∨ (0 ≤ own q ∧ own q < n)
/-- The name at a place. -/
def atN (ns : List ByteArray) (m : Nat) (own : Nat → Int) (p : Int) : ByteArray :=
  if p < 0 ∨ (m : Int) ≤ p then ⟨#[]⟩ else if own p.toNat = -1 then ⟨#[]⟩ else (ns[(own p.toNat).toNat]?).getD ⟨#[]⟩
theorem TableAt.below {w w' : World} {tb m : Nat} {ns : List ByteArray} {own : Nat → Int} (h : TableAt w tb ns m own) (hb : Below w.heap.size w w') : TableAt w' tb ns m own := by
  obtain ⟨a, c, ob, h1, h2, h3, h4, h5, h6⟩ := h
  obtain ⟨b1, b2⟩ := bcell hb
  exact ⟨a, c, ob, by rw [b1 _ _ h5]; exact h1, by rw [b1 _ _ h5]; exact h2, h3.below hb, h4.keep h6 hb, Nat.lt_of_lt_of_le h5 hb.size, Nat.lt_of_lt_of_le h6 hb.size⟩
theorem Assigned.ok {k : Nat → UInt8} {es : List Ent} {m : Nat} {own : Nat → Int} (h : Assigned k es m own) (hp : primeB m = true) (hv : ∀ e ∈ es, okW e = true) : OwnOk es.length m own := by
  intro q _
  rcases h with ⟨_, rfl⟩ | ⟨hne, T, _, rfl⟩
  · exact .inl rfl
  · exact (Par.run_inv (parOf_ok (k := k) hne hp hv).1 T).rng q
set_option maxHeartbeats 1000000 in
theorem size11 (tb m : Nat) (ns : List ByteArray) (own : Nat → Int) (w : World) (h : TableAt w tb ns m own) :
    Calls Tryz.prog 35 #[.pointer (some ⟨tb, 0, none⟩)] w fun e w' => e = .returned (.int .i64 (m : Int)) ∧ w' = w := by
  obtain ⟨a, c, ob, h1, h2, h3, h4, h5, h6⟩ := h
  clear h3 h4
  go_enter Tryz.func35, Tryz.ntmps35
  go_wp2_with fail
  go_ret
  exact ⟨rfl, rfl⟩
set_option maxRecDepth 100000 in
set_option maxHeartbeats 2000000 in
theorem at13 (tb m : Nat) (ns : List ByteArray) (hn : ns.length ≤ 1000) (own : Nat → Int) (hok : OwnOk ns.length m own) (p : Int) (w : World) (h : TableAt w tb ns m own) :
    Calls Tryz.prog 36 #[.pointer (some ⟨tb, 0, none⟩), .int .i64 p] w fun e w' => e = .returned (.string (atN ns m own p)) ∧ Below w.heap.size w w' := by
  obtain ⟨a, c, ob, h1, h2, h3, h4, h5, h6⟩ := h
  have H3 := Lib.hid h3
  have H4 := Lib.hid h4
  have HK := Lib.hid hok
  clear h3 h4 hok
  by_cases p0 : p < 0
  · have HR : Hid (atN ns m own p = ⟨#[]⟩) := if_pos (.inl p0)
    go_enter Tryz.func36, Tryz.ntmps36
    go_wp2_with fail
    go_ret
    exact ⟨by rw [HR.out]; rfl, Below.refl _ _⟩
  by_cases p1 : (m : Int) ≤ p
  · have HR : Hid (atN ns m own p = ⟨#[]⟩) := if_pos (.inr p1)
    go_enter Tryz.func36, Tryz.ntmps36
    go_wp2_with fail
    go_ret
    exact ⟨by rw [HR.out]; rfl, Below.refl _ _⟩
  obtain ⟨q, rfl⟩ : ∃ q : Nat, p = (q : Int) := ⟨p.toNat, by omega⟩
  have hq : q < m := by omega
  have hoc := (H4.out q hq).1
  have q1 : (q : Int) < m := by omega
  by_cases ho : own q = -1
  · have HR : Hid (atN ns m own (q : Int) = ⟨#[]⟩) := by
      show _ = _
      unfold atN
      rw [if_neg (by omega), Int.toNat_natCast, if_pos ho]
    rw [ho] at hoc
    go_enter Tryz.func36, Tryz.ntmps36
    go_wp2_with fail
    go_ret
    exact ⟨by rw [HR.out]; rfl, Below.refl _ _⟩
  obtain ⟨i, hi⟩ : ∃ i : Nat, own q = (i : Int) := ⟨(own q).toNat, by have := HK.out q hq; omega⟩
  have hil : i < ns.length := by have := HK.out q hq; omega
  have HR : Hid (atN ns m own (q : Int) = ns[i]) := by
    show _ = _
    unfold atN
    rw [if_neg (by omega), Int.toNat_natCast, if_neg ho, hi, Int.toNat_natCast, List.getElem?_eq_getElem hil, Option.getD_some]
  rw [hi] at hoc
  obtain h0 | ⟨bk, o, rfl, hbk, hc, hcell⟩ := H3.out
  · subst h0; simp at hil
  have hcs := hcell i ns[i] (List.getElem?_eq_getElem hil)
  have i1 : (i : Int) < ns.length := by omega
  have i2 : ((i : Int) == -1) = false := by rw [beq_eq_false_iff_ne]; omega
  generalize ns[i] = N at *
  clear hcell ho hi
  go_enter Tryz.func36, Tryz.ntmps36
  go_upto_region 3 with fail
  go_quiet (fail)
  go_wp2_with fail
  go_ret
  exact ⟨by rw [HR.out]; rfl, ⟨rfl, rfl, rfl, Nat.le_refl _, fun _ _ => rfl⟩⟩
/-- How many of the first places an entry has. -/
def shN (own : Nat → Int) (i j : Nat) : Nat := cntF (fun q => decide (own q = (i : Int))) j
theorem shN_step (own : Nat → Int) (i j : Nat) : shN own i (j + 1) = shN own i j + (if own j = (i : Int) then 1 else 0) := by
  unfold shN
  rw [cntF]
  by_cases h : own j = (i : Int) <;> simp [h]
theorem shN_le (own : Nat → Int) (i j : Nat) : shN own i j ≤ j := cntF_le _ _
def shV (n : Nat) (own : Nat → Int) (j : Nat) : List Value := (List.range n).map fun i => .int .i64 (shN own i j : Nat)
theorem shV_at {n : Nat} {own : Nat → Int} {i j : Nat} (h : i < n) : (shV n own j)[i]? = some (.int .i64 (shN own i j : Nat)) := by simp [shV, h]
theorem shV_none {n : Nat} {own : Nat → Int} {j : Nat} (h : own j = -1) : shV n own (j + 1) = shV n own j := by
  unfold shV
  refine List.map_congr_left fun i _ => ?_
  rw [shN_step, if_neg (by omega)]; rfl
theorem shV_put {n : Nat} {own : Nat → Int} {i j : Nat} (h : own j = (i : Int)) : (shV n own j).toArray.setIfInBounds i (.int .i64 ((shN own i j : Nat) + 1)) = (shV n own (j + 1)).toArray := by
  rw [List.setIfInBounds_toArray]
  congr 1
  refine List.ext_getElem? fun q => ?_
  rw [List.getElem?_set]
  by_cases hq : q < n
  · rw [shV_at hq, shV_at hq]
    by_cases e : i = q
    · subst e
      rw [if_pos rfl, if_pos (by simpa [shV] using hq), shN_step, if_pos h]; rfl
    · rw [if_neg e, shN_step, if_neg (by omega)]; rfl
  · have h1 : ∀ j, (shV n own j)[q]? = none := fun j => List.getElem?_eq_none (by simp [shV]; omega)
    rw [h1, h1]
    split
    · rw [if_neg (by simp [shV]; omega)]
    · rfl
theorem shV_zero (n : Nat) (own : Nat → Int) : shV n own 0 = List.replicate n (.int .i64 0) := by
  refine List.ext_getElem? fun q => ?_
  rcases Nat.lt_or_ge q n with h | h
  · rw [shV_at h]; simp [h, shN, cntF]
  · rw [List.getElem?_eq_none (by simpa [shV] using h), List.getElem?_eq_none (by simpa using h)]
set_option maxRecDepth 100000 in
set_option maxHeartbeats 2000000 in
theorem shares16 (tb m : Nat) (hm : m ≤ 1048576) (ns : List ByteArray) (hn : ns.length ≤ 1000) (own : Nat → Int) (hok : OwnOk ns.length m own) (w : World) (h : TableAt w tb ns m own) :
    Calls Tryz.prog 15 #[.pointer (some ⟨tb, 0, none⟩)] w fun e w' => ∃ sb, e = .returned (.slice (some ⟨sb, 0, none⟩) ns.length ns.length) ∧ Row w' sb 3 (shV ns.length own m).toArray ∧ Below w.heap.size w w' := by
  obtain ⟨i0, hi, hz0, hz1, hz2⟩ := info_parts infoInt
  have hrm := run_make (P := Tryz.prog) w 30 3 i0 (.int .i64 0) Tryz.underlying30 hi hz0 .i64 .i64 ns.length ns.length (by omega) (by omega) (by rw [hz2]; omega) (by omega)
  rw [hz1, Int.toNat_natCast, Nat.mul_one] at hrm
  have hcl : madeCells (Value.int .i64 0).cells ns.length = (shV ns.length own 0).toArray := by
    apply Array.toList_inj.1
    rw [shV_zero]
    exact toList_madeCells_one (Value.int .i64 0) ns.length
  rw [hcl] at hrm
  clear hz0 hz1 hz2 hi hcl
  have HK := Lib.hid hok
  obtain ⟨a, c, ob, h1, h2, h3, h4, h5, h6⟩ := h
  have H4 := Lib.hid h4
  clear h3 h4 hok
  obtain ⟨W0, hW0⟩ : ∃ W0, W0 = w.alloc (.cells (shV ns.length own 0).toArray 3) := ⟨_, rfl⟩
  obtain ⟨sb, hsb⟩ : ∃ sb, sb = w.heap.size := ⟨_, rfl⟩
  have HR0 : Hid (Row W0 sb 3 (shV ns.length own 0).toArray) := by rw [hW0, hsb]; exact Row.new w _ _
  have HB0 : Hid (Below w.heap.size w W0) := by rw [hW0]; exact below_alloc w _
  have HSB : Hid (w.heap.size ≤ sb) := by rw [hsb]; exact Nat.le_refl w.heap.size
  have g2 : W0.cell? ⟨tb, 1, none⟩ = some (.slice (some ⟨ob, 0, none⟩) m m) := by rw [(bcell HB0.out).1 _ _ h5]; exact h2
  rw [← hW0, ← hsb] at hrm
  clear hW0 hsb
  go_enter Tryz.func15, Tryz.ntmps15
  go_wp2_with fail
  clear hrm g2 h1 h2
  go_loopw [17] (fun i wr => ∃ j : Nat, j ≤ m ∧ i = .int .i64 (j : Int) ∧ Hid (Row wr sb 3 (shV ns.length own j).toArray) ∧ Hid (Below w.heap.size w wr)) (fun i _ => m - (intOf i).toNat)
  case atStart => exact ⟨0, Nat.zero_le _, rfl, HR0, HB0⟩
  case round =>
    clear HR0 HB0
    obtain ⟨j, hj, rfl, HR, HB⟩ := hrel
    by_cases hlt : j < m
    · have g4 : wr.cell? ⟨ob, j, none⟩ = some (.int .i64 (own j)) := by rw [(bcell HB.out).1 _ _ h6]; exact (H4.out j hlt).1
      have j1 : (j : Int) < m := by omega
      by_cases ho : own j = -1
      · have HN := Lib.hid (shV_none (n := ns.length) ho)
        rw [ho] at g4
        clear ho
        go_wp2_with fail
        go_roundw
        case rel => exact ⟨j + 1, hlt, by go_num, by rw [HN.out]; exact HR, HB⟩
        case measure => simp [intOf]; omega
      · obtain ⟨i, hi⟩ : ∃ i : Nat, own j = (i : Int) := ⟨(own j).toNat, by have := HK.out j hlt; omega⟩
        have hil : i < ns.length := by have := HK.out j hlt; omega
        have HP := Lib.hid (shV_put (n := ns.length) hi)
        have hle := shN_le own i j
        rw [hi] at g4
        have i1 : (i : Int) < ns.length := by omega
        have i2 : ((i : Int) != -1) = true := by rw [bne_iff_ne]; omega
        have gc : wr.cell? ⟨sb, i, none⟩ = some (.int .i64 (shN own i j : Nat)) := by rw [HR.out.cell i, List.getElem?_toArray, shV_at hil]
        have gf := HR.out.free i
        have HR2 := Lib.hid (HR.out.put i (.int .i64 ((shN own i j : Nat) + 1)))
        rw [HP.out] at HR2
        have HB2 := Lib.hid (HB.out.setCell (p := ⟨sb, i, none⟩) HSB.out (.int .i64 ((shN own i j : Nat) + 1)))
        have hw := wrapI ((shN own i j : Nat) + 1) (by omega) (by omega)
        generalize shN own i j = z at *
        clear ho hi HP
        go_wp2_with fail
        go_roundw
        case rel => exact ⟨j + 1, hlt, by go_num, HR2, HB2⟩
        case measure => simp [intOf]; omega
    · obtain rfl : j = m := by omega
      have hne : ¬ (j : Int) < j := by omega
      go_wp2_with fail
      go_ret
      exact ⟨sb, rfl, HR.out, HB.out⟩
end Go.Proofs.YtklfpnnnoaaiaabGreatDoor

/- stewardlaw01.Cut. -/
namespace Go.Proofs.YtklfpnnnoaaiaabGreatDoor
open Go.RowKit

theorem extractC (t : ByteArray) (a b : Nat) : t.extract a b = ⟨((t.data.toList.drop a).take (b - a)).toArray⟩ := by
  have h : (t.extract a b).data = t.data.extract a b := ByteArray.data_extract
  have h2 : (t.data.extract a b).toList = (t.data.toList.drop a).take (b - a) := by simp [Array.toList_extract]
  rw [← h2, ← h]
/-- The first bytes. -/
def cutS (s : ByteArray) (n : Nat) : ByteArray := ⟨(s.data.toList.take n).toArray⟩
theorem cutS_all (s : ByteArray) (n : Nat) (h : s.size ≤ n) : cutS s n = s := by
  unfold cutS
  rw [List.take_of_length_le (by rw [← Lib.size_eq]; exact h)]
theorem cutS_size (s : ByteArray) (n : Nat) : (cutS s n).size ≤ n := by
  rw [Lib.size_eq]; simp [cutS]; omega
theorem cutS_data (s : ByteArray) (n : Nat) : (cutS s n).data.toList = s.data.toList.take n := rfl

set_option maxHeartbeats 400000 in
theorem cut11 (s : ByteArray) (n : Nat) (w : World) :
    Calls Tryz.prog 5 #[.string s, .int .i64 n] w fun e w' => e = .returned (.string (cutS s n)) ∧ w = w' := by
  by_cases h : s.size ≤ n
  · rw [cutS_all s n h]
    have h' : (s.size : Int) ≤ n := by omega
    go_enter Tryz.func5, Tryz.ntmps5
    go_wp2_with fail
    go_ret
    exact ⟨rfl, rfl⟩
  · have he : s.extract 0 n = cutS s n := by rw [extractC, List.drop_zero]; rfl
    have h' : (n : Int) < s.size := by omega
    have h2 : (n : Int) ≤ s.size := by omega
    go_enter Tryz.func5, Tryz.ntmps5
    go_wp2_with fail
    go_ret
    exact ⟨rfl, rfl⟩
end Go.Proofs.YtklfpnnnoaaiaabGreatDoor

/- stewardlaw18: Few and Own; stewardref18.Check (written by genmgo.py). -/
namespace Go.Proofs.YtklfpnnnoaaiaabGreatDoor
open Go.RowKit

/-- An entry's name, cut, behind an n. -/
def cutE (e : Ent) : Ent := (⟨#[110]⟩ ++ cutS e.1 12, e.2)
def fewE (es : List Ent) (n : Nat) : List Ent := (es.take n).map cutE
theorem fewE_step {es : List Ent} {j : Nat} (hj : j < es.length) : cellsE (fewE es (j + 1)) = cellsE (fewE es j) ++ [.string (⟨#[110]⟩ ++ cutS es[j].1 12), .int .i64 es[j].2] := by
  unfold fewE
  rw [List.take_add_one, List.getElem?_eq_getElem hj, Option.toList_some, List.map_append, cellsE_append]
  rfl
theorem cutE_size (e : Ent) : (cutE e).1.size ≤ 13 := by
  have := cutS_size e.1 12
  show (⟨#[110]⟩ ++ cutS e.1 12 : ByteArray).size ≤ 13
  rw [ByteArray.size_append]
  have : (⟨#[110]⟩ : ByteArray).size = 1 := rfl
  omega
/-- What holds while an entry is appended. -/
structure FeS (w0 : World) (v5 : Value) (j : Nat) (xs : List Value) (N : ByteArray) (V : Int) (L : Nat → Bool) (x : Nat → Value) (w : World) : Prop where
  bel : Below w0.heap.size w0 w
  own : L 15 = false → w.ownsRow w0.heap.size 53 2 v5 j xs
  p14 : L 14 = true → L 15 = false → ∃ b, x 14 = .slice (some ⟨b, 0, none⟩) 1 1 ∧ ∀ (k : Nat) u, [Value.string N, .int .i64 V][k]? = some u → w.cell? ((⟨b, 0, none⟩ : Addr).add k) = some u
  p15 : L 15 = true → L 14 = true ∧ w.ownsRow w0.heap.size 53 2 (x 15) (j + 1) (xs ++ [.string N, .int .i64 V])
theorem FeS.keep {w0 : World} {v5 : Value} {j : Nat} {xs : List Value} {N : ByteArray} {V : Int} {L : Nat → Bool} {x : Nat → Value} {w : World} (h : FeS w0 v5 j xs N V L x w) (i : Nat) (u : Value) (h14 : i ≠ 14) (h15 : i ≠ 15) : FeS w0 v5 j xs N V (setL L i) (updV x i u) w := by
  have e14 : setL L i 14 = L 14 := by simp [setL, Ne.symm h14]
  have e15 : setL L i 15 = L 15 := by simp [setL, Ne.symm h15]
  have x14 : updV x i u 14 = x 14 := by simp [updV, Ne.symm h14]
  have x15 : updV x i u 15 = x 15 := by simp [updV, Ne.symm h15]
  exact ⟨h.bel, by rw [e15]; exact h.own, by rw [e14, e15, x14]; exact h.p14, by rw [e14, e15, x15]; exact h.p15⟩
set_option maxHeartbeats 4000000 in
set_option maxRecDepth 100000 in
theorem few7 (a : Option Addr) (c : Nat) (es : List Ent) (n : Nat) (hn : n ≤ 1000) (hfl : es.length ≤ 9223372036854775807) (w : World) (hf : IsEnts w a c es) :
    Calls Tryz.prog 6 #[.slice a es.length c, .int .i64 (n : Int)] w fun e w' => ∃ u, e = .returned u ∧ w'.ownsRow w.heap.size 53 2 u (fewE es n).length (cellsE (fewE es n)) ∧ Below w.heap.size w w' := by
  obtain ⟨i0, hi, hz0, hz1, hz2⟩ := info_parts infoXEnt
  have HFF := Lib.hid hf
  clear hf
  have hdone : ∀ j, j ≤ n → j ≤ es.length → (¬ j < n ∨ ¬ j < es.length) → fewE es j = fewE es n := fun j h1 h2 h3 => by
    unfold fewE
    rcases h3 with h | h
    · rw [show j = n by omega]
    · rw [List.take_of_length_le (by omega), List.take_of_length_le (by omega)]
  have HDN := Lib.hid hdone
  clear hdone
  go_enter Tryz.func6, Tryz.ntmps6
  go_wp2_with fail
  go_loopw [5, 6] (fun v i wr => ∃ j : Nat, j ≤ n ∧ j ≤ es.length ∧ i = .int .i64 (j : Int) ∧ Hid ((fewE es j).length = j) ∧ Hid (wr.ownsRow w.heap.size 53 2 v j (cellsE (fewE es j))) ∧ Hid (Below w.heap.size w wr)) (fun _ i _ => n - (intOf i).toNat)
  case atStart => exact ⟨0, Nat.zero_le _, Nat.zero_le _, rfl, by simp [Hid, fewE], World.ownsRow_nil _ _ _ _, Below.refl _ _⟩
  case round =>
    obtain ⟨j, hjn, hj, rfl, hlen, ho, hb⟩ := hrel
    by_cases hlt : j < es.length
    · have j1 : (j : Int) < es.length := by omega
      by_cases hnt : j < n
      · have j2 : (j : Int) < n := by omega
        obtain h0 | ⟨bk, o, rfl, hbk, hc, hcell⟩ := HFF.out
        · subst h0; simp at hlt
        obtain ⟨c1, c2⟩ := hcell j es[j] (by simp [hlt])
        have hst := Lib.hid (fewE_step hlt)
        have hln : Hid ((fewE es (j + 1)).length = j + 1) := by show _ = _; unfold fewE; simp; omega
        obtain ⟨f, hfe⟩ : ∃ f, f = es[j] := ⟨_, rfl⟩
        rw [← hfe] at c1 c2 hst
        clear hcell hfe
        have HCX : Hid (∀ W, Calls Tryz.prog 5 #[.string f.1, .int .i64 12] W fun e w' => e = .returned (.string (cutS f.1 12)) ∧ W = w') := fun W => cut11 f.1 12 W
        have hcs := cutS_size f.1 12
        generalize cutS f.1 12 = C at *
        have hcz : ¬ (9223372036854775807 < 1 + C.size) := by omega
        generalize cellsE (fewE es j) = xs at *
        obtain ⟨X, V⟩ := f
        simp only at c1 c2 hst HCX
        go_wp2_with fail
        refine region_mixt 16 [some (u5), some (.slice (some ⟨bk, o, none⟩) es.length c), some (.int .i64 (j : Int)), some (.pointer (some ⟨bk, o + j * 2, none⟩)), some (.pointer (some ⟨bk, o + j * 2, none⟩)), some (.string X), some (.string C), some (.string (⟨#[110]⟩ ++ C)), some (.slice (some ⟨bk, o, none⟩) es.length c), some (.int .i64 (j : Int)), some (.pointer (some ⟨bk, o + j * 2, none⟩)), some (.pointer (some ⟨bk, o + j * 2 + 1, none⟩)), some (.int .i64 V), some (.agg #[.string (⟨#[110]⟩ ++ C), .int .i64 V]), none, none]
          [[false, false, false, false, false, false, false, false, false, false, false, false, false, false, false, false], [false, false, false, false, false, false, false, false, false, false, false, false, false, false, false, false], [false, false, false, false, false, false, false, false, false, false, false, false, false, false, false, false], [false, true, true, false, false, false, false, false, false, false, false, false, false, false, false, false], [false, false, false, true, false, false, false, false, false, false, false, false, false, false, false, false], [false, false, false, false, true, false, false, false, false, false, false, false, false, false, false, false], [false, false, false, false, false, true, false, false, false, false, false, false, false, false, false, false], [false, false, false, false, false, false, true, false, false, false, false, false, false, false, false, false], [false, false, false, false, false, false, false, false, false, false, false, false, false, false, false, false], [false, false, false, false, false, false, false, false, false, false, false, false, false, false, false, false], [false, false, false, false, false, false, false, false, true, true, false, false, false, false, false, false], [false, false, false, false, false, false, false, false, false, false, true, false, false, false, false, false], [false, false, false, false, false, false, false, false, false, false, false, true, false, false, false, false], [false, false, false, false, false, false, false, true, false, false, false, false, true, false, false, false], [false, false, false, false, false, false, false, false, false, false, false, false, false, true, false, false], [true, false, false, false, false, false, true, false, false, false, false, false, false, false, true, false]]
          (fun LL xx w9 => FeS w u5 j xs (⟨#[110]⟩ ++ C) V LL xx w9)
          (by kernel_rfl) (by kernel_rfl) (by kernel_rfl) (by kernel_rfl) (by kernel_rfl) (by decide) ?_ ?_ ?_
        · intro _
          exact ⟨hb.out.drew, fun _ => ho.out.drew, fun h => (by cases h), fun h => (by cases h)⟩
        · simp only [List.take_succ_cons, List.take_zero]
          refine ⟨?_, ?_, ?_, ?_, ?_, ?_, ?_, ?_, ?_, ?_, ?_, ?_, ?_, ?_, ?_, ?_, trivial⟩
          all_goals
            intro L x w9 hS hl hp K hK
            have hs : FeS w u5 j xs (⟨#[110]⟩ ++ C) V L x w9 := hS
            clear hS ho hb
            have r1 : w9.cell? ⟨bk, o + j * 2, none⟩ = some (.string X) := by rw [(bcell hs.bel).1 _ _ hbk]; exact c1
            have r2 : w9.cell? ⟨bk, o + j * 2 + 1, none⟩ = some (.int .i64 V) := by rw [(bcell hs.bel).1 _ _ hbk]; exact c2
            replace hK := hK.out
            simp only [actMix, pickV, List.tail_cons, List.headD_cons, Act.put, List.setIfInBounds_toArray, List.set_cons_zero, List.set_cons_succ] at hK ⊢
          iterate 6
            · clear hp
              go_simp
              with_reducible refine hK _ ?_
              exact hs.keep _ _ (by decide) (by decide)
          · clear hp
            go_simp
            refine (HCX.out _).mono ?_
            rintro e w' ⟨rfl, rfl⟩
            with_reducible refine hK _ ?_
            exact hs.keep _ _ (by decide) (by decide)
          iterate 7
            · clear hp
              go_simp
              with_reducible refine hK _ ?_
              exact hs.keep _ _ (by decide) (by decide)
          · have h15 : L 15 = false := by
              cases h : L 15 with
              | false => rfl
              | true => have := (hs.p15 h).1; rw [hl] at this; cases this
            clear hp
            go_simp
            with_reducible refine hK _ _ ?_
            have hs9 := hs.bel.size
            refine ⟨hs.bel.alloc hs9 _, fun e => (hs.own h15).alloc _, fun _ _ => ⟨w9.heap.size, by simp [updV], cells_ent w9 _ V _⟩, fun h => ?_⟩
            simp [setL, h15] at h
          · have h14 : L 14 = true := allL_mem hp 14 (by decide +kernel)
            obtain ⟨b9, hx9, hc9⟩ := hs.p14 h14 hl
            have ho9 := hs.own hl
            have hs9 := hs.bel.size
            clear hp
            rw [hx9] at hK ⊢
            rw [if_pos (by rfl)]
            refine wp_append_own _ _ _ 22 rfl w.heap.size 53 i0 (.agg #[.string ⟨#[]⟩, .int .i64 0]) 2 24 Tryz.underlying22 hi hz0 hz1 hz2 rfl (by decide) _ _ _ rfl ho9 ⟨b9, 0, none⟩ 1 1 [.string (⟨#[110]⟩ ++ C), .int .i64 V] rfl rfl hc9 (ent_one _ _) (by unfold maxLen; omega) (by omega) hs9 ?_
            intro v' w1 hown1 hgrow _
            have hb1 : Below w.heap.size w w1 := hs.bel.grown hgrow hs9 (fun k hk => (ho9.lt k hk).1)
            simp only [Act.put, List.setIfInBounds_toArray, List.set_cons_zero, List.set_cons_succ]
            with_reducible refine hK _ _ ?_
            refine ⟨hb1, fun h => ?_, fun _ h => ?_, fun _ => ⟨by simp [setL, h14], by simpa [updV] using hown1⟩⟩
            · simp [setL] at h
            · simp [setL] at h
        intro L x w9 hS hL
        have hs : FeS w u5 j xs (⟨#[110]⟩ ++ C) V L x w9 := hS
        have ho9 := (hs.p15 (hL 15 (by decide))).2
        rw [← hst.out] at ho9
        have HO9 := Lib.hid ho9
        have HB9 := Lib.hid hs.bel
        clear hS hL hs ho9 ho hb
        simp only [actMix, pickV, List.tail_cons, List.headD_cons, Act.put, List.setIfInBounds_toArray, List.set_cons_zero, List.set_cons_succ, List.replicate_succ, List.replicate_zero, List.drop_succ_cons, List.drop_zero, List.take_succ_cons, List.take_zero]
        generalize x 15 = v6 at *
        go_wp2_with fail
        go_roundw
        case rel => exact ⟨j + 1, by omega, by omega, by go_num, hln, HO9, HB9⟩
        case measure => simp [intOf]; omega
      · have hd := HDN.out j hjn hj (.inl hnt)
        rw [hd] at ho hlen
        have hle := hlen.out
        have hne : ¬ ((j : Int) < n) := by omega
        go_wp2_with fail
        go_ret
        exact ⟨_, rfl, ho.out, hb.out⟩
    · have hd := HDN.out j hjn hj (.inr hlt)
      rw [hd] at ho hlen
      have hle := hlen.out
      have hne : ¬ ((j : Int) < es.length) := by omega
      go_wp2_with fail
      go_ret
      exact ⟨_, rfl, ho.out, hb.out⟩
set_option maxHeartbeats 4000000 in
set_option maxRecDepth 100000 in
theorem own11 (a : Option Addr) (c : Nat) (es : List Ent) (hl : es.length ≤ 1000) (w : World) (hf : IsEnts w a c es) :
    Calls Tryz.prog 11 #[.slice a es.length c] w fun e w' => ∃ a' c', e = .returned (.slice a' es.length c') ∧ IsEnts w' a' c' es ∧ Below w.heap.size w w' := by
  obtain ⟨i0, hi, hz0, hz1, hz2⟩ := info_parts infoMEnt
  have HFF := Lib.hid hf
  clear hf
  go_enter Tryz.func11, Tryz.ntmps11
  go_wp2_with fail
  go_loopw [3, 8] (fun v i wr => ∃ j : Nat, j ≤ es.length ∧ i = .int .i64 (j : Int) ∧ Hid (wr.ownsRow w.heap.size 63 2 v j (cellsE (es.take j))) ∧ Hid (Below w.heap.size w wr)) (fun _ i _ => es.length - (intOf i).toNat)
  case atStart => exact ⟨0, Nat.zero_le _, rfl, World.ownsRow_nil _ _ _ _, Below.refl _ _⟩
  case round =>
    obtain ⟨j, hj, rfl, ho, hb⟩ := hrel
    by_cases hlt : j < es.length
    · have j1 : (j : Int) < es.length := by omega
      obtain h0 | ⟨bk, o, rfl, hbk, hc, hcell⟩ := HFF.out.below hb.out
      · subst h0; simp at hlt
      obtain ⟨c1, c2⟩ := hcell j es[j] (by simp [hlt])
      have hst := Lib.hid (cellsE_step hlt)
      generalize es[j] = e at *
      obtain ⟨N, V⟩ := e
      simp only at c1 c2 hst
      have hsz := hb.out.size
      have hb1 := hb.out.alloc hsz (.cells #[.string N, .int .i64 V] 53)
      have HB2 := Lib.hid (hb1.alloc hb1.size (.cells #[.string N, .int .i64 V] 63))
      have HO2 := Lib.hid ((ho.out.alloc (.cells #[.string N, .int .i64 V] 53)).alloc (.cells #[.string N, .int .i64 V] 63))
      clear hcell ho hb hb1
      go_wp2_with (at_builtin; refine wpList_append_own _ rfl _ _ 37 rfl w.heap.size 63 i0 (.agg #[.string ⟨#[]⟩, .int .i64 0]) 2 24 Tryz.underlying37 hi hz0 hz1 hz2 rfl (by decide) _ _ _ rfl HO2.out ⟨wr.heap.size + 1, 0, none⟩ 1 1 [.string N, .int .i64 V] rfl rfl (by have := cells_ent (wr.alloc (.cells #[.string N, .int .i64 V] 53)) N V 63; simpa using this) (ent_one _ _) (by unfold maxLen; omega) (by omega) HB2.out.size ?_; intro v' w4 hown' hgrow _; have HB5 : Hid (Below w.heap.size w w4) := HB2.out.grown hgrow HB2.out.size (fun k hk => (HO2.out.lt k hk).1); have HO5 := Lib.hid hown'; clear hown' hgrow HB2 HO2)
      go_roundw
      case rel => exact ⟨j + 1, hlt, by go_num, by rw [hst.out]; exact HO5, HB5⟩
      case measure => simp [intOf]; omega
    · obtain rfl : j = es.length := by omega
      have hne : ¬ ((es.length : Int) < es.length) := by omega
      go_wp2_with fail
      go_ret
      have ho' := ho.out
      rw [List.take_length] at ho'
      obtain ⟨a', c', rfl⟩ := own_slice ho'
      exact ⟨a', c', rfl, (isEnts_own ho').2.1, hb.out⟩
end Go.Proofs.YtklfpnnnoaaiaabGreatDoor

/- stewardref18.Check; maglev.Build's errors; stewardlaw18.awake. -/
namespace Go.Proofs.YtklfpnnnoaaiaabGreatDoor
open Go.RowKit

theorem strEqM (a b : ByteArray) : (a.toList == b.toList) = decide (a = b) := by
  by_cases h : a = b
  · subst h; simp
  · rw [decide_eq_false h]; exact (Lib.bytes_beq_false_iff a b).2 h
/-- May a table be made? -/
def chkB (es : List Ent) (m : Int) : Bool := isP m && decide (100 * (es.length : Int) ≤ m) && validB es
theorem apart_bad {es : List Ent} {q i : Nat} (hq : q < i) (hi : i < es.length) (h : (es[q]'(by omega)).1 = es[i].1) : validB es = false := by
  unfold validB
  have : ¬ Apart es := fun ha => by
    unfold Apart at ha
    rw [List.pairwise_iff_getElem] at ha
    exact ha q i (by omega) hi hq h
  rw [decide_eq_false this, Bool.and_false]
theorem valid_all {es : List Ent} (h1 : ∀ e ∈ es, okW e = true) (h2 : Apart es) : validB es = true := by
  unfold validB
  rw [List.all_eq_true.2 h1, Bool.true_and, decide_eq_true h2]
theorem apart_next {es : List Ent} {i : Nat} (hi : i < es.length) (h : Apart (es.take i)) (h2 : ∀ e ∈ es.take i, e.1 ≠ es[i].1) : Apart (es.take (i + 1)) := by
  rw [apart_step hi]
  refine ⟨h, List.any_eq_false.2 fun e he => ?_⟩
  simpa using h2 e he
theorem name_step {es : List Ent} {N : ByteArray} {q : Nat} (hq : q < es.length) (h : ∀ e ∈ es.take q, e.1 ≠ N) (h2 : es[q].1 ≠ N) : ∀ e ∈ es.take (q + 1), e.1 ≠ N := by
  intro e he
  rw [List.take_succ_eq_append_getElem hq] at he
  rcases List.mem_append.1 he with h3 | h3
  · exact h e h3
  · obtain rfl : e = es[q] := by simpa using h3
    exact h2
set_option maxHeartbeats 4000000 in
set_option maxRecDepth 100000 in
theorem check8 (a : Option Addr) (c : Nat) (es : List Ent) (hl : es.length ≤ 1000) (m : Int) (w : World) (hf : IsEnts w a c es) :
    Calls Tryz.prog 9 #[.slice a es.length c, .int .i64 m] w fun e w' => e = .returned (.int .i64 (if chkB es m then 0 else 1)) ∧ Below w.heap.size w w' := by
  have HF := Lib.hid hf
  clear hf
  have HQ := Lib.hid (refis11 m)
  have k1 : ¬ ((1024 : Int) < es.length) := by omega
  by_cases hp : isP m = true
  case neg =>
    have hp : isP m = false := by simpa using hp
    have HR : Hid ((if chkB es m then (0 : Int) else 1) = 1) := by show _ = _; unfold chkB; rw [hp]; rfl
    rw [hp] at HQ
    clear hp
    rw [HR.out]
    go_enter Tryz.func9, Tryz.ntmps9
    go_wp2_with (go_at_call 23; refine (HQ.out _).mono ?_; rintro e w' ⟨rfl, rfl⟩)
    go_ret
    exact ⟨rfl, Below.refl _ _⟩
  by_cases hm : 100 * (es.length : Int) ≤ m
  case neg =>
    have HR : Hid ((if chkB es m then (0 : Int) else 1) = 1) := by show _ = _; unfold chkB; rw [decide_eq_false hm]; simp
    rw [hp] at HQ
    clear hp
    rw [HR.out]
    go_enter Tryz.func9, Tryz.ntmps9
    go_wp2_with (go_at_call 23; refine (HQ.out _).mono ?_; rintro e w' ⟨rfl, rfl⟩)
    go_ret
    exact ⟨rfl, Below.refl _ _⟩
  have HR : Hid (chkB es m = validB es) := by show _ = _; unfold chkB; rw [hp, decide_eq_true hm]; rfl
  rw [hp] at HQ
  clear hp
  rw [HR.out]
  clear HR
  obtain ⟨r, hr⟩ : ∃ r : Int, r = (if validB es then 0 else 1) := ⟨_, rfl⟩
  have HRR := Lib.hid hr
  rw [← hr]
  clear hr
  have m1 : ¬ (m < 100 * (es.length : Int)) := by omega
  go_enter Tryz.func9, Tryz.ntmps9
  go_wp2_with (go_at_call 23; refine (HQ.out _).mono ?_; rintro e w' ⟨rfl, rfl⟩)
  go_loopw [26] (fun p wr => ∃ i : Nat, i ≤ es.length ∧ p = .int .i64 (i : Int) ∧ Hid (∀ e ∈ es.take i, okW e = true) ∧ Hid (Apart (es.take i)) ∧ Hid (Below w'.heap.size w' wr)) (fun p _ => es.length - (intOf p).toNat)
  case atStart => exact ⟨0, Nat.zero_le _, rfl, (fun e he => by simp at he), (by simp [Hid, Apart]), Below.refl _ _⟩
  case round =>
    obtain ⟨i, hi, rfl, HW, HA, HB⟩ := hrel
    by_cases hlt : i < es.length
    · obtain h0 | ⟨bk, o, rfl, hbk, hc, hcell⟩ := HF.out
      · subst h0; simp at hlt
      have HC := Lib.hid hcell
      obtain ⟨d1, d2⟩ := hcell i es[i] (by simp [hlt])
      have c1 : wr.cell? ⟨bk, o + i * 2, none⟩ = some (.string es[i].1) := by rw [(bcell HB.out).1 _ _ hbk]; exact d1
      have c2 : wr.cell? ⟨bk, o + i * 2 + 1, none⟩ = some (.int .i64 es[i].2) := by rw [(bcell HB.out).1 _ _ hbk]; exact d2
      have j1 : (i : Int) < es.length := by omega
      have HBAD := Lib.hid (validB_bad (es := es) hlt)
      have HALL := Lib.hid (all_step (es := es) hlt HW.out)
      have hokd : okW es[i] = (decide (1 ≤ es[i].2) && decide (es[i].2 ≤ 65535)) := rfl
      obtain ⟨e, he⟩ : ∃ e, e = es[i] := ⟨_, rfl⟩
      have HE := Lib.hid he
      rw [← he] at c1 c2 HBAD HALL hokd
      clear hcell he d1 d2
      obtain ⟨N, V⟩ := e
      simp only at c1 c2 hokd
      have HBA := Lib.hid (HB.out.alloc HB.out.size (.cells #[.string N, .int .i64 V] 53))
      have HBX := Lib.hid (Row.new wr 53 #[.string N, .int .i64 V])
      by_cases h1 : V < 1
      · have hb : okW (N, V) = false := by rw [hokd, decide_eq_false (by omega)]; rfl
        have HV := Lib.hid (HBAD.out hb)
        clear hokd
        go_wp2_with fail
        go_ret
        exact ⟨by rw [HRR.out, HV.out]; rfl, HBA.out⟩
      by_cases h2 : 65535 < V
      · have hb : okW (N, V) = false := by rw [hokd, decide_eq_true (by omega), decide_eq_false (by omega)]; rfl
        have HV := Lib.hid (HBAD.out hb)
        clear hokd
        go_wp2_with fail
        go_ret
        exact ⟨by rw [HRR.out, HV.out]; rfl, HBA.out⟩
      have hb : okW (N, V) = true := by rw [hokd, decide_eq_true (by omega), decide_eq_true (by omega)]; rfl
      have HA2 := Lib.hid (HALL.out hb)
      have j2 : (i : Int) ≤ es.length := by omega
      have j3 : (i : Int) ≤ c := by omega
      clear hokd
      go_wp2_with fail
      clear c1 c2
      generalize wr.alloc (.cells #[.string N, .int .i64 V] 53) = wa at *
      generalize wr.heap.size = eb at *
      go_loopw [43] (fun p w3 => ∃ q : Nat, q ≤ i ∧ p = .int .i64 (q : Int) ∧ Hid (∀ e ∈ es.take q, e.1 ≠ N) ∧ Hid (Row w3 eb 53 #[.string N, .int .i64 V]) ∧ Hid (Below w'.heap.size w' w3)) (fun p _ => i - (intOf p).toNat)
      case atStart => exact ⟨0, Nat.zero_le _, rfl, (fun e he => by simp at he), HBX, HBA⟩
      case round =>
        clear HBX HBA HB
        obtain ⟨q, hq, rfl, HN, HX, HB⟩ := hrel
        have e0 : wr.cell? ⟨eb, 0, none⟩ = some (.string N) := by rw [HX.out.cell]; rfl
        by_cases hqi : q < i
        · have hql : q < es.length := by omega
          obtain ⟨d1, d2⟩ := HC.out q es[q] (by simp [hql])
          have c1 : wr.cell? ⟨bk, o + q * 2, none⟩ = some (.string es[q].1) := by rw [(bcell HB.out).1 _ _ hbk]; exact d1
          have c2 : wr.cell? ⟨bk, o + q * 2 + 1, none⟩ = some (.int .i64 es[q].2) := by rw [(bcell HB.out).1 _ _ hbk]; exact d2
          have q1 : (q : Int) < i := by omega
          have HBD := Lib.hid (apart_bad (es := es) hqi hlt)
          have HNS := Lib.hid (name_step (es := es) (N := N) hql HN.out)
          have he := HE.out
          rw [← he] at HBD
          have e1 : (wr.alloc (.cells #[.string es[q].1, .int .i64 es[q].2] 53)).cell? ⟨eb, 0, none⟩ = some (.string N) := by rw [((HX.out.alloc _).cell 0)]; rfl
          have HX2 := Lib.hid (HX.out.alloc (.cells #[.string es[q].1, .int .i64 es[q].2] 53))
          have HB2 := Lib.hid (HB.out.alloc HB.out.size (.cells #[.string es[q].1, .int .i64 es[q].2] 53))
          clear d1 d2 he HB HX
          generalize es[q] = f at *
          obtain ⟨X, U⟩ := f
          simp only at *
          by_cases hx : X = N
          · subst hx
            have HV := Lib.hid (HBD.out rfl)
            clear HBD HNS
            go_wp2_with fail
            go_ret
            exact ⟨by rw [HRR.out, HV.out]; rfl, HB2.out⟩
          · have HN2 := Lib.hid (HNS.out hx)
            have hxb : (X.toList == N.toList) = false := by rw [strEqM]; exact decide_eq_false hx
            clear HBD HNS
            go_wp2_with fail
            go_roundw
            case rel => exact ⟨q + 1, hqi, by go_num, HN2, HX2, HB2⟩
            case measure => simp [intOf]; omega
        · obtain rfl : q = i := by omega
          have hne : ¬ (q : Int) < q := by omega
          have hnm := HN.out
          have he := HE.out
          have HA9 := Lib.hid (apart_next hlt HA.out (by rw [← he]; exact HN.out))
          clear he hnm
          go_wp2_with fail
          go_roundw
          case rel => exact ⟨q + 1, hlt, by go_num, HA2, HA9, HB⟩
          case measure => simp [intOf]; omega
    · obtain rfl : i = es.length := by omega
      have hne : ¬ (es.length : Int) < es.length := by omega
      have HV : Hid (validB es = true) := by
        have h1 := HW.out
        have h2 := HA.out
        rw [List.take_length] at h1 h2
        exact valid_all h1 h2
      go_wp2_with fail
      go_ret
      exact ⟨by rw [HRR.out, HV.out]; rfl, HB.out⟩
set_option maxRecDepth 100000 in
set_option maxHeartbeats 4000000 in
theorem build8_bad (k : Nat → UInt8) (es : List Ent) (hl : es.length ≤ 6) (hz : ∀ e ∈ es, e.1.size ≤ 1000) (m : Int) (hc : chkB es m = false) (a : Option Addr) (c : Nat) (w : World) (hf : IsEnts w a c es) :
    Calls Tryz.prog 10 #[keyVal k, .slice a es.length c, .int .i64 m] w fun e w' => e = .returned (.tuple #[.pointer none, .int .i64 1]) ∧ Below w.heap.size w w' := by
  have HQ := Lib.hid (is17 m)
  have hb0 := below_alloc w (.cells #[.int .u8 (k 0).toNat, .int .u8 (k 1).toNat, .int .u8 (k 2).toNat, .int .u8 (k 3).toNat, .int .u8 (k 4).toNat, .int .u8 (k 5).toNat, .int .u8 (k 6).toNat, .int .u8 (k 7).toNat, .int .u8 (k 8).toNat, .int .u8 (k 9).toNat, .int .u8 (k 10).toNat, .int .u8 (k 11).toNat, .int .u8 (k 12).toNat, .int .u8 (k 13).toNat, .int .u8 (k 14).toNat, .int .u8 (k 15).toNat] 25)
  generalize hW : w.alloc (.cells #[.int .u8 (k 0).toNat, .int .u8 (k 1).toNat, .int .u8 (k 2).toNat, .int .u8 (k 3).toNat, .int .u8 (k 4).toNat, .int .u8 (k 5).toNat, .int .u8 (k 6).toNat, .int .u8 (k 7).toNat, .int .u8 (k 8).toNat, .int .u8 (k 9).toNat, .int .u8 (k 10).toNat, .int .u8 (k 11).toNat, .int .u8 (k 12).toNat, .int .u8 (k 13).toNat, .int .u8 (k 14).toNat, .int .u8 (k 15).toNat] 25) = W0 at hb0
  have HV := Lib.hid (valid24 a c es (by omega) (fun e he => by have := hz e he; unfold maxLen; omega) W0 (hf.below hb0))
  have HB0 := Lib.hid hb0
  have HWH := Lib.hid hW
  clear hf hb0 hW hz
  unfold keyVal
  have m1 : ¬ ((1024 : Int) < (es.length : Int)) := by omega
  unfold chkB at hc
  by_cases hp : isP m = true
  case neg =>
    have hp : isP m = false := by simpa using hp
    rw [hp] at HQ
    clear hp hc HV
    go_enter Tryz.func10, Tryz.ntmps10
    go_wp2_with (go_at_call 24; refine (HQ.out _).mono ?_; rintro e w' ⟨rfl, rfl⟩; rw [HWH.out])
    go_ret2
    exact ⟨rfl, HB0.out⟩
  by_cases hm : 100 * (es.length : Int) ≤ m
  case neg =>
    rw [hp] at HQ
    clear hp hc HV
    have m2 : m < 100 * (es.length : Int) := by omega
    go_enter Tryz.func10, Tryz.ntmps10
    go_wp2_with (go_at_call 24; refine (HQ.out _).mono ?_; rintro e w' ⟨rfl, rfl⟩; rw [HWH.out])
    go_ret2
    exact ⟨rfl, HB0.out⟩
  rw [hp, decide_eq_true hm] at hc
  have hv : validB es = false := by simpa using hc
  rw [hv] at HV
  rw [hp] at HQ
  have m2 : ¬ (m < 100 * (es.length : Int)) := by omega
  clear hp hc hv
  go_enter Tryz.func10, Tryz.ntmps10
  go_wp2_with (first | (go_at_call 24; refine (HQ.out _).mono ?_; rintro e w' ⟨rfl, rfl⟩; rw [HWH.out]) | (go_at_call 25; refine HV.out.mono ?_; rintro e w' ⟨rfl, hB1⟩))
  go_ret2
  exact ⟨rfl, HB0.out.trans (hB1.mono HB0.out.size)⟩
end Go.Proofs.YtklfpnnnoaaiaabGreatDoor

/- maglev with equal weights, as math; Pick; stewardlaw18.awake. -/
namespace Go.Proofs.YtklfpnnnoaaiaabGreatDoor
open Go.RowKit

theorem shN_set {own : Nat → Int} {p k i m : Nat} (hp : own p = -1) (hpm : p < m) : shN (setI own p k) i m = shN own i m + (if i = k then 1 else 0) := by
  unfold shN
  by_cases e : i = k
  · subst e
    rw [if_pos rfl]
    refine cntF_set (k := p) ?_ ?_ hpm (fun q hq => ?_)
    · rw [hp]; exact decide_eq_false (by omega)
    · unfold setI; rw [if_pos rfl]; exact decide_eq_true rfl
    · unfold setI; rw [if_neg hq]
  · rw [if_neg e]
    refine cntF_same (k := p) ?_ (fun q hq => ?_)
    · unfold setI; rw [if_pos rfl, hp, decide_eq_false (by omega), decide_eq_false (by omega)]
    · unfold setI; rw [if_neg hq]
/-- How often an entry's turn has come. -/
def turns (n i : Nat) : Nat → Nat
  | 0 => 0
  | t + 1 => turns n i t + (if i = t % n then 1 else 0)
theorem turns_is {n i : Nat} (hn : 0 < n) (hi : i < n) : ∀ T, turns n i T = T / n + (if i < T % n then 1 else 0)
  | 0 => by simp [turns]
  | T + 1 => by
    unfold turns
    rw [turns_is hn hi T]
    have h1 := Nat.div_add_mod T n
    have h2 := Nat.mod_lt T hn
    generalize hq : T / n = q at *
    generalize hr : T % n = r at *
    by_cases e : r + 1 = n
    · have h3 : T + 1 = n * (q + 1) := by rw [Nat.mul_add, Nat.mul_one]; omega
      rw [h3, Nat.mul_div_cancel_left _ hn, Nat.mul_mod_right]
      by_cases e2 : i = r
      · rw [if_pos e2, if_neg (by omega), if_neg (by omega)]
      · rw [if_neg e2, if_pos (by omega), if_neg (by omega)]
    · have h3 : T + 1 = n * q + (r + 1) := by omega
      rw [h3, Nat.mul_add_div hn, Nat.mul_add_mod, Nat.mod_eq_of_lt (show r + 1 < n by omega), Nat.div_eq_of_lt (show r + 1 < n by omega), Nat.add_zero]
      by_cases e2 : i = r
      · rw [if_pos e2, if_neg (by omega), if_pos (by omega)]
      · rw [if_neg e2]
        by_cases e3 : i < r
        · rw [if_pos e3, if_pos (by omega)]
        · rw [if_neg e3, if_neg (by omega)]
/-- With equal weights each round gives each a place. -/
theorem fair_run {P : Par} (h : P.Ok) (hw : ∀ i, i < P.n → P.W i = P.G) : ∀ T, T ≤ P.m → (P.run T).cnt = T ∧ (∀ i, i < P.n → (P.run T).ow i = 0) ∧ ∀ i, i < P.n → shN (P.run T).own i P.m = turns P.n i T
  | 0, _ => by
    refine ⟨rfl, fun _ _ => rfl, fun i _ => ?_⟩
    show cntF (fun q => decide ((-1 : Int) = (i : Int))) P.m = 0
    rw [cntF_congr (q := fun _ => false) (fun q _ => decide_eq_false (by omega)), cntF_none]
  | T + 1, hT => by
    obtain ⟨h1, h2, h3⟩ := fair_run h hw T (by omega)
    have hi := Nat.mod_lt T h.n0
    have hI := Par.run_inv h T
    have hf := hI.free h (by omega) hi
    have hs : P.run (T + 1) = P.take (T % P.n) (P.run T) := by
      show P.stp (T % P.n) (P.run T) = _
      unfold Par.stp
      rw [if_neg (by omega), if_neg (by rw [h2 _ hi, hw _ hi]; omega)]
    rw [hs]
    refine ⟨by show (P.run T).cnt + 1 = _; omega, fun i hin => ?_, fun i hin => ?_⟩
    · show setI (P.run T).ow (T % P.n) ((P.run T).ow (T % P.n) + P.W (T % P.n) - P.G) i = 0
      unfold setI
      split
      · rw [h2 _ hi, hw _ hi]; omega
      · exact h2 i hin
    · show shN (setI (P.run T).own (P.pl (T % P.n) (P.nxt (T % P.n) (P.run T))) (T % P.n : Nat)) i P.m = _
      rw [shN_set hf.2.2.1 (Par.pl_lt h _ _), h3 i hin]
      rfl
/-- The sum of the first shares. -/
def sumN (own : Nat → Int) (m : Nat) : Nat → Nat
  | 0 => 0
  | j + 1 => sumN own m j + shN own j m
theorem sumN_zero (own : Nat → Int) : ∀ n, sumN own 0 n = 0
  | 0 => rfl
  | n + 1 => by unfold sumN; rw [sumN_zero own n]; rfl
theorem sumN_step (own : Nat → Int) (m : Nat) : ∀ n, sumN own (m + 1) n = sumN own m n + (if 0 ≤ own m ∧ own m < n then 1 else 0)
  | 0 => by unfold sumN; rw [if_neg (by omega)]
  | n + 1 => by
    unfold sumN
    rw [sumN_step own m n, shN_step]
    by_cases e : own m = (n : Int)
    · rw [if_neg (by omega), if_pos e, if_pos (by omega)]; omega
    · rw [if_neg e]
      by_cases e2 : 0 ≤ own m ∧ own m < n
      · rw [if_pos e2, if_pos (by omega)]; omega
      · rw [if_neg e2, if_neg (by omega)]; omega
theorem sumN_full {own : Nat → Int} {n : Nat} : ∀ m, (∀ q, q < m → 0 ≤ own q ∧ own q < n) → sumN own m n = m
  | 0, _ => sumN_zero own n
  | m + 1, h => by rw [sumN_step, sumN_full m (fun q hq => h q (by omega)), if_pos (h m (by omega))]
theorem sumN_le {own : Nat → Int} {m : Nat} : ∀ n, sumN own m n ≤ n * m
  | 0 => Nat.zero_le _
  | n + 1 => by unfold sumN; have := sumN_le (own := own) (m := m) n; have := shN_le own n m; rw [Nat.add_mul, Nat.one_mul]; omega
/-- All places are given. -/
theorem Assigned.full {k : Nat → UInt8} {es : List Ent} {m : Nat} {own : Nat → Int} (h : Assigned k es m own) (hne : es ≠ []) (hp : primeB m = true) (hv : ∀ e ∈ es, okW e = true) : ∀ q, q < m → 0 ≤ own q ∧ own q < es.length := by
  intro q hq
  rcases h with ⟨h0, _⟩ | ⟨_, T, hT, rfl⟩
  · exact absurd h0 hne
  · have hI := Par.run_inv (parOf_ok (k := k) (m := m) hne hp hv).1 T
    have hc := hI.cnt
    rw [hT] at hc
    have h2 := cntF_full hc.symm q hq
    have h3 : ((parOf k es m).run T).own q ≠ -1 := of_decide_eq_true h2
    rcases hI.rng q with h4 | h4
    · exact absurd h4 h3
    · exact h4
/-- With equal weights no two shares are more than 1 apart. -/
theorem Assigned.fair {k : Nat → UInt8} {es : List Ent} {m : Nat} {own : Nat → Int} {v : Int} (h : Assigned k es m own) (hne : es ≠ []) (hp : primeB m = true) (hv : ∀ e ∈ es, okW e = true) (he : ∀ e ∈ es, e.2 = v) : ∃ d, d ≤ m ∧ ∀ i, i < es.length → d ≤ shN own i m ∧ shN own i m ≤ d + 1 := by
  rcases h with ⟨h0, _⟩ | ⟨_, T, hT, rfl⟩
  · exact absurd h0 hne
  · have hok := (parOf_ok (k := k) (m := m) hne hp hv).1
    have hw : ∀ i, i < (parOf k es m).n → (parOf k es m).W i = v.toNat := fun i hi => by
      have hi : i < es.length := hi
      rw [parOf_W hi, he _ (List.getElem_mem hi)]
    obtain ⟨i0, hi0, hg⟩ := hok.g
    have hf := fair_run hok (fun i hi => by rw [hw i hi, ← hg, hw i0 hi0]) m (Nat.le_refl _)
    rw [Par.run_same _ hT hf.1]
    refine ⟨m / es.length, Nat.div_le_self _ _, fun i hi => ?_⟩
    have h3 : shN ((parOf k es m).run m).own i m = turns es.length i m := hf.2.2 i hi
    rw [h3, turns_is (List.length_pos_iff.2 hne) hi]
    split <;> omega
set_option maxHeartbeats 1000000 in
theorem pick26 (tb m : Nat) (hm0 : 0 < m) (hm : m ≤ 1048576) (ns : List ByteArray) (hn : ns.length ≤ 1000) (own : Nat → Int) (hok : OwnOk ns.length m own) (x : Nat) (hx : x < 18446744073709551616) (w : World) (h : TableAt w tb ns m own) :
    Calls Tryz.prog 19 #[.pointer (some ⟨tb, 0, none⟩), .int .u64 x] w fun e w' => e = .returned (.string (atN ns m own (belowN x m))) ∧ Below w.heap.size w w' := by
  have HS := Lib.hid (size11 tb m ns own w h)
  have HB := Lib.hid (below15 x m hx hm0 (by omega) w)
  have HA := Lib.hid (at13 tb m ns hn own hok (belowN x m) w h)
  clear h hok
  generalize belowN x m = y at *
  go_enter Tryz.func19, Tryz.ntmps19
  go_wp2_with (first | (go_at_call 35; refine HS.out.mono ?_; rintro e w' ⟨rfl, rfl⟩) | (go_at_call 7; refine HB.out.mono ?_; rintro e w' ⟨rfl, rfl⟩) | (go_at_call 36; refine HA.out.mono ?_; rintro e w' ⟨rfl, hB⟩))
  go_ret
  exact ⟨rfl, hB⟩
end Go.Proofs.YtklfpnnnoaaiaabGreatDoor

