/- slices.SortedFunc of the items; Keys. -/
import Derived.Test.YtichkfbpmhpnaaaAhKa
import Derived.Test.YtichkfbpmhpnaaaAhD
import Derived.Shelf.Small.Bits
import Derived.Shelf.Lay
import Derived.Ground.NamesProg
namespace Go.Proofs.Ytichkfbpmhpnaaa
open Go.RowKit Go.Shelf Go.Lib Go.Sort Go.Maps

shelf_lay Lays.n125 Nm 125 at Try as Try.bitsLenA

theorem alenBits (n : Nat) (W : World) (h : n ≤ 12) : Calls Try.prog 120 #[.int .u64 n] W fun e w' => (∃ l : Int, e = .returned (.int .i64 l)) ∧ w' = W :=
  (Any.bits_Len Try.bitsLenA n W (by omega) (by omega)).mono fun _ _ ⟨he, hw⟩ => ⟨⟨_, he⟩, hw⟩
theorem ainsNone (a : Option Addr) (c : Nat) (f : Value) (w : World) :
    Calls Try.prog 145 #[.slice a 0 c, .int .i64 0, .int .i64 0, f] w fun e w' => e = .returned (.tuple #[]) ∧ w' = w := by
  go_enter Try.func145, Try.ntmps145
  go_wp2_with fail
  go_loopw [8] (fun i wr => i = .int .i64 1 ∧ wr = w) (fun _ _ => 0)
  case atStart => exact ⟨rfl, rfl⟩
  case round =>
    obtain ⟨rfl, rfl⟩ := hrel
    go_wp2_with fail
    go_end0
    exact ⟨rfl, rfl⟩
theorem apdqNone (a : Option Addr) (c : Nat) (l : Int) (f : Value) (w : World) :
    Calls Try.prog 129 #[.slice a 0 c, .int .i64 0, .int .i64 0, .int .i64 l, f] w fun e w' => e = .returned (.tuple #[]) ∧ w' = w := by
  go_enter Try.func129, Try.ntmps129
  go_wp2_with fail
  go_loopw [1, 2] (fun i j wr => i = .int .i64 0 ∧ j = .int .i64 0 ∧ wr = w) (fun _ _ _ => 0)
  case atStart => exact ⟨rfl, rfl, rfl⟩
  case round =>
    obtain ⟨rfl, rfl, rfl⟩ := hrel
    go_wp2_with (go_at_call 145; refine (ainsNone _ _ _ _).mono ?_; rintro e w' ⟨rfl, hw'⟩; subst hw')
    refine bodyPost_ret (results_none rfl _ _ _) rfl ?_
    exact ⟨rfl, rfl⟩
theorem asortNone (a : Option Addr) (c : Nat) (f : Value) (w : World) :
    Calls Try.prog 113 #[.slice a 0 c, f] w fun e w' => e = .returned (.tuple #[]) ∧ w' = w := by
  go_enter Try.func113, Try.ntmps113
  go_wp2_with (first
    | (go_at_call 120; refine (alenBits 0 _ (by omega)).mono ?_; rintro e w' ⟨⟨l, rfl⟩, hw'⟩; subst hw')
    | (go_at_call 129; refine (apdqNone _ _ _ _ _).mono ?_; rintro e w' ⟨rfl, hw'⟩; subst hw'))
  go_end0
  exact ⟨rfl, rfl⟩
/-- The items' blocks, in the heap's order. -/
def bsQ (Q : Nat → It) (n : Nat) : List Nat := (List.range n).map fun i => (Q i).b
theorem bsQ_length (Q : Nat → It) (n : Nat) : (bsQ Q n).length = n := by simp [bsQ]
theorem bsQ_at (Q : Nat → It) {n i : Nat} (hi : i < n) : (bsQ Q n)[i]? = some (Q i).b := by
  unfold bsQ
  rw [List.getElem?_map, List.getElem?_range hi]; rfl
/-- What SortedFunc leaves: the places of the items in their order. -/
def SrtP (w : World) (n : Nat) (Q : Nat → It) (e : Ending) (w' : World) : Prop :=
  ∃ (d : List Nat) (a : Option Addr) (c : Nat), e = .returned (.slice a n c) ∧ d.length = n ∧ (∀ i ∈ d, i < n) ∧ d.Nodup ∧ d.Pairwise (fun i j => leI (Q i) (Q j)) ∧ (∀ p, a = some p → w.heap.size ≤ p.block ∧ p.block < w'.heap.size) ∧ (∀ (j : Nat) i, d[j]? = some i → ∃ g, a = some ⟨g, 0, none⟩ ∧ w'.cell? ⟨g, j, none⟩ = some (ptI (Q i))) ∧ Below w.heap.size w w'
set_option maxHeartbeats 1000000 in
theorem psorted (Bs c n : Nat) (a : Option Addr) (Q : Nat → It) (hn : n ≤ 100000) (w : World) (hBs : Bs < w.heap.size)
    (hc : w.cell? ⟨Bs, 0, none⟩ = some (.slice a n c)) (hI : IsPts w a c (bsQ Q n)) (hit : ∀ i, i < n → Row w (Q i).b 104 (itR (Q i) i)) :
    Calls Try.prog 87 #[.func (.func 114) #[] #[.pointer (some ⟨Bs, 0, none⟩)], .func (.func 89) #[] #[]] w (SrtP w n Q) := by
  have HC := Lib.hid (pcollect Bs c a (bsQ Q n) (by rw [bsQ_length]; omega) w hBs (by rw [bsQ_length]; exact hc) hI)
  rw [bsQ_length] at HC
  have HIT := Lib.hid hit
  clear hI hit
  go_enter Try.func87, Try.ntmps87
  go_wp2_with fail
  refine HC.out.mono ?_
  rintro e w1 ⟨v, rfl, ho, hb⟩
  obtain ⟨a1, c1, rfl⟩ := own_slice ho
  have HB := Lib.hid hb
  by_cases h0 : n = 0
  · subst h0
    have ha1 : a1 = none ∨ ∃ g, a1 = some ⟨g, 0, none⟩ ∧ w.heap.size ≤ g ∧ g < w1.heap.size := by
      rcases ho.2 with ⟨h1, _⟩ | ⟨g, cap, cur, h1, h2, h3, _⟩
      · injection h1 with h1; exact .inl h1
      · injection h1 with h1; exact .inr ⟨g, h1, h2, (Array.getElem?_eq_some_iff.1 h3).1⟩
    have HA1 := Lib.hid ha1
    clear ho hb ha1 HC
    go_wp2_with fail
    refine (asortNone _ _ _ _).mono ?_
    rintro e w' ⟨rfl, rfl⟩
    go_wp2_with fail
    go_ret
    refine ⟨[], a1, c1, rfl, rfl, (fun i hi => by cases hi), .nil, .nil, fun p hp => ?_, fun j i h => by simp at h, HB.out⟩
    rcases HA1.out with h | ⟨g, h, h2, h3⟩
    · rw [h] at hp; cases hp
    · rw [h] at hp; injection hp with hp; subst hp; exact ⟨h2, h3⟩
  · have hlen : (bsQ Q n).length = n := bsQ_length Q n
    obtain ⟨g, rfl⟩ : ∃ g, a1 = some ⟨g, 0, none⟩ := by
      rcases ho.2 with ⟨h1, h2⟩ | ⟨g, cap, cur, h1, _⟩
      · exact absurd h2 h0
      · injection h1 with h1; exact ⟨g, h1⟩
    obtain ⟨hg1, hg2⟩ := ho.lt g rfl
    have HS := Lib.hid (sort97 g c1 n (by omega) hn Q w1 (fun i hi => (HIT.out i hi).below hb) (fun i hi => by
      refine ⟨?_, ho.frozenAt i⟩
      rw [ho.cellAt i (by omega)]
      unfold cellsP
      rw [List.getElem?_map, bsQ_at Q hi]
      rfl) hg2 (fun i hi e => by
      have := (HIT.out i hi).lt
      omega))
    have HG : Hid (w.heap.size ≤ g ∧ g < w1.heap.size) := ⟨hg1, hg2⟩
    clear ho hb HC hlen hg1 hg2
    go_wp2_with fail
    refine HS.out.mono ?_
    rintro e w2 ⟨rfl, ⟨d, hds, hp, hs, hcell⟩, hk⟩
    have hb2 : Below w.heap.size w w2 := HB.out.trans (hk.bel (fun k e => by rw [e]; exact HG.out.1) HB.out.size)
    have HR : Hid (SrtP w n Q (.returned (.slice (some ⟨g, 0, none⟩) n c1)) w2) := by
      refine ⟨d.toList.map (fun i => i.1), _, _, rfl, by simp [hds], fun i hi => ?_, ?_, ?_, fun p hp => ?_, fun j i h => ?_, hb2⟩
      · obtain ⟨x, _, rfl⟩ := List.mem_map.1 hi
        exact x.2
      · have h1 : d.toList.Nodup := hp.symm.nodup (List.nodup_finRange n)
        exact List.Pairwise.map _ (fun a b hab e => hab (Fin.ext e)) h1
      · rw [List.pairwise_map, List.pairwise_iff_getElem]
        intro i j hi hj hij
        exact hs i j (by simpa using hi) (by simpa using hj) hij
      · injection hp with hp; subst hp
        exact ⟨HG.out.1, Nat.lt_of_lt_of_le HG.out.2 hk.size⟩
      · have hj : j < d.size := by
          rcases Nat.lt_or_ge j d.size with h2 | h2
          · exact h2
          · rw [List.getElem?_eq_none (by simpa using h2)] at h; cases h
        refine ⟨g, rfl, ?_⟩
        rw [hcell j hj]
        rw [List.getElem?_map, Array.getElem?_toList, Array.getElem?_eq_getElem hj] at h
        simp only [Option.map_some, Option.some.injEq] at h
        rw [h]
    clear hp hs hcell hk hb2 HS hds
    go_wp2_with fail
    go_ret
    exact HR.out
/-- The items in their order are the list. -/
theorem RelA.sorted {l : List RI} {n : Nat} {sets : Int} {C : Value × Int × Int → Prop} {L : List It4} (h : RelA l n sets C L) {Q : Nat → It} (hC : ∀ x, CQ n Q x ↔ C x) (hinj : ∀ i j, i < n → j < n → (Q i).k = (Q j).k → i = j) {d : List Nat} (hd : ∀ i ∈ d, i < n) (hnd : d.Nodup) (hlen : d.length = n) (hs : d.Pairwise (fun i j => leI (Q i) (Q j))) : d.map (fun i => cn (Q i)) = L.map v4 := by
  have hle : ∀ i j, leI (Q i) (Q j) ↔ ((cn (Q i)).2.1 < (cn (Q j)).2.1 ∨ (cn (Q i)).2.1 = (cn (Q j)).2.1 ∧ (cn (Q i)).2.2 ≤ (cn (Q j)).2.2) := fun i j => leI_iff _ _
  have hLn : (L.map v4).Nodup := by
    refine List.pairwise_map.2 (h.key.imp (fun {a b} hab e => hab ?_))
    unfold v4 at e
    injection e with e _
    injection e
  have hdn : (d.map (fun i => cn (Q i))).Nodup := by
    rw [List.nodup_iff_pairwise_ne, List.pairwise_map]
    refine List.Pairwise.imp_of_mem (fun {a b} ha hb hab e => hab ?_) hnd
    exact hinj a b (hd a ha) (hd b hb) (by have := congrArg (·.1) e; exact this)
  have hsub : d.map (fun i => cn (Q i)) ⊆ L.map v4 := fun x hx => by
    obtain ⟨i, hi, rfl⟩ := List.mem_map.1 hx
    obtain ⟨e, he, e2⟩ := (h.mem _).1 ((hC _).1 ⟨i, hd i hi, rfl⟩)
    rw [e2]
    exact List.mem_map.2 ⟨e, he, rfl⟩
  have hall : ∀ i, i < n → i ∈ d := fun i hi => by
    by_cases hid : i ∈ d
    · exact hid
    · have h9 : (i :: d).length ≤ (List.range n).length := List.Nodup.length_le_of_subset (List.nodup_cons.2 ⟨hid, hnd⟩) (fun x hx => by
        rcases List.mem_cons.1 hx with rfl | hx
        · exact List.mem_range.2 hi
        · exact List.mem_range.2 (hd x hx))
      rw [List.length_cons, List.length_range, hlen] at h9
      omega
  refine List.Perm.eq_of_pairwise (le := fun x y : Value × Int × Int => x.2.1 < y.2.1 ∨ x.2.1 = y.2.1 ∧ x.2.2 ≤ y.2.2) (fun a b ha hb h1 h2 => ?_) ?_ ?_ ((List.perm_ext_iff_of_nodup hdn hLn).2 (fun x => ⟨fun hx => hsub hx, fun hx => ?_⟩))
  · obtain ⟨p, hp, rfl⟩ := List.mem_map.1 (hsub ha)
    obtain ⟨q, hq, rfl⟩ := List.mem_map.1 hb
    have e1 : (v4 p).2.1 = (v4 q).2.1 := by omega
    have e2 : (v4 p).2.2 = (v4 q).2.2 := by omega
    by_cases e : p = q
    · rw [e]
    · exfalso
      obtain ⟨i, hi, ei⟩ := List.mem_iff_getElem.1 hp
      obtain ⟨j, hj, ej⟩ := List.mem_iff_getElem.1 hq
      have ho := List.pairwise_iff_getElem.1 h.ord
      have h12 : p.2.1 = q.2.1 ∧ p.2.2 = q.2.2 := ⟨e1, e2⟩
      rcases Nat.lt_trichotomy i j with hij | hij | hij
      · have := ho i j hi hj hij
        rw [ei, ej] at this
        unfold lt4 at this; omega
      · subst hij; rw [ei] at ej; exact e ej
      · have := ho j i hj hi hij
        rw [ei, ej] at this
        unfold lt4 at this; omega
  · exact List.pairwise_map.2 (hs.imp (fun {a b} hab => (hle a b).1 hab))
  · refine List.pairwise_map.2 (h.ord.imp (fun {a b} hab => ?_))
    unfold lt4 at hab
    show a.2.1 < b.2.1 ∨ a.2.1 = b.2.1 ∧ a.2.2 ≤ b.2.2
    omega
  · obtain ⟨e, he, rfl⟩ := List.mem_map.1 hx
    obtain ⟨i, hi, e2⟩ := (hC _).2 ((h.mem _).2 ⟨e, he, rfl⟩)
    exact List.mem_map.2 ⟨i, hall i hi, e2⟩
end Go.Proofs.Ytichkfbpmhpnaaa
