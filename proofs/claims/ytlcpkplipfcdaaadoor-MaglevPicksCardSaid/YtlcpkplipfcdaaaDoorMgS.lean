/- slices.SortFunc, slices.SortedFunc at maglev's entries; maglev.sorted. -/
import Derived.Test.YtlcpkplipfcdaaaDoorMgA
import Derived.Lib.OwnBridge
namespace Go.Proofs.YtlcpkplipfcdaaaDoor
open Go.RowKit Go.Shelf Go.Lib Go.Sort

shelf_lay Lays.n125 Nm 125 at Tryd as Tryd.bitsLenS

theorem hlenS (n : Nat) (W : World) (h : n ≤ 12) : Calls Tryd.prog 73 #[.int .u64 n] W fun e w' => (∃ l : Int, e = .returned (.int .i64 l)) ∧ w' = W :=
  (Any.bits_Len Tryd.bitsLenS n W (by omega) (by omega)).mono fun _ _ ⟨he, hw⟩ => ⟨⟨_, he⟩, hw⟩
/-- In the order of their names. -/
def SortedE (es : List Ent) : Prop := es.Pairwise fun a b => ¬ nmB b.1 < nmB a.1
theorem below_sortK {B g q : Nat} {w : World} (os : Array Obj) (d : Array Ent) (hg : B ≤ g) (hB : B ≤ w.heap.size) : Below B w (sortWorldK encE 2 w g 0 q d os) := by
  have h := below_putRow (enc := id) (B := B) (w0 := w) (w := w) (g := g) (q := q) (d := flatK encE 2 d) (Below.refl B w) hg
  exact ⟨h.os, h.tape, h.output, by unfold sortWorldK grow; have := h.size; show _ ≤ (_ ++ os).size; rw [Array.size_append]; exact Nat.le_trans this (Nat.le_add_right _ _), fun k hk => by
    unfold sortWorldK
    have := heap_grow_old (putRowK encE 2 (Go.Sort.ahead w q) g 0 d) os (k := k) (Nat.lt_of_lt_of_le (Nat.lt_of_lt_of_le hk hB) h.size)
    rw [this]
    exact h.block k hk⟩
theorem holds_ents {base g c : Nat} {T : TypeId} {es : List Ent} {w : World} (h : w.ownsRow base T 2 (.slice (some ⟨g, 0, none⟩) es.length c) es.length (cellsE es)) : HoldsK encE 2 w g 0 es.toArray := by
  intro t ht
  rw [size_flatK, List.size_toArray] at ht
  have hcl := cellsE_length es
  rw [get_flatK _ _ _ _ (by simpa using ht), Nat.zero_add]
  refine ⟨?_, h.frozenAt t⟩
  have hi : t / 2 < es.length := by omega
  have hd : es.toArray[t / 2]! = es[t / 2] := by simp [hi]
  obtain ⟨c1, c2⟩ := cellsE_at es (t / 2) es[t / 2] (by simp [hi])
  rw [h.cellAt t (by omega), hd]
  rcases Nat.mod_two_eq_zero_or_one t with e | e
  · rw [show (cellsE es)[t]? = (cellsE es)[t / 2 * 2]? by congr 1; omega, c1, e]; rfl
  · rw [show (cellsE es)[t]? = (cellsE es)[t / 2 * 2 + 1]? by congr 1; omega, c2, e]; rfl
theorem ents_holds {g c : Nat} {d : Array Ent} {w : World} (h : HoldsK encE 2 w g 0 d) (hg : g < w.heap.size) (hc : d.size ≤ c) : IsEnts w (some ⟨g, 0, none⟩) c d.toList := by
  refine .inr ⟨g, 0, rfl, hg, by simpa using hc, fun j e he => ?_⟩
  have hj : j < d.size := by
    rcases Nat.lt_or_ge j d.size with h | h
    · exact h
    · rw [List.getElem?_eq_none (by simpa using h)] at he; cases he
  have hd : d[j]! = e := by
    rw [getElem!_pos d j hj]
    simpa [hj] using he
  have c1 := (h.cell (i := j) (c := 0) hj (by decide)).1
  have c2 := (h.cell (i := j) (c := 1) hj (by decide)).1
  rw [hd] at c1 c2
  exact ⟨c1, c2⟩
theorem perm_ents {es : List Ent} {d' : Array Ent} (h : PermIn 0 es.toArray.size es.toArray d') : d'.toList.Perm es := by
  obtain ⟨h1, _, h3⟩ := h
  have hl : d'.toList.length = es.length := by simpa using h1
  have e1 : (d'.extract 0 es.toArray.size).toList = d'.toList := by simp [← hl]
  have e2 : (es.toArray.extract 0 es.toArray.size).toList = es := by simp
  rw [e1, e2] at h3
  exact h3
theorem sorted_ents {d' : Array Ent} (h : SortedIn (ltOf fun x y : Ent => cmpS x.1 y.1) 0 d'.size d') : SortedE d'.toList := by
  unfold SortedE
  rw [List.pairwise_iff_getElem]
  intro i j hi hj hij
  have := h i j (Nat.zero_le _) hij (by simpa using hj)
  rw [ltS, decide_eq_false_iff_not] at this
  rw [getElem!_pos d' i (by simpa using hi), getElem!_pos d' j (by simpa using hj)] at this
  simpa using this
set_option maxHeartbeats 1000000 in
theorem sort47 (base g c : Nat) (es : List Ent) (h12 : es.length ≤ 12) (w : World) (hb : base ≤ g) (hbw : base ≤ w.heap.size) (hg : g < w.heap.size) (hc : es.length ≤ c) (hown : w.ownsRow base 72 2 (.slice (some ⟨g, 0, none⟩) es.length c) es.length (cellsE es)) :
    Calls Tryd.prog 79 #[.slice (some ⟨g, 0, none⟩) es.length c, .func (.func 59) #[] #[]] w fun e w' => e = .returned (.tuple #[]) ∧ ∃ es' : List Ent, es'.Perm es ∧ SortedE es' ∧ IsEnts w' (some ⟨g, 0, none⟩) c es' ∧ Below base w w' := by
  have eg : ∀ args w, (callFunc 59 args).run Tryd.prog w = .ok (.enter 59 args) w := enters_of Tryd.func59 (by kernel_rfl) rfl
  have hH := holds_ents hown
  have hcon := AnyQ.slices_SortFunc_small_sorted Tryd.sortEnt 2 Tryd.isAgg72 Tryd.sizeOf72 encE (fun _ => rfl) (fun x v hv => by simp [encE] at hv; rcases hv with rfl | rfl <;> rfl) (fun x y => cmpS x.1 y.1) 59 #[] swoS g 0 c es.toArray w eg (cmpLaysS g 0 _ w) hH hg (by simpa using h12) hlenS
  rw [List.size_toArray] at hcon
  refine Calls.mono hcon ?_
  rintro e w' ⟨he, d', n, os, hp, hs, rfl⟩
  have hsz : d'.size = es.length := by have := hp.1; simpa using this
  refine ⟨he, d'.toList, perm_ents (by simpa using hp), sorted_ents (by rw [hsz]; exact hs), ents_holds (holdsK_sortWorldK_c encE 2 w g 0 es.toArray d' n os hH hg (by simpa using hsz)) ?_ (by omega), below_sortK os d' hb hbw⟩
  have := (below_sortK (w := w) (q := n) os d' hb hbw).size
  omega
theorem insNone (a : Option Addr) (c : Nat) (f : Value) (w : World) :
    Calls Tryd.prog 117 #[.slice a 0 c, .int .i64 0, .int .i64 0, f] w fun e w' => e = .returned (.tuple #[]) ∧ w' = w := by
  go_enter Tryd.func117, Tryd.ntmps117
  go_wp2_with fail
  go_loopw [8] (fun i wr => i = .int .i64 1 ∧ wr = w) (fun _ _ => 0)
  case atStart => exact ⟨rfl, rfl⟩
  case round =>
    obtain ⟨rfl, rfl⟩ := hrel
    go_wp2_with fail
    go_end0
    exact ⟨rfl, rfl⟩
theorem pdqNone (a : Option Addr) (c : Nat) (l : Int) (f : Value) (w : World) :
    Calls Tryd.prog 104 #[.slice a 0 c, .int .i64 0, .int .i64 0, .int .i64 l, f] w fun e w' => e = .returned (.tuple #[]) ∧ w' = w := by
  go_enter Tryd.func104, Tryd.ntmps104
  go_wp2_with fail
  go_loopw [1, 2] (fun i j wr => i = .int .i64 0 ∧ j = .int .i64 0 ∧ wr = w) (fun _ _ _ => 0)
  case atStart => exact ⟨rfl, rfl, rfl⟩
  case round =>
    obtain ⟨rfl, rfl, rfl⟩ := hrel
    go_wp2_with (go_at_call 117; refine (insNone _ _ _ _).mono ?_; rintro e w' ⟨rfl, hw'⟩; subst hw')
    refine bodyPost_ret (results_none rfl _ _ _) rfl ?_
    exact ⟨rfl, rfl⟩
theorem sortNone (a : Option Addr) (c : Nat) (f : Value) (w : World) :
    Calls Tryd.prog 79 #[.slice a 0 c, f] w fun e w' => e = .returned (.tuple #[]) ∧ w' = w := by
  go_enter Tryd.func79, Tryd.ntmps79
  go_wp2_with (first
    | (go_at_call 73; refine (hlenS 0 _ (by omega)).mono ?_; rintro e w' ⟨⟨l, rfl⟩, hw'⟩; subst hw')
    | (go_at_call 104; refine (pdqNone _ _ _ _ _).mono ?_; rintro e w' ⟨rfl, hw'⟩; subst hw'))
  go_end0
  exact ⟨rfl, rfl⟩
theorem collect46 (Bs c : Nat) (a : Option Addr) (es : List Ent) (hl : es.length ≤ 100000) (w : World) (hBs : Bs < w.heap.size)
    (hc : w.cell? ⟨Bs, 0, none⟩ = some (.slice a es.length c)) (hI : IsEnts w a c es) :
    Calls Tryd.prog 78 #[.func (.func 80) #[] #[.pointer (some ⟨Bs, 0, none⟩)]] w fun e W' =>
      ∃ v, e = .returned v ∧ W'.ownsRow w.heap.size 72 2 v es.length (cellsE es) ∧ Below w.heap.size w W' := by
  have HA := Lib.hid (callsIn_wide.1 (appendSeq_in 3 (by omega) Bs c a es hl w hBs hc hI))
  clear hI
  go_enter Tryd.func78, Tryd.ntmps78
  go_wp2_with (go_at_call 103; refine HA.out.mono ?_; rintro e w' ⟨v, rfl, ho, hb⟩)
  go_ret
  exact ⟨v, rfl, ho, hb⟩
def SortPost (w : World) (es : List Ent) (e : Ending) (w' : World) : Prop :=
  ∃ a c es', e = .returned (.slice a es.length c) ∧ es'.Perm es ∧ SortedE es' ∧ IsEnts w' a c es' ∧ Below w.heap.size w w'
set_option maxHeartbeats 1000000 in
theorem sortedFunc34 (Bs c : Nat) (a : Option Addr) (es : List Ent) (h12 : es.length ≤ 12) (w : World) (hBs : Bs < w.heap.size)
    (hc : w.cell? ⟨Bs, 0, none⟩ = some (.slice a es.length c)) (hI : IsEnts w a c es) :
    Calls Tryd.prog 57 #[.func (.func 80) #[] #[.pointer (some ⟨Bs, 0, none⟩)], .func (.func 59) #[] #[]] w (SortPost w es) := by
  have HC := Lib.hid (collect46 Bs c a es (by omega) w hBs hc hI)
  clear hI
  go_enter Tryd.func57, Tryd.ntmps57
  go_wp2_with (go_at_call 78; refine HC.out.mono ?_; rintro e w1 ⟨v, rfl, ho, hb⟩)
  obtain ⟨a1, c1, rfl⟩ := own_slice ho
  have HB := Lib.hid hb
  by_cases h0 : es.length = 0
  · have he0 : es = [] := List.eq_nil_of_length_eq_zero h0
    clear ho hb
    rw [h0]
    go_wp2_with (go_at_call 79; refine (sortNone _ _ _ _).mono ?_; rintro e w' ⟨rfl, hw'⟩; subst hw')
    go_ret
    exact ⟨a1, c1, [], by rw [h0]; rfl, by rw [he0], List.Pairwise.nil, .inl rfl, HB.out⟩
  · obtain ⟨g, rfl⟩ : ∃ g, a1 = some ⟨g, 0, none⟩ := by
      rcases ho.2 with ⟨h1, h2⟩ | ⟨g, cap, cur, h1, _⟩
      · exact absurd h2 h0
      · injection h1 with h1; exact ⟨g, h1⟩
    obtain ⟨hg1, hg2⟩ := ho.lt g rfl
    have hcap : es.length ≤ c1 := by
      rcases ho.2 with ⟨h1, h2⟩ | ⟨g, cap, cur, h1, _, _, h3, _⟩
      · exact absurd h2 h0
      · injection h1 with _ _ h4; omega
    have HS := Lib.hid (sort47 w.heap.size g c1 es h12 w1 hg1 hb.size hg2 hcap ho)
    clear ho hb
    go_wp2_with (go_at_call 79; refine HS.out.mono ?_; rintro e w2 ⟨rfl, es', hp, hs, hi, hb2⟩)
    go_ret
    exact ⟨_, c1, es', rfl, hp, hs, hi, HB.out.trans hb2⟩
set_option maxHeartbeats 1000000 in
theorem sorted25 (c : Nat) (a : Option Addr) (es : List Ent) (h12 : es.length ≤ 12) (w : World) (hI : IsEnts w a c es) :
    Calls Tryd.prog 40 #[.slice a es.length c] w (SortPost w es) := by
  have HV := Lib.hid (callsIn_wide.1 (values_in 2 a es.length c w))
  have hb := below_alloc w (.cells #[.slice a es.length c] 32)
  have HF := Lib.hid (sortedFunc34 w.heap.size c a es h12 (w.alloc (.cells #[.slice a es.length c] 32)) (by simp) (by simp) (hI.below hb))
  have HB := Lib.hid hb
  clear hI hb
  go_enter Tryd.func40, Tryd.ntmps40
  go_wp2_with (first
    | (go_at_call 58; refine HV.out.mono ?_; rintro e w' ⟨rfl, rfl⟩)
    | (go_at_call 57; refine HF.out.mono ?_; rintro e w2 ⟨a2, c2, es', rfl, hp, hs, hi, hb2⟩))
  go_ret
  exact ⟨a2, c2, es', rfl, hp, hs, hi, HB.out.trans (hb2.mono HB.out.size)⟩
end Go.Proofs.YtlcpkplipfcdaaaDoor
