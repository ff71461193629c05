/- Packed: MgY, MgZ, MgBe, MgKy, RgM, RgD. -/
import Derived.BigQuiet
import Derived.Laws.AppendOwn
import Derived.Deep.AppendLies
import Derived.Test.YtklfpnnnoaaiaaaDoorG01
import Derived.Test.YtklfpnnnoaaiaaaDoorG03
import Derived.Test.YtklfpnnnoaaiaaaDoorG05
/- stewardlaw05.Same (out of XSameA); sorted entries are the same in whatever order they come. -/
namespace Go.Proofs.YtklfpnnnoaaiaaaDoor
open Go.RowKit

theorem str_beqM (a b : ByteArray) : (a.toList == b.toList) = decide (a = b) := by
  rw [ByteArray.toList_eq, ByteArray.toList_eq]
  by_cases h : a = b
  · subst h; simp
  · have h2 : ¬ a.data = b.data := fun e => h (ByteArray.ext e)
    simp [h, h2]
theorem take_eq_step (xs ys : List ByteArray) (j : Nat) (hx : j < xs.length) (hy : j < ys.length) (h : xs.take j = ys.take j) (he : xs[j] = ys[j]) : xs.take (j + 1) = ys.take (j + 1) := by
  rw [List.take_add_one, List.take_add_one, h, List.getElem?_eq_getElem hx, List.getElem?_eq_getElem hy, he]

set_option maxRecDepth 100000 in
set_option maxHeartbeats 1000000 in
theorem sameM (a : Option Addr) (c : Nat) (xs : List ByteArray) (b : Option Addr) (d : Nat) (ys : List ByteArray) (R : Bool) (hR : R = decide (xs = ys)) (hlx : xs.length ≤ 9223372036854775807) (hly : ys.length ≤ 9223372036854775807) (w : World) (hx : IsStrs w a c xs) (hy : IsStrs w b d ys) :
    Calls Tryd.prog 14 #[.slice a xs.length c, .slice b ys.length d] w fun e w' => e = .returned (.bool R) ∧ Below w.heap.size w w' := by
  by_cases hsz : xs.length = ys.length
  · have HR := Lib.hid hR
    have hne : ((xs.length : Int) != (ys.length : Int)) = false := by simp [hsz]
    have HS := Lib.hid hsz
    have HX := Lib.hid hx
    have HY := Lib.hid hy
    clear hR hsz hx hy
    go_enter Tryd.func14, Tryd.ntmps14
    go_wp2_with fail
    clear hne
    go_loopw [13] (fun i wr => ∃ j : Nat, j ≤ xs.length ∧ i = .int .i64 (j : Int) ∧ Hid (xs.take j = ys.take j) ∧ Below w.heap.size w wr) (fun i _ => xs.length - (intOf i).toNat)
    case atStart => exact ⟨0, Nat.zero_le _, rfl, rfl, Below.refl _ _⟩
    case round =>
      obtain ⟨j, hj, rfl, hr, hbl⟩ := hrel
      by_cases hlt : j < xs.length
      · have hly2 : j < ys.length := by have := HS.out; omega
        obtain h0 | ⟨bk, o, rfl, hbk, hc, hcell⟩ := HX.out.below hbl
        · subst h0; simp at hlt
        obtain h0 | ⟨bk2, o2, rfl, hbk2, hc2, hcell2⟩ := HY.out.below hbl
        · subst h0; simp at hly2
        have cj := hcell j xs[j] (by simp [hlt])
        have dj := hcell2 j ys[j] (by simp [hly2])
        have j1 : (j : Int) < xs.length := by omega
        have j2 : (j : Int) < ys.length := by omega
        have hbn : ∀ n, Below w.heap.size w (wr.drewN n) := fun n => hbl.trans ⟨rfl, rfl, rfl, Nat.le_refl _, fun _ _ => rfl⟩
        clear hcell hcell2
        by_cases he : xs[j] = ys[j]
        · have hst := Lib.hid (take_eq_step xs ys j hlt hly2 hr.out he)
          rw [← he] at dj
          generalize xs[j] = x at cj dj
          clear he
          go_wp2_with fail
          go_quiet (fail)
          go_wp2_with fail
          go_roundw
          case rel => exact ⟨j + 1, hlt, by go_num, hst, hbn _⟩
          case measure => simp [intOf]; omega
        · have hno : Hid (¬ xs = ys) := fun e => he (by subst e; rfl)
          have hq : (xs[j].toList == ys[j].toList) = false := by rw [str_beqM, decide_eq_false he]
          have hq2 : (xs[j].toList != ys[j].toList) = true := by rw [bne, hq]; rfl
          clear he
          generalize xs[j] = x at cj hq hq2
          generalize ys[j] = y at dj hq hq2
          go_wp2_with fail
          go_quiet (fail)
          go_wp2_with fail
          go_ret
          exact ⟨by rw [HR.out, decide_eq_false hno.out]; rfl, hbn _⟩
      · obtain rfl : j = xs.length := by omega
        have h1 := hr.out
        have hs2 := HS.out
        rw [List.take_of_length_le (by omega), List.take_of_length_le (by omega)] at h1
        have H1 := Lib.hid h1
        clear h1 hs2
        go_wp2_with fail
        go_ret
        exact ⟨by rw [HR.out, decide_eq_true H1.out]; rfl, hbl⟩
  · have hno : R = false := by rw [hR]; exact decide_eq_false (fun e => hsz (by rw [e]))
    subst hno
    have hne : ((xs.length : Int) != (ys.length : Int)) = true := by simp; omega
    clear hR hsz hx hy
    go_enter Tryd.func14, Tryd.ntmps14
    go_wp2_with fail
    go_ret
    exact ⟨rfl, Below.refl _ _⟩
theorem apart_eq : ∀ {l : List Ent}, Apart l → ∀ {a b : Ent}, a ∈ l → b ∈ l → a.1 = b.1 → a = b
  | [], _, a, b, ha, _, _ => by simp at ha
  | x :: l, h, a, b, ha, hb, e => by
    unfold Apart at h
    obtain ⟨h1, h2⟩ := List.pairwise_cons.1 h
    rcases List.mem_cons.1 ha with rfl | ha2
    · rcases List.mem_cons.1 hb with rfl | hb2
      · rfl
      · exact absurd e (h1 b hb2)
    · rcases List.mem_cons.1 hb with rfl | hb2
      · exact absurd e.symm (h1 a ha2)
      · exact apart_eq (l := l) h2 ha2 hb2 e
theorem apart_perm {l l' : List Ent} (p : l.Perm l') : Apart l ↔ Apart l' := p.pairwise_iff (fun h => Ne.symm h)
theorem valid_perm {l l' : List Ent} (p : l.Perm l') : validB l = validB l' := by
  unfold validB
  rw [p.all_eq]
  congr 1
  rw [decide_eq_decide]
  exact apart_perm p
theorem sorted_uniq {l l' : List Ent} (p : l.Perm l') (h : SortedE l) (h' : SortedE l') (ha : Apart l) : l = l' := by
  unfold SortedE at h h'
  refine List.Perm.eq_of_pairwise (le := fun a b : Ent => ¬ nmB b.1 < nmB a.1) (fun a b ha1 hb1 h1 h2 => ?_) h h' p
  have hb2 : b ∈ l := (p.mem_iff).2 hb1
  refine apart_eq ha ha1 hb2 ?_
  have hle := List.le_antisymm (List.not_lt.1 h1) (List.not_lt.1 h2)
  exact ByteArray.ext (Array.ext' hle)
theorem Assigned.uniq {k : Nat → UInt8} {es : List Ent} {m : Nat} {o1 o2 : Nat → Int} (h1 : Assigned k es m o1) (h2 : Assigned k es m o2) : o1 = o2 := by
  rcases h1 with ⟨e1, rfl⟩ | ⟨n1, T1, c1, rfl⟩
  · rcases h2 with ⟨_, rfl⟩ | ⟨n2, _⟩
    · rfl
    · exact absurd e1 n2
  · rcases h2 with ⟨e2, _⟩ | ⟨_, T2, c2, rfl⟩
    · exact absurd e2 n1
    · rw [Par.run_same _ c1 c2]
end Go.Proofs.YtklfpnnnoaaiaaaDoor

/- stewardref18.Sorted (out of genmgz.py), stewardref17.Row, stewardref18.Walk -/
namespace Go.Proofs.YtklfpnnnoaaiaaaDoor
open Go.RowKit

/-- Where an entry goes. -/
def posE (N : ByteArray) : List Ent → Nat
  | [] => 0
  | e :: l => if nmB e.1 < nmB N then posE N l + 1 else 0
theorem posE_le (N : ByteArray) : ∀ l, posE N l ≤ l.length
  | [] => Nat.le_refl _
  | e :: l => by
    unfold posE
    have := posE_le N l
    split <;> simp only [List.length_cons] <;> omega
theorem posE_at (N : ByteArray) : ∀ (l : List Ent) (q : Nat) (e : Ent), q < posE N l → l[q]? = some e → nmB e.1 < nmB N
  | [], q, e, h, _ => by unfold posE at h; omega
  | x :: l, q, e, h, he => by
    unfold posE at h
    split at h
    · rename_i hx
      cases q with
      | zero => obtain rfl : x = e := by simpa using he
                exact hx
      | succ q => exact posE_at N l q e (by omega) (by simpa using he)
    · omega
theorem posE_stop (N : ByteArray) : ∀ (l : List Ent) (e : Ent), l[posE N l]? = some e → ¬ nmB e.1 < nmB N
  | [], e, he => by simp at he
  | x :: l, e, he => by
    unfold posE at he
    split at he
    · exact posE_stop N l e (by simpa using he)
    · rename_i hx
      obtain rfl : x = e := by simpa using he
      exact hx
def insE (l : List Ent) (e : Ent) : List Ent := l.take (posE e.1 l) ++ e :: l.drop (posE e.1 l)
def srtE (l : List Ent) : List Ent := l.foldl insE []
theorem srtE_step {l : List Ent} {j : Nat} (hj : j < l.length) : srtE (l.take (j + 1)) = insE (srtE (l.take j)) l[j] := by
  unfold srtE
  rw [List.take_add_one, List.getElem?_eq_getElem hj, Option.toList_some, List.foldl_append]
  rfl
theorem insE_perm (l : List Ent) (e : Ent) : (insE l e).Perm (e :: l) := by
  unfold insE
  refine List.perm_middle.trans ?_
  rw [List.take_append_drop]
theorem posE_drop {N : ByteArray} : ∀ {l : List Ent}, SortedE l → ∀ x ∈ l.drop (posE N l), ¬ nmB x.1 < nmB N
  | [], _, x, hx => by simp at hx
  | e :: l, h, x, hx => by
    unfold SortedE at h
    obtain ⟨h1, h2⟩ := List.pairwise_cons.1 h
    unfold posE at hx
    split at hx
    · exact posE_drop (l := l) h2 x (by simpa using hx)
    · rename_i hn
      rcases List.mem_cons.1 (by simpa using hx) with rfl | hx
      · exact hn
      · intro hlt
        exact h1 x hx (Classical.byContradiction fun hn2 => List.not_lt.2 (List.le_trans (List.not_lt.1 hn) (List.not_lt.1 hn2)) hlt)
theorem insE_sorted {l : List Ent} {e : Ent} (h : SortedE l) : SortedE (insE l e) := by
  have hd := posE_drop (N := e.1) h
  unfold SortedE at h ⊢
  unfold insE
  have hl : (l.take (posE e.1 l) ++ l.drop (posE e.1 l)).Pairwise fun a b : Ent => ¬ nmB b.1 < nmB a.1 := by rw [List.take_append_drop]; exact h
  obtain ⟨t1, t2, t3⟩ := List.pairwise_append.1 hl
  have hlt : ∀ a ∈ l.take (posE e.1 l), nmB a.1 < nmB e.1 := fun a ha => by
    obtain ⟨q, hq, he⟩ := List.mem_take_iff_getElem.1 ha
    exact posE_at e.1 l q a (by omega) (by rw [List.getElem?_eq_getElem (by omega), he])
  refine List.pairwise_append.2 ⟨t1, List.pairwise_cons.2 ⟨fun x hx => hd x hx, t2⟩, fun a ha b hb => ?_⟩
  rcases List.mem_cons.1 hb with rfl | hb
  · exact lt_asymmS (hlt a ha)
  · exact t3 a ha b hb
theorem srtE_spec : ∀ (l : List Ent), (srtE l).Perm l ∧ SortedE (srtE l) := by
  have key : ∀ (l acc : List Ent), SortedE acc → (l.foldl insE acc).Perm (l ++ acc) ∧ SortedE (l.foldl insE acc) := by
    intro l
    induction l with
    | nil => exact fun acc h => ⟨List.Perm.refl _, h⟩
    | cons e l ih =>
      intro acc h
      obtain ⟨h1, h2⟩ := ih (insE acc e) (insE_sorted h)
      refine ⟨h1.trans ?_, h2⟩
      refine ((insE_perm acc e).append_left l).trans ?_
      exact List.perm_middle
  intro l
  have := key l [] List.Pairwise.nil
  rw [List.append_nil] at this
  exact this
theorem own_prefix {w : World} {base g n c : Nat} {e : TypeId} {sz : Nat} {xs : List Value} (h : w.ownsRow base e sz (.slice (some ⟨g, 0, none⟩) n c) n xs) {k : Nat} (hk : k ≤ n) : w.ownsRow base e sz (.slice (some ⟨g, 0, none⟩) k c) k (xs.take (k * sz)) := by
  obtain ⟨hl, ⟨hx, _⟩ | ⟨g', cap, cur, hx, hb, hg, hcap, hcm, hcs, htk⟩⟩ := h
  · injection hx with h1; cases h1
  · injection hx with h1 h2 h3
    obtain rfl : g = g' := by injection h1 with h1; injection h1
    subst h3
    have hks : k * sz ≤ n * sz := Nat.mul_le_mul_right _ hk
    refine ⟨by rw [List.length_take, hl]; omega, .inr ⟨g, c, cur, rfl, hb, hg, by omega, hcm, hcs, ?_⟩⟩
    rw [← htk, List.take_take, Nat.min_eq_left hks]
theorem own_cellM {w : World} {base g n c j : Nat} {e : TypeId} {sz : Nat} {xs : List Value} (h : w.ownsRow base e sz (.slice (some ⟨g, 0, none⟩) n c) n xs) (hj : j < xs.length) : w.cell? ⟨g, j, none⟩ = xs[j]? := by
  obtain ⟨hl, ⟨hx, _⟩ | ⟨g', cap, cur, hx, hb, hg, hcap, hcm, hcs, htk⟩⟩ := h
  · injection hx with h1; cases h1
  · injection hx with h1 h2 h3
    obtain rfl : g = g' := by injection h1 with h1; injection h1
    have hR : Row w g e cur := hg
    have hjn : j < n * sz := by rw [← hl]; exact hj
    rw [hR.cell j, ← htk, List.getElem?_take, if_pos hjn, Array.getElem?_toList]
theorem own_capM {w : World} {base g n c : Nat} {e : TypeId} {sz : Nat} {xs : List Value} (h : w.ownsRow base e sz (.slice (some ⟨g, 0, none⟩) n c) n xs) : n ≤ c ∧ base ≤ g ∧ g < w.heap.size := by
  obtain ⟨hl, ⟨hx, _⟩ | ⟨g', cap, cur, hx, hb, hg, hcap, hcm, hcs, htk⟩⟩ := h
  · injection hx with h1; cases h1
  · injection hx with h1 h2 h3
    obtain rfl : g = g' := by injection h1 with h1; injection h1
    subst h3
    exact ⟨hcap, hb, (Array.getElem?_eq_some_iff.1 hg).1⟩
theorem insE_cells (l : List Ent) (e : Ent) : cellsE (insE l e) = (cellsE l).take (posE e.1 l * 2) ++ ([.string e.1, .int .i64 e.2] ++ (cellsE l).drop (posE e.1 l * 2)) := by
  have hp := posE_le e.1 l
  unfold insE
  generalize posE e.1 l = p at *
  have h1 : cellsE l = cellsE (l.take p) ++ cellsE (l.drop p) := by rw [← cellsE_append, List.take_append_drop]
  have h2 : (cellsE (l.take p)).length = p * 2 := by rw [cellsE_length, List.length_take, Nat.min_eq_left hp]
  rw [h1, cellsE_append, List.take_left' h2, List.drop_left' h2]
  rfl
/-- What holds while an entry is put in. -/
structure SoS (W w0 : World) (eb g n cap p : Nat) (xs : List Value) (N : ByteArray) (V : Int) (L : Nat → Bool) (x : Nat → Value) (w : World) : Prop where
  bel : Below w0.heap.size w0 w
  box : Row w eb 51 #[.string N, .int .i64 V]
  gsz : g < W.heap.size ∧ eb < W.heap.size ∧ w0.heap.size ≤ W.heap.size ∧ g ≠ eb
  siz : W.heap.size ≤ w.heap.size
  z4 : L 4 = false → L 8 = false ∧ w = W
  z5 : L 4 = true → L 8 = false → w.ownsRow W.heap.size 51 2 (.slice (some ⟨W.heap.size, 0, none⟩) 1 1) 1 [.string N, .int .i64 V]
  z6 : L 8 = false → L 9 = false
  z7 : L 9 = false → w.ownsRow w0.heap.size 51 2 (.slice (some ⟨g, 0, none⟩) n cap) n xs
  z8 : L 8 = true → L 9 = false → L 4 = true ∧ ∃ g2 c2, x 8 = .slice (some ⟨g2, 0, none⟩) (1 + (n - p)) c2 ∧ w.ownsRow W.heap.size 51 2 (.slice (some ⟨g2, 0, none⟩) (1 + (n - p)) c2) (1 + (n - p)) ([.string N, .int .i64 V] ++ xs.drop (p * 2))
  z3 : L 7 = true → ∃ ad m' c', x 7 = .slice (some ad) m' c' ∧ m' = n - p ∧ (m' = 0 ∨ ad = ⟨g, p * 2, none⟩)
  z9 : L 9 = true → w.ownsRow w0.heap.size 51 2 (x 9) (p + (1 + (n - p))) (xs.take (p * 2) ++ ([.string N, .int .i64 V] ++ xs.drop (p * 2)))
theorem SoS.next {W w0 : World} {eb g n cap p : Nat} {xs : List Value} {N : ByteArray} {V : Int} {L : Nat → Bool} {x : Nat → Value} {w : World} (h : SoS W w0 eb g n cap p xs N V L x w) (i : Nat) (u : Value) (h4 : i ≠ 4) (h7 : i ≠ 7) (h8 : i ≠ 8) (h9 : i ≠ 9) : SoS W w0 eb g n cap p xs N V (setL L i) (updV x i u) w := by
  have e4 : setL L i 4 = L 4 := by simp [setL, Ne.symm h4]
  have e8 : setL L i 8 = L 8 := by simp [setL, Ne.symm h8]
  have e9 : setL L i 9 = L 9 := by simp [setL, Ne.symm h9]
  have e7 : setL L i 7 = L 7 := by simp [setL, Ne.symm h7]
  have x7 : updV x i u 7 = x 7 := by simp [updV, Ne.symm h7]
  have x8 : updV x i u 8 = x 8 := by simp [updV, Ne.symm h8]
  have x9 : updV x i u 9 = x 9 := by simp [updV, Ne.symm h9]
  exact ⟨h.bel, h.box, h.gsz, h.siz, by rw [e4, e8]; exact h.z4, by rw [e4, e8]; exact h.z5, by rw [e8, e9]; exact h.z6, by rw [e9]; exact h.z7, by rw [e8, e9, e4, x8]; exact h.z8, by rw [e7, x7]; exact h.z3, by rw [e9, x9]; exact h.z9⟩
theorem SoS.next7 {W w0 : World} {eb g n cap p : Nat} {xs : List Value} {N : ByteArray} {V : Int} {L : Nat → Bool} {x : Nat → Value} {w : World} (h : SoS W w0 eb g n cap p xs N V L x w) (u : Value) (hu : ∃ ad m' c', u = .slice (some ad) m' c' ∧ m' = n - p ∧ (m' = 0 ∨ ad = ⟨g, p * 2, none⟩)) : SoS W w0 eb g n cap p xs N V (setL L 7) (updV x 7 u) w := by
  have e4 : setL L 7 4 = L 4 := by simp [setL]
  have e8 : setL L 7 8 = L 8 := by simp [setL]
  have e9 : setL L 7 9 = L 9 := by simp [setL]
  have x7 : updV x 7 u 7 = u := by simp [updV]
  have x8 : updV x 7 u 8 = x 8 := by simp [updV]
  have x9 : updV x 7 u 9 = x 9 := by simp [updV]
  exact ⟨h.bel, h.box, h.gsz, h.siz, by rw [e4, e8]; exact h.z4, by rw [e4, e8]; exact h.z5, by rw [e8, e9]; exact h.z6, by rw [e9]; exact h.z7, by rw [e8, e9, e4, x8]; exact h.z8, fun _ => by rw [x7]; exact hu, by rw [e9, x9]; exact h.z9⟩
theorem cellsE_one (l : List Ent) : ∀ u ∈ cellsE l, u.oneCell' = true := by
  intro u hu
  obtain ⟨e, _, he⟩ := List.mem_flatMap.1 hu
  simp at he
  rcases he with rfl | rfl <;> rfl
theorem rowL_take (m f s j : Nat) (hj : j < m) : (rowL m f s).take j ++ [(f + j * s) % m] = (rowL m f s).take (j + 1) := by
  have h : j < (rowL m f s).length := by rw [rowL_len]; exact hj
  rw [List.take_succ_eq_append_getElem h]
  congr 2
  simp [rowL]
/-- The reference's walk. -/
def rwS (pl ns : List ByteArray) (st : Nat) : Nat → List ByteArray
  | 0 => []
  | j + 1 => if inS ns (pl.getD ((st + j) % pl.length) ⟨#[]⟩) && !(inS (rwS pl ns st j) (pl.getD ((st + j) % pl.length) ⟨#[]⟩)) then rwS pl ns st j ++ [pl.getD ((st + j) % pl.length) ⟨#[]⟩] else rwS pl ns st j
theorem rwS_le (pl ns : List ByteArray) (st : Nat) : ∀ j, (rwS pl ns st j).length ≤ j
  | 0 => Nat.le_refl _
  | j + 1 => by
    have := rwS_le pl ns st j
    unfold rwS
    split
    · rw [List.length_append, List.length_singleton]; omega
    · omega
theorem rwS_yes {pl ns : List ByteArray} {st j : Nat} {N : ByteArray} (hN : pl.getD ((st + j) % pl.length) ⟨#[]⟩ = N) (h1 : inS ns N = true) (h2 : inS (rwS pl ns st j) N = false) : rwS pl ns st (j + 1) = rwS pl ns st j ++ [N] := by
  rw [rwS, hN, h1, h2]; rfl
theorem rwS_no {pl ns : List ByteArray} {st j : Nat} {N : ByteArray} (hN : pl.getD ((st + j) % pl.length) ⟨#[]⟩ = N) (h1 : inS ns N = false ∨ inS (rwS pl ns st j) N = true) : rwS pl ns st (j + 1) = rwS pl ns st j := by
  rw [rwS, hN]
  rcases h1 with h | h
  · rw [h]; rfl
  · rw [h]; simp
theorem inS_take {l : List ByteArray} {q : Nat} (hq : q < l.length) (N : ByteArray) : inS (l.take (q + 1)) N = (inS (l.take q) N || decide (l[q] = N)) := by
  unfold inS
  rw [List.take_add_one, List.getElem?_eq_getElem hq, Option.toList_some, List.any_append]
  simp
end Go.Proofs.YtklfpnnnoaaiaaaDoor

/- stewardref18.Build: what its loops have in memory -/
namespace Go.Proofs.YtklfpnnnoaaiaaaDoor
open Go.RowKit

/-- So many cells of a block, none frozen. -/
def CellsAt (w : World) (b n : Nat) (f : Nat → Value) : Prop := b < w.heap.size ∧ ∀ i, i < n → w.cell? ⟨b, i, none⟩ = some (f i) ∧ w.frozen? ⟨b, i, none⟩ = false
theorem CellsAt.below {w w' : World} {b n : Nat} {f : Nat → Value} (h : CellsAt w b n f) (hb : Below w.heap.size w w') : CellsAt w' b n f := by
  obtain ⟨b1, b2⟩ := bcell hb
  exact ⟨Nat.lt_of_lt_of_le h.1 hb.size, fun i hi => by rw [b1 _ _ h.1, b2 _ _ h.1]; exact h.2 i hi⟩
theorem CellsAt.far {w : World} {b n b' o' : Nat} {f : Nat → Value} (h : CellsAt w b n f) (hne : b ≠ b') (v : Value) : CellsAt (w.setCell ⟨b', o', none⟩ v) b n f := by
  refine ⟨by simpa [World.setCell] using h.1, fun i hi => ?_⟩
  rw [other_cell (.inl hne), World.frozen?_setCell]
  exact h.2 i hi
theorem CellsAt.set {w : World} {b n i : Nat} {f : Nat → Value} (h : CellsAt w b n f) (hi : i < n) (v : Value) : CellsAt (w.setCell ⟨b, i, none⟩ v) b n (fun k => if k = i then v else f k) := by
  refine ⟨by simpa [World.setCell] using h.1, fun k hk => ?_⟩
  rw [World.frozen?_setCell]
  refine ⟨?_, (h.2 k hk).2⟩
  by_cases e : k = i
  · subst e
    rw [World.cell?_setCell_same _ _ _ (h.2 k hk).1]; simp
  · rw [other_cell (.inr e)]
    simp only [if_neg e]
    exact (h.2 k hk).1
theorem CellsAt.congr {w : World} {b n : Nat} {f g : Nat → Value} (h : CellsAt w b n f) (he : ∀ i, i < n → f i = g i) : CellsAt w b n g := ⟨h.1, fun i hi => by rw [← he i hi]; exact h.2 i hi⟩
/-- What the third loop has: places by oP, taken by oT. -/
structure R3 (P : Par) (ns : List ByteArray) (pb tb gn go gr : Nat) (rb rc : Nat → Nat) (oP oT : Nat → Int) (nx : Nat → Nat) (ow : Nat → Int) (w : World) : Prop where
  pl : CellsAt w pb P.m fun q => .string (atN ns P.m oP (q : Int))
  tk : CellsAt w tb P.m fun q => .bool (decide (oT q ≠ -1))
  nx : CellsAt w gn P.n fun i => .int .i64 (nx i : Nat)
  ow : CellsAt w go P.n fun i => .int .i64 (ow i)
  rows : CellsAt w gr P.n fun i => .slice (some ⟨rb i, 0, none⟩) P.m (rc i)
  inn : ∀ i, i < P.n → CellsAt w (rb i) P.m fun t => .int .i64 (P.pl i t : Nat)
  d1 : pb ≠ tb ∧ pb ≠ gn ∧ pb ≠ go ∧ pb ≠ gr ∧ tb ≠ gn ∧ tb ≠ go ∧ tb ≠ gr ∧ gn ≠ go ∧ gn ≠ gr ∧ go ≠ gr
  d2 : ∀ i, i < P.n → pb ≠ rb i ∧ tb ≠ rb i ∧ gn ≠ rb i ∧ go ≠ rb i
section
variable {P : Par} {ns : List ByteArray} {pb tb gn go gr : Nat} {rb rc : Nat → Nat} {oP oT : Nat → Int} {nx : Nat → Nat} {ow : Nat → Int} {w w' : World}
theorem R3.below (h : R3 P ns pb tb gn go gr rb rc oP oT nx ow w) (hb : Below w.heap.size w w') : R3 P ns pb tb gn go gr rb rc oP oT nx ow w' :=
  ⟨h.pl.below hb, h.tk.below hb, h.nx.below hb, h.ow.below hb, h.rows.below hb, fun i hi => (h.inn i hi).below hb, h.d1, h.d2⟩
theorem R3.setNext (h : R3 P ns pb tb gn go gr rb rc oP oT nx ow w) {i : Nat} (hi : i < P.n) (t : Nat) : R3 P ns pb tb gn go gr rb rc oP oT (setN nx i t) ow (w.setCell ⟨gn, i, none⟩ (.int .i64 (t : Nat))) := by
  obtain ⟨a1, a2, a3, a4, a5, a6, a7, a8, a9, a10⟩ := h.d1
  refine ⟨h.pl.far a2 _, h.tk.far a5 _, (h.nx.set hi _).congr fun k _ => ?_, h.ow.far (Ne.symm a8) _, h.rows.far (Ne.symm a9) _, fun k hk => (h.inn k hk).far (Ne.symm (h.d2 k hk).2.2.1) _, h.d1, h.d2⟩
  unfold setN
  by_cases e : k = i <;> simp [e]
theorem R3.setOwed (h : R3 P ns pb tb gn go gr rb rc oP oT nx ow w) {i : Nat} (hi : i < P.n) (v : Int) : R3 P ns pb tb gn go gr rb rc oP oT nx (setI ow i v) (w.setCell ⟨go, i, none⟩ (.int .i64 v)) := by
  obtain ⟨a1, a2, a3, a4, a5, a6, a7, a8, a9, a10⟩ := h.d1
  refine ⟨h.pl.far a3 _, h.tk.far a6 _, h.nx.far a8 _, (h.ow.set hi _).congr fun k _ => ?_, h.rows.far (Ne.symm a10) _, fun k hk => (h.inn k hk).far (Ne.symm (h.d2 k hk).2.2.2) _, h.d1, h.d2⟩
  unfold setI
  by_cases e : k = i <;> simp [e]
theorem R3.setTaken (h : R3 P ns pb tb gn go gr rb rc oP oT nx ow w) {q i : Nat} (hq : q < P.m) : R3 P ns pb tb gn go gr rb rc oP (setI oT q i) nx ow (w.setCell ⟨tb, q, none⟩ (.bool true)) := by
  obtain ⟨a1, a2, a3, a4, a5, a6, a7, a8, a9, a10⟩ := h.d1
  refine ⟨h.pl.far a1 _, (h.tk.set hq _).congr fun k _ => ?_, h.nx.far (Ne.symm a5) _, h.ow.far (Ne.symm a6) _, h.rows.far (Ne.symm a7) _, fun k hk => (h.inn k hk).far (Ne.symm (h.d2 k hk).2.1) _, h.d1, h.d2⟩
  unfold setI
  by_cases e : k = q
  · subst e
    simp only [if_pos]
    rw [decide_eq_true (by omega)]
  · simp [e]
theorem R3.setPlace (h : R3 P ns pb tb gn go gr rb rc oP oT nx ow w) {q i : Nat} (hq : q < P.m) (hi : i < ns.length) : R3 P ns pb tb gn go gr rb rc (setI oP q i) oT nx ow (w.setCell ⟨pb, q, none⟩ (.string ns[i])) := by
  obtain ⟨a1, a2, a3, a4, a5, a6, a7, a8, a9, a10⟩ := h.d1
  refine ⟨(h.pl.set hq _).congr fun k hk => ?_, h.tk.far (Ne.symm a1) _, h.nx.far (Ne.symm a2) _, h.ow.far (Ne.symm a3) _, h.rows.far (Ne.symm a4) _, fun k hk => (h.inn k hk).far (Ne.symm (h.d2 k hk).1) _, h.d1, h.d2⟩
  by_cases e : k = q
  · subst e
    simp only [if_pos]
    unfold atN setI
    rw [if_neg (by omega), Int.toNat_natCast, if_pos rfl, if_neg (by omega), Int.toNat_natCast, List.getElem?_eq_getElem hi, Option.getD_some]
  · simp only [if_neg e]
    unfold atN setI
    rw [Int.toNat_natCast, if_neg e]
end

theorem infoRow : (Tryd.prog.info? 110).map (fun i => (i.zero, i.size, i.bytes)) = some (some (.slice none 0 0), 1, 24) := by kernel_rfl
def zerosV (j : Nat) : List Value := List.replicate j (.int .i64 0)
theorem zerosV_snoc (j : Nat) : zerosV j ++ [.int .i64 0] = zerosV (j + 1) := by unfold zerosV; rw [List.replicate_succ']
/-- The rows in memory. -/
def rowsV (m : Nat) (rb rc : Nat → Nat) (j : Nat) : List Value := (List.range j).map fun i => .slice (some ⟨rb i, 0, none⟩) m (rc i)
theorem rowsV_congr {m : Nat} {rb rc rb' rc' : Nat → Nat} {j : Nat} (h : ∀ i, i < j → rb i = rb' i ∧ rc i = rc' i) : rowsV m rb rc j = rowsV m rb' rc' j :=
  List.map_congr_left fun i hi => by rw [(h i (List.mem_range.1 hi)).1, (h i (List.mem_range.1 hi)).2]
theorem rowsV_snoc (m : Nat) (rb rc : Nat → Nat) (j : Nat) : rowsV m rb rc (j + 1) = rowsV m rb rc j ++ [.slice (some ⟨rb j, 0, none⟩) m (rc j)] := by
  unfold rowsV; rw [List.range_succ, List.map_append]; rfl
/-- What the reference's Build has, when it has come to an entry. -/
structure RbS (W : World) (m : Nat) (F S : Nat → Nat) (jr jn jo gr gn go cr cn co : Nat) (rb rc : Nat → Nat) (w : World) : Prop where
  bel : Below W.heap.size W w
  rows : w.ownsRow W.heap.size 110 1 (.slice (some ⟨gr, 0, none⟩) jr cr) jr (rowsV m rb rc jr)
  inn : ∀ i, i < jr → w.ownsRow W.heap.size 3 1 (.slice (some ⟨rb i, 0, none⟩) m (rc i)) m (cellsN (rowL m (F i) (S i)))
  next : w.ownsRow W.heap.size 3 1 (.slice (some ⟨gn, 0, none⟩) jn cn) jn (zerosV jn)
  owed : w.ownsRow W.heap.size 3 1 (.slice (some ⟨go, 0, none⟩) jo co) jo (zerosV jo)
  dis : gn ≠ go ∧ ∀ i, i < jr → gn ≠ rb i ∧ go ≠ rb i
section
variable {W : World} {m : Nat} {F S : Nat → Nat} {jr jn jo gr gn go cr cn co : Nat} {rb rc : Nat → Nat} {w w' : World}
theorem RbS.below (h : RbS W m F S jr jn jo gr gn go cr cn co rb rc w) (hb : Below w.heap.size w w') : RbS W m F S jr jn jo gr gn go cr cn co rb rc w' :=
  ⟨h.bel.trans (hb.mono h.bel.size), ownB_keep (G := fun _ => False) h.rows (Keep.of_below hb) (fun _ _ h => h), fun i hi => ownB_keep (G := fun _ => False) (h.inn i hi) (Keep.of_below hb) (fun _ _ h => h), ownB_keep (G := fun _ => False) h.next (Keep.of_below hb) (fun _ _ h => h), ownB_keep (G := fun _ => False) h.owed (Keep.of_below hb) (fun _ _ h => h), h.dis⟩
theorem RbS.addRow (h : RbS W m F S jr jn jo gr gn go cr cn co rb rc w) {gr' cr' g c : Nat} (ho : w'.ownsRow W.heap.size 110 1 (.slice (some ⟨gr', 0, none⟩) (jr + 1) cr') (jr + 1) (rowsV m rb rc jr ++ [.slice (some ⟨g, 0, none⟩) m c])) (hg : w.grownBy w' (some gr)) (hi : w.ownsRow W.heap.size 3 1 (.slice (some ⟨g, 0, none⟩) m c) m (cellsN (rowL m (F jr) (S jr)))) (d1 : gn ≠ g) (d2 : go ≠ g) :
    RbS W m F S (jr + 1) jn jo gr' gn go cr' cn co (fun i => if i = jr then g else rb i) (fun i => if i = jr then c else rc i) w' := by
  have hk : Keep (fun y => y = gr) w w' := .grown hg (fun y e => by injection e with e; exact e.symm)
  have hne : ∀ {v : Value} {q : Nat} {xs : List Value}, w.ownsRow W.heap.size 3 1 v q xs → ∀ y, v.ownBlock = some y → ¬ y = gr := fun ho y hy e => by
    rcases own_two ho h.rows (by decide) with h1 | h1
    · rw [hy] at h1; cases h1
    · exact h1 (by rw [hy, e]; simp [Value.ownBlock])
  refine ⟨h.bel.grown hg h.bel.size (fun y e => by injection e with e; rw [← e]; exact (own_capM h.rows).2.1), ?_, fun i hlt => ?_, ownB_keep h.next hk (hne h.next), ownB_keep h.owed hk (hne h.owed), h.dis.1, fun i hlt => ?_⟩
  · rw [rowsV_snoc]
    simp only [if_pos]
    rw [rowsV_congr (rb' := rb) (rc' := rc) (fun i hi => ⟨by rw [if_neg (by omega)], by rw [if_neg (by omega)]⟩)]
    exact ho
  · by_cases e : i = jr
    · subst e
      simp only [if_pos]
      exact ownB_keep hi hk (hne hi)
    · simp only [if_neg e]
      have h2 := h.inn i (by omega)
      exact ownB_keep h2 hk (hne h2)
  · by_cases e : i = jr
    · subst e
      simp only [if_pos]
      exact ⟨d1, d2⟩
    · simp only [if_neg e]
      exact h.dis.2 i (by omega)
theorem RbS.addNext (h : RbS W m F S jr jn jo gr gn go cr cn co rb rc w) {g' c' : Nat} (ho : w'.ownsRow W.heap.size 3 1 (.slice (some ⟨g', 0, none⟩) (jn + 1) c') (jn + 1) (zerosV jn ++ [.int .i64 0])) (hg : w.grownBy w' (some gn)) (hf : some gn = some g' ∨ g' = w.heap.size) :
    RbS W m F S jr (jn + 1) jo gr g' go cr c' co rb rc w' := by
  have hk : Keep (fun y => y = gn) w w' := .grown hg (fun y e => by injection e with e; exact e.symm)
  have hgo := (own_capM h.owed).2.2
  refine ⟨h.bel.grown hg h.bel.size (fun y e => by injection e with e; rw [← e]; exact (own_capM h.next).2.1), ?_, fun i hlt => ?_, by rw [zerosV_snoc] at ho; exact ho, ?_, ?_, fun i hlt => ?_⟩
  · refine ownB_keep h.rows hk (fun y hy e => ?_)
    rcases own_two h.rows h.next (by decide) with h1 | h1
    · rw [hy] at h1; cases h1
    · exact h1 (by rw [hy, e]; simp [Value.ownBlock])
  · refine ownB_keep (h.inn i hlt) hk (fun y hy e => ?_)
    have hy : some (rb i) = some y := hy
    injection hy with hy
    have := (h.dis.2 i hlt).1; omega
  · refine ownB_keep h.owed hk (fun y hy e => ?_)
    have hy : some go = some y := hy
    injection hy with hy
    have := h.dis.1; omega
  · rcases hf with hf | hf
    · injection hf with hf; rw [← hf]; exact h.dis.1
    · omega
  · have h3 := (own_capM (h.inn i hlt)).2.2
    rcases hf with hf | hf
    · injection hf with hf; rw [← hf]; exact h.dis.2 i hlt
    · exact ⟨by omega, (h.dis.2 i hlt).2⟩
theorem RbS.addOwed (h : RbS W m F S jr jn jo gr gn go cr cn co rb rc w) {g' c' : Nat} (ho : w'.ownsRow W.heap.size 3 1 (.slice (some ⟨g', 0, none⟩) (jo + 1) c') (jo + 1) (zerosV jo ++ [.int .i64 0])) (hg : w.grownBy w' (some go)) (hf : some go = some g' ∨ g' = w.heap.size) :
    RbS W m F S jr jn (jo + 1) gr gn g' cr cn c' rb rc w' := by
  have hk : Keep (fun y => y = go) w w' := .grown hg (fun y e => by injection e with e; exact e.symm)
  have hgn := (own_capM h.next).2.2
  refine ⟨h.bel.grown hg h.bel.size (fun y e => by injection e with e; rw [← e]; exact (own_capM h.owed).2.1), ?_, fun i hlt => ?_, ?_, by rw [zerosV_snoc] at ho; exact ho, ?_, fun i hlt => ?_⟩
  · refine ownB_keep h.rows hk (fun y hy e => ?_)
    rcases own_two h.rows h.owed (by decide) with h1 | h1
    · rw [hy] at h1; cases h1
    · exact h1 (by rw [hy, e]; simp [Value.ownBlock])
  · refine ownB_keep (h.inn i hlt) hk (fun y hy e => ?_)
    have hy : some (rb i) = some y := hy
    injection hy with hy
    have := (h.dis.2 i hlt).2; omega
  · refine ownB_keep h.next hk (fun y hy e => ?_)
    have hy : some gn = some y := hy
    injection hy with hy
    have := h.dis.1; omega
  · rcases hf with hf | hf
    · injection hf with hf; rw [← hf]; exact h.dis.1
    · omega
  · have h3 := (own_capM (h.inn i hlt)).2.2
    rcases hf with hf | hf
    · injection hf with hf; rw [← hf]; exact h.dis.2 i hlt
    · exact ⟨(h.dis.2 i hlt).1, by omega⟩
end
theorem RbS.start (W : World) (m : Nat) (F S : Nat → Nat) : RbS W m F S 0 0 0 W.heap.size (W.heap.size + 1) (W.heap.size + 1 + 1) 0 0 0 (fun _ => 0) (fun _ => 0) (((W.alloc (.cells #[] 110)).alloc (.cells #[] 3)).alloc (.cells #[] 3)) := by
  have s1 : (W.alloc (.cells #[] 110)).heap.size = W.heap.size + 1 := by simp
  have s2 : ((W.alloc (.cells #[] 110)).alloc (.cells #[] 3)).heap.size = W.heap.size + 1 + 1 := by simp
  have o1 : (W.alloc (.cells #[] 110)).ownsRow W.heap.size 110 1 (.slice (some ⟨W.heap.size, 0, none⟩) 0 0) 0 [] := World.ownsRow_lit W #[] 0 (Nat.le_refl _) (by decide) (by simp)
  have o2 : ((W.alloc (.cells #[] 110)).alloc (.cells #[] 3)).ownsRow W.heap.size 3 1 (.slice (some ⟨W.heap.size + 1, 0, none⟩) 0 0) 0 [] := by
    have := World.ownsRow_lit (base := W.heap.size) (e := 3) (size := 1) (W.alloc (.cells #[] 110)) #[] 0 (by omega) (by decide) (by simp)
    rw [s1] at this
    exact this
  have o3 : (((W.alloc (.cells #[] 110)).alloc (.cells #[] 3)).alloc (.cells #[] 3)).ownsRow W.heap.size 3 1 (.slice (some ⟨W.heap.size + 1 + 1, 0, none⟩) 0 0) 0 [] := by
    have := World.ownsRow_lit (base := W.heap.size) (e := 3) (size := 1) ((W.alloc (.cells #[] 110)).alloc (.cells #[] 3)) #[] 0 (by omega) (by decide) (by simp)
    rw [s2] at this
    exact this
  have b1 := below_alloc W (.cells #[] 110)
  have b2 := b1.alloc b1.size (.cells #[] 3)
  exact ⟨b2.alloc b2.size _, (o1.alloc _).alloc _, fun i hi => by omega, o2.alloc _, o3, by omega, fun i hi => by omega⟩
theorem own_base {w : World} {b b' : Nat} {e : TypeId} {n m : Nat} {v : Value} {xs : List Value} (h : w.ownsRow b e n v m xs) (hb : b' ≤ b) : w.ownsRow b' e n v m xs := by
  obtain ⟨hl, h0 | ⟨g, cap, cur, rfl, hg, r⟩⟩ := h
  · exact ⟨hl, .inl h0⟩
  · exact ⟨hl, .inr ⟨g, cap, cur, rfl, Nat.le_trans hb hg, r⟩⟩
theorem cells_one (w : World) (v : Value) (T : TypeId) : ∀ (k : Nat) u, [v][k]? = some u → (w.alloc (.cells #[v] T)).cell? ((⟨w.heap.size, 0, none⟩ : Addr).add k) = some u := by
  intro k u hu
  rw [Addr.add_mid]
  match k, hu with
  | 0, hu => obtain rfl := Option.some.inj hu; simp
  | k + 1, hu => simp at hu
theorem cat_data (a b : ByteArray) : (a ++ b).data.toList = a.data.toList ++ b.data.toList := by
  rw [ByteArray.data_append, Array.toList_append]

theorem own_cellsAt {w : World} {base g n c : Nat} {e : TypeId} {xs : List Value} {f : Nat → Value} (h : w.ownsRow base e 1 (.slice (some ⟨g, 0, none⟩) n c) n xs) (hx : ∀ i, i < n → xs[i]? = some (f i)) : CellsAt w g n f := by
  obtain ⟨hl, ⟨hv, _⟩ | ⟨g', cap, cur, hv, hb, hg, hcap, hcm, hcs, htk⟩⟩ := h
  · injection hv with h1; cases h1
  · injection hv with h1 h2 h3
    obtain rfl : g = g' := by injection h1 with h1; injection h1
    have hR : Row w g e cur := hg
    refine ⟨hR.lt, fun i hi => ⟨?_, hR.free i⟩⟩
    rw [hR.cell i, ← hx i hi, ← htk, List.getElem?_take, if_pos (by omega), Array.getElem?_toList]
theorem CellsAt.keep {G : Nat → Prop} {w w' : World} {b n : Nat} {f : Nat → Value} (h : CellsAt w b n f) (hk : Keep G w w') (hg : ¬ G b) : CellsAt w' b n f := by
  have hbk := hk.block b h.1 hg
  refine ⟨Nat.lt_of_lt_of_le h.1 hk.size, fun i hi => ?_⟩
  have := h.2 i hi
  simp only [World.cell?, World.frozen?, hbk] at this ⊢
  exact this
theorem infoBo : (Tryd.prog.info? 4).map (fun i => (i.zero, i.size, i.bytes)) = some (some (.bool false), 1, 1) := by kernel_rfl
/-- The third loop begins. -/
theorem R3.start {ww w2 w w' : World} {k : Nat → UInt8} {all : List Ent} {m gr gn go pb tb cr cn co c : Nat} {rb rc : Nat → Nat} {ns : List ByteArray} {cs : Array Value}
    (hP : ww.ownsRow w'.heap.size 9 1 (.slice (some ⟨pb, 0, none⟩) m c) m (List.replicate m (.string ⟨#[]⟩))) (hB : Below ww.heap.size ww w2)
    (hR : RbS w2 m (parOf k all m).F (parOf k all m).S all.length all.length all.length gr gn go cr cn co rb rc w)
    (hT : CellsAt (w.alloc (.cells cs 4)) w.heap.size m (fun _ => .bool false)) (htb : tb = w.heap.size) :
    R3 (parOf k all m) ns pb tb gn go gr rb rc (fun _ => -1) (fun _ => -1) (fun _ => 0) (fun _ => 0) (w.alloc (.cells cs 4)) := by
  subst htb
  have hp := own_capM hP
  have hr := own_capM hR.rows
  have hn := own_capM hR.next
  have ho := own_capM hR.owed
  have hi := fun i (hi : i < all.length) => own_capM (hR.inn i hi)
  have hz := hB.size
  have b2 := below_alloc w (.cells cs 4)
  have e1 : gn ≠ gr := fun e => by
    rcases own_two hR.next hR.rows (by decide) with h1 | h1
    · cases h1
    · exact h1 (by rw [e]; rfl)
  have e2 : go ≠ gr := fun e => by
    rcases own_two hR.owed hR.rows (by decide) with h1 | h1
    · cases h1
    · exact h1 (by rw [e]; rfl)
  refine ⟨?_, hT.congr fun i _ => by simp, ?_, ?_, ?_, fun i hi' => ?_, ?_, fun i hi' => ?_⟩
  · have h1 : CellsAt ww pb m fun q => .string (atN ns m (fun _ => -1) (q : Int)) := own_cellsAt hP fun i hi => by
      rw [List.getElem?_replicate, if_pos hi]
      unfold atN
      rw [if_neg (by omega), if_pos rfl]
    exact ((h1.below hB).keep (G := fun _ => False) (Keep.of_below (by exact hR.bel)) (fun h => h)).below b2
  · refine (own_cellsAt hR.next fun i hi => ?_).below b2
    unfold zerosV; rw [List.getElem?_replicate, if_pos hi]; rfl
  · refine (own_cellsAt hR.owed fun i hi => ?_).below b2
    unfold zerosV; rw [List.getElem?_replicate, if_pos hi]
  · refine (own_cellsAt hR.rows fun i hi => ?_).below b2
    unfold rowsV; rw [List.getElem?_map, List.getElem?_range hi]; rfl
  · refine (own_cellsAt (hR.inn i hi') fun t ht => ?_).below b2
    rw [cellsN_at _ _ (by rw [rowL_len]; exact ht)]
    have := rowL_at (m := m) (f := (parOf k all m).F i) (s := (parOf k all m).S i) ht
    rw [List.getElem?_eq_getElem (by rw [rowL_len]; exact ht)] at this
    rw [Option.some.inj this]; rfl
  · refine ⟨by omega, by omega, by omega, by omega, by omega, by omega, by omega, hR.dis.1, e1, e2⟩
  · have := hi i hi'
    have := hR.dis.2 i hi'
    refine ⟨by omega, by omega, this.1, this.2⟩
theorem R3.drewN {P : Par} {ns : List ByteArray} {pb tb gn go gr : Nat} {rb rc : Nat → Nat} {oP oT : Nat → Int} {nx : Nat → Nat} {ow : Nat → Int} {w : World} (h : R3 P ns pb tb gn go gr rb rc oP oT nx ow w) (n : Nat) : R3 P ns pb tb gn go gr rb rc oP oT nx ow (w.drewN n) :=
  h.below ⟨rfl, rfl, rfl, Nat.le_refl _, fun _ _ => rfl⟩
theorem R3.drew {P : Par} {ns : List ByteArray} {pb tb gn go gr : Nat} {rb rc : Nat → Nat} {oP oT : Nat → Int} {nx : Nat → Nat} {ow : Nat → Int} {w : World} (h : R3 P ns pb tb gn go gr rb rc oP oT nx ow w) : R3 P ns pb tb gn go gr rb rc oP oT nx ow w.drew :=
  h.below ⟨rfl, rfl, rfl, Nat.le_refl _, fun _ _ => rfl⟩
/-- An entry that gets no place. -/
theorem stp_idle {P : Par} {r q : Nat} (hq : q < P.n) {st : St} (hst : st = P.run (r * P.n + q)) {ow : Nat → Int} (how : st.cnt < P.m → ow = st.ow) (hle : st.cnt ≤ P.m) (hc : ow q + P.W q < P.G ∨ st.cnt = P.m) :
    ∃ st', st' = P.run (r * P.n + (q + 1)) ∧ st'.cnt = st.cnt ∧ st'.own = st.own ∧ st'.nx = st.nx ∧ (st.cnt < P.m → setI ow q (ow q + P.W q) = st'.ow) := by
  have hn := Par.run_next P r hq
  rw [← hst] at hn
  refine ⟨_, hn.symm, ?_⟩
  unfold Par.stp
  by_cases e : st.cnt = P.m
  · rw [if_pos e]
    exact ⟨rfl, rfl, rfl, fun h => by omega⟩
  · have ho := how (by omega)
    subst ho
    rw [if_neg e, if_pos (by rcases hc with h | h; exact h; exact absurd h e)]
    exact ⟨rfl, rfl, rfl, fun _ => rfl⟩
/-- An entry that gets a place. -/
theorem stp_take {P : Par} {r q : Nat} (hq : q < P.n) {st : St} (hst : st = P.run (r * P.n + q)) {ow : Nat → Int} (how : st.cnt < P.m → ow = st.ow) (hle : st.cnt < P.m) (hc : ¬ ow q + P.W q < P.G) :
    ∃ st', st' = P.run (r * P.n + (q + 1)) ∧ st'.cnt = st.cnt + 1 ∧ st'.own = setI st.own (P.pl q (P.nxt q st)) q ∧ st'.nx = setN st.nx q (P.nxt q st) ∧ setI ow q (ow q + P.W q - P.G) = st'.ow := by
  have hn := Par.run_next P r hq
  rw [← hst] at hn
  refine ⟨_, hn.symm, ?_⟩
  have ho := how hle
  subst ho
  unfold Par.stp
  rw [if_neg (by omega), if_neg hc]
  exact ⟨rfl, rfl, rfl, rfl⟩
/-- What next holds, read off the world. -/
def nextOf (w : World) (gn i : Nat) : Nat := match w.cell? ⟨gn, i, none⟩ with
  | some (.int .i64 z) => z.toNat
  | _ => 0
theorem nextOf_is {w : World} {gn i t : Nat} (h : w.cell? ⟨gn, i, none⟩ = some (.int .i64 (t : Nat))) : nextOf w gn i = t := by
  unfold nextOf; rw [h]; simp
/-- The names at all places. -/
def placesL (es : List Ent) (m : Nat) (own : Nat → Int) : List ByteArray := (List.range m).map fun (q : Nat) => atN (es.map fun e => e.1) m own (q : Int)
theorem placesL_len (es : List Ent) (m : Nat) (own : Nat → Int) : (placesL es m own).length = m := by simp [placesL]
theorem placesL_none (m : Nat) : placesL [] m (fun _ => -1) = List.replicate m ⟨#[]⟩ := by
  refine List.ext_getElem (by simp [placesL]) fun i h1 h2 => ?_
  simp only [placesL, List.getElem_map, List.getElem_replicate, List.getElem_range]
  unfold atN
  have : i < m := by simpa [placesL] using h1
  rw [if_neg (by omega), if_pos rfl]
theorem placesL_at {w : World} {es : List Ent} {m pb cp : Nat} {own : Nat → Int} (hc : m ≤ cp) (h : CellsAt w pb m fun q => .string (atN (es.map fun e => e.1) m own (q : Int))) : IsStrs w (some ⟨pb, 0, none⟩) cp (placesL es m own) := by
  refine .inr ⟨pb, 0, rfl, h.1, by rw [placesL_len]; exact hc, fun j x hx => ?_⟩
  have hj : j < m := by
    rcases Nat.lt_or_ge j m with h1 | h1
    · exact h1
    · rw [List.getElem?_eq_none (by rw [placesL_len]; exact h1)] at hx; cases hx
  rw [Nat.zero_add, (h.2 j hj).1]
  unfold placesL at hx
  rw [List.getElem?_map, List.getElem?_range hj] at hx
  rw [← Option.some.inj hx]
end Go.Proofs.YtklfpnnnoaaiaaaDoor

/- A key whose bytes are taken as a string; a call of Build whose arguments are evaluated in any order. -/
namespace Go.Proofs.YtklfpnnnoaaiaaaDoor
open Go.RowKit

/-- A key's cells. -/
def keyCells (k : Nat → UInt8) : List Value := [.int .u8 ((k 0).toNat : Int), .int .u8 ((k 1).toNat : Int), .int .u8 ((k 2).toNat : Int), .int .u8 ((k 3).toNat : Int), .int .u8 ((k 4).toNat : Int), .int .u8 ((k 5).toNat : Int), .int .u8 ((k 6).toNat : Int), .int .u8 ((k 7).toNat : Int), .int .u8 ((k 8).toNat : Int), .int .u8 ((k 9).toNat : Int), .int .u8 ((k 10).toNat : Int), .int .u8 ((k 11).toNat : Int), .int .u8 ((k 12).toNat : Int), .int .u8 ((k 13).toNat : Int), .int .u8 ((k 14).toNat : Int), .int .u8 ((k 15).toNat : Int)]
/-- A key's bytes as a string. -/
def keyStr (k : Nat → UInt8) : ByteArray := ⟨(keyPart k 0 ++ keyPart k 8).toArray⟩
theorem keyStr_size (k : Nat → UInt8) : (16 : Int) ≤ (keyStr k).size := by simp [keyStr, keyPart, ByteArray.size]
theorem keyStr_a (k : Nat → UInt8) : (keyStr k).extract 0 8 = ⟨(keyPart k 0).toArray⟩ := by unfold keyStr; rw [extract_list]; rfl
theorem keyStr_b (k : Nat → UInt8) : (keyStr k).extract 8 16 = ⟨(keyPart k 8).toArray⟩ := by unfold keyStr; rw [extract_list]; rfl
theorem key_all {k : Nat → UInt8} {W : World} {b : Nat} (h : IsKey W b k) :
    (convert 38 9 (.slice (some ⟨b, 0, none⟩) 16 16)).run Tryd.prog W = .ok (.string (keyStr k)) W := by
  have := run_convert_bytes_arg (P := Tryd.prog) W 38 5 Tryd.underlying38 Tryd.underlying5 b 0 16 16 ((keyPart k 0 ++ keyPart k 8).map fun x => (x.toNat : Int)) (by simp [keyPart]) ?_ 9 Tryd.underlying9
  · rw [this]
    simp [strOfNums, keyPart, keyStr]
  · intro i hi
    have h1 := h i hi
    rw [Nat.zero_add, h1]
    have h16 : i = 0 ∨ i = 1 ∨ i = 2 ∨ i = 3 ∨ i = 4 ∨ i = 5 ∨ i = 6 ∨ i = 7 ∨ i = 8 ∨ i = 9 ∨ i = 10 ∨ i = 11 ∨ i = 12 ∨ i = 13 ∨ i = 14 ∨ i = 15 := by omega
    rcases h16 with rfl | rfl | rfl | rfl | rfl | rfl | rfl | rfl | rfl | rfl | rfl | rfl | rfl | rfl | rfl | rfl <;> rfl
/-- A key in a block of its own. -/
def KeyRow (w : World) (b : Nat) (k : Nat → UInt8) : Prop := Row w b 27 (keyCells k).toArray
theorem KeyRow.isKey {w : World} {b : Nat} {k : Nat → UInt8} (h : KeyRow w b k) : IsKey w b k := isKey_row h
theorem KeyRow.below {w w' : World} {b : Nat} {k : Nat → UInt8} (h : KeyRow w b k) (hb : Below w.heap.size w w') : KeyRow w' b k := Row.below h hb
theorem keyVal_cells (k : Nat → UInt8) : keyVal k = .agg (keyCells k).toArray := rfl
/-- What is there while a call of Build is evaluated: operation 2: the entries are the program's; b: Build's result; b + 1: moved; b + 2: its first part; b + 4: assigned. -/
structure KoS (W : World) (ys : List Ent) (b : Nat) (E : Int) (R : Value → World → Prop) (L : Nat → Bool) (x : Nat → Value) (w : World) : Prop where
  bel : Below W.heap.size W w
  own : L 2 = true → ∃ a c, x 2 = .slice a ys.length c ∧ IsEnts w a c ys
  tup : L b = true → ∃ p, x b = .tuple #[p, .int .i64 E] ∧ R p w
  mv : L (b + 1) = true → ∃ p, x (b + 1) = .tuple #[p, .int .i64 E] ∧ R p w
  ex : L (b + 2) = true → R (x (b + 2)) w
  asg : L (b + 4) = true → R (x (b + 4)) w
section
variable {W : World} {ys : List Ent} {b : Nat} {E : Int} {R : Value → World → Prop} {L : Nat → Bool} {x : Nat → Value} {w w' : World}
theorem KoS.start (W : World) (ys : List Ent) (b : Nat) (E : Int) (R : Value → World → Prop) (x : Nat → Value) : KoS W ys b E R (fun _ => false) x W.drew :=
  ⟨(Below.refl _ _).drew, (fun h => by cases h), (fun h => by cases h), (fun h => by cases h), (fun h => by cases h), (fun h => by cases h)⟩
theorem KoS.move (h : KoS W ys b E R L x w) (hR : ∀ p w w', R p w → Below w.heap.size w w' → R p w') (hb : Below w.heap.size w w') : KoS W ys b E R L x w' :=
  ⟨h.bel.trans (hb.mono h.bel.size), fun e => by obtain ⟨a, c, h1, h2⟩ := h.own e; exact ⟨a, c, h1, h2.below hb⟩, fun e => by obtain ⟨p, h1, h2⟩ := h.tup e; exact ⟨p, h1, hR _ _ _ h2 hb⟩,
   fun e => by obtain ⟨p, h1, h2⟩ := h.mv e; exact ⟨p, h1, hR _ _ _ h2 hb⟩, fun e => hR _ _ _ (h.ex e) hb, fun e => hR _ _ _ (h.asg e) hb⟩
theorem KoS.at_ (h : KoS W ys b E R L x w) (i : Nat) (u : Value) (h2 : i = 2 → ∃ a c, u = .slice a ys.length c ∧ IsEnts w a c ys) (h3 : i = b → ∃ p, u = .tuple #[p, .int .i64 E] ∧ R p w)
    (h4 : i = b + 1 → ∃ p, u = .tuple #[p, .int .i64 E] ∧ R p w) (h5 : i = b + 2 → R u w) (h6 : i = b + 4 → R u w) : KoS W ys b E R (setL L i) (updV x i u) w := by
  have hs : ∀ j, j ≠ i → setL L i j = true → L j = true := fun j hj e => by simpa [setL, hj] using e
  have hu : ∀ j, j ≠ i → updV x i u j = x j := fun j hj => by simp [updV, hj]
  have hi : updV x i u i = u := by simp [updV]
  refine ⟨h.bel, fun e => ?_, fun e => ?_, fun e => ?_, fun e => ?_, fun e => ?_⟩
  · by_cases q : 2 = i
    · subst q; rw [hi]; exact h2 rfl
    · rw [hu _ q]; exact h.own (hs _ q e)
  · by_cases q : b = i
    · subst q; rw [hi]; exact h3 rfl
    · rw [hu _ q]; exact h.tup (hs _ q e)
  · by_cases q : b + 1 = i
    · subst q; rw [hi]; exact h4 rfl
    · rw [hu _ q]; exact h.mv (hs _ q e)
  · by_cases q : b + 2 = i
    · subst q; rw [hi]; exact h5 rfl
    · rw [hu _ q]; exact h.ex (hs _ q e)
  · by_cases q : b + 4 = i
    · subst q; rw [hi]; exact h6 rfl
    · rw [hu _ q]; exact h.asg (hs _ q e)
theorem KoS.next (h : KoS W ys b E R L x w) (i : Nat) (u : Value) (h2 : i ≠ 2) (h3 : i ≠ b) (h4 : i ≠ b + 1) (h5 : i ≠ b + 2) (h6 : i ≠ b + 4) : KoS W ys b E R (setL L i) (updV x i u) w :=
  h.at_ i u (fun e => absurd e h2) (fun e => absurd e h3) (fun e => absurd e h4) (fun e => absurd e h5) (fun e => absurd e h6)
theorem KoS.put (h : KoS W ys b E R L x w) (hR : ∀ p w w', R p w → Below w.heap.size w w' → R p w') (hb2 : 2 < b) {a : Option Addr} {c : Nat} (he : IsEnts w' a c ys) (hb : Below w.heap.size w w') : KoS W ys b E R (setL L 2) (updV x 2 (.slice a ys.length c)) w' :=
  (h.move hR hb).at_ 2 _ (fun _ => ⟨a, c, rfl, he⟩) (fun e => by omega) (fun e => by omega) (fun e => by omega) (fun e => by omega)
theorem KoS.built (h : KoS W ys b E R L x w) (hR : ∀ p w w', R p w → Below w.heap.size w w' → R p w') (hb2 : 2 < b) {p : Value} (hp : R p w') (hb : Below w.heap.size w w') : KoS W ys b E R (setL L b) (updV x b (.tuple #[p, .int .i64 E])) w' :=
  (h.move hR hb).at_ b _ (fun e => by omega) (fun _ => ⟨p, rfl, hp⟩) (fun e => by omega) (fun e => by omega) (fun e => by omega)
theorem KoS.moved (h : KoS W ys b E R L x w) (hb2 : 2 < b) {p : Value} (hp : R p w) : KoS W ys b E R (setL L (b + 1)) (updV x (b + 1) (.tuple #[p, .int .i64 E])) w :=
  h.at_ (b + 1) _ (fun e => by omega) (fun e => by omega) (fun _ => ⟨p, rfl, hp⟩) (fun e => by omega) (fun e => by omega)
theorem KoS.first (h : KoS W ys b E R L x w) (hb2 : 2 < b) {p : Value} (hp : R p w) : KoS W ys b E R (setL L (b + 2)) (updV x (b + 2) p) w :=
  h.at_ (b + 2) _ (fun e => by omega) (fun e => by omega) (fun e => by omega) (fun _ => hp) (fun e => by omega)
theorem KoS.assign (h : KoS W ys b E R L x w) (hb2 : 2 < b) {p : Value} (hp : R p w) : KoS W ys b E R (setL L (b + 4)) (updV x (b + 4) p) w :=
  h.at_ (b + 4) _ (fun e => by omega) (fun e => by omega) (fun e => by omega) (fun e => by omega) (fun _ => hp)
end
/-- A table was built. -/
def TabR (k : Nat → UInt8) (ys : List Ent) (n : Nat) (p : Value) (w : World) : Prop :=
  ∃ tb own, p = .pointer (some ⟨tb, 0, none⟩) ∧ Assigned k (srtE ys) n own ∧ TableAt w tb ((srtE ys).map (·.1)) n own
theorem TabR.below {k : Nat → UInt8} {ys : List Ent} {n : Nat} (p : Value) (w w' : World) (h : TabR k ys n p w) (hb : Below w.heap.size w w') : TabR k ys n p w' := by
  obtain ⟨tb, own, h1, h2, h3⟩ := h
  exact ⟨tb, own, h1, h2, h3.below hb⟩
/-- No table. -/
def NilR (p : Value) (_ : World) : Prop := p = .pointer none
theorem NilR.below (p : Value) (w w' : World) (h : NilR p w) (_ : Below w.heap.size w w') : NilR p w' := h
theorem chkB_yes {ys : List Ent} {m : Int} (h : chkB ys m = true) : 2 ≤ m ∧ m ≤ 1048576 ∧ primeB m.toNat = true ∧ 100 * (ys.length : Int) ≤ m ∧ validB ys = true := by
  unfold chkB at h
  rw [Bool.and_eq_true, Bool.and_eq_true, decide_eq_true_eq] at h
  obtain ⟨⟨h1, h2⟩, h3⟩ := h
  have hp := h1
  unfold isP at hp
  rw [Bool.and_eq_true, Bool.and_eq_true, decide_eq_true_eq, decide_eq_true_eq] at hp
  exact ⟨hp.1.1, hp.1.2, hp.2, h2, h3⟩
theorem valid_parts {ys : List Ent} (h : validB ys = true) : (∀ e ∈ ys, okW e = true) ∧ Apart ys := by
  unfold validB at h
  rw [Bool.and_eq_true] at h
  exact ⟨fun e he => (List.all_eq_true.1 h.1) e he, by simpa using h.2⟩
end Go.Proofs.YtklfpnnnoaaiaaaDoor

/- ring: points as lists and in memory. -/
namespace Go.Proofs.YtklfpnnnoaaiaaaDoor
open Go.RowKit Go.Shelf Go.Lib Go.Sort

/-- How many points an entry has. -/
def cntP (p W G : Nat) : Nat := max (p * W / G) 1
/-- An entry's points; all points, by entries. -/
def ptsE (k : Nat → UInt8) (p G : Nat) (e : Ent) : List Pt := (List.range (cntP p e.2.toNat G)).map fun i => (ptV k e.1 i, e.1)
def ptsL (k : Nat → UInt8) (p G : Nat) (es : List Ent) : List Pt := es.flatMap (ptsE k p G)
def cellsP (ps : List Pt) : List Value := ps.flatMap encP
theorem cellsP_append (a b : List Pt) : cellsP (a ++ b) = cellsP a ++ cellsP b := by simp only [cellsP, List.flatMap_append]
theorem cellsP_length : ∀ ps : List Pt, (cellsP ps).length = ps.length * 2
  | [] => rfl
  | p :: ps => by
    have := cellsP_length ps
    show (encP p ++ cellsP ps).length = _
    rw [List.length_append, this, List.length_cons]
    show 2 + _ = _
    omega
theorem cellsP_at : ∀ (ps : List Pt) (j : Nat) (p : Pt), ps[j]? = some p → (cellsP ps)[j * 2]? = some (.int .u64 (p.1 : Nat)) ∧ (cellsP ps)[j * 2 + 1]? = some (.string p.2)
  | [], j, p, h => by cases j <;> cases h
  | x :: ps, 0, p, h => by
    simp at h; subst h
    exact ⟨rfl, rfl⟩
  | x :: ps, j + 1, p, h => by
    have := cellsP_at ps j p (by simpa using h)
    rw [show (j + 1) * 2 = j * 2 + 1 + 1 by omega]
    exact this
theorem ptsL_step {k : Nat → UInt8} {p G : Nat} {es : List Ent} {j : Nat} (hj : j < es.length) : ptsL k p G (es.take (j + 1)) = ptsL k p G (es.take j) ++ ptsE k p G es[j] := by
  unfold ptsL
  rw [List.take_succ_eq_append_getElem hj, List.flatMap_append]
  simp
theorem ptsE_len (k : Nat → UInt8) (p G : Nat) (e : Ent) : (ptsE k p G e).length = cntP p e.2.toNat G := by simp [ptsE]
theorem ptsE_step {k : Nat → UInt8} {p G : Nat} {e : Ent} {i : Nat} (hi : i < cntP p e.2.toNat G) : (ptsE k p G e).take (i + 1) = (ptsE k p G e).take i ++ [(ptV k e.1 i, e.1)] := by
  have h : i < (ptsE k p G e).length := by rw [ptsE_len]; exact hi
  rw [List.take_succ_eq_append_getElem h]
  congr 2
  simp [ptsE]
theorem ptsL_le {k : Nat → UInt8} {p G : Nat} : ∀ {es : List Ent}, (∀ e ∈ es, cntP p e.2.toNat G ≤ 256) → (ptsL k p G es).length ≤ es.length * 256
  | [], _ => Nat.zero_le _
  | e :: es, h => by
    have h1 := h e (by simp)
    have ih := ptsL_le (k := k) (es := es) (fun x hx => h x (by simp [hx]))
    show (ptsE k p G e ++ ptsL k p G es).length ≤ _
    rw [List.length_append, ptsE_len, List.length_cons]
    omega
/-- All points in their order. -/
def srtP (ps : List Pt) : List Pt := ps.mergeSort fun x y => !(ltOf cmpP) y x
/-- Points in memory. -/
def PtsAt (w : World) (a : Option Addr) (c : Nat) (ps : List Pt) : Prop :=
  ps = [] ∨ ∃ bk o, a = some ⟨bk, o, none⟩ ∧ bk < w.heap.size ∧ ps.length ≤ c ∧ ∀ (j : Nat) p, ps[j]? = some p → w.cell? ⟨bk, o + j * 2, none⟩ = some (.int .u64 (p.1 : Nat)) ∧ w.cell? ⟨bk, o + j * 2 + 1, none⟩ = some (.string p.2)
theorem PtsAt.below {w w' : World} {a : Option Addr} {c : Nat} {ps : List Pt} (h : PtsAt w a c ps) (hb : Below w.heap.size w w') : PtsAt w' a c ps := by
  obtain h | ⟨bk, o, ha, hlt, hc, hcell⟩ := h
  · exact .inl h
  · obtain ⟨b1, _⟩ := bcell hb
    exact .inr ⟨bk, o, ha, Nat.lt_of_lt_of_le hlt hb.size, hc, fun j p hp => by rw [b1 _ _ hlt, b1 _ _ hlt]; exact hcell j p hp⟩
/-- A ring in memory. -/
def RingAt (w : World) (rb : Nat) (ps : List Pt) (n : Nat) : Prop :=
  rb < w.heap.size ∧ ∃ a c, w.cell? ⟨rb, 0, none⟩ = some (.slice a ps.length c) ∧ w.cell? ⟨rb, 1, none⟩ = some (.int .i64 (n : Nat)) ∧ PtsAt w a c ps
theorem RingAt.below {w w' : World} {rb n : Nat} {ps : List Pt} (h : RingAt w rb ps n) (hb : Below w.heap.size w w') : RingAt w' rb ps n := by
  obtain ⟨h1, a, c, h2, h3, h4⟩ := h
  obtain ⟨b1, _⟩ := bcell hb
  exact ⟨Nat.lt_of_lt_of_le h1 hb.size, a, c, by rw [b1 _ _ h1]; exact h2, by rw [b1 _ _ h1]; exact h3, h4.below hb⟩
theorem keep_sortK {w : World} {g q : Nat} (d : Array Pt) (os : Array Obj) : Keep (fun y => y = g) w (sortWorldK encP 2 w g 0 q d os) := by
  have hs : (putRowK encP 2 (Go.Sort.ahead w q) g 0 d).heap.size = w.heap.size := by simp [putRowK, putRow, mapBlock, Go.Sort.ahead]
  refine ⟨rfl, rfl, rfl, ?_, fun k hk hn => ?_⟩
  · unfold sortWorldK
    rw [Go.Sort.size_grow, hs]
    omega
  · unfold sortWorldK
    rw [heap_grow_old _ _ (by rw [hs]; exact hk)]
    show (w.heap.modify g _)[k]? = _
    rw [Array.getElem?_modify, if_neg (fun e => hn e.symm)]
theorem holds_pts {base g c : Nat} {T : TypeId} {ps : List Pt} {w : World} (h : w.ownsRow base T 2 (.slice (some ⟨g, 0, none⟩) ps.length c) ps.length (cellsP ps)) : HoldsK encP 2 w g 0 ps.toArray := by
  intro t ht
  rw [size_flatK, List.size_toArray] at ht
  have hcl := cellsP_length ps
  rw [get_flatK _ _ _ _ (by simpa using ht), Nat.zero_add]
  refine ⟨?_, h.frozenAt t⟩
  have hi : t / 2 < ps.length := by omega
  have hd : ps.toArray[t / 2]! = ps[t / 2] := by simp [hi]
  obtain ⟨c1, c2⟩ := cellsP_at ps (t / 2) ps[t / 2] (by simp [hi])
  rw [h.cellAt t (by omega), hd]
  rcases Nat.mod_two_eq_zero_or_one t with e | e
  · rw [show (cellsP ps)[t]? = (cellsP ps)[t / 2 * 2]? by congr 1; omega, c1, e]; rfl
  · rw [show (cellsP ps)[t]? = (cellsP ps)[t / 2 * 2 + 1]? by congr 1; omega, c2, e]; rfl
theorem pts_holds {g c : Nat} {d : Array Pt} {w : World} (h : HoldsK encP 2 w g 0 d) (hg : g < w.heap.size) (hc : d.size ≤ c) : PtsAt w (some ⟨g, 0, none⟩) c d.toList := by
  refine .inr ⟨g, 0, rfl, hg, by simpa using hc, fun j e he => ?_⟩
  have hj : j < d.size := by
    rcases Nat.lt_or_ge j d.size with h | h
    · exact h
    · rw [List.getElem?_eq_none (by simpa using h)] at he; cases he
  have hd : d[j]! = e := by
    rw [getElem!_pos d j hj]
    simpa [hj] using he
  have c1 := (h.cell (i := j) (c := 0) hj (by decide)).1
  have c2 := (h.cell (i := j) (c := 1) hj (by decide)).1
  rw [hd] at c1 c2
  exact ⟨c1, c2⟩
theorem srtP_perm (ps : List Pt) : (srtP ps).Perm ps := List.mergeSort_perm _ _
set_option maxHeartbeats 1000000 in
/-- slices.SortFunc of points. -/
theorem sort52 (base g c : Nat) (ps : List Pt) (hps : ps.length ≤ 100000) (w : World) (hown : w.ownsRow base 62 2 (.slice (some ⟨g, 0, none⟩) ps.length c) ps.length (cellsP ps)) :
    Calls Tryd.prog 23 #[.slice (some ⟨g, 0, none⟩) ps.length c, .func (.func 24) #[] #[]] w fun e w' => e = .returned (.tuple #[]) ∧ PtsAt w' (some ⟨g, 0, none⟩) c (srtP ps) ∧ Keep (fun y => y = g) w w' := by
  have eg : ∀ args w, (callFunc 24 args).run Tryd.prog w = .ok (.enter 24 args) w := enters_of Tryd.func24 (by kernel_rfl) rfl
  have hH := holds_pts hown
  have hg : g < w.heap.size ∧ ps.length ≤ c := by
    obtain ⟨hl, ⟨hx, _⟩ | ⟨g', cap, cur, hx, hb, hg, hcap, _⟩⟩ := hown
    · injection hx with h1; cases h1
    · injection hx with h1 h2 h3
      obtain rfl : g = g' := by injection h1 with h1; injection h1
      exact ⟨(Array.getElem?_eq_some_iff.1 hg).1, by omega⟩
  have hcon := AnyQ.slices_SortFunc_total Tryd.sortPt 2 Tryd.isAgg62 Tryd.sizeOf62 encP (fun _ => rfl) (fun x v hv => by simp [encP] at hv; rcases hv with rfl | rfl <;> rfl) cmpP swoP 24 #[] g 0 c ps.toArray w eg (cmpLaysP g 0 _ w) hH hg.1 (by simp; omega)
    (fun x y h1 h2 => by rw [ltP, decide_eq_false_iff_not] at h1 h2; exact ltPt_tri x y h1 h2)
  rw [List.size_toArray] at hcon
  refine Calls.mono hcon ?_
  rintro e w' ⟨he, n, os, rfl⟩
  have hsz : (ps.mergeSort fun x y => !(ltOf cmpP) y x).toArray.size = ps.length := by simp
  refine ⟨he, pts_holds (holdsK_sortWorldK_c encP 2 w g 0 ps.toArray _ n os hH hg.1 (by simp)) ?_ (by rw [hsz]; exact hg.2), keep_sortK _ _⟩
  exact Nat.lt_of_lt_of_le hg.1 (keep_sortK (w := w) (g := g) (q := n) _ os).size
theorem sort52_none (a : Option Addr) (c : Nat) (f : Value) (w : World) :
    Calls Tryd.prog 23 #[.slice a 0 c, f] w fun e w' => e = .returned (.tuple #[]) ∧ w' = w :=
  AnyF.slices_SortFunc_none Tryd.sortPt a c f w
end Go.Proofs.YtklfpnnnoaaiaaaDoor

/- ring.Build (written by genrgd.py). -/
namespace Go.Proofs.YtklfpnnnoaaiaaaDoor
open Go.RowKit Go.Shelf Go.Lib Go.Sort

theorem infoPt : (Tryd.prog.info? 62).map (fun i => (i.zero, i.size, i.bytes)) = some (some (.agg #[.int .u64 0, .string ⟨#[]⟩]), 2, 24) := by kernel_rfl
theorem ownB_keepR {w w' : World} {base : Nat} {e : TypeId} {n m : Nat} {v : Value} {xs : List Value} (h : w.ownsRow base e n v m xs) (hb : Below w.heap.size w w') : w'.ownsRow base e n v m xs := by
  obtain ⟨hl, h0 | ⟨g, cap, cur, rfl, hbg, hg, r⟩⟩ := h
  · exact ⟨hl, .inl h0⟩
  · exact ⟨hl, .inr ⟨g, cap, cur, rfl, hbg, (hb.block g (Array.getElem?_eq_some_iff.1 hg).1).trans hg, r⟩⟩
theorem own_zeroR {w : World} {base : Nat} {e : TypeId} {n m : Nat} {v : Value} {xs : List Value} (h : w.ownsRow base e n v m xs) : w.ownsRow 0 e n v m xs := by
  obtain ⟨hl, h0 | ⟨g, cap, cur, rfl, hg, r⟩⟩ := h
  · exact ⟨hl, .inl h0⟩
  · exact ⟨hl, .inr ⟨g, cap, cur, rfl, Nat.zero_le _, r⟩⟩
theorem wrapR (z : Int) (h1 : -9223372036854775808 ≤ z) (h2 : z < 9223372036854775808) : IntKind.i64.wrap z = z := by
  simp [IntKind.wrap, IntKind.signed, IntKind.bits]; omega
theorem srtP_nil : srtP [] = [] := by simp [srtP]
theorem Row.ne {w : World} {g g' : Nat} {t t' : TypeId} {cs cs' : Array Value} (h : Row w g t cs) (h' : Row w g' t' cs') (ht : t ≠ t') : g ≠ g' := by
  rintro rfl
  unfold Row at h h'
  rw [h] at h'
  injection h' with h'
  injection h' with _ h2
  exact ht h2
theorem own_farR {w : World} {base : Nat} {e : TypeId} {n m : Nat} {v : Value} {xs : List Value} (h : w.ownsRow base e n v m xs) {b o : Nat} (hne : v.ownBlock ≠ some b) (u : Value) : (w.setCell ⟨b, o, none⟩ u).ownsRow base e n v m xs := by
  obtain ⟨hl, h0 | ⟨g, cap, cur, rfl, hbg, hg, r⟩⟩ := h
  · exact ⟨hl, .inl h0⟩
  · refine ⟨hl, .inr ⟨g, cap, cur, rfl, hbg, ?_, r⟩⟩
    rw [Below.heap_setCell w ⟨b, o, none⟩ u g (fun e => hne (by rw [← (show g = b from e)]; rfl))]
    exact hg
/-- What is there while a point is appended. -/
structure RpS (W : World) (rb eb kb : Nat) (k : Nat → UInt8) (m : Nat) (v : Value) (n : Nat) (xs : List Value) (N : ByteArray) (V : Int) (p1 : Nat) (L : Nat → Bool) (x : Nat → Value) (w : World) : Prop where
  bel : Below W.heap.size W w
  row : Row w rb 60 #[v, .int .i64 (n : Nat)]
  box : Row w eb 53 #[.string N, .int .i64 V]
  key : Row w kb 27 #[.int .u8 (k 0).toNat, .int .u8 (k 1).toNat, .int .u8 (k 2).toNat, .int .u8 (k 3).toNat, .int .u8 (k 4).toNat, .int .u8 (k 5).toNat, .int .u8 (k 6).toNat, .int .u8 (k 7).toNat, .int .u8 (k 8).toNat, .int .u8 (k 9).toNat, .int .u8 (k 10).toNat, .int .u8 (k 11).toNat, .int .u8 (k 12).toNat, .int .u8 (k 13).toNat, .int .u8 (k 14).toNat, .int .u8 (k 15).toNat]
  z10 : L 10 = false → w.ownsRow W.heap.size 62 2 v m xs
  z9 : L 9 = true → L 10 = false → ∃ g, x 9 = .slice (some ⟨g, 0, none⟩) 1 1 ∧ Row w g 62 #[.int .u64 (p1 : Nat), .string N]
  z11 : L 10 = true → w.ownsRow W.heap.size 62 2 (x 10) (m + 1) (xs ++ [.int .u64 (p1 : Nat), .string N])
section
variable {W : World} {rb eb kb : Nat} {k : Nat → UInt8} {m : Nat} {v : Value} {n : Nat} {xs : List Value} {N : ByteArray} {V : Int} {p1 : Nat} {L : Nat → Bool} {x : Nat → Value} {w w' : World}
theorem RpS.below (h : RpS W rb eb kb k m v n xs N V p1 L x w) (hb : Below w.heap.size w w') : RpS W rb eb kb k m v n xs N V p1 L x w' :=
  ⟨h.bel.trans (hb.mono h.bel.size), h.row.below hb, h.box.below hb, h.key.below hb, fun e => ownB_keepR (h.z10 e) hb, fun e e2 => by obtain ⟨g, h1, h2⟩ := h.z9 e e2; exact ⟨g, h1, h2.below hb⟩, fun e => ownB_keepR (h.z11 e) hb⟩
theorem RpS.next (h : RpS W rb eb kb k m v n xs N V p1 L x w) (i : Nat) (u : Value) (h9 : i ≠ 9) (h10 : i ≠ 10) : RpS W rb eb kb k m v n xs N V p1 (setL L i) (updV x i u) w := by
  have e9 : setL L i 9 = L 9 := by simp [setL, Ne.symm h9]
  have e10 : setL L i 10 = L 10 := by simp [setL, Ne.symm h10]
  have x9 : updV x i u 9 = x 9 := by simp [updV, Ne.symm h9]
  have x10 : updV x i u 10 = x 10 := by simp [updV, Ne.symm h10]
  exact ⟨h.bel, h.row, h.box, h.key, by rw [e10]; exact h.z10, by rw [e9, x9, e10]; exact h.z9, by rw [e10, x10]; exact h.z11⟩
theorem RpS.put (h : RpS W rb eb kb k m v n xs N V p1 L x w) : RpS W rb eb kb k m v n xs N V p1 (setL L 9) (updV x 9 (.slice (some ⟨w.heap.size, 0, none⟩) 1 1)) (w.alloc (.cells #[.int .u64 (p1 : Nat), .string N] 62)) := by
  have h' := h.below (below_alloc w (.cells #[.int .u64 (p1 : Nat), .string N] 62))
  have e10 : setL L 9 10 = L 10 := by simp [setL]
  have x10 : updV x 9 (.slice (some ⟨w.heap.size, 0, none⟩) 1 1) 10 = x 10 := by simp [updV]
  exact ⟨h'.bel, h'.row, h'.box, h'.key, by rw [e10]; exact h'.z10, fun _ _ => ⟨w.heap.size, by simp [updV], Row.new w _ _⟩, by rw [e10, x10]; exact h'.z11⟩
theorem RpS.app (h : RpS W rb eb kb k m v n xs N V p1 L x w) {v' : Value} (ho : w'.ownsRow W.heap.size 62 2 v' (m + 1) (xs ++ [.int .u64 (p1 : Nat), .string N])) (hg : w.grownBy w' v.ownBlock) (hl : L 10 = false) : RpS W rb eb kb k m v n xs N V p1 (setL L 10) (updV x 10 v') w' := by
  have hz := h.z10 hl
  have hn : ∀ {g : Nat} {t : TypeId} {cs : Array Value}, Row w g t cs → 62 ≠ t → v.ownBlock ≠ some g := fun hr hne => own_ne (own_zeroR hz) hr hne
  refine ⟨h.bel.grown hg h.bel.size (fun y e => (hz.lt y e).1), h.row.grown hg (hn h.row (by decide)), h.box.grown hg (hn h.box (by decide)), h.key.grown hg (hn h.key (by decide)), fun e => by simp [setL] at e, fun _ e => by simp [setL] at e, fun _ => by simpa [updV] using ho⟩
end
theorem cnt_le {p W G : Nat} (hp : 1 ≤ p) (hW : W ≤ G) : cntP p W G ≤ p := by
  unfold cntP
  have : p * W / G ≤ p := by
    rcases Nat.eq_zero_or_pos G with h | h
    · subst h; simp
    · exact Nat.div_le_of_le_mul (by rw [Nat.mul_comm G p]; exact Nat.mul_le_mul_left p hW)
  omega
theorem gmE_ge : ∀ {l : List Ent} {e : Ent}, e ∈ l → e.2 ≤ gmE l
  | x :: l, e, h => by
    show e.2 ≤ max x.2 (gmE l)
    rcases List.mem_cons.1 h with rfl | h
    · omega
    · have := gmE_ge h; omega
theorem gmE_le {B : Int} (hB : 0 ≤ B) : ∀ {l : List Ent}, (∀ e ∈ l, e.2 ≤ B) → gmE l ≤ B
  | [], _ => hB
  | x :: l, h => by
    show max x.2 (gmE l) ≤ B
    have h1 := h x (by simp)
    have h2 := gmE_le hB (l := l) (fun e he => h e (by simp [he]))
    omega
set_option maxRecDepth 100000 in
set_option maxHeartbeats 4000000 in
theorem ringBuild27_bad (k : Nat → UInt8) (es : List Ent) (hl : es.length ≤ 6) (hz : ∀ e ∈ es, e.1.size ≤ 1000) (hv : validB es = false) (per : Int) (a : Option Addr) (c : Nat) (w : World) (hf : IsEnts w a c es) :
    Calls Tryd.prog 8 #[keyVal k, .slice a es.length c, .int .i64 per] w fun e w' => e = .returned (.tuple #[.pointer none, .int .i64 1]) ∧ Below w.heap.size w w' := by
  have hb0 := below_alloc w (.cells #[.int .u8 (k 0).toNat, .int .u8 (k 1).toNat, .int .u8 (k 2).toNat, .int .u8 (k 3).toNat, .int .u8 (k 4).toNat, .int .u8 (k 5).toNat, .int .u8 (k 6).toNat, .int .u8 (k 7).toNat, .int .u8 (k 8).toNat, .int .u8 (k 9).toNat, .int .u8 (k 10).toNat, .int .u8 (k 11).toNat, .int .u8 (k 12).toNat, .int .u8 (k 13).toNat, .int .u8 (k 14).toNat, .int .u8 (k 15).toNat] 27)
  have HF := Lib.hid (hf.below hb0)
  have HB0 := Lib.hid hb0
  have HD := Lib.hid (fun W hE => distinct48 a c es (by omega) (fun e he => by have := hz e he; unfold maxLen; omega) W hE)
  have HP := Lib.hid (fun W hE => permitted49 a c es (by omega) W hE)
  have k1 : ¬ ((1024 : Int) < es.length) := by omega
  unfold keyVal
  clear hb0 hf
  by_cases ha : Apart es
  · have HA : Hid (decide (Apart es) = true) := decide_eq_true ha
    have HO : Hid (es.all okW = false) := by
      unfold validB at hv
      rw [decide_eq_true ha, Bool.and_true] at hv
      exact hv
    rw [HA.out] at HD
    rw [HO.out] at HP
    clear HA HO hv ha
    go_enter Tryd.func8, Tryd.ntmps8
    go_wp2_with (first
      | (go_at_call 19; refine (HD.out _ HF.out).mono ?_; rintro e w1 ⟨rfl, hB1⟩; have HF1 := Lib.hid (HF.out.below hB1); have HB1 := Lib.hid (HB0.out.trans (hB1.mono HB0.out.size)); clear hB1)
      | (go_at_call 20; refine (HP.out _ HF1.out).mono ?_; rintro e w2 ⟨rfl, hB2⟩; have HB2 := Lib.hid (HB1.out.trans (hB2.mono HB1.out.size)); clear hB2))
    go_ret2
    exact ⟨rfl, HB2.out⟩
  · have HA : Hid (decide (Apart es) = false) := decide_eq_false ha
    rw [HA.out] at HD
    clear HA hv ha HP
    go_enter Tryd.func8, Tryd.ntmps8
    go_wp2_with (go_at_call 19; refine (HD.out _ HF.out).mono ?_; rintro e w1 ⟨rfl, hB1⟩; have HB1 := Lib.hid (HB0.out.trans (hB1.mono HB0.out.size)); clear hB1)
    go_ret2
    exact ⟨rfl, HB1.out⟩
set_option maxRecDepth 100000 in
set_option maxHeartbeats 8000000 in
theorem ringBuild27 (k : Nat → UInt8) (es : List Ent) (hl : es.length ≤ 6) (hz : ∀ e ∈ es, e.1.size ≤ 1000) (hv : validB es = true) (per : Int) (p : Nat) (hper : min (max per 1) 256 = (p : Int)) (a : Option Addr) (c : Nat) (w : World) (hI : Ini w) (hpw : Pow w) (hf : IsEnts w a c es) :
    Calls Tryd.prog 8 #[keyVal k, .slice a es.length c, .int .i64 per] w fun e w' => ∃ rb, e = .returned (.tuple #[.pointer (some ⟨rb, 0, none⟩), .int .i64 0]) ∧ RingAt w' rb (srtP (ptsL k p (gmE es).toNat es)) es.length ∧ Below w.heap.size w w' := by
  obtain ⟨i0, hi0, hz0, hz1, hz2⟩ := info_parts infoPt
  have hok : ∀ e ∈ es, okW e = true := by
    unfold validB at hv
    rw [Bool.and_eq_true] at hv
    exact fun e he => List.all_eq_true.1 hv.1 e he
  have hrange : ∀ e ∈ es, 1 ≤ e.2 ∧ e.2 ≤ 65535 := fun e he => by have := hok e he; unfold okW at this; simpa using this
  have hap : Apart es := by
    unfold validB at hv
    rw [Bool.and_eq_true] at hv
    exact of_decide_eq_true hv.2
  have hb0 := below_alloc w (.cells #[.int .u8 (k 0).toNat, .int .u8 (k 1).toNat, .int .u8 (k 2).toNat, .int .u8 (k 3).toNat, .int .u8 (k 4).toNat, .int .u8 (k 5).toNat, .int .u8 (k 6).toNat, .int .u8 (k 7).toNat, .int .u8 (k 8).toNat, .int .u8 (k 9).toNat, .int .u8 (k 10).toNat, .int .u8 (k 11).toNat, .int .u8 (k 12).toNat, .int .u8 (k 13).toNat, .int .u8 (k 14).toNat, .int .u8 (k 15).toNat] 27)
  have HF := Lib.hid hf
  have HI := Lib.hid hI
  have HPW := Lib.hid hpw
  have HB0 := Lib.hid hb0
  have HKR := Lib.hid (Row.new w 27 #[.int .u8 (k 0).toNat, .int .u8 (k 1).toNat, .int .u8 (k 2).toNat, .int .u8 (k 3).toNat, .int .u8 (k 4).toNat, .int .u8 (k 5).toNat, .int .u8 (k 6).toNat, .int .u8 (k 7).toNat, .int .u8 (k 8).toNat, .int .u8 (k 9).toNat, .int .u8 (k 10).toNat, .int .u8 (k 11).toNat, .int .u8 (k 12).toNat, .int .u8 (k 13).toNat, .int .u8 (k 14).toNat, .int .u8 (k 15).toNat])
  have hd := fun W hE => distinct48 a c es (by omega) (fun e he => by have := hz e he; unfold maxLen; omega) W hE
  rw [decide_eq_true hap] at hd
  have HD := Lib.hid hd
  have hp4 := fun W hE => permitted49 a c es (by omega) W hE
  rw [List.all_eq_true.2 hok] at hp4
  have HP := Lib.hid hp4
  have HGW := Lib.hid (fun W hE => greatest50 a c es (by omega) W hE)
  have HRG := Lib.hid hrange
  have HZ := Lib.hid hz
  have hp1 : 1 ≤ p ∧ p ≤ 256 := by omega
  have hG65 : gmE es ≤ 65535 := gmE_le (by decide) fun e he => (hrange e he).2
  have hG0 := gmE_nonneg es
  have HGG := Lib.hid (fun e (he : e ∈ es) => gmE_ge he)
  obtain ⟨G, hG⟩ : ∃ G : Nat, gmE es = (G : Int) := ⟨(gmE es).toNat, by omega⟩
  rw [hG] at HGW HGG hG65
  rw [hG, Int.toNat_natCast]
  have k1 : ¬ ((1024 : Int) < es.length) := by omega
  clear hb0 hf hI hpw hd hp4 hok hrange hap hv hz hG hG0
  unfold keyVal
  go_enter Tryd.func8, Tryd.ntmps8
  go_upto_region 1 with fail
  generalize w.alloc (.cells #[.int .u8 (k 0).toNat, .int .u8 (k 1).toNat, .int .u8 (k 2).toNat, .int .u8 (k 3).toNat, .int .u8 (k 4).toNat, .int .u8 (k 5).toNat, .int .u8 (k 6).toNat, .int .u8 (k 7).toNat, .int .u8 (k 8).toNat, .int .u8 (k 9).toNat, .int .u8 (k 10).toNat, .int .u8 (k 11).toNat, .int .u8 (k 12).toNat, .int .u8 (k 13).toNat, .int .u8 (k 14).toNat, .int .u8 (k 15).toNat] 27) = w0 at *
  have HF0 := Lib.hid (HF.out.below HB0.out)
  go_upto_region 5 with (first
    | (go_at_call 19; refine (HD.out _ HF0.out).mono ?_; rintro e w1 ⟨rfl, hB1⟩; have HF1 := Lib.hid (HF0.out.below hB1); have HK1 := Lib.hid (HKR.out.below hB1); have HB1 := Lib.hid (HB0.out.trans (hB1.mono HB0.out.size)); clear hB1)
    | (go_at_call 20; refine (HP.out _ HF1.out).mono ?_; rintro e w2 ⟨rfl, hB2⟩; have HF2 := Lib.hid (HF1.out.below hB2); have HK2 := Lib.hid (HK1.out.below hB2); have HB2 := Lib.hid (HB1.out.trans (hB2.mono HB1.out.size)); clear hB2)
    | (go_at_call 21; refine (HGW.out _ HF2.out).mono ?_; rintro e w3 ⟨rfl, hB3⟩; have HF3 := Lib.hid (HF2.out.below hB3); have HK3 := Lib.hid (HK2.out.below hB3); have HB3 := Lib.hid (HB2.out.trans (hB3.mono HB2.out.size)); clear hB3))
  have HR4 := Lib.hid (Row.new w3 60 #[.slice none 0 0, .int .i64 (es.length : Nat)])
  have HK4 := Lib.hid (HK3.out.alloc (.cells #[.slice none 0 0, .int .i64 (es.length : Nat)] 60))
  have HB4 := Lib.hid (HB3.out.alloc HB3.out.size (.cells #[.slice none 0 0, .int .i64 (es.length : Nat)] 60))
  clear HF0 HF1 HF2 HF3 HK1 HK2 HK3 HB1 HB2 HD HP HGW HKR HB0
  have HKBL : Hid (w.heap.size ≤ w3.heap.size) := HB3.out.size
  go_upto_region 7 with fail
  generalize hrb : w3.heap.size = rb at *
  clear hrb
  generalize w3.alloc (.cells #[.slice none 0 0, .int .i64 (es.length : Nat)] 60) = w4 at *
  have HN4 : Hid (w4.ownsRow w.heap.size 62 2 (.slice none 0 0) (ptsL k p G (es.take 0)).length (cellsP (ptsL k p G (es.take 0)))) := World.ownsRow_nil _ _ _ _
  go_loopw [37] (fun i wr => ∃ (j : Nat) (v : Value), j ≤ es.length ∧ i = .int .i64 (j : Int) ∧ Hid (Row wr rb 60 #[v, .int .i64 (es.length : Nat)]) ∧ Hid (Row wr w.heap.size 27 #[.int .u8 (k 0).toNat, .int .u8 (k 1).toNat, .int .u8 (k 2).toNat, .int .u8 (k 3).toNat, .int .u8 (k 4).toNat, .int .u8 (k 5).toNat, .int .u8 (k 6).toNat, .int .u8 (k 7).toNat, .int .u8 (k 8).toNat, .int .u8 (k 9).toNat, .int .u8 (k 10).toNat, .int .u8 (k 11).toNat, .int .u8 (k 12).toNat, .int .u8 (k 13).toNat, .int .u8 (k 14).toNat, .int .u8 (k 15).toNat]) ∧ Hid (wr.ownsRow w.heap.size 62 2 v (ptsL k p G (es.take j)).length (cellsP (ptsL k p G (es.take j)))) ∧ Hid (Below w.heap.size w wr)) (fun i _ => es.length - (intOf i).toNat)
  case atStart => exact ⟨0, _, Nat.zero_le _, rfl, HR4, HK4, HN4, HB4⟩
  case round =>
    clear HR4 HK4 HB4 HN4
    obtain ⟨j, v, hj, rfl, HR, HK, HO, HB⟩ := hrel
    by_cases hlt : j < es.length
    · obtain h0 | ⟨bk, o, rfl, hbk, hc, hcell⟩ := HF.out.below HB.out
      · subst h0; simp at hlt
      obtain ⟨c1, c2⟩ := hcell j es[j] (by simp [hlt])
      have hrg := HRG.out es[j] (List.getElem_mem hlt)
      have hgg := HGG.out es[j] (List.getElem_mem hlt)
      have hzz := HZ.out es[j] (List.getElem_mem hlt)
      have HST := Lib.hid (ptsL_step (k := k) (p := p) (G := G) hlt)
      have HTL : Hid (∀ i, i ≤ cntP p es[j].2.toNat G → (ptsL k p G (es.take j) ++ (ptsE k p G es[j]).take i).length ≤ 2000) := fun i hi => by
        have h1 := ptsL_le (k := k) (p := p) (G := G) (es := es.take j) (fun e he => by
          have h2 := HRG.out e (List.mem_of_mem_take he)
          have h3 := HGG.out e (List.mem_of_mem_take he)
          have := cnt_le (p := p) (W := e.2.toNat) (G := G) hp1.1 (by omega)
          omega)
        have h4 := cnt_le (p := p) (W := es[j].2.toNat) (G := G) hp1.1 (by omega)
        rw [List.length_append, List.length_take, ptsE_len]
        rw [List.length_take] at h1
        omega
      have HES : Hid (∀ i, i < cntP p (es[j]).2.toNat G → (ptsE k p G es[j]).take (i + 1) = (ptsE k p G es[j]).take i ++ [(ptV k (es[j]).1 i, (es[j]).1)]) := fun i h => ptsE_step h
      have hcl := cnt_le (p := p) (W := es[j].2.toNat) (G := G) hp1.1 (by omega)
      have HEL := Lib.hid (ptsE_len k p G es[j])
      have j1 : (j : Int) < es.length := by omega
      generalize es[j] = e at *
      obtain ⟨N, V⟩ := e
      simp only at c1 c2 hrg hgg hzz HES hcl HTL HEL
      obtain ⟨U, rfl⟩ : ∃ U : Nat, V = (U : Int) := ⟨V.toNat, by omega⟩
      rw [Int.toNat_natCast] at HES hcl HTL HEL
      have HRa := Lib.hid (HR.out.alloc (.cells #[.string N, .int .i64 (U : Nat)] 53))
      have HKa := Lib.hid (HK.out.alloc (.cells #[.string N, .int .i64 (U : Nat)] 53))
      have HOa := Lib.hid (HO.out.alloc (.cells #[.string N, .int .i64 (U : Nat)] 53))
      have HBa := Lib.hid (HB.out.alloc HB.out.size (.cells #[.string N, .int .i64 (U : Nat)] 53))
      have HXa := Lib.hid (Row.new wr 53 #[.string N, .int .i64 (U : Nat)])
      have hpu : p * U ≤ 256 * 65535 := Nat.mul_le_mul hp1.2 (by omega)
      have hmul : (p : Int) * (U : Int) = ((p * U : Nat) : Int) := by simp
      have hwm := wrapR ((p * U : Nat) : Int) (by omega) (by omega)
      have hql : p * U / G ≤ p * U := Nat.div_le_self _ _
      have hquo : ((p * U : Nat) : Int).tdiv (G : Int) = ((p * U / G : Nat) : Int) := by rw [Int.tdiv_eq_ediv_of_nonneg (by omega)]; rfl
      have hmx : max ((p * U / G : Nat) : Int) 1 = ((cntP p U G : Nat) : Int) := by unfold cntP; omega
      have hG1 : ¬ (G : Int) = 0 := by omega
      have hG2 : ¬ G = 0 := by omega
      generalize p * U / G = q9 at hql hquo hmx
      have hwq := wrapR (q9 : Int) (by omega) (by omega)
      generalize p * U = pu at *
      clear hcell HR HK HO HB hbk
      go_upto_region 9 with fail
      clear c1 c2
      generalize wr.heap.size = eb at *
      generalize wr.alloc (.cells #[.string N, .int .i64 (U : Nat)] 53) = wa at *
      have d1 : wa.cell? ⟨eb, 1, none⟩ = some (.int .i64 (U : Nat)) := by rw [HXa.out.cell]; rfl
      have HN0 : Hid (wa.ownsRow w.heap.size 62 2 v (ptsL k p G (es.take j) ++ (ptsE k p G (N, (U : Int))).take 0).length (cellsP (ptsL k p G (es.take j) ++ (ptsE k p G (N, (U : Int))).take 0))) := by
        rw [List.take_zero, List.append_nil]; exact HOa
      clear HOa
      go_wp2_with fail
      clear d1 hmul hwm hquo hmx hwq hql hpu
      have HCL := Lib.hid hcl
      generalize hcn : cntP p U G = cn at *
      have HCN := Lib.hid hcn
      clear hcn
      generalize ptsL k p G (es.take j) = ps0 at *
      go_loopw [48] (fun i wr => ∃ (i' : Nat) (v : Value), i' ≤ cn ∧ i = .int .i64 (i' : Int) ∧ Hid (Row wr rb 60 #[v, .int .i64 (es.length : Nat)]) ∧ Hid (Row wr w.heap.size 27 #[.int .u8 (k 0).toNat, .int .u8 (k 1).toNat, .int .u8 (k 2).toNat, .int .u8 (k 3).toNat, .int .u8 (k 4).toNat, .int .u8 (k 5).toNat, .int .u8 (k 6).toNat, .int .u8 (k 7).toNat, .int .u8 (k 8).toNat, .int .u8 (k 9).toNat, .int .u8 (k 10).toNat, .int .u8 (k 11).toNat, .int .u8 (k 12).toNat, .int .u8 (k 13).toNat, .int .u8 (k 14).toNat, .int .u8 (k 15).toNat]) ∧ Hid (Row wr eb 53 #[.string N, .int .i64 (U : Nat)]) ∧ Hid (wr.ownsRow w.heap.size 62 2 v (ps0 ++ (ptsE k p G (N, (U : Int))).take i').length (cellsP (ps0 ++ (ptsE k p G (N, (U : Int))).take i'))) ∧ Hid (Below w.heap.size w wr)) (fun i _ => cn - (intOf i).toNat)
      case atStart => exact ⟨0, _, Nat.zero_le _, rfl, HRa, HKa, HXa, HN0, HBa⟩
      case round =>
        clear HRa HKa HXa HN0 HBa
        rename_i wr0
        obtain ⟨i, v, hi, rfl, HR, HK, HX, HO, HB⟩ := hrel
        by_cases hlt2 : i < cn
        · have HSTE := Lib.hid (HES.out i hlt2)
          have HTLE := Lib.hid (HTL.out i (by omega))
          have i1 : (i : Int) < cn := by omega
          have HPT := Lib.hid (fun W hI hP => point51 k N (U : Int) (by omega) i (by omega) W hI hP)
          generalize ptV k N i = p1 at *
          have HMM : Hid ((ps0 ++ (ptsE k p G (N, (U : Int))).take (i + 1)) = (ps0 ++ (ptsE k p G (N, (U : Int))).take i) ++ [(p1, N)]) := by
            show _ = _
            rw [HSTE.out, List.append_assoc]
          have hml := HTLE.out
          generalize ps0 ++ (ptsE k p G (N, (U : Int))).take i = ps at *
          generalize hmm : ps.length = mm at *
          generalize hxs : cellsP ps = xs at *
          have HMX := Lib.hid (And.intro hmm hxs)
          have HMV : Hid (∃ V : Int, V = (U : Int)) := ⟨_, rfl⟩
          obtain ⟨V, hV⟩ := HMV.out
          rw [← hV] at HX HPT ⊢
          have HVE := Lib.hid hV
          clear hmm hxs HMV hV
          go_wp2_with fail
          refine region_mixt 11 [some (.pointer (some ⟨rb, 0, none⟩)), some (.pointer (some ⟨rb, 0, none⟩)), some (.pointer (some ⟨rb, 0, none⟩)), some (.pointer (some ⟨rb, 0, none⟩)), some (v), some (.agg #[.string N, .int .i64 V]), some (.agg #[.int .u8 (k 0).toNat, .int .u8 (k 1).toNat, .int .u8 (k 2).toNat, .int .u8 (k 3).toNat, .int .u8 (k 4).toNat, .int .u8 (k 5).toNat, .int .u8 (k 6).toNat, .int .u8 (k 7).toNat, .int .u8 (k 8).toNat, .int .u8 (k 9).toNat, .int .u8 (k 10).toNat, .int .u8 (k 11).toNat, .int .u8 (k 12).toNat, .int .u8 (k 13).toNat, .int .u8 (k 14).toNat, .int .u8 (k 15).toNat]), some (.int .i64 (i : Nat)), some (.agg #[.int .u64 (p1 : Nat), .string N]), none, none]
            [[false, false, false, false, false, false, false, false, false, false, false], [false, false, false, false, false, false, false, false, false, false, false], [false, true, false, false, false, false, false, false, false, false, false], [false, false, true, false, false, false, false, false, false, false, false], [false, false, false, true, false, false, false, false, false, false, false], [false, false, false, false, false, false, false, false, false, false, false], [false, false, false, false, false, false, false, false, false, false, false], [false, false, false, false, false, false, false, false, false, false, false], [false, false, false, false, false, true, true, true, false, false, false], [false, false, false, false, false, false, false, false, true, false, false], [false, false, false, false, true, false, false, false, true, true, false]]
            (fun LL xx w9 => RpS w rb eb w.heap.size k mm v es.length xs N V p1 LL xx w9)
            (by kernel_rfl) (by kernel_rfl) (by kernel_rfl) (by kernel_rfl) (by kernel_rfl) (by decide) ?_ ?_ ?_
          · intro x
            exact ⟨HB.out.drew, HR.out.drew, HX.out.drew, HK.out.drew, fun _ => ownB_keepR HO.out ((Below.refl _ _).drew), (fun h => by cases h), (fun h => by cases h)⟩
          · simp only [List.take_succ_cons, List.take_zero]
            refine ⟨?_, ?_, ?_, ?_, ?_, ?_, ?_, ?_, ?_, ?_, ?_, trivial⟩
            all_goals
              intro L x w9 hS hl hp K9 hK9
              have hs : RpS w rb eb w.heap.size k mm v es.length xs N V p1 L x w9 := hS
              clear hS
              replace hK9 := hK9.out
              simp only [actMix, pickV, List.tail_cons, List.headD_cons, Act.put, List.setIfInBounds_toArray, List.set_cons_zero, List.set_cons_succ] at hK9 ⊢
            · clear hp
              go_simp
              with_reducible refine hK9 _ ?_
              exact hs.next 0 _ (by decide) (by decide)
            · clear hp
              go_simp
              with_reducible refine hK9 _ ?_
              exact hs.next 1 _ (by decide) (by decide)
            · clear hp
              go_simp
              with_reducible refine hK9 _ ?_
              exact hs.next 2 _ (by decide) (by decide)
            · clear hp
              go_simp
              with_reducible refine hK9 _ ?_
              exact hs.next 3 _ (by decide) (by decide)
            · have r0 : w9.cell? ⟨rb, 0, none⟩ = some v := by rw [hs.row.cell]; rfl
              clear hp
              go_simp
              with_reducible refine hK9 _ ?_
              exact hs.next 4 _ (by decide) (by decide)
            · have r0 : w9.cell? ⟨eb, 0, none⟩ = some (.string N) := by rw [hs.box.cell]; rfl
              have r1 : w9.cell? ⟨eb, 1, none⟩ = some (.int .i64 V) := by rw [hs.box.cell]; rfl
              clear hp
              go_simp
              with_reducible refine hK9 _ ?_
              exact hs.next 5 _ (by decide) (by decide)
            · have hkk := isKey_rowC hs.key
              clear hp
              rw [if_pos (by rfl)]
              refine wp_load_mid 27 _ rfl w.heap.size 0 rfl [.int .u8 (k 0).toNat, .int .u8 (k 1).toNat, .int .u8 (k 2).toNat, .int .u8 (k 3).toNat, .int .u8 (k 4).toNat, .int .u8 (k 5).toNat, .int .u8 (k 6).toNat, .int .u8 (k 7).toNat, .int .u8 (k 8).toNat, .int .u8 (k 9).toNat, .int .u8 (k 10).toNat, .int .u8 (k 11).toNat, .int .u8 (k 12).toNat, .int .u8 (k 13).toNat, .int .u8 (k 14).toNat, .int .u8 (k 15).toNat] _ (key_range hkk) Tryd.underlying27 rfl (by kernel_rfl) ?_
              simp only [Act.put, List.setIfInBounds_toArray, List.set_cons_zero, List.set_cons_succ]
              with_reducible refine hK9 _ ?_
              exact hs.next 6 _ (by decide) (by decide)
            · clear hp
              go_simp
              with_reducible refine hK9 _ ?_
              exact hs.next 7 _ (by decide) (by decide)
            · clear hp
              go_simp
              refine (HPT.out w9 (HI.out.below hs.bel) (HPW.out.below hs.bel)).mono ?_
              rintro e w8 ⟨rfl, hB8⟩
              go_simp
              with_reducible refine hK9 _ ?_
              exact (hs.below hB8).next 8 _ (by decide) (by decide)
            · clear hp
              go_simp
              with_reducible refine hK9 _ _ ?_
              exact hs.put
            · obtain ⟨g8, hx8, hr8⟩ := hs.z9 (allL_mem hp 9 (by decide +kernel)) hl
              have ho := hs.z10 hl
              have src : ∀ (q : Nat) u, [Value.int .u64 (p1 : Nat), .string N][q]? = some u → w9.cell? ((⟨g8, 0, none⟩ : Addr).add q) = some u := fun q u hu => by
                rw [Addr.add_mid, Nat.zero_add, hr8.cell, List.getElem?_toArray]
                exact hu
              clear hp
              rw [hx8] at hK9 ⊢
              refine wp_append_own _ _ _ 58 rfl w.heap.size 62 i0 (.agg #[.int .u64 0, .string ⟨#[]⟩]) 2 24 Tryd.underlying58 hi0 hz0 hz1 hz2 rfl (by decide) _ _ _ rfl ho ⟨g8, 0, none⟩ 1 1 [.int .u64 (p1 : Nat), .string N] rfl rfl src (by intro u hu; simp at hu; rcases hu with rfl | rfl <;> rfl) (by unfold maxLen; omega) (by omega) hs.bel.size ?_
              intro v' w1 hown1 hgrow _
              simp only [Act.put, List.setIfInBounds_toArray, List.set_cons_zero, List.set_cons_succ]
              with_reducible refine hK9 _ _ ?_
              exact hs.app hown1 hgrow hl
          intro L x w9 hS hL
          have hs : RpS w rb eb w.heap.size k mm v es.length xs N V p1 L x w9 := hS
          have hown := hs.z11 (hL 10 (by decide))
          simp only [actMix, pickV, List.tail_cons, List.headD_cons, Act.put, List.setIfInBounds_toArray, List.set_cons_zero, List.set_cons_succ, List.replicate_succ, List.replicate_zero, List.drop_succ_cons, List.drop_zero, List.take_succ_cons, List.take_zero]
          generalize x 9 = xa
          generalize x 10 = v' at *
          have r0 : w9.cell? ⟨rb, 0, none⟩ = some v := by rw [hs.row.cell]; rfl
          have f0 : w9.frozen? ⟨rb, 0, none⟩ = false := hs.row.free 0
          have HR2 : Hid (Row (w9.setCell ⟨rb, 0, none⟩ v') rb 60 #[v', .int .i64 (es.length : Nat)]) := hs.row.put 0 v'
          have HK2 := Lib.hid (hs.key.far (p := ⟨rb, 0, none⟩) (hs.key.ne hs.row (by decide)) v')
          have HX2 := Lib.hid (hs.box.far (p := ⟨rb, 0, none⟩) (hs.box.ne hs.row (by decide)) v')
          have HO2 : Hid ((w9.setCell ⟨rb, 0, none⟩ v').ownsRow w.heap.size 62 2 v' (mm + 1) (xs ++ [.int .u64 (p1 : Nat), .string N])) := own_farR hown (own_ne (own_zeroR hown) hs.row (by decide)) v'
          have HB2 := Lib.hid (hs.bel.setCell (p := ⟨rb, 0, none⟩) HKBL.out v')
          obtain ⟨g', cap', hv'⟩ := ownsRow_succ hown
          clear hS hs hL hown HR HK HX HO HB
          rw [hv'] at HR2 HK2 HX2 HO2 HB2 ⊢
          clear hv'
          go_wp2_with fail
          go_roundw
          case rel =>
            refine ⟨i + 1, _, hlt2, by go_num, HR2, HK2, HX2, ?_, HB2⟩
            show World.ownsRow _ _ _ _ _ _ _
            rw [HVE.out, HMM.out, List.length_append, cellsP_append, HMX.out.1, HMX.out.2]
            exact HO2.out
          case measure => simp [intOf]; omega
        · obtain rfl : i = cn := by omega
          have hne : ¬ (i : Int) < i := by omega
          have HN9 : Hid (wr.ownsRow w.heap.size 62 2 v (ptsL k p G (es.take (j + 1))).length (cellsP (ptsL k p G (es.take (j + 1))))) := by
            have := HO.out
            rw [List.take_of_length_le (by rw [HEL.out]; exact Nat.le_refl _)] at this
            show World.ownsRow _ _ _ _ _ _ _
            rw [HST.out]; exact this
          go_wp2_with fail
          go_roundw
          case rel => exact ⟨j + 1, v, hlt, by go_num, HR, HK, HN9, HB⟩
          case measure => simp [intOf]; omega
    · obtain rfl : j = es.length := by omega
      have hne : ¬ (es.length : Int) < es.length := by omega
      have ho := HO.out
      rw [List.take_length] at ho
      have HLE : Hid ((ptsL k p G es).length ≤ 2000) := by
        have h1 := ptsL_le (k := k) (p := p) (G := G) (es := es) (fun e he => by
          have h2 := HRG.out e he
          have h3 := HGG.out e he
          have := cnt_le (p := p) (W := e.2.toNat) (G := G) hp1.1 (by omega)
          omega)
        show _ ≤ _
        omega
      have r0 : wr.cell? ⟨rb, 0, none⟩ = some v := by rw [HR.out.cell]; rfl
      have HR1 : Hid (wr.cell? ⟨rb, 1, none⟩ = some (.int .i64 (es.length : Nat))) := by show _ = _; rw [HR.out.cell]; rfl
      by_cases h0 : (ptsL k p G es).length = 0
      · obtain ⟨a9, c9, hv9⟩ := own_slice ho
        subst hv9
        rw [h0] at r0
        have HR0 := Lib.hid r0
        have HSN := Lib.hid (fun f W => sort52_none a9 c9 f W)
        have HPE : Hid (ptsL k p G es = []) := List.eq_nil_of_length_eq_zero h0
        clear ho h0
        go_wp2_with (go_at_call 23; refine (HSN.out _ _).mono ?_; rintro e w9 ⟨rfl, rfl⟩)
        go_ret2
        refine ⟨rb, rfl, ⟨HR.out.lt, a9, c9, ?_, HR1.out, .inl ?_⟩, HB.out⟩
        · rw [HPE.out, srtP_nil]; exact HR0.out
        · rw [HPE.out, srtP_nil]
      · obtain ⟨n9, hn9⟩ : ∃ n9, (ptsL k p G es).length = n9 + 1 := ⟨(ptsL k p G es).length - 1, by omega⟩
        have ho2 := ho
        rw [hn9] at ho2
        obtain ⟨g, cap, hg⟩ := ownsRow_succ ho2
        rw [← hn9] at hg
        subst hg
        have HSO := Lib.hid (sort52 w.heap.size g cap (ptsL k p G es) (by have := HLE.out; omega) wr ho)
        have HGB : Hid (w.heap.size ≤ g) := (ho.lt g rfl).1
        have HGN : Hid (rb ≠ g) := fun e => own_ne (own_zeroR ho) HR.out (by decide) (by rw [e]; rfl)
        have hln : (srtP (ptsL k p G es)).length = (ptsL k p G es).length := (srtP_perm _).length_eq
        have HLN := Lib.hid hln
        have HR0 := Lib.hid r0
        clear ho ho2 hn9 h0 hln
        go_wp2_with (go_at_call 23; refine HSO.out.mono ?_; rintro e w9 ⟨rfl, hp9, hk9⟩; have HP9 := Lib.hid hp9; have HK9 := Lib.hid hk9; clear hp9 hk9)
        go_ret2
        refine ⟨rb, rfl, ⟨Nat.lt_of_lt_of_le HR.out.lt HK9.out.size, some ⟨g, 0, none⟩, cap, ?_, ?_, HP9.out⟩, HB.out.trans (HK9.out.bel (fun y hy => by rw [hy]; exact HGB.out) HB.out.size)⟩
        · rw [keep_cell HK9.out HR.out.lt (fun e => HGN.out e), HLN.out]; exact HR0.out
        · rw [keep_cell HK9.out HR.out.lt (fun e => HGN.out e)]; exact HR1.out
end Go.Proofs.YtklfpnnnoaaiaaaDoor

