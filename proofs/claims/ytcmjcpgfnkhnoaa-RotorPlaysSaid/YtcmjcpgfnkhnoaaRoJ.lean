/- The memory of the rotor's laws. -/
import Derived.Test.YtcmjcpgfnkhnoaaRoI
namespace Go.Proofs.Ytcmjcpgfnkhnoaa
open Go.RowKit Go.Maps

/-- The weights under a mask. -/
def mskW (m : Nat) (e : Ent) : Ent := (e.1, 1 + bits .and .i64 e.2 (m : Int))
/-- The first j of them so. -/
def mskE (m : Nat) (es : List Ent) (j : Nat) : List Ent := (es.take j).map (mskW m) ++ es.drop j
theorem mskE_zero (m : Nat) (es : List Ent) : mskE m es 0 = es := by simp [mskE]
theorem mskE_all (m : Nat) (es : List Ent) : mskE m es es.length = es.map (mskW m) := by simp [mskE]
theorem mskE_len (m : Nat) (es : List Ent) (j : Nat) : (mskE m es j).length = es.length := by simp [mskE]; omega
theorem mskE_at (m : Nat) {es : List Ent} {j : Nat} (hj : j < es.length) : (mskE m es j)[j]? = some es[j] := by
  unfold mskE
  rw [List.getElem?_append_right (by simp; omega)]
  simp only [List.length_map, List.length_take, Nat.min_eq_left (Nat.le_of_lt hj), Nat.sub_self]
  simp [hj]
theorem cellsE_set {a b : List Ent} {N : ByteArray} {V : Int} (X : Int) : (cellsE (a ++ (N, V) :: b)).set (a.length * 2 + 1) (.int .i64 X) = cellsE (a ++ (N, X) :: b) := by
  rw [cellsE_append, cellsE_append, List.set_append_right _ _ (by rw [cellsE_length]; omega), cellsE_length, Nat.add_sub_cancel_left]
  rfl
theorem mskE_set (m : Nat) {es : List Ent} {j : Nat} (hj : j < es.length) : (cellsE (mskE m es j)).set (j * 2 + 1) (.int .i64 (1 + bits .and .i64 es[j].2 (m : Int))) = cellsE (mskE m es (j + 1)) := by
  have h1 : mskE m es j = (es.take j).map (mskW m) ++ (es[j].1, es[j].2) :: es.drop (j + 1) := by
    unfold mskE
    rw [List.drop_eq_getElem_cons hj]
  have h2 : mskE m es (j + 1) = (es.take j).map (mskW m) ++ (es[j].1, 1 + bits .and .i64 es[j].2 (m : Int)) :: es.drop (j + 1) := by
    unfold mskE
    rw [List.take_add_one, List.getElem?_eq_getElem hj, Option.toList_some, List.map_append, List.append_assoc]
    rfl
  have h3 := cellsE_set (a := (es.take j).map (mskW m)) (b := es.drop (j + 1)) (N := es[j].1) (V := es[j].2) (1 + bits .and .i64 es[j].2 (m : Int))
  rw [← h1, ← h2] at h3
  rw [show ((es.take j).map (mskW m)).length = j by simp; omega] at h3
  exact h3
/-- The masked entries. -/
def mskL (m : Nat) (es : List Ent) : List Ent := es.map (mskW m)
theorem mskL_weights (m : Nat) (hm : m ≤ 1000) (es : List Ent) : ∀ e ∈ mskL m es, 1 ≤ e.2 ∧ e.2 ≤ 65535 := by
  intro e he
  obtain ⟨x, _, rfl⟩ := List.mem_map.1 he
  have := and_small x.2 m (by omega)
  simp only [mskW]; omega
theorem mskL_apart (m : Nat) {es : List Ent} (h : Apart es) : Apart (mskL m es) := h.map (fun e => 1 + bits .and .i64 e.2 (m : Int))
theorem mskL_step (m : Nat) {es : List Ent} {j : Nat} (hj : j < es.length) : sumW ((mskL m es).take (j + 1)) = sumW ((mskL m es).take j) + (1 + bits .and .i64 es[j].2 (m : Int)) := by
  rw [sumW_step (by unfold mskL; simpa using hj)]
  simp [mskL, mskW]

/-- What a rotor's law holds: the entries at xa, the rotor rb with marks f, the counts c at nb. -/
structure MemS (B rb nb : Nat) (E : List Ent) (xa : Option Addr) (xc : Nat) (v : Option Nat) (n : Nat) (f c : ByteArray → Int) (wr : World) : Prop where
  rot : Rot wr rb v n f
  cm : MapI wr nb n c
  ne : ¬ RG rb v nb
  ents : IsEnts wr xa xc E
  xne : ∀ p, xa = some p → ¬ RG rb v p.block ∧ p.block ≠ nb
  ge : ∀ k, RG rb v k → B ≤ k
  nge : B ≤ nb
section
variable {B rb nb : Nat} {E : List Ent} {xa : Option Addr} {xc : Nat} {v : Option Nat} {n : Nat} {f c : ByteArray → Int} {wr : World}
theorem MemS.below (h : MemS B rb nb E xa xc v n f c wr) {w1 : World} (hb : Below wr.heap.size wr w1) : MemS B rb nb E xa xc v n f c w1 :=
  ⟨h.rot.below hb, h.cm.same (hb.block nb h.cm.lt), h.ne, h.ents.below hb, h.xne, h.ge, h.nge⟩
theorem ents_lt (h : IsEnts wr xa xc E) {p : Addr} (hp : xa = some p) (hE : E ≠ []) : p.block < wr.heap.size := by
  rcases h with h | ⟨bk, o, ha, hlt, _⟩
  · exact absurd h hE
  · rw [ha] at hp; injection hp with hp; rw [← hp]; exact hlt
theorem MemS.pick (h : MemS B rb nb E xa xc v n f c wr) (hE : E ≠ []) (hB : B ≤ wr.heap.size) {m : Nat} (hm : n ≤ m) {f2 : ByteArray → Int} {w1 : World} (hp : PickPost rb v m f2 wr w1) :
    ∃ v2, MemS B rb nb E xa xc v2 m f2 c w1 ∧ Below B wr w1 := by
  obtain ⟨v2, r2, k2, f2⟩ := hp
  have hnl := h.cm.lt
  have hrg : ∀ k, RG rb v2 k → k < wr.heap.size → RG rb v k := by
    rintro k (hk | hk) hlt
    · exact .inl hk
    · rcases f2 with h1 | ⟨b, h1, h2⟩
      · rw [h1] at hk; exact .inr hk
      · rw [h1] at hk; injection hk with hk; omega
  refine ⟨v2, ⟨r2, (h.cm.keep k2 h.ne).mono hm, fun hk => h.ne (hrg nb hk hnl), h.ents.keep k2 (fun p hp => (h.xne p hp).1), fun p hp => ⟨fun hk => (h.xne p hp).1 (hrg _ hk (ents_lt h.ents hp hE)), (h.xne p hp).2⟩, fun k hk => ?_, h.nge⟩, k2.bel h.ge hB⟩
  by_cases hlt : k < wr.heap.size
  · exact h.ge k (hrg k hk hlt)
  · omega
theorem MemS.count (h : MemS B rb nb E xa xc v n f c wr) (hB : B ≤ wr.heap.size) {c2 : ByteArray → Int} {w1 : World} (hm : MapI w1 nb (n + 1) c2) (hg : wr.grownBy w1 (some nb)) : MemS B rb nb E xa xc v (n + 1) f c2 w1 ∧ Below B wr w1 := by
  have hk : Keep (fun k => k = nb) wr w1 := .grown hg (fun k hk => by injection hk with hk; exact hk.symm)
  refine ⟨⟨(h.rot.keep hk (fun k hk e => h.ne (e ▸ hk))).mono (by omega), hm, h.ne, h.ents.keep hk (fun p hp => (h.xne p hp).2), h.xne, h.ge, h.nge⟩, hk.bel (fun k hk => by rw [hk]; exact h.nge) hB⟩
end
theorem Share.cle {E : List Ent} {t : Int} {f c : ByteArray → Int} (h : Share E t f c) {e : Ent} (he : e ∈ E) : c e.1 ≤ t := by
  have hl : ∀ L : List Ent, (∀ x ∈ L, 0 ≤ c x.1) → e ∈ L → c e.1 ≤ (L.map fun x => c x.1).sum := by
    intro L
    induction L with
    | nil => intro _ h; cases h
    | cons x L ih =>
      intro h1 h2
      have h3 := sum_ge0 (fun x => c x.1) L (fun y hy => h1 y (by simp [hy]))
      have h4 := h1 x (by simp)
      simp only [List.map_cons, List.sum_cons]
      rcases List.mem_cons.1 h2 with rfl | h2
      · omega
      · have := ih (fun y hy => h1 y (by simp [hy])) h2
        omega
  rw [← h.sum]
  exact hl E h.pos he
end Go.Proofs.Ytcmjcpgfnkhnoaa
