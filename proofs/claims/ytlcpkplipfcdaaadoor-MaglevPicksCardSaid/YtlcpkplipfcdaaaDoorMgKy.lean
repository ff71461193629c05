/- A key whose bytes are taken as a string; a call of Build whose arguments are evaluated in any order. -/
import Derived.Test.YtlcpkplipfcdaaaDoorMgY
import Derived.Test.YtlcpkplipfcdaaaDoorMgBd
namespace Go.Proofs.YtlcpkplipfcdaaaDoor
open Go.RowKit

/-- A key's cells. -/
def keyCells (k : Nat → UInt8) : List Value := [.int .u8 ((k 0).toNat : Int), .int .u8 ((k 1).toNat : Int), .int .u8 ((k 2).toNat : Int), .int .u8 ((k 3).toNat : Int), .int .u8 ((k 4).toNat : Int), .int .u8 ((k 5).toNat : Int), .int .u8 ((k 6).toNat : Int), .int .u8 ((k 7).toNat : Int), .int .u8 ((k 8).toNat : Int), .int .u8 ((k 9).toNat : Int), .int .u8 ((k 10).toNat : Int), .int .u8 ((k 11).toNat : Int), .int .u8 ((k 12).toNat : Int), .int .u8 ((k 13).toNat : Int), .int .u8 ((k 14).toNat : Int), .int .u8 ((k 15).toNat : Int)]
/-- A key's bytes as a string. -/
def keyStr (k : Nat → UInt8) : ByteArray := ⟨(keyPart k 0 ++ keyPart k 8).toArray⟩
theorem keyStr_size (k : Nat → UInt8) : (16 : Int) ≤ (keyStr k).size := by simp [keyStr, keyPart, ByteArray.size]
theorem keyStr_a (k : Nat → UInt8) : (keyStr k).extract 0 8 = ⟨(keyPart k 0).toArray⟩ := by unfold keyStr; rw [extract_list]; rfl
theorem keyStr_b (k : Nat → UInt8) : (keyStr k).extract 8 16 = ⟨(keyPart k 8).toArray⟩ := by unfold keyStr; rw [extract_list]; rfl
theorem key_all {k : Nat → UInt8} {W : World} {b : Nat} (h : IsKey W b k) :
    (convert 38 9 (.slice (some ⟨b, 0, none⟩) 16 16)).run Tryd.prog W = .ok (.string (keyStr k)) W := by
  have := run_convert_bytes_arg (P := Tryd.prog) W 38 5 Tryd.underlying38 Tryd.underlying5 b 0 16 16 ((keyPart k 0 ++ keyPart k 8).map fun x => (x.toNat : Int)) (by simp [keyPart]) ?_ 9 Tryd.underlying9
  · rw [this]
    simp [strOfNums, keyPart, keyStr]
  · intro i hi
    have h1 := h i hi
    rw [Nat.zero_add, h1]
    have h16 : i = 0 ∨ i = 1 ∨ i = 2 ∨ i = 3 ∨ i = 4 ∨ i = 5 ∨ i = 6 ∨ i = 7 ∨ i = 8 ∨ i = 9 ∨ i = 10 ∨ i = 11 ∨ i = 12 ∨ i = 13 ∨ i = 14 ∨ i = 15 := by omega
    rcases h16 with rfl | rfl | rfl | rfl | rfl | rfl | rfl | rfl | rfl | rfl | rfl | rfl | rfl | rfl | rfl | rfl <;> rfl
/-- A key in a block of its own. -/
def KeyRow (w : World) (b : Nat) (k : Nat → UInt8) : Prop := Row w b 26 (keyCells k).toArray
theorem KeyRow.isKey {w : World} {b : Nat} {k : Nat → UInt8} (h : KeyRow w b k) : IsKey w b k := isKey_row h
theorem KeyRow.below {w w' : World} {b : Nat} {k : Nat → UInt8} (h : KeyRow w b k) (hb : Below w.heap.size w w') : KeyRow w' b k := Row.below h hb
theorem keyVal_cells (k : Nat → UInt8) : keyVal k = .agg (keyCells k).toArray := rfl
/-- What is there while a call of Build is evaluated: operation 2: the entries are the program's; b: Build's result; b + 1: moved; b + 2: its first part; b + 4: assigned. -/
structure KoS (W : World) (ys : List Ent) (b : Nat) (E : Int) (R : Value → World → Prop) (L : Nat → Bool) (x : Nat → Value) (w : World) : Prop where
  bel : Below W.heap.size W w
  own : L 2 = true → ∃ a c, x 2 = .slice a ys.length c ∧ IsEnts w a c ys
  tup : L b = true → ∃ p, x b = .tuple #[p, .int .i64 E] ∧ R p w
  mv : L (b + 1) = true → ∃ p, x (b + 1) = .tuple #[p, .int .i64 E] ∧ R p w
  ex : L (b + 2) = true → R (x (b + 2)) w
  asg : L (b + 4) = true → R (x (b + 4)) w
section
variable {W : World} {ys : List Ent} {b : Nat} {E : Int} {R : Value → World → Prop} {L : Nat → Bool} {x : Nat → Value} {w w' : World}
theorem KoS.start (W : World) (ys : List Ent) (b : Nat) (E : Int) (R : Value → World → Prop) (x : Nat → Value) : KoS W ys b E R (fun _ => false) x W.drew :=
  ⟨(Below.refl _ _).drew, (fun h => by cases h), (fun h => by cases h), (fun h => by cases h), (fun h => by cases h), (fun h => by cases h)⟩
theorem KoS.move (h : KoS W ys b E R L x w) (hR : ∀ p w w', R p w → Below w.heap.size w w' → R p w') (hb : Below w.heap.size w w') : KoS W ys b E R L x w' :=
  ⟨h.bel.trans (hb.mono h.bel.size), fun e => by obtain ⟨a, c, h1, h2⟩ := h.own e; exact ⟨a, c, h1, h2.below hb⟩, fun e => by obtain ⟨p, h1, h2⟩ := h.tup e; exact ⟨p, h1, hR _ _ _ h2 hb⟩,
   fun e => by obtain ⟨p, h1, h2⟩ := h.mv e; exact ⟨p, h1, hR _ _ _ h2 hb⟩, fun e => hR _ _ _ (h.ex e) hb, fun e => hR _ _ _ (h.asg e) hb⟩
theorem KoS.at_ (h : KoS W ys b E R L x w) (i : Nat) (u : Value) (h2 : i = 2 → ∃ a c, u = .slice a ys.length c ∧ IsEnts w a c ys) (h3 : i = b → ∃ p, u = .tuple #[p, .int .i64 E] ∧ R p w)
    (h4 : i = b + 1 → ∃ p, u = .tuple #[p, .int .i64 E] ∧ R p w) (h5 : i = b + 2 → R u w) (h6 : i = b + 4 → R u w) : KoS W ys b E R (setL L i) (updV x i u) w := by
  have hs : ∀ j, j ≠ i → setL L i j = true → L j = true := fun j hj e => by simpa [setL, hj] using e
  have hu : ∀ j, j ≠ i → updV x i u j = x j := fun j hj => by simp [updV, hj]
  have hi : updV x i u i = u := by simp [updV]
  refine ⟨h.bel, fun e => ?_, fun e => ?_, fun e => ?_, fun e => ?_, fun e => ?_⟩
  · by_cases q : 2 = i
    · subst q; rw [hi]; exact h2 rfl
    · rw [hu _ q]; exact h.own (hs _ q e)
  · by_cases q : b = i
    · subst q; rw [hi]; exact h3 rfl
    · rw [hu _ q]; exact h.tup (hs _ q e)
  · by_cases q : b + 1 = i
    · subst q; rw [hi]; exact h4 rfl
    · rw [hu _ q]; exact h.mv (hs _ q e)
  · by_cases q : b + 2 = i
    · subst q; rw [hi]; exact h5 rfl
    · rw [hu _ q]; exact h.ex (hs _ q e)
  · by_cases q : b + 4 = i
    · subst q; rw [hi]; exact h6 rfl
    · rw [hu _ q]; exact h.asg (hs _ q e)
theorem KoS.next (h : KoS W ys b E R L x w) (i : Nat) (u : Value) (h2 : i ≠ 2) (h3 : i ≠ b) (h4 : i ≠ b + 1) (h5 : i ≠ b + 2) (h6 : i ≠ b + 4) : KoS W ys b E R (setL L i) (updV x i u) w :=
  h.at_ i u (fun e => absurd e h2) (fun e => absurd e h3) (fun e => absurd e h4) (fun e => absurd e h5) (fun e => absurd e h6)
theorem KoS.put (h : KoS W ys b E R L x w) (hR : ∀ p w w', R p w → Below w.heap.size w w' → R p w') (hb2 : 2 < b) {a : Option Addr} {c : Nat} (he : IsEnts w' a c ys) (hb : Below w.heap.size w w') : KoS W ys b E R (setL L 2) (updV x 2 (.slice a ys.length c)) w' :=
  (h.move hR hb).at_ 2 _ (fun _ => ⟨a, c, rfl, he⟩) (fun e => by omega) (fun e => by omega) (fun e => by omega) (fun e => by omega)
theorem KoS.built (h : KoS W ys b E R L x w) (hR : ∀ p w w', R p w → Below w.heap.size w w' → R p w') (hb2 : 2 < b) {p : Value} (hp : R p w') (hb : Below w.heap.size w w') : KoS W ys b E R (setL L b) (updV x b (.tuple #[p, .int .i64 E])) w' :=
  (h.move hR hb).at_ b _ (fun e => by omega) (fun _ => ⟨p, rfl, hp⟩) (fun e => by omega) (fun e => by omega) (fun e => by omega)
theorem KoS.moved (h : KoS W ys b E R L x w) (hb2 : 2 < b) {p : Value} (hp : R p w) : KoS W ys b E R (setL L (b + 1)) (updV x (b + 1) (.tuple #[p, .int .i64 E])) w :=
  h.at_ (b + 1) _ (fun e => by omega) (fun e => by omega) (fun _ => ⟨p, rfl, hp⟩) (fun e => by omega) (fun e => by omega)
theorem KoS.first (h : KoS W ys b E R L x w) (hb2 : 2 < b) {p : Value} (hp : R p w) : KoS W ys b E R (setL L (b + 2)) (updV x (b + 2) p) w :=
  h.at_ (b + 2) _ (fun e => by omega) (fun e => by omega) (fun e => by omega) (fun _ => hp) (fun e => by omega)
theorem KoS.assign (h : KoS W ys b E R L x w) (hb2 : 2 < b) {p : Value} (hp : R p w) : KoS W ys b E R (setL L (b + 4)) (updV x (b + 4) p) w :=
  h.at_ (b + 4) _ (fun e => by omega) (fun e => by omega) (fun e => by omega) (fun e => by omega) (fun _ => hp)
end
/-- A table was built. -/
def TabR (k : Nat → UInt8) (ys : List Ent) (n : Nat) (p : Value) (w : World) : Prop :=
  ∃ tb own, p = .pointer (some ⟨tb, 0, none⟩) ∧ Assigned k (srtE ys) n own ∧ TableAt w tb ((srtE ys).map (·.1)) n own
theorem TabR.below {k : Nat → UInt8} {ys : List Ent} {n : Nat} (p : Value) (w w' : World) (h : TabR k ys n p w) (hb : Below w.heap.size w w') : TabR k ys n p w' := by
  obtain ⟨tb, own, h1, h2, h3⟩ := h
  exact ⟨tb, own, h1, h2, h3.below hb⟩
/-- No table. -/
def NilR (p : Value) (_ : World) : Prop := p = .pointer none
theorem NilR.below (p : Value) (w w' : World) (h : NilR p w) (_ : Below w.heap.size w w') : NilR p w' := h
theorem chkB_yes {ys : List Ent} {m : Int} (h : chkB ys m = true) : 2 ≤ m ∧ m ≤ 1048576 ∧ primeB m.toNat = true ∧ 100 * (ys.length : Int) ≤ m ∧ validB ys = true := by
  unfold chkB at h
  rw [Bool.and_eq_true, Bool.and_eq_true, decide_eq_true_eq] at h
  obtain ⟨⟨h1, h2⟩, h3⟩ := h
  have hp := h1
  unfold isP at hp
  rw [Bool.and_eq_true, Bool.and_eq_true, decide_eq_true_eq, decide_eq_true_eq] at hp
  exact ⟨hp.1.1, hp.1.2, hp.2, h2, h3⟩
theorem valid_parts {ys : List Ent} (h : validB ys = true) : (∀ e ∈ ys, okW e = true) ∧ Apart ys := by
  unfold validB at h
  rw [Bool.and_eq_true] at h
  exact ⟨fun e he => (List.all_eq_true.1 h.1) e he, by simpa using h.2⟩
/-- Build of valid entries. -/
theorem build8_tab (k : Nat → UInt8) (ys : List Ent) (hl : ys.length ≤ 6) (hz : ∀ e ∈ ys, e.1.size ≤ 1000) (n : Nat) (hm : n ≤ 1048576) (hp : primeB n = true) (h100 : 100 * ys.length ≤ n) (hv : validB ys = true) (a : Option Addr) (c : Nat) (w : World) (hI : Ini w) (hf : IsEnts w a c ys) :
    Calls Tryd.prog 12 #[keyVal k, .slice a ys.length c, .int .i64 (n : Int)] w fun e w' => ∃ p, e = .returned (.tuple #[p, .int .i64 0]) ∧ TabR k ys n p w' ∧ Below w.heap.size w w' := by
  refine (build8 k ys hl hz n hm hp h100 hv a c w hI hf).mono ?_
  rintro e w' ⟨tb, own, es', rfl, hpm, hso, ha, ht, hb⟩
  obtain rfl : es' = srtE ys := sorted_uniq (hpm.trans (srtE_spec ys).1.symm) hso (srtE_spec ys).2 ((apart_perm hpm).2 (valid_parts hv).2)
  exact ⟨_, rfl, ⟨tb, own, rfl, ha, ht⟩, hb⟩
end Go.Proofs.YtlcpkplipfcdaaaDoor
