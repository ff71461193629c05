/- BLAKE2s, the program's own: bytesOf. -/
import Derived.Test.YtllmlngfmcbaaaaGreatDoorBMixAll
import Derived.Test.YtllmlngfmcbaaaaGreatDoorRes
namespace Go.Proofs.YtllmlngfmcbaaaaGreatDoor
open Go.RowKit

/-- The first n cells of a block are these bytes, and may be written. -/
def Bytes (n : Nat) (w : World) (b : Nat) (f : Nat → Int) : Prop := ∀ i, i < n → w.cell? ⟨b, i, none⟩ = some (.int .u8 (f i)) ∧ w.frozen? ⟨b, i, none⟩ = false
theorem Bytes.put {n : Nat} {w : World} {b : Nat} {f : Nat → Int} (h : Bytes n w b f) (i : Nat) (x : Int) : Bytes n (w.setCell ⟨b, i, none⟩ (.int .u8 x)) b (upd f i x) := by
  intro j hj
  obtain ⟨hc, hf⟩ := h j hj
  refine ⟨?_, by rw [World.frozen?_setCell]; exact hf⟩
  unfold upd
  by_cases e : j = i
  · subst e
    rw [World.cell?_setCell_same _ _ _ hc, if_pos rfl]
  · rw [World.cell?_setCell_other _ _ _ _ (by simp <;> omega), hc, if_neg e]
theorem Bytes.congr {n : Nat} {w : World} {b : Nat} {f g : Nat → Int} (h : Bytes n w b f) (he : ∀ i, i < n → f i = g i) : Bytes n w b g := fun i hi => by
  rw [← he i hi]; exact h i hi
theorem Bytes.only {n : Nat} {w w' : World} {b bk : Nat} {f : Nat → Int} (h : Bytes n w b f) (ho : Only bk w w') (hne : b ≠ bk) : Bytes n w' b f := fun i hi => by
  have hb := ho.block b hne
  exact ⟨(World.cell?_of_block (w := w) hb).trans (h i hi).1, (World.frozen?_of_block (w := w) hb).trans (h i hi).2⟩
theorem Bytes.below {n : Nat} {w w' : World} {b : Nat} {f : Nat → Int} (h : Bytes n w b f) (hb : Below w.heap.size w w') (hlt : b < w.heap.size) : Bytes n w' b f := fun i hi => by
  obtain ⟨hc, hf⟩ := bcell hb
  exact ⟨(hc _ _ hlt).trans (h i hi).1, (hf _ _ hlt).trans (h i hi).2⟩
/-- A block of n zero bytes, just made. -/
theorem bytes_zero (w : World) (n : Nat) (T : TypeId) : Bytes n (w.alloc (.cells (Array.replicate n (Value.int .u8 0)) T)) w.heap.size (fun _ => 0) := by
  intro i hi
  simp [hi, go_sem]
theorem words_new8 (w : World) (f : Nat → Int) (T : TypeId) : Words 8 (w.alloc (.cells #[.int .u32 (f 0), .int .u32 (f 1), .int .u32 (f 2), .int .u32 (f 3), .int .u32 (f 4), .int .u32 (f 5), .int .u32 (f 6), .int .u32 (f 7)] T)) w.heap.size f := by
  intro i hi
  have h8 : i = 0 ∨ i = 1 ∨ i = 2 ∨ i = 3 ∨ i = 4 ∨ i = 5 ∨ i = 6 ∨ i = 7 := by omega
  rcases h8 with rfl | rfl | rfl | rfl | rfl | rfl | rfl | rfl <;> simp
/-- The cells of n bytes. -/
def bytesCells (n : Nat) (f : Nat → Int) : List Value := (List.range n).map fun i => .int .u8 (f i)
theorem bytesCells_length (n : Nat) (f : Nat → Int) : (bytesCells n f).length = n := by simp [bytesCells]
theorem bytesCells_range {n : Nat} {w : World} {b : Nat} {f : Nat → Int} (h : Bytes n w b f) : w.rangeAt b 0 (bytesCells n f) := by
  intro j v hv
  simp only [bytesCells, List.getElem?_map, Option.map_eq_some_iff] at hv
  obtain ⟨i, hi, rfl⟩ := hv
  obtain ⟨h1, h2⟩ := List.getElem?_eq_some_iff.1 hi
  simp at h1 h2
  subst h2
  rw [Nat.zero_add]
  exact (h j h1).1
theorem bytes_there {n : Nat} {w : World} {b : Nat} {f : Nat → Int} (h : Bytes n w b f) : w.there b 0 n := fun j hj => by
  rw [Nat.zero_add, (h j hj).1]
  exact ⟨rfl, (h j hj).2⟩
theorem only_setCells (b : Nat) : ∀ (vs : List Value) (o : Nat) (w : World), Only b w (w.setCells b o vs)
  | [], _, w => Only.refl b w
  | v :: r, o, w => by
    have h1 := (Only.refl b w).put o v
    have h2 := only_setCells b r (o + 1) (w.setCell ⟨b, o, none⟩ v)
    exact ⟨h2.os.trans h1.os, h2.tape.trans h1.tape, h2.output.trans h1.output, h2.size.trans h1.size, fun k hk => (h2.block k hk).trans (h1.block k hk)⟩
theorem range_setCells {w : World} {b : Nat} (vs : List Value) (h : w.there b 0 vs.length) : (w.setCells b 0 vs).rangeAt b 0 vs := by
  intro j v hv
  obtain ⟨h1, rfl⟩ := List.getElem?_eq_some_iff.1 hv
  exact World.cell?_setCells_in b vs 0 w (fun i hi => (h i hi).1) j h1
/-- A byte of the words. -/
def byteOf (f : Nat → Int) (i : Nat) : Int := f (i / 4) / 2 ^ (8 * (i % 4)) % 256

set_option maxHeartbeats 1000000 in
theorem bytes37 (f : Nat → Int) (w : World) :
    Calls Tryz.prog 69 #[.agg #[.int .u32 (f 0), .int .u32 (f 1), .int .u32 (f 2), .int .u32 (f 3), .int .u32 (f 4), .int .u32 (f 5), .int .u32 (f 6), .int .u32 (f 7)]] w fun e w' => e = .returned (.agg (bytesCells 32 (byteOf f)).toArray) ∧ Below w.heap.size w w' := by
  go_enter Tryz.func69, Tryz.ntmps69
  go_wp2_with fail
  generalize hW : World.alloc (World.alloc (World.alloc w _) _) _ = w0
  have z1 : ∀ o, (w.alloc o).heap.size = w.heap.size + 1 := fun o => by simp
  have z2 : ∀ o p, ((w.alloc o).alloc p).heap.size = w.heap.size + 1 + 1 := fun o p => by simp
  have qH : Words 8 w0 w.heap.size f := by
    subst hW
    exact ((words_new8 w f _).below (below_alloc _ _) (by rw [z1]; omega)).below (below_alloc _ _) (by rw [z2]; omega)
  have qR : Bytes 32 w0 (w.heap.size + 1) (fun _ => 0) := by
    subst hW
    refine Bytes.below ?_ (below_alloc _ _) (by rw [z2]; omega)
    have := bytes_zero (w.alloc (.cells #[.int .u32 (f 0), .int .u32 (f 1), .int .u32 (f 2), .int .u32 (f 3), .int .u32 (f 4), .int .u32 (f 5), .int .u32 (f 6), .int .u32 (f 7)] 89)) 32 60
    rw [z1] at this
    exact this
  have qO : Bytes 32 w0 (w.heap.size + 1 + 1) (fun _ => 0) := by
    subst hW
    have := bytes_zero ((w.alloc (.cells #[.int .u32 (f 0), .int .u32 (f 1), .int .u32 (f 2), .int .u32 (f 3), .int .u32 (f 4), .int .u32 (f 5), .int .u32 (f 6), .int .u32 (f 7)] 89)).alloc (.cells (Array.replicate 32 (Value.int .u8 0)) 60)) 32 60
    rw [z2] at this
    exact this
  have L0 : Below w.heap.size w w0 := by subst hW; exact (((Below.refl _ _).alloc (Nat.le_refl _) _).alloc (by simp) _).alloc (by simp; omega) _
  have H0 := Lib.hid qH
  have O0 := Lib.hid qO
  have R0 := Lib.hid qR
  clear hW qH qO qR z1 z2
  generalize (Value.agg #[.int .u32 (f 0), .int .u32 (f 1), .int .u32 (f 2), .int .u32 (f 3), .int .u32 (f 4), .int .u32 (f 5), .int .u32 (f 6), .int .u32 (f 7)]) = vh
  go_loopw [4, 5] (fun _ i wr => ∃ j : Nat, j ≤ 32 ∧ i = .int .i64 (j : Int) ∧ Hid (Words 8 wr w.heap.size f) ∧ Hid (Bytes 32 wr (w.heap.size + 1) (fun _ => 0)) ∧ Hid (Bytes 32 wr (w.heap.size + 1 + 1) (fun i => if i < j then byteOf f i else 0)) ∧ Below w.heap.size w wr)
    (fun _ i _ => 32 - (intOf i).toNat)
  case atStart => exact ⟨0, by decide, rfl, H0, R0, O0.out.congr (fun i _ => rfl), L0⟩
  case round =>
    clear H0 O0 R0 L0
    obtain ⟨j, hj, rfl, H, R, O, hb⟩ := hrel
    by_cases hlt : j < 32
    · have cj := (H.out (j / 4) (by omega)).1
      have oj := (O.out j hlt).1
      have zj := (O.out j hlt).2
      go_wp2_with fail
      have hon : Only (w.heap.size + 1 + 1) wr (wr.setCell ⟨w.heap.size + 1 + 1, j, none⟩ (.int .u8 (byteOf f j))) := (Only.refl _ _).put j _
      go_roundw
      case rel =>
        refine ⟨j + 1, hlt, by go_num, H.out.only hon (by omega), R.out.only hon (by omega), ?_, hon.below hb (by omega)⟩
        refine (O.out.put j (byteOf f j)).congr (fun i _ => ?_)
        unfold upd
        by_cases e : i = j
        · subst e; rw [if_pos rfl, if_pos (by omega)]
        · rw [if_neg e]
          show (if i < j then byteOf f i else 0) = _
          by_cases h1 : i < j
          · rw [if_pos h1, if_pos (by omega)]
          · rw [if_neg h1, if_neg (by omega)]
      case measure => simp [intOf]; omega
    · obtain rfl : j = 32 := by omega
      have hO : Bytes 32 wr (w.heap.size + 1 + 1) (byteOf f) := O.out.congr (fun i hi => if_pos hi)
      have hrange := bytesCells_range hO
      have hthere := bytes_there R.out
      have hu38 := Tryz.underlying60
      have hs38 : (Tryz.prog.info? 60).map (·.size) = some 32 := by kernel_rfl
      have hlen := bytesCells_length 32 (byteOf f)
      have hone : (bytesCells 32 (byteOf f)).toArray.all (·.oneCell') = true := by
        rw [Array.all_eq_true_iff_forall_mem]
        intro v hv
        simp [bytesCells] at hv
        obtain ⟨i, _, rfl⟩ := hv
        rfl
      generalize hcs : bytesCells 32 (byteOf f) = cs at *
      have hs1 : (Tryz.prog.info? 60).map (·.size) = some cs.length := by rw [hlen]; exact hs38
      have hsz : cs.toArray.size = 32 := by simp [hlen]
      have hs2 : (Tryz.prog.info? 60).map (·.size) = some cs.toArray.size := by rw [hsz]; exact hs38
      have ht2 : wr.there (w.heap.size + 1) 0 cs.toArray.size := by rw [hsz]; exact hthere
      have ht3 : wr.there (w.heap.size + 1) 0 cs.length := by rw [hlen]; exact hthere
      have HT := Lib.hid ht3
      have HS := Lib.hid hs1
      have HC := Lib.hid hcs
      clear hcs hsz hlen hs38 hO hthere H O R ht3
      go_wp2_with (first
        | (refine wpList_load_row rfl 60 _ rfl _ rfl cs _ hrange hu38 rfl hs1 ?_)
        | (refine wpList_store_row rfl 60 _ _ rfl _ cs.toArray rfl rfl ht2 hs2 hone ?_))
      refine bodyPost_ret (v := .agg cs.toArray) (results_row _ 2 60 rfl _ _ (w.heap.size + 1) _ rfl (run_loadVar_mid _ _ 0 _ cs _ (range_setCells cs HT.out) hu38 rfl HS.out)) rfl ⟨by rw [HC.out], ?_⟩
      exact (only_setCells (w.heap.size + 1) cs 0 wr).below hb (by omega)
end Go.Proofs.YtllmlngfmcbaaaaGreatDoor
