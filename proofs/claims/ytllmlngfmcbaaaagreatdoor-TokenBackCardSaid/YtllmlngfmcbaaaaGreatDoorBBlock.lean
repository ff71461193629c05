/- BLAKE2s, the program's own: blockOf. -/
import Derived.Test.YtllmlngfmcbaaaaGreatDoorBBytes
import Derived.Test.YtllmlngfmcbaaaaGreatDoorBMath
import Derived.Test.YtllmlngfmcbaaaaGreatDoorCopy
import Derived.IntWalk
namespace Go.Proofs.YtllmlngfmcbaaaaGreatDoor
open Go.RowKit Go.Lib

/-- Sixty-four bytes of a list, followed by zeros. -/
def pad64 (l : List UInt8) : List UInt8 := (List.range 64).map fun i => l.getD i 0
/-- The words of a block. -/
def wordsOf (l : List UInt8) (i : Nat) : Int := leW (((pad64 l).drop (4 * i)).take 4)
/-- The same when only the first j bytes have been read. -/
def wordsTo (l : List UInt8) (j i : Nat) : Int := leW (((pad64 l).drop (4 * i)).take (min 4 (j - 4 * i)))
theorem pad64_length (l : List UInt8) : (pad64 l).length = 64 := by simp [pad64]
theorem wordsTo_zero (l : List UInt8) (i : Nat) : wordsTo l 0 i = 0 := by simp [wordsTo, leW]
theorem wordsTo_all (l : List UInt8) (i : Nat) (h : i < 16) : wordsTo l 64 i = wordsOf l i := by
  unfold wordsTo wordsOf
  rw [show min 4 (64 - 4 * i) = 4 by omega]
theorem wordsTo_step (l : List UInt8) (j : Nat) (h : j < 64) :
    bits .or .u32 (wordsTo l j (j / 4)) (byteAt l j * 2 ^ (8 * (j % 4)) % 4294967296) = wordsTo l (j + 1) (j / 4) := by
  unfold wordsTo
  have hp := pad64_length l
  have hlen : (((pad64 l).drop (4 * (j / 4))).take (j % 4)).length = j % 4 := by rw [List.length_take, List.length_drop, hp]; omega
  rw [show min 4 (j - 4 * (j / 4)) = j % 4 by omega, show min 4 (j + 1 - 4 * (j / 4)) = j % 4 + 1 by omega]
  have hget : ((pad64 l).drop (4 * (j / 4)))[j % 4]? = some (l.getD j 0) := by
    rw [List.getElem?_drop, show 4 * (j / 4) + j % 4 = j by omega]
    simp [pad64, h]
  rw [List.take_add_one, hget]
  have := or_step32 (((pad64 l).drop (4 * (j / 4))).take (j % 4)) (l.getD j 0) (by omega)
  rw [hlen] at this
  exact this
theorem wordsTo_other (l : List UInt8) (j i : Nat) (h : i ≠ j / 4) : wordsTo l (j + 1) i = wordsTo l j i := by
  unfold wordsTo
  rcases Nat.lt_or_ge i (j / 4) with h1 | h1
  · rw [show min 4 (j + 1 - 4 * i) = 4 by omega, show min 4 (j - 4 * i) = 4 by omega]
  · rw [show j + 1 - 4 * i = 0 by omega, show j - 4 * i = 0 by omega]
/-- The cells of n words. -/
def wordsCells (n : Nat) (f : Nat → Int) : List Value := (List.range n).map fun i => .int .u32 (f i)
theorem wordsCells_length (n : Nat) (f : Nat → Int) : (wordsCells n f).length = n := by simp [wordsCells]
theorem wordsCells_range {n : Nat} {w : World} {b : Nat} {f : Nat → Int} (h : Words n w b f) : w.rangeAt b 0 (wordsCells n f) := by
  intro j v hv
  simp only [wordsCells, List.getElem?_map, Option.map_eq_some_iff] at hv
  obtain ⟨i, hi, rfl⟩ := hv
  obtain ⟨h1, h2⟩ := List.getElem?_eq_some_iff.1 hi
  simp at h1 h2
  subst h2
  rw [Nat.zero_add]
  exact (h j h1).1
theorem words_there {n : Nat} {w : World} {b : Nat} {f : Nat → Int} (h : Words n w b f) : w.there b 0 n := fun j hj => by
  rw [Nat.zero_add, (h j hj).1]
  exact ⟨rfl, (h j hj).2⟩
theorem wordsCells_one (n : Nat) (f : Nat → Int) : (wordsCells n f).toArray.all (·.oneCell') = true := by
  rw [Array.all_eq_true_iff_forall_mem]
  intro v hv
  simp [wordsCells] at hv
  obtain ⟨i, _, rfl⟩ := hv
  rfl
theorem wordsVal_cells (f : Nat → Int) : wordsVal f = .agg (wordsCells 16 f).toArray := rfl
theorem padded_bytes (w : World) (l : List UInt8) (n : Nat) (T : TypeId) : Bytes n (w.alloc (.cells (padded l n).toArray T)) w.heap.size (byteAt l) := by
  intro i hi
  simp [padded, hi, go_sem]

set_option maxRecDepth 100000 in
set_option maxHeartbeats 1000000 in
theorem block36 (s : ByteArray) (w : World) :
    Calls Tryz.prog 68 #[.string s] w fun e w' => e = .returned (wordsVal (wordsOf s.data.toList)) ∧ Below w.heap.size w w' := by
  have hcp := run_copy_fresh (P := Tryz.prog) (ty := 3) (w.alloc (.cells #[.int .u32 0, .int .u32 0, .int .u32 0, .int .u32 0, .int .u32 0, .int .u32 0, .int .u32 0, .int .u32 0, .int .u32 0, .int .u32 0, .int .u32 0, .int .u32 0, .int .u32 0, .int .u32 0, .int .u32 0, .int .u32 0] 91)) 62 9 5 68 64 s #[.int .u8 0, .int .u8 0, .int .u8 0, .int .u8 0, .int .u8 0, .int .u8 0, .int .u8 0, .int .u8 0, .int .u8 0, .int .u8 0, .int .u8 0, .int .u8 0, .int .u8 0, .int .u8 0, .int .u8 0, .int .u8 0, .int .u8 0, .int .u8 0, .int .u8 0, .int .u8 0, .int .u8 0, .int .u8 0, .int .u8 0, .int .u8 0, .int .u8 0, .int .u8 0, .int .u8 0, .int .u8 0, .int .u8 0, .int .u8 0, .int .u8 0, .int .u8 0, .int .u8 0, .int .u8 0, .int .u8 0, .int .u8 0, .int .u8 0, .int .u8 0, .int .u8 0, .int .u8 0, .int .u8 0, .int .u8 0, .int .u8 0, .int .u8 0, .int .u8 0, .int .u8 0, .int .u8 0, .int .u8 0, .int .u8 0, .int .u8 0, .int .u8 0, .int .u8 0, .int .u8 0, .int .u8 0, .int .u8 0, .int .u8 0, .int .u8 0, .int .u8 0, .int .u8 0, .int .u8 0, .int .u8 0, .int .u8 0, .int .u8 0, .int .u8 0] rfl Tryz.underlying62 size5
  rw [show (w.alloc (.cells #[.int .u32 0, .int .u32 0, .int .u32 0, .int .u32 0, .int .u32 0, .int .u32 0, .int .u32 0, .int .u32 0, .int .u32 0, .int .u32 0, .int .u32 0, .int .u32 0, .int .u32 0, .int .u32 0, .int .u32 0, .int .u32 0] 91)).heap.size = w.heap.size + 1 by simp] at hcp
  go_enter Tryz.func68, Tryz.ntmps68
  go_wp2_with fail
  generalize hW : World.alloc (World.alloc (World.alloc w _) _) _ = w0
  clear hcp
  have z1 : ∀ o, (w.alloc o).heap.size = w.heap.size + 1 := fun o => by simp
  have z2 : ∀ o p, ((w.alloc o).alloc p).heap.size = w.heap.size + 1 + 1 := fun o p => by simp
  have qR : Words 16 w0 w.heap.size (fun _ => 0) := by
    subst hW
    exact ((words_new w (fun _ => 0) 91).below (below_alloc _ _) (by rw [z1]; omega)).below (below_alloc _ _) (by rw [z2]; omega)
  have qB : Bytes 64 w0 (w.heap.size + 1) (byteAt s.data.toList) := by
    subst hW
    refine Bytes.below ?_ (below_alloc _ _) (by rw [z2]; omega)
    have := padded_bytes (w.alloc (.cells #[.int .u32 0, .int .u32 0, .int .u32 0, .int .u32 0, .int .u32 0, .int .u32 0, .int .u32 0, .int .u32 0, .int .u32 0, .int .u32 0, .int .u32 0, .int .u32 0, .int .u32 0, .int .u32 0, .int .u32 0, .int .u32 0] 91)) s.data.toList 64 68
    rw [z1] at this
    exact this
  have qM : Words 16 w0 (w.heap.size + 1 + 1) (fun _ => 0) := by
    subst hW
    have := words_new ((w.alloc (.cells #[.int .u32 0, .int .u32 0, .int .u32 0, .int .u32 0, .int .u32 0, .int .u32 0, .int .u32 0, .int .u32 0, .int .u32 0, .int .u32 0, .int .u32 0, .int .u32 0, .int .u32 0, .int .u32 0, .int .u32 0, .int .u32 0] 91)).alloc (.cells (padded s.data.toList 64).toArray 68)) (fun _ => 0) 91
    rw [z2] at this
    exact this
  have L0 : Below w.heap.size w w0 := by subst hW; exact (((Below.refl _ _).alloc (Nat.le_refl _) _).alloc (by simp) _).alloc (by simp; omega) _
  have R0 := Lib.hid qR
  have B0 := Lib.hid qB
  have M0 := Lib.hid (Words.congr qM (fun i _ => (wordsTo_zero s.data.toList i).symm))
  clear hW qR qB qM z1 z2
  go_loopw [5, 9] (fun _ i wr => ∃ j : Nat, j ≤ 64 ∧ i = .int .i64 (j : Int) ∧ Hid (Words 16 wr w.heap.size (fun _ => 0)) ∧ Hid (Bytes 64 wr (w.heap.size + 1) (byteAt s.data.toList)) ∧ Hid (Words 16 wr (w.heap.size + 1 + 1) (wordsTo s.data.toList j)) ∧ Below w.heap.size w wr)
    (fun _ i _ => 64 - (intOf i).toNat)
  case atStart => exact ⟨0, by decide, rfl, R0, B0, M0, L0⟩
  case round =>
    clear R0 B0 M0 L0
    obtain ⟨j, hj, rfl, R, B, M, hb⟩ := hrel
    by_cases hlt : j < 64
    · have bj := (B.out j hlt).1
      have mj := (M.out (j / 4) (by omega)).1
      have zj := (M.out (j / 4) (by omega)).2
      have d1 : (0 : Int) ≤ (j : Int) / 4 := by omega
      have d2 : (j : Int) / 4 < 16 := by omega
      have d3 : (0 : Int) ≤ (j : Int) % 4 := by omega
      have d4 : IntKind.i64.wrap (8 * ((j : Int) % 4)) = 8 * ((j : Int) % 4) := IntWalk.i64_in _ (by omega)
      have d5 : (0 : Int) ≤ 8 * ((j : Int) % 4) := by omega
      have hjd : (j : Int) < 64 := by omega
      have t1 : (j : Int).tmod 4 = (j : Int) % 4 := Int.tmod_eq_emod_of_nonneg (by omega)
      have t2 : IntKind.u32.wrap (byteAt s.data.toList j) = byteAt s.data.toList j := by
        have := (s.data.toList.getD j 0).toNat_lt
        rw [IntKind.wrap_u32']; unfold byteAt; omega
      have d6 : IntKind.i64.wrap ((j : Int) / 4) = (j : Int) / 4 := IntWalk.i64_in _ (by omega)
      have d7 : ((j : Int) / 4).toNat = j / 4 := by omega
      have d8 : IntKind.i64.wrap ((j : Int) % 4) = (j : Int) % 4 := IntWalk.i64_in _ (by omega)
      have d9 : (8 * ((j : Int) % 4)).toNat = 8 * (j % 4) := by omega
      go_wp2_with fail
      refine region_tail 14 (by kernel_rfl) (by kernel_rfl) ?_
      simp only [List.take_succ_cons, List.take_zero, List.drop_succ_cons, List.drop_zero]
      repeat still_step
      refine still_tail_nil ?_
      go_wp2_with fail
      have hon : Only (w.heap.size + 1 + 1) wr (wr.setCell ⟨w.heap.size + 1 + 1, j / 4, none⟩ (.int .u32 (bits .or .u32 (wordsTo s.data.toList j (j / 4)) (byteAt s.data.toList j * 2 ^ (8 * (j % 4)) % 4294967296)))).drew := ((Only.refl _ _).put _ _).drew
      have hst := wordsTo_step s.data.toList j hlt
      have HST := Lib.hid hst
      clear hst bj mj zj d1 d2 d3 d4 d5 t1 t2 d6 d7 d8 d9
      go_roundw
      case rel =>
        refine ⟨j + 1, hlt, by go_num, R.out.only hon (by omega), B.out.only hon (by omega), ?_, hon.below hb (by omega)⟩
        refine Words.congr (M.out.put (j / 4) _).drew (fun i _ => ?_)
        unfold upd
        by_cases e : i = j / 4
        · subst e; rw [if_pos rfl]; exact HST.out
        · rw [if_neg e, wordsTo_other _ _ _ e]
      case measure => simp [intOf]; omega
    · obtain rfl : j = 64 := by omega
      have hM : Words 16 wr (w.heap.size + 1 + 1) (wordsOf s.data.toList) := Words.congr M.out (fun i hi => wordsTo_all _ _ hi)
      have hrange := wordsCells_range hM
      have hthere := words_there R.out
      have hu61 := Tryz.underlying91
      have hs61 : (Tryz.prog.info? 91).map (·.size) = some 16 := by kernel_rfl
      have hlen := wordsCells_length 16 (wordsOf s.data.toList)
      have hone := wordsCells_one 16 (wordsOf s.data.toList)
      generalize hcs : wordsCells 16 (wordsOf s.data.toList) = cs at *
      have hsz : cs.toArray.size = 16 := by simp [hlen]
      have hs1 : (Tryz.prog.info? 91).map (·.size) = some cs.length := by rw [hlen]; exact hs61
      have hs2 : (Tryz.prog.info? 91).map (·.size) = some cs.toArray.size := by rw [hsz]; exact hs61
      have ht2 : wr.there w.heap.size 0 cs.toArray.size := by rw [hsz]; exact hthere
      have ht3 : wr.there w.heap.size 0 cs.length := by rw [hlen]; exact hthere
      have HT := Lib.hid ht3
      have HS := Lib.hid hs1
      have HC := Lib.hid hcs
      clear hcs hsz hlen hs61 hM hthere R B M ht3
      go_wp2_with (first
        | (refine wpList_load_row rfl 91 _ rfl _ rfl cs _ hrange hu61 rfl hs1 ?_)
        | (refine wpList_store_row rfl 91 _ _ rfl _ cs.toArray rfl rfl ht2 hs2 hone ?_))
      refine bodyPost_ret (v := .agg cs.toArray) (results_row _ 2 91 rfl _ _ w.heap.size _ rfl (run_loadVar_mid _ _ 0 _ cs _ (range_setCells cs HT.out) hu61 rfl HS.out)) rfl ⟨by rw [wordsVal_cells, HC.out], ?_⟩
      exact (only_setCells w.heap.size cs 0 wr).below hb (by omega)
end Go.Proofs.YtllmlngfmcbaaaaGreatDoor
