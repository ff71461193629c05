/- Hex, the program's own. -/
import Derived.Test.YtllmlngfmcbaaaaGreatDoorRSum
namespace Go.Proofs.YtllmlngfmcbaaaaGreatDoor
open Go.RowKit

theorem info5 : (Tryz.prog.info? 5).map (fun i => (i.zero, i.size, i.bytes)) = some (some (.int .u8 0), 1, 1) := by kernel_rfl
/-- The digit of a number below 16. -/
def hd (n : Nat) : UInt8 := [48, 49, 50, 51, 52, 53, 54, 55, 56, 57, 97, 98, 99, 100, 101, 102].getD n 0
/-- The digits of bytes. -/
def hexL : List UInt8 → List UInt8
  | [] => []
  | c :: r => hd (c.toNat / 16) :: hd (c.toNat % 16) :: hexL r
theorem hexL_app : ∀ a b : List UInt8, hexL (a ++ b) = hexL a ++ hexL b
  | [], _ => rfl
  | c :: r, b => by simp [hexL, hexL_app r b]
theorem hexL_length : ∀ a : List UInt8, (hexL a).length = 2 * a.length
  | [] => rfl
  | c :: r => by simp [hexL, hexL_length r]; omega
def u8s (l : List UInt8) : List Value := l.map fun c => .int .u8 (c.toNat : Nat)
set_option maxRecDepth 100000 in
theorem index_digit (n : Int) (h0 : 0 ≤ n) (h1 : n < 16) (w : World) :
    (Instr.index 9 (.string ⟨#[48, 49, 50, 51, 52, 53, 54, 55, 56, 57, 97, 98, 99, 100, 101, 102]⟩) (.int .u8 n)).run Tryz.prog w = .ok (.int .u8 ((hd n.toNat).toNat : Nat)) w := by
  have h : n = 0 ∨ n = 1 ∨ n = 2 ∨ n = 3 ∨ n = 4 ∨ n = 5 ∨ n = 6 ∨ n = 7 ∨ n = 8 ∨ n = 9 ∨ n = 10 ∨ n = 11 ∨ n = 12 ∨ n = 13 ∨ n = 14 ∨ n = 15 := by omega
  rcases h with rfl | rfl | rfl | rfl | rfl | rfl | rfl | rfl | rfl | rfl | rfl | rfl | rfl | rfl | rfl | rfl <;> rfl
theorem and15 (c : UInt8) : bits .and .u8 (c.toNat : Int) 15 = (c.toNat : Int) % 16 := by
  have h : ∀ n : Fin 256, bits .and .u8 ((n : Nat) : Int) 15 = ((n : Nat) : Int) % 16 := by decide +kernel
  exact h ⟨c.toNat, c.toNat_lt⟩
theorem take_snoc' (s : ByteArray) (k : Nat) (h : k < s.size) : s.data.toList.take (k + 1) = s.data.toList.take k ++ [s[k]] := by
  rw [List.take_succ_eq_append_getElem (by simpa using h)]; rfl
set_option maxRecDepth 100000 in
/-- A slice that owns bytes, as a string. -/
theorem own_string {w : World} {B n : Nat} {a : Option Addr} {c : Nat} {l : List UInt8} (hn : l.length = n) (h : w.ownsRow B 5 1 (.slice a n c) n (u8s l)) :
    (convert 62 9 (.slice a n c)).run Tryz.prog w = .ok (.string ⟨l.toArray⟩) w := by
  obtain ⟨hl, h | ⟨g, cap, cur, he, hB, hg, hc, hm, hs, ht⟩⟩ := h
  · obtain ⟨he, rfl⟩ := h
    obtain rfl : l = [] := List.eq_nil_of_length_eq_zero hn
    have he' : a = none ∧ c = 0 := by simpa using he
    obtain ⟨rfl, rfl⟩ := he'
    rfl
  · have he' : a = some ⟨g, 0, none⟩ ∧ c = cap := by simpa using he
    obtain ⟨rfl, rfl⟩ := he'
    have h1 := run_convert_bytes_arg (P := Tryz.prog) w 62 5 Tryz.underlying62 Tryz.underlying5 g 0 n c (l.map fun x => (x.toNat : Int)) (by simpa using hn) (fun i hi => by
      have hi' : i < l.length := by rw [hn]; exact hi
      have h2 := World.ownsRow.cells (w := w) (base := B) (e := 5) (size := 1) (v := .slice (some ⟨g, 0, none⟩) n c) (n := n) (xs := u8s l) ⟨hl, .inr ⟨g, c, cur, rfl, hB, hg, hc, hm, hs, ht⟩⟩ rfl i (.int .u8 ((l[i]'hi').toNat : Nat)) (by simp [u8s, hi'])
      rw [Addr.add_mid] at h2
      rw [h2]
      simp [hi']) 9 Tryz.underlying9
    rw [h1]
    have hl : strOfNums (l.map fun x => (x.toNat : Int)) = ⟨l.toArray⟩ := by
      unfold strOfNums
      rw [List.map_map]
      have : ((fun n : Int => UInt8.ofNat n.toNat) ∘ fun x : UInt8 => (x.toNat : Int)) = id := by funext x; simp
      rw [this, List.map_id]
    rw [hl]

set_option maxRecDepth 100000 in
set_option maxHeartbeats 1000000 in
theorem hex15 (s : ByteArray) (hs : s.size ≤ 1048576) (w : World) :
    Calls Tryz.prog 37 #[.string s] w fun e w' => e = .returned (.string ⟨(hexL s.data.toList).toArray⟩) ∧ Below w.heap.size w w' := by
  obtain ⟨i0, hi, hz0, hz1, hz2⟩ := info_parts info5
  have hmk : (Instr.makeSlice 62 (.int .i64 0) (.int .i64 (2 * (s.size : Int)))).run Tryz.prog w = .ok (.slice (some ⟨w.heap.size, 0, none⟩) 0 (2 * s.size)) (w.alloc (.cells (madeCells #[Value.int .u8 0] (2 * s.size * i0.size)) 5)) := by
    have := run_make (P := Tryz.prog) w 62 5 i0 (.int .u8 0) Tryz.underlying62 hi hz0 .i64 .i64 0 (2 * (s.size : Int)) (by decide) (by omega) (by rw [hz2]; omega) (by omega)
    rw [show (2 * (s.size : Int)).toNat = 2 * s.size by omega] at this
    exact this
  have hown0 := World.ownsRow_made (base := w.heap.size) (e := 5) (size := 1) w (madeCells #[Value.int .u8 0] (2 * s.size * i0.size)) (2 * s.size) (Nat.le_refl _) (by unfold maxLen; omega) (by rw [size_madeCells, hz1])
  have HI := Lib.hid hi
  have HZ0 := Lib.hid hz0
  have HZ1 := Lib.hid hz1
  have HZ2 := Lib.hid hz2
  clear hi hz0 hz1 hz2
  go_enter Tryz.func37, Tryz.ntmps37
  go_wp2_with fail
  have L0 : Below w.heap.size w (w.alloc (.cells (madeCells #[Value.int .u8 0] (2 * s.size * i0.size)) 5)) := below_alloc _ _
  clear hmk
  have HOWN0 := Lib.hid hown0
  clear hown0
  generalize World.alloc w _ = w0 at *
  go_loopw [3, 4, 11] (fun v _ i wr => ∃ k : Nat, k ≤ s.size ∧ i = .int .i64 (k : Int) ∧ Hid (wr.ownsRow w.heap.size 5 1 v (2 * k) (u8s (hexL (s.data.toList.take k)))) ∧ Below w.heap.size w wr)
    (fun _ _ i _ => s.size - (intOf i).toNat)
  case atStart => exact ⟨0, by omega, rfl, HOWN0, L0⟩
  case round =>
    clear HOWN0 L0
    obtain ⟨k, hk, rfl, hown, hb⟩ := hrel
    have hsz := hb.size
    by_cases hlt : k < s.size
    · obtain ⟨c, hc⟩ : ∃ c, c = s[k] := ⟨_, rfl⟩
      have hsn : hexL (s.data.toList.take (k + 1)) = hexL (s.data.toList.take k) ++ [hd (c.toNat / 16), hd (c.toNat % 16)] := by
        rw [take_snoc' s k hlt, hexL_app, hc]; rfl
      have HSN := Lib.hid hsn
      have hcl := c.toNat_lt
      have j1 : (k : Int) < s.size := by omega
      have j2 : decide ((k : Int) < s.size) = true := by simp; omega
      have hcI : (s[k].toNat : Int) = (c.toNat : Int) := by rw [hc]
      have HCI := Lib.hid hcI
      have e1 := index_digit ((c.toNat : Int) / 16) (by omega) (by omega)
      have e2 := index_digit ((c.toNat : Int) % 16) (by omega) (by omega)
      rw [show ((c.toNat : Int) / 16).toNat = c.toNat / 16 by omega] at e1
      rw [show ((c.toNat : Int) % 16).toNat = c.toNat % 16 by omega] at e2
      have e3 := and15 c
      have E1 := Lib.hid e1
      have E2 := Lib.hid e2
      have E3 := Lib.hid e3
      clear hsn hc hcI e1 e2 e3
      go_wp2_with fail
      refine region_mixt 13 [some (u3), some (.string s), some (.int .i64 (k : Int)), some (.int .u8 (c.toNat : Int)), some (.int .u8 ((c.toNat : Int) / 16)), some (.int .u8 ((hd (c.toNat / 16)).toNat : Nat)), some (.string s), some (.int .i64 (k : Int)), some (.int .u8 (c.toNat : Int)), some (.int .u8 ((c.toNat : Int) % 16)), some (.int .u8 ((hd (c.toNat % 16)).toNat : Nat)), none, none]
        [[false, false, false, false, false, false, false, false, false, false, false, false, false], [false, false, false, false, false, false, false, false, false, false, false, false, false], [false, false, false, false, false, false, false, false, false, false, false, false, false], [false, true, true, false, false, false, false, false, false, false, false, false, false], [false, false, false, true, false, false, false, false, false, false, false, false, false], [false, false, false, false, true, false, false, false, false, false, false, false, false], [false, false, false, false, false, false, false, false, false, false, false, false, false], [false, false, false, false, false, false, false, false, false, false, false, false, false], [false, false, false, false, false, false, true, true, false, false, false, false, false], [false, false, false, false, false, false, false, false, true, false, false, false, false], [false, false, false, false, false, false, false, false, false, true, false, false, false], [false, false, false, false, false, true, false, false, false, false, true, false, false], [true, false, false, false, false, false, false, false, false, false, false, true, false]]
        (fun L x w1 => Below w.heap.size w w1 ∧ (L 12 = false → Hid (w1.ownsRow w.heap.size 5 1 u3 (2 * k) (u8s (hexL (s.data.toList.take k))))) ∧ (L 11 = true → L 12 = false → ∃ b, x 11 = .slice (some ⟨b, 0, none⟩) 2 2 ∧ w1.cell? ⟨b, 0, none⟩ = some (.int .u8 ((hd (c.toNat / 16)).toNat : Nat)) ∧ w1.cell? ⟨b, 1, none⟩ = some (.int .u8 ((hd (c.toNat % 16)).toNat : Nat))) ∧ (L 12 = true → L 11 = true ∧ Hid (w1.ownsRow w.heap.size 5 1 (x 12) (2 * (k + 1)) (u8s (hexL (s.data.toList.take (k + 1)))))))
        (by kernel_rfl) (by kernel_rfl) (by kernel_rfl) (by kernel_rfl) (by kernel_rfl) (by decide) ?_ ?_ ?_
      · intro _
        exact ⟨hb.drew, fun _ => hown, fun h _ => (by cases h), fun h => (by cases h)⟩
      · simp only [List.take_succ_cons, List.take_zero]
        refine ⟨?_, ?_, ?_, ?_, ?_, ?_, ?_, ?_, ?_, ?_, ?_, ?_, ?_, trivial⟩
        all_goals
          intro L x w9 hS hl hp K hK
          have c1 := hS.1
          have c2 := hS.2.1
          have c3 := hS.2.2.1
          have c4 := hS.2.2.2
          clear hS hown hb
          replace hK := hK.out
          simp only [actMix, pickV, List.tail_cons, List.headD_cons, Act.put, List.setIfInBounds_toArray, List.set_cons_zero, List.set_cons_succ] at hK ⊢
        iterate 3
          · clear hp
            go_simp
            with_reducible refine hK _ ?_
            exact ⟨c1, fun h => c2 (by simpa [setL] using h), fun h h' => (by simpa [updV] using c3 (by simpa [setL] using h) (by simpa [setL] using h')), fun h => (by simpa [updV, setL] using c4 (by simpa [setL] using h))⟩
        · clear hp
          have hcI := HCI.out
          go_simp
          with_reducible refine hK _ ?_
          exact ⟨c1, fun h => c2 (by simpa [setL] using h), fun h h' => (by simpa [updV] using c3 (by simpa [setL] using h) (by simpa [setL] using h')), fun h => (by simpa [updV, setL] using c4 (by simpa [setL] using h))⟩
        · clear hp
          go_simp
          with_reducible refine hK _ ?_
          exact ⟨c1, fun h => c2 (by simpa [setL] using h), fun h h' => (by simpa [updV] using c3 (by simpa [setL] using h) (by simpa [setL] using h')), fun h => (by simpa [updV, setL] using c4 (by simpa [setL] using h))⟩
        · clear hp
          have e1 := E1.out
          go_simp
          with_reducible refine hK _ ?_
          exact ⟨c1, fun h => c2 (by simpa [setL] using h), fun h h' => (by simpa [updV] using c3 (by simpa [setL] using h) (by simpa [setL] using h')), fun h => (by simpa [updV, setL] using c4 (by simpa [setL] using h))⟩
        iterate 2
          · clear hp
            go_simp
            with_reducible refine hK _ ?_
            exact ⟨c1, fun h => c2 (by simpa [setL] using h), fun h h' => (by simpa [updV] using c3 (by simpa [setL] using h) (by simpa [setL] using h')), fun h => (by simpa [updV, setL] using c4 (by simpa [setL] using h))⟩
        · clear hp
          have hcI := HCI.out
          go_simp
          with_reducible refine hK _ ?_
          exact ⟨c1, fun h => c2 (by simpa [setL] using h), fun h h' => (by simpa [updV] using c3 (by simpa [setL] using h) (by simpa [setL] using h')), fun h => (by simpa [updV, setL] using c4 (by simpa [setL] using h))⟩
        · clear hp
          have e3 := E3.out
          go_simp
          with_reducible refine hK _ ?_
          exact ⟨c1, fun h => c2 (by simpa [setL] using h), fun h h' => (by simpa [updV] using c3 (by simpa [setL] using h) (by simpa [setL] using h')), fun h => (by simpa [updV, setL] using c4 (by simpa [setL] using h))⟩
        · clear hp
          have e2 := E2.out
          go_simp
          with_reducible refine hK _ ?_
          exact ⟨c1, fun h => c2 (by simpa [setL] using h), fun h h' => (by simpa [updV] using c3 (by simpa [setL] using h) (by simpa [setL] using h')), fun h => (by simpa [updV, setL] using c4 (by simpa [setL] using h))⟩
        · have h12 : L 12 = false := by
            cases h : L 12 with
            | false => rfl
            | true => have := (c4 h).1; rw [hl] at this; cases this
          have c2' := c2 h12
          have hs9 := c1.size
          clear hp c2 c3 c4
          go_simp
          with_reducible refine hK _ _ ?_
          refine ⟨c1.alloc hs9 _, fun _ => c2'.out.alloc _, fun _ _ => ⟨w9.heap.size, by simp [updV], by simp, by simp⟩, fun h => ?_⟩
          simp [setL, h12] at h
        · have h11 : L 11 = true := allL_mem hp 11 (by decide +kernel)
          have c2' := (c2 hl).out
          obtain ⟨b9, hx9, hc9, hd9⟩ := c3 h11 hl
          have hs9 := c1.size
          clear hp c2 c3 c4
          rw [hx9] at hK ⊢
          rw [if_pos (by rfl)]
          refine wp_append_own _ _ _ 62 rfl w.heap.size 5 i0 (.int .u8 0) 1 1 Tryz.underlying62 HI.out HZ0.out HZ1.out HZ2.out rfl (by decide) _ _ _ rfl c2' ⟨b9, 0, none⟩ 2 2 [.int .u8 ((hd (c.toNat / 16)).toNat : Nat), .int .u8 ((hd (c.toNat % 16)).toNat : Nat)] rfl rfl ?_ ?_ ?_ ?_ hs9 ?_
          · intro i u hu
            match i, hu with
            | 0, hu => obtain rfl := Option.some.inj hu; rw [Addr.add_mid]; exact hc9
            | 1, hu => obtain rfl := Option.some.inj hu; rw [Addr.add_mid]; exact hd9
            | i + 2, hu => simp at hu
          · intro u hu; simp at hu; rcases hu with rfl | rfl <;> rfl
          · unfold maxLen; omega
          · omega
          intro v' w1 hown1 hgrow _
          have hown2 : w1.ownsRow w.heap.size 5 1 v' (2 * (k + 1)) (u8s (hexL (s.data.toList.take (k + 1)))) := by
            rw [HSN.out]
            unfold u8s
            rw [List.map_append]
            exact hown1
          have hb1 : Below w.heap.size w w1 := c1.grown hgrow hs9 (fun k hk => (c2'.lt k hk).1)
          simp only [Act.put, List.setIfInBounds_toArray, List.set_cons_zero, List.set_cons_succ]
          with_reducible refine hK _ _ ?_
          refine ⟨hb1, fun h => ?_, fun _ h => ?_, fun _ => ⟨by simp [setL, h11], Lib.hid (by simpa [updV] using hown2)⟩⟩
          · simp [setL] at h
          · simp [setL] at h
      intro L x w9 hS hL
      have hb1 := hS.1
      have hown1 := (hS.2.2.2 (hL 12 (by decide))).2
      clear hS hL hown hb
      simp only [actMix, pickV, List.tail_cons, List.headD_cons, Act.put, List.setIfInBounds_toArray, List.set_cons_zero, List.set_cons_succ, List.replicate_succ, List.replicate_zero, List.drop_succ_cons, List.drop_zero, List.take_succ_cons, List.take_zero]
      go_wp2_with fail
      go_roundw
      case rel => exact ⟨k + 1, by omega, by go_num, hown1, hb1⟩
      case measure => simp [intOf]; omega
    · obtain rfl : k = s.size := by omega
      obtain ⟨a', c', rfl⟩ : ∃ a' c', u3 = .slice a' (2 * s.size) c' := by
        obtain ⟨_, ⟨h1, h2⟩ | ⟨g, cap, cur, h1, _⟩⟩ := hown.out
        · exact ⟨none, 0, by rw [h1, h2]⟩
        · exact ⟨_, _, h1⟩
      have hfull : s.data.toList.take s.size = s.data.toList := List.take_of_length_le (by rw [Lib.size_eq]; exact Nat.le_refl _)
      rw [hfull] at hown
      have hcv := own_string (by rw [hexL_length, ← Lib.size_eq]) hown.out
      clear hown hfull
      go_wp2_with fail
      go_ret
      exact ⟨rfl, hb⟩
end Go.Proofs.YtllmlngfmcbaaaaGreatDoor
