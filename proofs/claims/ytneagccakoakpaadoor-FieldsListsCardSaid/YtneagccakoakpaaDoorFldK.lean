/- fields: Add, Set. -/
import Derived.Test.YtneagccakoakpaaDoorFldJ
import Derived.Test.YtneagccakoakpaaDoorRegT
namespace Go.Proofs.YtneagccakoakpaaDoor
open Go.RowKit

theorem own_mono {w : World} {B B' size n : Nat} {e : TypeId} {v : Value} {xs : List Value} (h : w.ownsRow B e size v n xs) (hB : B' ≤ B) : w.ownsRow B' e size v n xs := by
  obtain ⟨hl, h0 | ⟨g, cap, cur, hv, hg, r⟩⟩ := h
  · exact ⟨hl, .inl h0⟩
  · exact ⟨hl, .inr ⟨g, cap, cur, hv, Nat.le_trans hB hg, r⟩⟩
theorem isFlds_new1 (w : World) (n v : List UInt8) (T : TypeId) : IsFlds (w.alloc (.cells #[.string (bs n), .string (bs v)] T)) (some ⟨w.heap.size, 0, none⟩) 1 [(n, v)] := by
  refine .inr ⟨w.heap.size, 0, rfl, by simp, by simp, fun j f hf => ?_⟩
  obtain rfl : j = 0 := by
    have := (List.getElem?_eq_some_iff.1 hf).1
    simp at this
    omega
  obtain rfl : (n, v) = f := by simpa using hf
  simp
set_option maxHeartbeats 4000000 in
set_option maxRecDepth 100000 in
theorem add48 (a : Option Addr) (c : Nat) (fs : List Fld) (n v : List UInt8) (hfl : fs.length ≤ 100000000) (ha : a = none → c = 0 ∧ fs = []) (w : World) (hf : IsFlds w a c fs) :
    Calls Tryd.prog 48 #[.slice a fs.length c, .string (bs n), .string (bs v)] w fun e w' => ∃ u, e = .returned u ∧ w'.ownsRow w.heap.size 42 2 u (fs ++ [(n, v)]).length (cellsF (fs ++ [(n, v)])) ∧ Below w.heap.size w w' := by
  have L1 := below_alloc w (.cells #[.string (bs n), .string (bs v)] 42)
  have F1 := isFlds_new1 w n v 42
  have L2 := below_alloc (w.alloc (.cells #[.string (bs n), .string (bs v)] 42)) (.cells #[.slice a fs.length c, .slice (some ⟨w.heap.size, 0, none⟩) 1 1] 52)
  have hfl2 : flatP [(a, c, fs), (some ⟨w.heap.size, 0, none⟩, 1, [(n, v)])] = fs ++ [(n, v)] := by simp [flatP]
  have hcon := concat73 (w.alloc (.cells #[.string (bs n), .string (bs v)] 42)).heap.size [(a, c, fs), (some ⟨w.heap.size, 0, none⟩, 1, [(n, v)])] (by simp) (by rw [hfl2]; simp; omega) ((w.alloc (.cells #[.string (bs n), .string (bs v)] 42)).alloc (.cells #[.slice a fs.length c, .slice (some ⟨w.heap.size, 0, none⟩) 1 1] 52)) (by simp)
    (fun j p hp => by
      match j, hp with
      | 0, hp => obtain rfl := Option.some.inj hp; simp [partV]
      | 1, hp => obtain rfl := Option.some.inj hp; simp [partV]
      | j + 2, hp => simp at hp)
    (fun p hp => by
      simp only [List.mem_cons, List.not_mem_nil, or_false] at hp
      rcases hp with rfl | rfl
      · exact ⟨(hf.below L1).below L2, ha⟩
      · exact ⟨F1.below L2, fun h => by cases h⟩)
  rw [hfl2, World.size_alloc] at hcon
  have HC := Lib.hid hcon
  have LL : Hid (Below w.heap.size w ((w.alloc (.cells #[.string (bs n), .string (bs v)] 42)).alloc (.cells #[.slice a fs.length c, .slice (some ⟨w.heap.size, 0, none⟩) 1 1] 52))) := L1.trans (L2.mono (by simp))
  clear hcon L1 L2 F1 hf ha hfl2
  generalize fs ++ [(n, v)] = out at *
  go_enter Tryd.func48, Tryd.ntmps48
  go_wp2_with fail
  refine HC.out.mono ?_
  rintro e w1 ⟨u, rfl, ho, hb⟩
  have hs : w.heap.size ≤ ((w.alloc (.cells #[.string (bs n), .string (bs v)] 42)).alloc (.cells #[.slice a fs.length c, .slice (some ⟨w.heap.size, 0, none⟩) 1 1] 52)).heap.size := by simp <;> omega
  have HB : Hid (Below w.heap.size w w1) := LL.out.trans (hb.mono hs)
  have HO : Hid (w1.ownsRow w.heap.size 42 2 u out.length (cellsF out)) := own_mono ho hs
  clear ho hb hs LL HC
  go_wp2_with fail
  go_ret
  exact ⟨_, rfl, HO.out, HB.out⟩
end Go.Proofs.YtneagccakoakpaaDoor
