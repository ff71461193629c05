/- chunked: what the laws read (lists). -/
import Derived.Test.YtchpgdoidpllgaaDoorChE
import Derived.Test.YtchpgdoidpllgaaDoorCut
import Derived.Test.YtchpgdoidpllgaaDoorRegT
import Derived.Deep.Cut
namespace Go.Proofs.YtchpgdoidpllgaaDoor
open Go.RowKit

theorem isStrs_keep {G : Nat → Prop} {w w' : World} {a : Option Addr} {c : Nat} {xs : List ByteArray} (h : IsStrs w a c xs) (hk : Keep G w w') (hg : ∀ ad, a = some ad → ¬ G ad.block) : IsStrs w' a c xs := by
  rcases h with h | ⟨bk, o, rfl, hbk, hc, hcell⟩
  · exact .inl h
  · have hn : ¬ G bk := hg ⟨bk, o, none⟩ rfl
    refine .inr ⟨bk, o, rfl, Nat.lt_of_lt_of_le hbk hk.size, hc, fun j x hx => ?_⟩
    have := hcell j x hx
    unfold World.cell? at this ⊢
    rw [hk.block bk hbk hn]
    exact this
theorem keep_cell {G : Nat → Prop} {w w' : World} {bk i : Nat} {v : Value} (hk : Keep G w w') (h : w.cell? ⟨bk, i, none⟩ = some v) (hb : bk < w.heap.size) (hn : ¬ G bk) : w'.cell? ⟨bk, i, none⟩ = some v := by
  unfold World.cell? at h ⊢
  rw [hk.block bk hb hn]
  exact h
theorem bytesOf_take {xs : List ByteArray} {j : Nat} (hj : j < xs.length) : (bytesOf (xs.take (j + 1))).flatten = (bytesOf (xs.take j)).flatten ++ xs[j].data.toList := by
  unfold bytesOf
  rw [List.take_succ_eq_append_getElem hj, List.map_append, List.flatten_append]
  simp
theorem bytesOf_take_le (xs : List ByteArray) (j : Nat) : (bytesOf (xs.take j)).flatten.length ≤ (bytesOf xs).flatten.length := by
  conv => rhs; rw [← List.take_append_drop j xs]
  unfold bytesOf
  rw [List.map_append, List.flatten_append, List.length_append]
  omega
/-- What the law reads of the reference's answer: of all bytes so far, and what is left of the last ones. -/
theorem took_read (m : Int) (t p : List UInt8) : ∃ n : Nat, tookL m (t ++ p) = ((chRun m (chRun m (.size [] []) t) p).body, n, (chRun m (chRun m (.size [] []) t) p).isDone, (chRun m (chRun m (.size [] []) t) p).errOf) ∧ n ≤ (t ++ p).length ∧
    ((chRun m (.size [] []) t).isDone = true → chLeft m (chRun m (.size [] []) t) p = p) ∧
    ((chRun m (.size [] []) t).isDone = false → (chRun m (chRun m (.size [] []) t) p).isDone = true → (t ++ p).drop n = chLeft m (chRun m (.size [] []) t) p) ∧
    ((chRun m (chRun m (.size [] []) t) p).isDone = false → chLeft m (chRun m (.size [] []) t) p = []) := by
  have e0 : chRun m (.size [] []) (t ++ p) = chRun m (chRun m (.size [] []) t) p := chRun_app ..
  refine ⟨(tookL m (t ++ p)).2.1, ?_, ?_, ?_, ?_, ?_⟩
  · rw [← e0, ← took_isDone, ← took_errOf, ← took_body]
  · unfold tookL tookS
    split
    · exact Nat.zero_le _
    · exact Nat.sub_le _ _
    · exact Nat.le_refl _
  · intro h
    cases hs : chRun m (.size [] []) t with
    | done b => exact chLeft_done m b p
    | _ => rw [hs] at h; cases h
  · intro h1 h2
    rw [took_left m (t ++ p) (by rw [took_isDone, e0]; exact h2), chLeft_app m t _ p h1]
  · intro h
    exact chLeft_undone m p _ h
theorem run_body_le (m : Int) : ∀ (l : List UInt8) (σ : ChS), (chRun m σ l).body.length ≤ σ.body.length + l.length
  | [], σ => by rw [chRun_nil]; exact Nat.le_add_right _ _
  | c :: l, σ => by
    rw [chRun_cons]
    have h1 := run_body_le m l (σ.step m c)
    have h2 := step_body m σ c
    rw [List.length_cons]
    omega
theorem left_cases (m : Int) (t p : List UInt8) (q0 q1 : Bool) (h0 : (chRun m (.size [] []) t).isDone = q0) (h1 : (chRun m (chRun m (.size [] []) t) p).isDone = q1) : q0 = true → q1 = true := by
  subst h0 h1
  intro h
  cases hs : chRun m (.size [] []) t with
  | done b => rw [chRun_done]; rfl
  | _ => rw [hs] at h; cases h
end Go.Proofs.YtchpgdoidpllgaaDoor
