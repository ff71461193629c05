/- chunked: what was encoded is decoded; what is too long is told; what is left is the end of the bytes. -/
import Derived.Test.YtchpgdoidpllgaaDoorChM
import Derived.Test.YtchpgdoidpllgaaDoorNumP
namespace Go.Proofs.YtchpgdoidpllgaaDoor
open Go.RowKit

theorem chLeft_suffix (m : Int) : ∀ (l : List UInt8) (σ : ChS), ∃ a, l = a ++ chLeft m σ l
  | [], σ => ⟨[], by rw [chLeft_nil]; rfl⟩
  | c :: l, σ => by
    cases hd : σ.isDone with
    | true =>
      cases σ with
      | done b => exact ⟨[], by rw [chLeft_done]; rfl⟩
      | _ => cases hd
    | false =>
      rw [chLeft_cons m σ c l hd]
      obtain ⟨a, ha⟩ := chLeft_suffix m l (σ.step m c)
      exact ⟨c :: a, by rw [List.cons_append, ← ha]⟩
theorem chLeft_drop (m : Int) (l : List UInt8) (σ : ChS) : l.drop (l.length - (chLeft m σ l).length) = chLeft m σ l := by
  obtain ⟨a, ha⟩ := chLeft_suffix m l σ
  have hl := congrArg List.length ha
  rw [List.length_append] at hl
  have e : l.length - (chLeft m σ l).length = a.length := by omega
  rw [e]
  conv => lhs; rw [ha]
  exact List.drop_left' rfl
/-- More bytes: what the decoder comes to, what it leaves, as the reference has it of all bytes. -/
theorem took_more (m : Int) (l p : List UInt8) (h : (chRun m (.size [] []) l).isDone = false) :
    tookL m (l ++ p) = tookS (l ++ p) (chRun m (chRun m (.size [] []) l) p) (chLeft m (chRun m (.size [] []) l) p) := by
  unfold tookL
  rw [chRun_app, chLeft_app m l _ p h]
theorem took_left (m : Int) (l : List UInt8) : (tookL m l).2.2.1 = true → l.drop (tookL m l).2.1 = chLeft m (.size [] []) l := by
  unfold tookL tookS
  intro h
  split at h
  · cases h
  · rename_i b hb
    exact chLeft_drop m l _
  · cases h
theorem took_isDone (m : Int) (l : List UInt8) : (tookL m l).2.2.1 = (chRun m (.size [] []) l).isDone := by
  unfold tookL tookS
  cases chRun m (.size [] []) l <;> rfl
theorem took_errOf (m : Int) (l : List UInt8) : (tookL m l).2.2.2 = (chRun m (.size [] []) l).errOf := by
  unfold tookL tookS
  cases chRun m (.size [] []) l <;> rfl
theorem took_body (m : Int) (l : List UInt8) : (tookL m l).1 = (chRun m (.size [] []) l).body := by
  unfold tookL tookS
  cases chRun m (.size [] []) l <;> rfl

theorem prtF_short (b : Nat) (hb : 2 ≤ b) : ∀ (j k n : Nat), n < b ^ (j + 1) → j ≤ k → (prtF b k n).length ≤ j + 1
  | 0, k, n, h, _ => by
    rw [prtF_small b k n (by simpa using h)]; simp
  | j + 1, k, n, h, hk => by
    by_cases hn : n < b
    · rw [prtF_small b k n hn]; simp
    · match k, hk with
      | k + 1, hk =>
        rw [prtF_step b k n (by omega), List.length_append, List.length_singleton]
        have := prtF_short b hb j k (n / b) (by rw [Nat.div_lt_iff_lt_mul (by omega)]; rw [Nat.pow_succ] at h; exact h) (by omega)
        omega
theorem prt16_ok (n : Nat) (h : n < 4294967296) : (prt 16 n).all isHex = true ∧ (prt 16 n).length ≤ 8 ∧ prt 16 n ≠ [] ∧ numD 16 (prt 16 n) = (n : Int) := by
  refine ⟨all_prtF 16 isHex (by decide) (fun r h => dch_hex r h) 64 n (Nat.lt_of_lt_of_le h (by decide)), prtF_short 16 (by decide) 7 64 n (Nat.lt_of_lt_of_le h (by decide)) (by decide), ?_, numD_prtF 16 (by decide) (by decide) 64 n (Nat.lt_of_lt_of_le h (by decide))⟩
  intro e
  have h1 := prtF_pos 16 64 n
  unfold prt at e
  rw [e] at h1
  simp at h1
theorem hex13 : isHex 13 = false := by decide +kernel
theorem run_size_end (m : Int) (b ds : List UInt8) (h1 : ds.all isHex = true) (h2 : ds.length ≤ 8) (h3 : ds ≠ []) : chRun m (.size [] b) (ds ++ [13, 10]) = sizeSt m ds b := by
  have hd : DigEnd ds (13 :: [10]) := ⟨h1, h2, h3, .inr ⟨13, [10], rfl, hex13⟩⟩
  rw [chRun_app, run_digits m b ds [] h1 (by simpa using h2), List.nil_append, chRun_cons, step_dig hd, if_pos rfl, chRun_cons, chRun_nil]
  simp only [ChS.step]
  rw [if_pos trivial]
  rfl
/-- A chunk of bytes. -/
def chunkL (x : List UInt8) : List UInt8 := prt 16 x.length ++ [13, 10] ++ x ++ [13, 10]
def lastL : List UInt8 := [48, 13, 10, 13, 10]
def encL (ps : List (List UInt8)) : List UInt8 := (ps.map fun p => if p = [] then [] else chunkL p).flatten ++ lastL
theorem run_chunk (m : Int) (b x : List UInt8) (hx : x ≠ []) (hl : x.length < 4294967296) (hm : (b.length : Int) + x.length ≤ m) : chRun m (.size [] b) (chunkL x) = .size [] (b ++ x) := by
  obtain ⟨h1, h2, h3, h4⟩ := prt16_ok x.length hl
  have hp : 0 < x.length := List.length_pos_iff.2 hx
  unfold chunkL
  rw [chRun_app, chRun_app, run_size_end m b _ h1 h2 h3]
  unfold sizeSt
  rw [h4, if_neg (by omega), if_neg (by omega), Int.toNat_natCast, run_data m x x.length b (Nat.le_refl _) hp, if_pos rfl]
  rfl
theorem run_chunk_big (m : Int) (b x : List UInt8) (hl : x.length < 4294967296) (hm : ¬ (b.length : Int) + x.length ≤ m) : chRun m (.size [] b) (chunkL x) = .err 3 := by
  obtain ⟨h1, h2, h3, h4⟩ := prt16_ok x.length hl
  unfold chunkL
  rw [chRun_app, chRun_app, run_size_end m b _ h1 h2 h3]
  unfold sizeSt
  rw [h4, if_pos (by omega), chRun_err, chRun_err]
theorem run_last (m : Int) (b : List UInt8) : chRun m (.size [] b) lastL = if (b.length : Int) ≤ m then .done b else .err 3 := by
  have e : lastL = [48] ++ [13, 10] ++ [13, 10] := rfl
  rw [e, chRun_app, run_size_end m b [48] (by decide +kernel) (by decide) (by simp)]
  unfold sizeSt
  have hn : numD 16 [48] = 0 := by decide +kernel
  rw [hn]
  by_cases h : (b.length : Int) ≤ m
  · rw [if_neg (by omega), if_pos rfl, if_pos h]
    rfl
  · rw [if_pos (by omega), if_neg h, chRun_err]
theorem encL_cons (p : List UInt8) (ps : List (List UInt8)) : encL (p :: ps) = (if p = [] then [] else chunkL p) ++ encL ps := by
  unfold encL
  rw [List.map_cons, List.flatten_cons, List.append_assoc]
/-- What was encoded is decoded. -/
theorem enc_run (m : Int) : ∀ (ps : List (List UInt8)) (b : List UInt8), (∀ p ∈ ps, p.length < 4294967296) → (b.length : Int) + ps.flatten.length ≤ m → chRun m (.size [] b) (encL ps) = .done (b ++ ps.flatten)
  | [], b, _, hm => by
    have e : encL [] = lastL := rfl
    rw [e, run_last, if_pos (by simpa using hm)]
    simp
  | p :: ps, b, hl, hm => by
    rw [List.flatten_cons, List.length_append] at hm
    rw [encL_cons, chRun_app]
    by_cases hp : p = []
    · subst hp
      rw [if_pos rfl, chRun_nil, enc_run m ps b (fun q hq => hl q (List.mem_cons_of_mem _ hq)) (by simpa using hm)]
      simp
    · rw [if_neg hp, run_chunk m b p hp (hl p (List.mem_cons_self ..)) (by omega), enc_run m ps (b ++ p) (fun q hq => hl q (List.mem_cons_of_mem _ hq)) (by rw [List.length_append]; omega)]
      simp
theorem left_last (m : Int) (b more : List UInt8) (h : (b.length : Int) ≤ m) : chLeft m (.size [] b) (lastL ++ more) = more := by
  have e : lastL ++ more = ([48] ++ [13, 10]) ++ 13 :: 10 :: more := rfl
  have hq : chRun m (.size [] b) ([48] ++ [13, 10]) = .end0 true b := by
    rw [run_size_end m b [48] (by decide +kernel) (by decide) (by simp)]
    unfold sizeSt
    have hn : numD 16 [48] = 0 := by decide +kernel
    rw [hn, if_neg (by omega), if_pos rfl]
  rw [e, chLeft_app m _ _ _ (by rw [hq]; rfl), hq]
  exact chLeft_done m b more
theorem enc_left (m : Int) (more : List UInt8) : ∀ (ps : List (List UInt8)) (b : List UInt8), (∀ p ∈ ps, p.length < 4294967296) → (b.length : Int) + ps.flatten.length ≤ m → chLeft m (.size [] b) (encL ps ++ more) = more
  | [], b, _, hm => left_last m b more (by simpa using hm)
  | p :: ps, b, hl, hm => by
    rw [List.flatten_cons, List.length_append] at hm
    rw [encL_cons, List.append_assoc]
    by_cases hp : p = []
    · subst hp
      rw [if_pos rfl, List.nil_append]
      exact enc_left m more ps b (fun q hq => hl q (List.mem_cons_of_mem _ hq)) (by simpa using hm)
    · have hq := run_chunk m b p hp (hl p (List.mem_cons_self ..)) (by omega)
      rw [if_neg hp, chLeft_app m _ _ _ (by rw [hq]; rfl), hq]
      exact enc_left m more ps (b ++ p) (fun q hq => hl q (List.mem_cons_of_mem _ hq)) (by rw [List.length_append]; omega)
/-- What is too long is told. -/
theorem enc_big (m : Int) : ∀ (ps : List (List UInt8)) (b : List UInt8), (∀ p ∈ ps, p.length < 4294967296) → ¬ (b.length : Int) + ps.flatten.length ≤ m → chRun m (.size [] b) (encL ps) = .err 3
  | [], b, _, hm => by
    have e : encL [] = lastL := rfl
    rw [e, run_last, if_neg (by simpa using hm)]
  | p :: ps, b, hl, hm => by
    rw [List.flatten_cons, List.length_append] at hm
    rw [encL_cons, chRun_app]
    by_cases hp : p = []
    · subst hp
      rw [if_pos rfl, chRun_nil, enc_big m ps b (fun q hq => hl q (List.mem_cons_of_mem _ hq)) (by simpa using hm)]
    · rw [if_neg hp]
      by_cases hb : (b.length : Int) + p.length ≤ m
      · rw [run_chunk m b p hp (hl p (List.mem_cons_self ..)) hb, enc_big m ps (b ++ p) (fun q hq => hl q (List.mem_cons_of_mem _ hq)) (by rw [List.length_append]; omega)]
      · rw [run_chunk_big m b p (hl p (List.mem_cons_self ..)) hb, chRun_err]
end Go.Proofs.YtchpgdoidpllgaaDoor
