/- chunked: a decoder as a machine over bytes; what the reference returns of all bytes together is what the machine comes to. -/
import Derived.Test.YtchpgdoidpllgaaDoorFldB
import Derived.Test.YtchpgdoidpllgaaDoorNumR
namespace Go.Proofs.YtchpgdoidpllgaaDoor
open Go.RowKit

/-- Where a decoder stands: in a size, behind its byte 13, in a chunk's bytes (so many are left), ahead of the two bytes behind them, between these, done, failed. 'last': the chunk has no bytes. -/
inductive ChS where
  | size (ds body : List UInt8)
  | sizeLF (ds body : List UInt8)
  | data (k : Nat) (body : List UInt8)
  | end0 (last : Bool) (body : List UInt8)
  | end1 (last : Bool) (body : List UInt8)
  | done (body : List UInt8)
  | err (e : Int)
/-- What one byte does. -/
def ChS.step (most : Int) : ChS → UInt8 → ChS
  | .size ds b, c => if isHex c = true ∧ ds.length < 8 then .size (ds ++ [c]) b else if ds ≠ [] ∧ c = 13 then .sizeLF ds b else .err 2
  | .sizeLF ds b, c => if c = 10 then (if numD 16 ds > most - b.length then .err 3 else if numD 16 ds = 0 then .end0 true b else .data (numD 16 ds).toNat b) else .err 2
  | .data k b, c => if k ≤ 1 then .end0 false (b ++ [c]) else .data (k - 1) (b ++ [c])
  | .end0 z b, c => if c = 13 then .end1 z b else .err 2
  | .end1 z b, c => if c = 10 then (if z = true then .done b else .size [] b) else .err 2
  | .done b, _ => .done b
  | .err e, _ => .err e
def chRun (most : Int) (σ : ChS) (l : List UInt8) : ChS := l.foldl (ChS.step most) σ
/-- The bytes that are left once it is done. -/
def chLeft (most : Int) : ChS → List UInt8 → List UInt8
  | .done _, l => l
  | _, [] => []
  | σ, c :: l => chLeft most (σ.step most c) l
def ChS.body : ChS → List UInt8
  | .size _ b => b
  | .sizeLF _ b => b
  | .data _ b => b
  | .end0 _ b => b
  | .end1 _ b => b
  | .done b => b
  | .err _ => []
def ChS.isDone : ChS → Bool
  | .done _ => true
  | _ => false
def ChS.errOf : ChS → Int
  | .err e => e
  | _ => 0
theorem chRun_nil (m : Int) (σ : ChS) : chRun m σ [] = σ := rfl
theorem chRun_cons (m : Int) (σ : ChS) (c : UInt8) (l : List UInt8) : chRun m σ (c :: l) = chRun m (σ.step m c) l := rfl
theorem chRun_app (m : Int) (σ : ChS) (a b : List UInt8) : chRun m σ (a ++ b) = chRun m (chRun m σ a) b := List.foldl_append ..
theorem chRun_done (m : Int) (b : List UInt8) : ∀ l, chRun m (.done b) l = .done b
  | [] => rfl
  | _ :: l => chRun_done m b l
theorem chRun_err (m e : Int) : ∀ l, chRun m (.err e) l = .err e
  | [] => rfl
  | _ :: l => chRun_err m e l
theorem chLeft_nil (m : Int) (σ : ChS) : chLeft m σ [] = [] := by cases σ <;> rfl
theorem chLeft_done (m : Int) (b l : List UInt8) : chLeft m (.done b) l = l := by cases l <;> rfl
theorem chLeft_cons (m : Int) (σ : ChS) (c : UInt8) (l : List UInt8) (h : σ.isDone = false) : chLeft m σ (c :: l) = chLeft m (σ.step m c) l := by
  cases σ <;> first | rfl | cases h
theorem chLeft_err (m e : Int) : ∀ l, chLeft m (.err e) l = []
  | [] => rfl
  | _ :: l => chLeft_err m e l
/-- Bytes in two parts: what the first part leaves, and what comes of the second. -/
theorem chLeft_app (m : Int) : ∀ (a : List UInt8) (σ : ChS) (b : List UInt8), (chRun m σ a).isDone = false → chLeft m σ (a ++ b) = chLeft m (chRun m σ a) b
  | [], _, _, _ => rfl
  | c :: a, σ, b, h => by
    have hs : σ.isDone = false := by
      cases hσ : σ with
      | done x => rw [hσ, chRun_done] at h; cases h
      | _ => rfl
    rw [List.cons_append, chLeft_cons m σ c (a ++ b) hs]
    exact chLeft_app m a (σ.step m c) b h
theorem chLeft_undone (m : Int) : ∀ (l : List UInt8) (σ : ChS), (chRun m σ l).isDone = false → chLeft m σ l = []
  | [], σ, _ => chLeft_nil m σ
  | c :: l, σ, h => by
    have hs : σ.isDone = false := by
      cases hσ : σ with
      | done x => rw [hσ, chRun_done] at h; cases h
      | _ => rfl
    rw [chLeft_cons m σ c l hs]
    exact chLeft_undone m l _ h
theorem chLeft_length (m : Int) : ∀ (l : List UInt8) (σ : ChS), (chLeft m σ l).length ≤ l.length
  | [], σ => by rw [chLeft_nil]; exact Nat.le_refl _
  | c :: l, σ => by
    cases hd : σ.isDone with
    | true =>
      cases σ with
      | done b => rw [chLeft_done]; exact Nat.le_refl _
      | _ => cases hd
    | false =>
      rw [chLeft_cons m σ c l hd]
      exact Nat.le_trans (chLeft_length m l _) (by simp)

/-- Digits of a size. -/
theorem run_digits (m : Int) (b : List UInt8) : ∀ (ds d0 : List UInt8), ds.all isHex = true → d0.length + ds.length ≤ 8 → chRun m (.size d0 b) ds = .size (d0 ++ ds) b
  | [], d0, _, _ => by rw [chRun_nil, List.append_nil]
  | c :: ds, d0, h, hl => by
    rw [List.all_cons, Bool.and_eq_true] at h
    rw [List.length_cons] at hl
    have hs : ChS.step m (.size d0 b) c = .size (d0 ++ [c]) b := by
      simp only [ChS.step]
      rw [if_pos ⟨h.1, by omega⟩]
    rw [chRun_cons, hs, run_digits m b ds (d0 ++ [c]) h.2 (by rw [List.length_append, List.length_singleton]; omega)]
    simp
/-- A chunk's bytes. -/
theorem run_data (m : Int) : ∀ (l : List UInt8) (k : Nat) (b : List UInt8), l.length ≤ k → 0 < k → chRun m (.data k b) l = if l.length = k then .end0 false (b ++ l) else .data (k - l.length) (b ++ l)
  | [], k, b, _, hk => by
    rw [chRun_nil, if_neg (by simp; omega), List.append_nil]; rfl
  | c :: l, k, b, hl, hk => by
    rw [List.length_cons] at hl
    rw [chRun_cons]
    by_cases h1 : k ≤ 1
    · have hs : ChS.step m (.data k b) c = .end0 false (b ++ [c]) := by simp only [ChS.step]; rw [if_pos h1]
      have hln : l = [] := List.eq_nil_of_length_eq_zero (by omega)
      subst hln
      rw [hs, chRun_nil, if_pos (by simp; omega)]
    · have hs : ChS.step m (.data k b) c = .data (k - 1) (b ++ [c]) := by simp only [ChS.step]; rw [if_neg h1]
      rw [hs, run_data m l (k - 1) (b ++ [c]) (by omega) (by omega)]
      rw [List.append_assoc, List.singleton_append, List.length_cons]
      by_cases h2 : l.length = k - 1
      · rw [if_pos h2, if_pos (by omega)]
      · rw [if_neg h2, if_neg (by omega)]
        congr 1
        omega
/-- How many of the bytes 13 and 10 stand there; -1: another byte. -/
def crlfL : List UInt8 → Int
  | [] => 0
  | [c] => if c = 13 then 1 else -1
  | c :: d :: _ => if c = 13 then (if d = 10 then 2 else -1) else -1
/-- What comes of bytes: body, how many were taken, done, the error's number. -/
def tookS (l : List UInt8) (σ : ChS) (left : List UInt8) : List UInt8 × Nat × Bool × Int := match σ with
  | .err e => ([], 0, false, e)
  | .done b => (b, l.length - left.length, true, 0)
  | σ => (σ.body, l.length, false, 0)
def tookL (m : Int) (l : List UInt8) : List UInt8 × Nat × Bool × Int := tookS l (chRun m (.size [] []) l) (chLeft m (.size [] []) l)
/-- Ahead of a chunk: so many bytes were taken, and this is the body. -/
def AtChunk (m : Int) (l : List UInt8) (k : Nat) (b : List UInt8) : Prop := k ≤ l.length ∧ chRun m (.size [] []) (l.take k) = .size [] b
theorem at_start (m : Int) (l : List UInt8) : AtChunk m l 0 [] := ⟨Nat.zero_le _, rfl⟩
theorem at_run {m : Int} {l : List UInt8} {k : Nat} {b : List UInt8} (h : AtChunk m l k b) : chRun m (.size [] []) l = chRun m (.size [] b) (l.drop k) ∧ chLeft m (.size [] []) l = chLeft m (.size [] b) (l.drop k) := by
  have e : l = l.take k ++ l.drop k := (List.take_append_drop k l).symm
  constructor
  · conv => lhs; rw [e]
    rw [chRun_app, h.2]
  · conv => lhs; rw [e]
    rw [chLeft_app m _ _ _ (by rw [h.2]; rfl), h.2]
theorem took_part {m : Int} {l : List UInt8} {σ : ChS} (h : chRun m (.size [] []) l = σ) (hd : σ.isDone = false) (he : ∀ e, σ ≠ .err e) : tookL m l = (σ.body, l.length, false, 0) := by
  unfold tookL
  rw [h]
  cases σ with
  | done b => cases hd
  | err e => exact absurd rfl (he e)
  | _ => rfl
theorem took_err {m : Int} {l : List UInt8} {e : Int} (h : chRun m (.size [] []) l = .err e) : tookL m l = ([], 0, false, e) := by
  unfold tookL
  rw [h]; rfl
/-- The ways of the reference, from ahead of a chunk on: ds are the digits, r what is behind them. -/
theorem took_digits {m : Int} {l : List UInt8} {k : Nat} {b ds : List UInt8} (h : AtChunk m l k b) (hl : l.drop k = ds) (hx : ds.all isHex = true) (h8 : ds.length ≤ 8) : tookL m l = (b, l.length, false, 0) := by
  refine took_part (σ := .size ds b) ?_ rfl (fun e h => by cases h)
  rw [(at_run h).1, hl, run_digits m b ds [] hx (by simpa using h8)]
  rfl
theorem took_nodigit {m : Int} {l : List UInt8} {k : Nat} {b : List UInt8} {c : UInt8} {r : List UInt8} (h : AtChunk m l k b) (hl : l.drop k = c :: r) (hx : isHex c = false) : tookL m l = ([], 0, false, 2) := by
  refine took_err ?_
  rw [(at_run h).1, hl, chRun_cons]
  have hs : ChS.step m (.size [] b) c = .err 2 := by
    simp only [ChS.step]
    rw [if_neg (by rw [hx]; simp), if_neg (by simp)]
  rw [hs, chRun_err]
/-- The digits of a size end: eight, or another byte stands there. -/
def DigEnd (ds r : List UInt8) : Prop := ds.all isHex = true ∧ ds.length ≤ 8 ∧ ds ≠ [] ∧ (ds.length = 8 ∨ ∃ c t, r = c :: t ∧ isHex c = false)
theorem step_dig {m : Int} {b ds : List UInt8} {c : UInt8} {t : List UInt8} (h : DigEnd ds (c :: t)) : ChS.step m (.size ds b) c = if c = 13 then .sizeLF ds b else .err 2 := by
  simp only [ChS.step]
  rw [if_neg]
  · by_cases h13 : c = 13
    · rw [if_pos ⟨h.2.2.1, h13⟩, if_pos h13]
    · rw [if_neg (fun hh => h13 hh.2), if_neg h13]
  · rintro ⟨h1, h2⟩
    rcases h.2.2.2 with h8 | ⟨c', t', he, hx⟩
    · omega
    · injection he with e1 e2
      subst e1
      rw [hx] at h1; cases h1
theorem took_size {m : Int} {l : List UInt8} {k : Nat} {b ds r : List UInt8} (h : AtChunk m l k b) (hl : l.drop k = ds ++ r) (hd : DigEnd ds r) (hr : r ≠ []) :
    (crlfL r = -1 → tookL m l = ([], 0, false, 2)) ∧ (crlfL r = 1 → tookL m l = (b, l.length, false, 0)) ∧ crlfL r ≠ 0 := by
  have h1 : chRun m (.size [] []) l = chRun m (.size ds b) r := by
    rw [(at_run h).1, hl, chRun_app, run_digits m b ds [] hd.1 (by simpa using hd.2.1)]
    rfl
  match r, hr, hd with
  | [c], _, hd =>
    simp only [crlfL]
    rw [chRun_cons, step_dig hd] at h1
    by_cases h13 : c = 13
    · rw [if_pos h13] at h1 ⊢
      exact ⟨fun h => by omega, fun _ => took_part h1 rfl (fun e h => by cases h), by omega⟩
    · rw [if_neg h13] at h1 ⊢
      exact ⟨fun _ => took_err h1, fun h => by omega, by omega⟩
  | c :: d :: t, _, hd =>
    simp only [crlfL]
    rw [chRun_cons, step_dig hd] at h1
    by_cases h13 : c = 13
    · rw [if_pos h13] at h1 ⊢
      by_cases h10 : d = 10
      · rw [if_pos h10]
        exact ⟨fun h => by omega, fun h => by omega, by omega⟩
      · rw [if_neg h10]
        rw [chRun_cons] at h1
        have hs : ChS.step m (.sizeLF ds b) d = .err 2 := by simp only [ChS.step]; rw [if_neg h10]
        rw [hs, chRun_err] at h1
        exact ⟨fun _ => took_err h1, fun h => by omega, by omega⟩
    · rw [if_neg h13] at h1 ⊢
      rw [chRun_err] at h1
      exact ⟨fun _ => took_err h1, fun h => by omega, by omega⟩
theorem crlf_two {r : List UInt8} (h : crlfL r = 2) : ∃ t, r = 13 :: 10 :: t := by
  match r with
  | [] => cases h
  | [c] => simp only [crlfL] at h; split at h <;> omega
  | c :: d :: t =>
    simp only [crlfL] at h
    split at h
    · split at h
      · rename_i e1 e2; subst e1 e2; exact ⟨t, rfl⟩
      · omega
    · omega
/-- Behind a size. -/
def sizeSt (m : Int) (ds b : List UInt8) : ChS := if numD 16 ds > m - b.length then .err 3 else if numD 16 ds = 0 then .end0 true b else .data (numD 16 ds).toNat b
theorem run_sized {m : Int} {l : List UInt8} {k : Nat} {b ds t : List UInt8} (h : AtChunk m l k b) (hl : l.drop k = ds ++ 13 :: 10 :: t) (hd : DigEnd ds (13 :: 10 :: t)) :
    chRun m (.size [] []) l = chRun m (sizeSt m ds b) t ∧ ((sizeSt m ds b).isDone = false ∧ chLeft m (.size [] []) l = chLeft m (sizeSt m ds b) t) := by
  have hq : chRun m (.size [] b) (ds ++ [13, 10]) = sizeSt m ds b := by
    rw [chRun_app, run_digits m b ds [] hd.1 (by simpa using hd.2.1), List.nil_append, chRun_cons, step_dig hd, if_pos rfl, chRun_cons, chRun_nil]
    show ChS.step m (.sizeLF ds b) 10 = _
    simp only [ChS.step]
    rw [if_pos trivial]
    rfl
  have hnd : (sizeSt m ds b).isDone = false := by
    unfold sizeSt
    split
    · rfl
    · split <;> rfl
  have e : ds ++ 13 :: 10 :: t = (ds ++ [13, 10]) ++ t := by simp
  obtain ⟨r1, r2⟩ := at_run h
  rw [hl, e] at r1 r2
  refine ⟨?_, hnd, ?_⟩
  · rw [r1, chRun_app, hq]
  · rw [r2, chLeft_app m _ _ _ (by rw [hq]; exact hnd), hq]
theorem took_big {m : Int} {l : List UInt8} {k : Nat} {b ds t : List UInt8} (h : AtChunk m l k b) (hl : l.drop k = ds ++ 13 :: 10 :: t) (hd : DigEnd ds (13 :: 10 :: t)) (hn : numD 16 ds > m - b.length) : tookL m l = ([], 0, false, 3) := by
  refine took_err ?_
  rw [(run_sized h hl hd).1]
  unfold sizeSt
  rw [if_pos hn, chRun_err]
theorem took_less {m : Int} {l : List UInt8} {k : Nat} {b ds t : List UInt8} (h : AtChunk m l k b) (hl : l.drop k = ds ++ 13 :: 10 :: t) (hd : DigEnd ds (13 :: 10 :: t)) (hn : ¬ numD 16 ds > m - b.length) (N : Nat) (hN : numD 16 ds = (N : Int)) (hlt : t.length < N) :
    tookL m l = (b ++ t, l.length, false, 0) := by
  refine took_part (σ := .data (N - t.length) (b ++ t)) ?_ rfl (fun e h => by cases h)
  rw [(run_sized h hl hd).1]
  unfold sizeSt
  rw [if_neg hn, if_neg (by omega), hN, Int.toNat_natCast, run_data m t N b (by omega) (by omega), if_neg (by omega)]
/-- Behind a chunk's bytes: x are its bytes, y what is behind them. -/
theorem run_bytes {m : Int} {l : List UInt8} {k : Nat} {b ds x y : List UInt8} (h : AtChunk m l k b) (hl : l.drop k = ds ++ 13 :: 10 :: (x ++ y)) (hd : DigEnd ds (13 :: 10 :: (x ++ y))) (hn : ¬ numD 16 ds > m - b.length) (N : Nat) (hN : numD 16 ds = (N : Int)) (hx : x.length = N) :
    chRun m (.size [] []) l = chRun m (.end0 (decide (N = 0)) (b ++ x)) y ∧ chLeft m (.size [] []) l = chLeft m (.end0 (decide (N = 0)) (b ++ x)) y := by
  obtain ⟨r1, hnd, r2⟩ := run_sized h hl hd
  have hq : chRun m (sizeSt m ds b) x = .end0 (decide (N = 0)) (b ++ x) := by
    unfold sizeSt
    rw [if_neg hn]
    by_cases h0 : N = 0
    · subst h0
      have hxe : x = [] := List.eq_nil_of_length_eq_zero hx
      subst hxe
      rw [if_pos (by omega), chRun_nil, List.append_nil]
      rfl
    · rw [if_neg (by omega), hN, Int.toNat_natCast, run_data m x N b (by omega) (by omega), if_pos hx, decide_eq_false h0]
  constructor
  · rw [r1, chRun_app, hq]
  · rw [r2, chLeft_app m _ _ _ (by rw [hq]; rfl), hq]
theorem took_end {m : Int} {l : List UInt8} {z : Bool} {b y : List UInt8} (h : chRun m (.size [] []) l = chRun m (.end0 z b) y) : (crlfL y = -1 → tookL m l = ([], 0, false, 2)) ∧ (crlfL y = 1 → tookL m l = (b, l.length, false, 0)) ∧ (crlfL y = 0 → tookL m l = (b, l.length, false, 0)) := by
  match y with
  | [] => exact ⟨fun h => absurd h (by decide), fun h => absurd h (by decide), fun _ => took_part h rfl (fun e h => nomatch h)⟩
  | [c] =>
    simp only [crlfL]
    rw [chRun_cons] at h
    by_cases h13 : c = 13
    · have hs : ChS.step m (.end0 z b) c = .end1 z b := by simp only [ChS.step]; rw [if_pos h13]
      rw [hs] at h
      rw [if_pos h13]
      exact ⟨fun h => by omega, fun _ => took_part h rfl (fun e h => by cases h), fun h => by omega⟩
    · have hs : ChS.step m (.end0 z b) c = .err 2 := by simp only [ChS.step]; rw [if_neg h13]
      rw [hs, chRun_err] at h
      rw [if_neg h13]
      exact ⟨fun _ => took_err h, fun h => by omega, fun h => by omega⟩
  | c :: d :: t =>
    simp only [crlfL]
    rw [chRun_cons] at h
    by_cases h13 : c = 13
    · have hs : ChS.step m (.end0 z b) c = .end1 z b := by simp only [ChS.step]; rw [if_pos h13]
      rw [hs, chRun_cons] at h
      rw [if_pos h13]
      by_cases h10 : d = 10
      · rw [if_pos h10]
        exact ⟨fun h => by omega, fun h => by omega, fun h => by omega⟩
      · have hs2 : ChS.step m (.end1 z b) d = .err 2 := by simp only [ChS.step]; rw [if_neg h10]
        rw [hs2, chRun_err] at h
        rw [if_neg h10]
        exact ⟨fun _ => took_err h, fun h => by omega, fun h => by omega⟩
    · have hs : ChS.step m (.end0 z b) c = .err 2 := by simp only [ChS.step]; rw [if_neg h13]
      rw [hs, chRun_err] at h
      rw [if_neg h13]
      exact ⟨fun _ => took_err h, fun h => by omega, fun h => by omega⟩
/-- A chunk is whole: the next one begins. -/
theorem at_next {m : Int} {l : List UInt8} {k : Nat} {b ds x t : List UInt8} (h : AtChunk m l k b) (hl : l.drop k = ds ++ 13 :: 10 :: (x ++ 13 :: 10 :: t)) (hd : DigEnd ds (13 :: 10 :: (x ++ 13 :: 10 :: t))) (hn : ¬ numD 16 ds > m - b.length) (N : Nat) (hN : numD 16 ds = (N : Int)) (hx : x.length = N) (h0 : N ≠ 0) :
    AtChunk m l (k + ds.length + 2 + N + 2) (b ++ x) := by
  have hlen : (l.drop k).length = ds.length + 2 + N + 2 + t.length := by rw [hl]; simp; omega
  rw [List.length_drop] at hlen
  refine ⟨by omega, ?_⟩
  have htk : l.take (k + ds.length + 2 + N + 2) = l.take k ++ (ds ++ 13 :: 10 :: (x ++ [13, 10])) := by
    have e1 : k + ds.length + 2 + N + 2 = k + (ds.length + 2 + N + 2) := by omega
    rw [e1, List.take_add, hl]
    congr 1
    have e2 : ds ++ 13 :: 10 :: (x ++ 13 :: 10 :: t) = (ds ++ 13 :: 10 :: (x ++ [13, 10])) ++ t := by simp
    have e3 : ds.length + 2 + N + 2 = (ds ++ 13 :: 10 :: (x ++ [13, 10])).length := by simp; omega
    rw [e2, e3, List.take_left' rfl]
  rw [htk, chRun_app, h.2, chRun_app, run_digits m b ds [] hd.1 (by simpa using hd.2.1), List.nil_append, chRun_cons, step_dig hd, if_pos rfl, chRun_cons]
  have hs : ChS.step m (.sizeLF ds b) 10 = .data N b := by
    simp only [ChS.step]
    rw [if_pos trivial, if_neg hn, if_neg (by omega), hN, Int.toNat_natCast]
  rw [hs, chRun_app, run_data m x N b (by omega) (by omega), if_pos hx]
  rfl
/-- The last chunk is whole. -/
theorem took_done {m : Int} {l : List UInt8} {b y t : List UInt8} (h : chRun m (.size [] []) l = chRun m (.end0 true b) y ∧ chLeft m (.size [] []) l = chLeft m (.end0 true b) y) (hy : y = 13 :: 10 :: t) : tookL m l = (b, l.length - t.length, true, 0) := by
  subst hy
  have h1 : chRun m (.end0 true b) (13 :: 10 :: t) = .done b := chRun_done m b t
  have h2 : chLeft m (.end0 true b) (13 :: 10 :: t) = t := chLeft_done m b t
  unfold tookL
  rw [h.1, h.2, h1, h2]; rfl
end Go.Proofs.YtchpgdoidpllgaaDoor
