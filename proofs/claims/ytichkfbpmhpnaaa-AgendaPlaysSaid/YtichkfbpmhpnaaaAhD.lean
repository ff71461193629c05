/- An agenda of strings at any place beside the reference's list (written by genaho.py). -/
import Derived.Test.YtichkfbpmhpnaaaAhO
import Derived.Test.YtichkfbpmhpnaaaAhRd
import Derived.Test.YtichkfbpmhpnaaaCut
namespace Go.Proofs.Ytichkfbpmhpnaaa
open Go.RowKit Go.Maps
section PlV
variable {pl : Pl}
theorem cut8_ok (s : ByteArray) : KS.ok (cutS s 8) := by
  have := cutS_size s 8
  show (cutS s 8).size ≤ maxLen
  unfold maxLen; omega
section
variable (W : World) (ab n N : Nat) (sets : Int) (C : Value × Int × Int → Prop) (O : Nat → Prop) (L : List It4) (l : List RI) (k : ByteArray) (A : Int) (w : World)
/-- Set, beside the list. -/
theorem dset (hn : n ≤ 800) (hN : N ≤ 99999) (hs0 : 0 ≤ sets) (hs1 : sets ≤ 999999) (hk : KS.ok k) (ho : OrS pl 102 104 MPS W ab n N sets C O w) (hr : RelA l n sets C L) :
    Calls Try.prog 35 #[.pointer (some ⟨ab, pl.o, none⟩), .string k, .int .i64 A] w fun e w' => e = .returned (.tuple #[]) ∧ ∃ n' C' L', n' ≤ n + 1 ∧ OrS pl 102 104 MPS W ab n' (N + 1) (sets + 1) C' O w' ∧ RelA (setR l k A) n' (sets + 1) C' L' ∧ Keep (fun k => ¬ O k) w w' := by
  by_cases hp : ∃ e ∈ L, e.1 = k
  · obtain ⟨y, hy, hyk⟩ := hp
    have hl := drop4_key hr.key ⟨y, hy, hyk⟩
    rw [hr.len] at hl
    obtain ⟨n', rfl⟩ : ∃ n', n = n' + 1 := ⟨n - 1, by omega⟩
    refine (osetSb W w ab n' N sets C O ho (by omega) (by omega) hs0 (by omega) k hk A (v4 y) ((hr.mem _).2 ⟨y, hy, rfl⟩) (by unfold v4; rw [hyk])).mono ?_
    rintro e w' ⟨rfl, h, hkp⟩
    refine ⟨rfl, n' + 1, _, insL (k, clampA A, sets + 1) (dropL4 L k), by omega, h, ?_, hkp⟩
    rw [setR_eq]
    exact (hr.drop k (n' := n') (by omega)).put k (clampA A) (fun e he => (mem_dropL4.1 he).2)
  · have hp' : ∀ e ∈ L, e.1 ≠ k := fun e he h => hp ⟨e, he, h⟩
    obtain ⟨h1, h2⟩ := hr.noKey hp'
    refine (osetSa W w ab n N sets C O ho (by omega) (by omega) hs0 (by omega) k hk A h2).mono ?_
    rintro e w' ⟨rfl, h, hkp⟩
    refine ⟨rfl, n + 1, _, insL (k, clampA A, sets + 1) L, by omega, h, ?_, hkp⟩
    rw [setR_eq, show dropR l k = l by rw [hr.map, ← dropL4_map, h1]]
    exact hr.put k (clampA A) hp'
/-- Drop, beside the list. -/
theorem ddrop (hn : n ≤ 800) (hk : KS.ok k) (ho : OrS pl 102 104 MPS W ab n N sets C O w) (hr : RelA l n sets C L) :
    Calls Try.prog 40 #[.pointer (some ⟨ab, pl.o, none⟩), .string k] w fun e w' => e = .returned (.bool (decide ((dropR l k).length < l.length))) ∧ ∃ n' C' L', n' ≤ n ∧ OrS pl 102 104 MPS W ab n' N sets C' O w' ∧ RelA (dropR l k) n' sets C' L' ∧ Keep (fun k => ¬ O k) w w' := by
  have hdl : (dropR l k).length = (dropL4 L k).length := by rw [hr.map, ← dropL4_map, List.length_map]
  rw [hdl, hr.lenl]
  by_cases hp : ∃ e ∈ L, e.1 = k
  · obtain ⟨y, hy, hyk⟩ := hp
    have hl := drop4_key hr.key ⟨y, hy, hyk⟩
    rw [hr.len] at hl
    obtain ⟨n', rfl⟩ : ∃ n', n = n' + 1 := ⟨n - 1, by omega⟩
    refine (odropSb W w ab n' N sets C O ho (by omega) k hk (v4 y) ((hr.mem _).2 ⟨y, hy, rfl⟩) (by unfold v4; rw [hyk])).mono ?_
    rintro e w' ⟨rfl, h, hkp⟩
    refine ⟨by rw [decide_eq_true (by omega)], n', _, _, by omega, h, hr.drop k (by omega), hkp⟩
  · have hp' : ∀ e ∈ L, e.1 ≠ k := fun e he h => hp ⟨e, he, h⟩
    obtain ⟨h1, h2⟩ := hr.noKey hp'
    refine (odropSa W w ab n N sets C O ho k hk h2).mono ?_
    rintro e w' ⟨rfl, h, hkp⟩
    refine ⟨by rw [h1, hr.len, decide_eq_false (by omega)], n, C, L, by omega, h, ?_, hkp⟩
    rw [show dropR l k = l by rw [hr.map, ← dropL4_map, h1]]
    exact hr
/-- Pop, beside the list: nothing is due. -/
theorem dpopa (hn : n ≤ 800) (now : Int) (ho : OrS pl 102 104 MPS W ab n N sets C O w) (hr : RelA l n sets C L) (hl : ∀ x, l[0]? = some x → now < x.2) :
    Calls Try.prog 36 #[.pointer (some ⟨ab, pl.o, none⟩), .int .i64 now] w fun e w' => e = .returned (.tuple #[.string ⟨#[]⟩, .int .i64 0, .bool false]) ∧ w' = w := by
  refine opopSc W w ab n N sets C O ho (by omega) now (fun x hx => ?_)
  obtain ⟨y, hy, rfl⟩ := (hr.mem x).1 hx
  cases L with
  | nil => cases hy
  | cons e r =>
    have h0 := hl (f4 e) (by rw [hr.map]; rfl)
    have h0' : now < e.2.1 := h0
    show now < y.2.1
    rcases List.mem_cons.1 hy with rfl | hy
    · exact h0'
    · have := (List.pairwise_cons.1 hr.ord).1 y hy
      unfold lt4 at this
      omega
/-- Pop, beside the list: the first. -/
theorem dpopb (hn : n ≤ 800) (now : Int) (x : RI) (ho : OrS pl 102 104 MPS W ab n N sets C O w) (hr : RelA (x :: l) n sets C L) (hl : x.2 ≤ now) :
    Calls Try.prog 36 #[.pointer (some ⟨ab, pl.o, none⟩), .int .i64 now] w fun e w' => e = .returned (.tuple #[.string x.1, .int .i64 x.2, .bool true]) ∧ ∃ n' C' L', n' ≤ n ∧ OrS pl 102 104 MPS W ab n' N sets C' O w' ∧ RelA l n' sets C' L' ∧ Keep (fun k => ¬ O k) w w' := by
  cases L with
  | nil => have := hr.map; cases this
  | cons e r =>
    have hm := hr.map
    rw [List.map_cons] at hm
    injection hm with hm1 hm2
    obtain ⟨n', rfl⟩ : ∃ n', n = n' + 1 := ⟨n - 1, by have := hr.len; simp at this; omega⟩
    have hce : C (v4 e) := (hr.mem _).2 ⟨e, by simp, rfl⟩
    refine (opopSd W w ab n' N sets C O ho (by omega) now (v4 e) hce (by rw [hm1] at hl; exact hl)).mono ?_
    rintro e' w' ⟨k', y, hy, hyk, hle, rfl, h, hkp⟩
    have hye := hr.least hy hle
    subst hye
    unfold v4 at hyk
    injection hyk with hyk
    subst hyk
    obtain ⟨r', hr1, hr2⟩ := hr.pop
    injection hr1 with _ hr3
    subst hr3
    refine ⟨?_, n', _, _, by omega, h, hr2, hkp⟩
    rw [hm1]
    rfl
end
end PlV
end Go.Proofs.Ytichkfbpmhpnaaa
