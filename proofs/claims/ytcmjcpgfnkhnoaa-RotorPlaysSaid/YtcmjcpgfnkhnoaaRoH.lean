/- The fixed fact of the rotor's law: a a b a c a a. -/
import Derived.Test.YtcmjcpgfnkhnoaaRoG
namespace Go.Proofs.Ytcmjcpgfnkhnoaa
open Go.RowKit Go.Maps

def sA : ByteArray := ⟨#[97]⟩
def sB : ByteArray := ⟨#[98]⟩
def sC : ByteArray := ⟨#[99]⟩
/-- The three entries. -/
def aes : List Ent := [(sA, 5), (sB, 1), (sC, 1)]
/-- Marks of a, b, c. -/
def tri (x y z : Int) : ByteArray → Int := fun s => if s = sA then x else if s = sB then y else if s = sC then z else 0
def afs : Nat → ByteArray → Int
  | 0 => tri 0 0 0
  | 1 => tri (-2) 1 1
  | 2 => tri (-4) 2 2
  | 3 => tri 1 (-4) 3
  | 4 => tri (-1) (-3) 4
  | 5 => tri 4 (-2) (-2)
  | 6 => tri 2 (-1) (-1)
  | _ => tri 0 0 0
def ans : Nat → ByteArray
  | 0 => sA
  | 1 => sA
  | 2 => sB
  | 3 => sA
  | 4 => sC
  | 5 => sA
  | _ => sA
def ass : Nat → ByteArray
  | 0 => ⟨#[]⟩
  | 1 => ⟨#[97]⟩
  | 2 => ⟨#[97, 97]⟩
  | 3 => ⟨#[97, 97, 98]⟩
  | 4 => ⟨#[97, 97, 98, 97]⟩
  | 5 => ⟨#[97, 97, 98, 97, 99]⟩
  | 6 => ⟨#[97, 97, 98, 97, 99, 97]⟩
  | _ => ⟨#[97, 97, 98, 97, 99, 97, 97]⟩
theorem cnt_aes : cnt aes = aes := by decide +kernel
theorem aw_turn : ∀ j, j < 7 → turn (afs j) aes = ans j ∧ ass j ++ ans j = ass (j + 1) := by decide +kernel
theorem aw_size : ∀ j, j < 7 → (ass j).size ≤ 7 ∧ (ans j).size ≤ 7 := by decide +kernel
theorem aw_three (j : Nat) (hj : j < 7) : after (afs j) aes sA = afs (j + 1) sA ∧ after (afs j) aes sB = afs (j + 1) sB ∧ after (afs j) aes sC = afs (j + 1) sC := by
  have h : ∀ j, j < 7 → after (afs j) aes sA = afs (j + 1) sA ∧ after (afs j) aes sB = afs (j + 1) sB ∧ after (afs j) aes sC = afs (j + 1) sC := by decide +kernel
  exact h j hj
theorem afs_out (j : Nat) {s : ByteArray} (ha : s ≠ sA) (hb : s ≠ sB) (hc : s ≠ sC) : afs j s = 0 := by
  have h : ∀ x y z, tri x y z s = 0 := fun x y z => by unfold tri; rw [if_neg ha, if_neg hb, if_neg hc]
  unfold afs
  split <;> exact h _ _ _
theorem aw_after (j : Nat) (hj : j < 7) : after (afs j) aes = afs (j + 1) := by
  obtain ⟨h1, h2, h3⟩ := aw_three j hj
  funext s
  by_cases ha : s = sA
  · rw [ha]; exact h1
  by_cases hb : s = sB
  · rw [hb]; exact h2
  by_cases hc : s = sC
  · rw [hc]; exact h3
  rw [afs_out (j + 1) ha hb hc]
  have ht : s ≠ turn (afs j) aes := by
    obtain ⟨e, he, h⟩ := turn_mem (afs j) (E := aes) (by decide)
    rw [← h]
    simp only [aes, List.mem_cons, List.not_mem_nil, or_false] at he
    rcases he with rfl | rfl | rfl
    · exact ha
    · exact hb
    · exact hc
  unfold after
  rw [upd_other _ _ ht, addAll_other]
  · exact afs_out j ha hb hc
  · simp [hasE, aes, Ne.symm ha, Ne.symm hb, Ne.symm hc]
theorem afs_bound (j : Nat) (s : ByteArray) : -100 ≤ afs j s ∧ afs j s ≤ 100 := by
  unfold afs
  split <;> (unfold tri; split <;> (try split) <;> (try split) <;> omega)
theorem isEnts_three (w : World) (T : TypeId) : IsEnts (w.alloc (.cells #[.string sA, .int .i64 5, .string sB, .int .i64 1, .string sC, .int .i64 1] T)) (some ⟨w.heap.size, 0, none⟩) 3 aes := by
  refine .inr ⟨w.heap.size, 0, rfl, by simp, by decide, fun j e he => ?_⟩
  match j, he with
  | 0, he => simp [aes] at he; subst he; simp
  | 1, he => simp [aes] at he; subst he; simp
  | 2, he => simp [aes] at he; subst he; simp
  | j + 3, he => simp [aes] at he
set_option maxHeartbeats 4000000 in
set_option maxRecDepth 100000 in
theorem awake7 (w : World) : Calls Try.prog 7 #[] w fun e w' => e = .returned (.bool true) ∧ Below w.heap.size w w' := by
  have hnew := Lib.hid (new8 w)
  go_enter Try.func7, Try.ntmps7
  go_wp2_with (go_at_call 8; refine hnew.out.mono ?_; rintro e w1 ⟨rfl, hr, hb⟩)
  obtain ⟨rb, hrb⟩ : ∃ rb, rb = w.heap.size := ⟨_, rfl⟩
  rw [← hrb] at hr ⊢
  have HRB := Lib.hid hrb
  have HB := Lib.hid hb
  have HR := Lib.hid hr
  clear hrb hb hr hnew
  go_loopw [2, 8] (fun s i wr => ∃ j : Nat, j ≤ 7 ∧ i = .int .i64 (j : Int) ∧ s = .string (ass j) ∧ ∃ v n, n ≤ 100 * j ∧ Rot wr rb v n (afs j) ∧ Below rb w wr ∧ (∀ k, RG rb v k → rb ≤ k)) (fun _ i _ => 7 - (intOf i).toNat)
  case atStart =>
    refine ⟨0, by omega, rfl, rfl, none, 0, by omega, ?_, ?_, ?_⟩
    · have h : afs 0 = fun _ => 0 := by funext s; show tri 0 0 0 s = 0; unfold tri; split <;> (try split) <;> (try split) <;> rfl
      rw [h]; exact HR.out
    · rw [HRB.out]; exact HB.out
    · rintro k (h | h)
      · omega
      · cases h
  case round =>
    obtain ⟨j, hj, rfl, rfl, v, n, hn, hrot, hbl, hge⟩ := hrel
    by_cases hlt : j < 7
    · have j1 : (j : Int) < 7 := by omega
      have he := isEnts_three wr 57
      have hr2 := hrot.below (below_alloc wr (.cells #[.string sA, .int .i64 5, .string sB, .int .i64 1, .string sC, .int .i64 1] 57))
      obtain ⟨h1, h2⟩ := aw_turn j hlt
      have h3 := aw_after j hlt
      obtain ⟨z1, z2⟩ := aw_size j hlt
      have hp := pick15 rb v n (afs j) 100 (by omega) (afs_bound j) _ 3 aes (by decide) (by decide) (by decide) (by omega) _ hr2 he
      rw [cnt_aes, h1, h3] at hp
      have HP : Hid (Calls Try.prog 15 #[.pointer (some ⟨rb, 0, none⟩), .slice (some ⟨wr.heap.size, 0, none⟩) 3 3] (wr.alloc (.cells #[.string ⟨#[97]⟩, .int .i64 5, .string ⟨#[98]⟩, .int .i64 1, .string ⟨#[99]⟩, .int .i64 1] 57)) fun e w' => e = .returned (.tuple #[.string (ans j), .bool true]) ∧ PickPost rb v (n + 3 + 1) (afs (j + 1)) (wr.alloc (.cells #[.string sA, .int .i64 5, .string sB, .int .i64 1, .string sC, .int .i64 1] 57)) w') := hp
      have H2 := Lib.hid h2
      have HGE := Lib.hid hge
      have hsz := hbl.size
      have hrl := hrot.lt
      have HBL := Lib.hid (hbl.alloc (by omega) (.cells #[.string sA, .int .i64 5, .string sB, .int .i64 1, .string sC, .int .i64 1] 57))
      clear hp h1 h2 h3 he hr2 hrot hbl hge
      go_wp2_with (go_at_call 15; refine HP.out.mono ?_; rintro e w3 ⟨rfl, hp⟩)
      obtain ⟨v3, r3, k3, f3⟩ := hp
      go_roundw
      case rel =>
        refine ⟨j + 1, hlt, by go_num, by rw [← H2.out], v3, n + 3 + 1, by omega, r3, HBL.out.trans (k3.bel (fun k hk => HGE.out k hk) (by rw [World.size_alloc]; omega)), ?_⟩
        rintro k (hk | hk)
        · omega
        · rcases f3 with h | ⟨b, h, h'⟩
          · rw [h] at hk; exact HGE.out k (.inr hk)
          · rw [h] at hk; injection hk with hk; rw [World.size_alloc] at h'; omega
      case measure => simp [intOf]; omega
    · obtain rfl : j = 7 := by omega
      have h7 : ((ass 7).toList == [97, 97, 98, 97, 99, 97, 97]) = true := by decide +kernel
      go_wp2_with fail
      go_ret
      refine ⟨rfl, ?_⟩
      rw [HRB.out] at hbl; exact hbl
end Go.Proofs.Ytcmjcpgfnkhnoaa
