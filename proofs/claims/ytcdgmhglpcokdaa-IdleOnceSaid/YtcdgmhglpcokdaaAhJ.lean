/- agenda's queue in memory, and Swap of it (written by genagj.py). -/
import Derived.Test.YtcdgmhglpcokdaaAhH
import Derived.Test.YtcdgmhglpcokdaaAgM
namespace Go.Proofs.Ytcdgmhglpcokdaa
open Go.RowKit

/-- An item: its block, key, tick and turn. -/
structure It where
  b : Nat
  k : Value
  a : Int
  t : Int
def itR (e : It) (i : Nat) : Array Value := #[e.k, .int .i64 e.a, .int .i64 e.t, .int .i64 (i : Int)]
def ptI (e : It) : Value := .pointer (some ⟨e.b, 0, none⟩)
theorem itR_put (e : It) (i j : Nat) : (itR e i).setIfInBounds 3 (.int .i64 (j : Int)) = itR e j := rfl
/-- A queue of n items in the row g; PT, IT: the types of its elements and of the items. -/
structure QAt (PT IT : TypeId) (w : World) (g c : Nat) (Q : Nat → It) (n : Nat) : Prop where
  row : ∃ cs, Row w g PT cs ∧ cs.size = c ∧ ∀ i, i < n → cs[i]? = some (ptI (Q i))
  it : ∀ i, i < n → Row w (Q i).b IT (itR (Q i) i)
  inj : ∀ i, i < n → ∀ j, j < n → (Q i).b = (Q j).b → i = j
theorem row_apart {w : World} {g h : Nat} {T U : TypeId} {cs ds : Array Value} (h1 : Row w g T cs) (h2 : Row w h U ds) (hne : T ≠ U) : g ≠ h := fun e => by
  subst e
  unfold Row at h1 h2
  rw [h1] at h2
  injection h2 with h
  injection h with _ h
  exact hne h
/-- The four stores of a Swap. -/
theorem QAt.swap {PT IT : TypeId} {w : World} {g c n : Nat} {Q : Nat → It} (h : QAt PT IT w g c Q n) (hne : PT ≠ IT) {i j : Nat} (hi : i < n) (hj : j < n) (hij : i ≠ j) :
    QAt PT IT ((((w.setCell ⟨g, i, none⟩ (ptI (Q j))).setCell ⟨g, j, none⟩ (ptI (Q i))).setCell ⟨(Q j).b, 3, none⟩ (.int .i64 (i : Int))).setCell ⟨(Q i).b, 3, none⟩ (.int .i64 (j : Int))).drew.drew g c (swp Q i j) n := by
  obtain ⟨⟨cs, hr, hsz, hc⟩, hit, hinj⟩ := h
  have hga : ∀ k, k < n → g ≠ (Q k).b := fun k hk => row_apart hr (hit k hk) hne
  have hbb : ∀ k, k < n → ∀ l, l < n → k ≠ l → (Q k).b ≠ (Q l).b := fun k hk l hl hkl e => hkl (hinj k hk l hl e)
  have hb : ∀ k, (swp Q i j k).b = if k = i then (Q j).b else if k = j then (Q i).b else (Q k).b := fun k => by
    unfold swp
    by_cases h1 : k = i
    · rw [if_pos h1, if_pos h1]
    · rw [if_neg h1, if_neg h1]
      by_cases h2 : k = j
      · rw [if_pos h2, if_pos h2]
      · rw [if_neg h2, if_neg h2]
  refine ⟨⟨(cs.setIfInBounds i (ptI (Q j))).setIfInBounds j (ptI (Q i)), ?_, by simpa using hsz, fun k hk => ?_⟩, fun k hk => ?_, fun k hk l hl e => ?_⟩
  · exact (((((hr.put i _).put j _).far (hga j hj) _).far (hga i hi) _).drew).drew
  · have hki := hc i hi
    have hkj := hc j hj
    have hkk := hc k hk
    have hsi : i < cs.size := (Array.getElem?_eq_some_iff.1 hki).1
    have hsj : j < cs.size := (Array.getElem?_eq_some_iff.1 hkj).1
    by_cases h2 : k = j
    · subst h2
      rw [swp_b, Array.getElem?_setIfInBounds_self_of_lt (by simpa using hsj)]
    · rw [Array.getElem?_setIfInBounds_ne (fun e => h2 e.symm)]
      by_cases h1 : k = i
      · subst h1
        rw [swp_a, Array.getElem?_setIfInBounds_self_of_lt hsi]
      · rw [Array.getElem?_setIfInBounds_ne (fun e => h1 e.symm), swp_o Q h1 h2]
        exact hkk
  · by_cases h1 : k = i
    · subst h1
      rw [swp_a]
      have h9 := ((((hit j hj).far (p := ⟨g, k, none⟩) (Ne.symm (hga j hj)) (ptI (Q j))).far (p := ⟨g, j, none⟩) (Ne.symm (hga j hj)) (ptI (Q k))).put 3 (.int .i64 (k : Int)))
      rw [itR_put] at h9
      exact (h9.far (p := ⟨(Q k).b, 3, none⟩) (hbb j hj k hk (Ne.symm hij)) (.int .i64 (j : Int))).drew.drew
    · by_cases h2 : k = j
      · subst h2
        rw [swp_b]
        have h9 := (((((hit i hi).far (p := ⟨g, i, none⟩) (Ne.symm (hga i hi)) (ptI (Q k))).far (p := ⟨g, k, none⟩) (Ne.symm (hga i hi)) (ptI (Q i))).far (p := ⟨(Q k).b, 3, none⟩) (hbb i hi k hk hij) (.int .i64 (i : Int))).put 3 (.int .i64 (k : Int)))
        rw [itR_put] at h9
        exact h9.drew.drew
      · rw [swp_o Q h1 h2]
        exact (((((hit k hk).far (Ne.symm (hga k hk)) _).far (Ne.symm (hga k hk)) _).far (hbb k hk j hj h2) _).far (hbb k hk i hi h1) _)
  · have hs : ∀ k, k < n → ∃ s, s < n ∧ swp Q i j k = Q s ∧ (k = i → s = j) ∧ (k = j → s = i) ∧ (k ≠ i → k ≠ j → s = k) := fun k hk => by
      by_cases h1 : k = i
      · exact ⟨j, hj, by rw [h1, swp_a], fun _ => rfl, fun e => absurd (h1.symm.trans e) hij, fun e => absurd h1 e⟩
      · by_cases h2 : k = j
        · exact ⟨i, hi, by rw [h2, swp_b], fun e => absurd e h1, fun _ => rfl, fun _ e => absurd h2 e⟩
        · exact ⟨k, hk, swp_o Q h1 h2, fun e => absurd e h1, fun e => absurd e h2, fun _ _ => rfl⟩
    obtain ⟨s, hs1, hs2, hs3, hs4, hs5⟩ := hs k hk
    obtain ⟨u, hu1, hu2, hu3, hu4, hu5⟩ := hs l hl
    rw [hs2, hu2] at e
    have hsu := hinj s hs1 u hu1 e
    clear hr hc hsz hit hinj hga hbb hb e hs hs2 hu2
    by_cases h1 : k = i
    · have := hs3 h1
      by_cases h2 : l = i
      · omega
      · by_cases h3 : l = j
        · have := hu4 h3; omega
        · have := hu5 h2 h3; omega
    · by_cases h4 : k = j
      · have := hs4 h4
        by_cases h2 : l = i
        · have := hu3 h2; omega
        · by_cases h3 : l = j
          · omega
          · have := hu5 h2 h3; omega
      · have := hs5 h1 h4
        by_cases h2 : l = i
        · have := hu3 h2; omega
        · by_cases h3 : l = j
          · have := hu4 h3; omega
          · have := hu5 h2 h3; omega
end Go.Proofs.Ytcdgmhglpcokdaa
