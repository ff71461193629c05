/- The program's Keep: the closure, and maps.DeleteFunc. -/
import Derived.Test.YtcmjcpgfnkhnoaaRpD
import Derived.Shelf.Lay
import Derived.Shelf.SlMaps.DeleteFunc
namespace Go.Proofs
open Go.Shelf
shelf_lay_g SlLaysDf.n5 Slmd 5 at Try 32 as Try.delRp
end Go.Proofs
namespace Go.Proofs.Ytcmjcpgfnkhnoaa
open Go.RowKit Go.Maps Go.Shelf

theorem keyStr {key : Value} {kl : Lit} (h : keyOf Try.prog 9 key = some kl) : ∃ s : ByteArray, key = .string s ∧ s.size ≤ maxLen ∧ kl = .string s.data.toList := by
  cases key <;> simp [keyOf, Try.underlying9, mapKey] at h
  obtain ⟨h1, h2⟩ := h
  exact ⟨_, rfl, h1, h2.symm⟩
/-- What goes: the names that are not kept. -/
def pdK (p : ByteArray → Bool) : Lit → DataW Unit → Bool
  | .string l, _ => !p ⟨⟨l⟩⟩
  | _, _ => false
theorem keep_reads {D : DataW Unit} {f : ByteArray → Int} (hD : IsMap D) (r : ∀ s : ByteArray, D.atKey (.string s.data.toList) (.lit (.int .i64 0)) = .lit (.int .i64 (f s))) (p : ByteArray → Bool) (x : ByteArray) :
    (Lib.deleteFuncD (pdK p) D).atKey (.string x.data.toList) (.lit (.int .i64 0)) = .lit (.int .i64 (if p x = true then f x else 0)) := by
  obtain ⟨es, rfl⟩ := hD
  have hr := r x
  have hk : ∀ a : Lit × DataW Unit, a.1.sameKey (.string x.data.toList) = true → pdK p a.1 a.2 = !p x := by
    intro a ha
    have e := WideAt.sameKey_eq ha
    obtain ⟨a1, a2⟩ := a
    simp only at e
    subst e
    rfl
  simp only [Lib.deleteFuncD, DataW.atKey, List.find?_filter] at hr ⊢
  by_cases h : p x = true
  · have he : (fun a : Lit × DataW Unit => (decide ((!pdK p a.1 a.2) = true ∧ a.1.sameKey (.string x.data.toList) = true))) = fun a => a.1.sameKey (.string x.data.toList) := by
      funext a
      by_cases ha : a.1.sameKey (.string x.data.toList) = true
      · rw [hk a ha, h, ha]; rfl
      · simp [ha]
    rw [if_pos h, ← hr]
    first | rw [he] | (simp only [Bool.decide_and, Bool.decide_eq_true] at he ⊢; rw [he])
  · have he : es.find? (fun a : Lit × DataW Unit => (decide ((!pdK p a.1 a.2) = true ∧ a.1.sameKey (.string x.data.toList) = true))) = none := by
      rw [List.find?_eq_none]
      intro a _ hc
      simp only [decide_eq_true_eq] at hc
      rw [hk a hc.2] at hc
      simp [h] at hc
    rw [if_neg h]
    first | rw [he] | (simp only [Bool.decide_and, Bool.decide_eq_true] at he ⊢; rw [he])
set_option maxHeartbeats 1000000 in
theorem closure33 (s : ByteArray) (hs : s.size ≤ maxLen) (v : Int) (bx kb n : Nat) (p : ByteArray → Bool) (W : World) (hx : W.cell? ⟨bx, 0, none⟩ = some (.map (some kb))) (hm : MapS W kb n p) :
    Calls Try.prog 33 (#[.string s, .int .i64 v] ++ #[.pointer (some ⟨bx, 0, none⟩)]) W fun e w' => e = .returned (.bool (!p s)) ∧ W.grownBy w' none := by
  have HM := Lib.hid hm
  clear hm
  go_enter Try.func33, Try.ntmps33
  go_wp2_with (at_lookup; refine wpl_seen _ rfl _ _ rfl kb n _ rfl HM.out s rfl hs ?_)
  go_ret
  exact ⟨rfl, World.grownBy_alloc W _ none⟩
end Go.Proofs.Ytcmjcpgfnkhnoaa
