/- Packed: EdL, FltsO. -/
import Derived.WideKeyArr2
import Derived.Deep.Slices
import Derived.Deep.MidRow
import Derived.WideKeyArgs
import Derived.DataReads
import Derived.Test.YtpjbdejgamajlabDoorG00
import Derived.Test.YtpjbdejgamajlabDoorG12
import Derived.Test.YtpjbdejgamajlabDoorG13
import Derived.Test.YtpjbdejgamajlabDoorG14
/- The law StewardEdges. -/
namespace Go.Proofs.YtpjbdejgamajlabDoor
open Go.RowKit

theorem lawStewardEdges (a1 : Option Addr) (c1 : Nat) (xs : List Nat) (hxl : xs.length ≤ 9223372036854775807) (a2 : Option Addr) (c2 : Nat) (ys : List Nat) (hyl : ys.length ≤ 9223372036854775807) (share : Nat) (hsh : share < 18446744073709551616) (W : World) (hx : IsFlts W a1 c1 xs) (hy : IsFlts W a2 c2 ys) (hP : PmAt W) (hT : P10At W) :
    Calls Tryd.prog 5 #[.slice a1 xs.length c1, .slice a2 ys.length c2, .float .f64 share] W fun e w' => e = .returned (.bool true) ∧ Below W.heap.size W w' := by
  by_cases h : xs.length ≤ 12
  · exact lawStewardEdges_a a1 c1 xs hxl a2 c2 ys hyl share hsh W hx hy (Lib.hid h) hP hT
  · exact lawStewardEdges_b a1 c1 xs hxl a2 c2 ys hyl share hsh W hx hy (Lib.hid (by omega)) hP hT
end Go.Proofs.YtpjbdejgamajlabDoor

/- A slice of floating-point numbers that is handed in. -/
namespace Go.Proofs.YtpjbdejgamajlabDoor
open Go.ChangeShapes Go.WideShapes Go.ChangeAt Go.RowKit

theorem trod_flt {H : Type} {enc : TypeId × Value → H} {P : Program} {w : World} {base : Nat} {spare : Nat → Bool} {held : Bool} {fuel : Nat} {t : TypeId} {cs : List Value} {x : DataW H × List MemPlace} {k : FloatKind} (ht : P.underlying t = some (.float k)) (h : DataW.trod enc P w base spare held fuel t cs = some x) :
    ∃ b, cs = [.float k b] ∧ (Lit.float k b).wf = true := by
  cases fuel with
  | zero => simp [DataW.trod] at h
  | succ n =>
    unfold DataW.trod at h
    rw [ht] at h
    split at h <;> simp_all
def fbits : Value → Nat
  | .float _ b => b
  | _ => 0
theorem flts_open {H : Type} {enc : TypeId × Value → H} {P : Program} {t e : TypeId} {W : World} {base : Nat} {held : Bool} (ht : P.underlying t = some (.slice e)) (he : P.underlying e = some (.float .f64)) (hc : P.cellsOf e = 1)
    {r : Reach} {b0 : Nat} {v : Value} {d : DataW H} {ps : List MemPlace} (hval : Value.okWide P W r b0 t v) (hd : DataW.Trod enc P W base (fun _ => true) held t v d ps) :
    ∃ a c xs, v = .slice a xs.length c ∧ IsFlts W a c xs ∧ xs.length ≤ maxLen := by
  obtain ⟨a, l, c, rfl⟩ := okWide_slice ht hval
  obtain ⟨fuel, hf⟩ := hd
  rcases Go.Deep.open_slice1 ht hc hf with ⟨hcs, _⟩ | ⟨a', l', c', m, n, V, D, Pl, hcs, _, hl, hm, hmm, _, hcell⟩
  · simp [Value.cells] at hcs
    obtain ⟨rfl, rfl, rfl⟩ := hcs
    exact ⟨none, 0, [], rfl, .inl rfl, by simp⟩
  · simp [Value.cells] at hcs
    obtain ⟨rfl, rfl, rfl⟩ := hcs
    simp only [if_true] at hmm
    have hx : ∀ i, i < l → W.cell? (a'.add i) = some (.float .f64 (fbits (V i))) ∧ fbits (V i) < 18446744073709551616 := by
      intro i hi
      obtain ⟨h1, h2⟩ := hcell i (by omega)
      obtain ⟨b, hb, hw⟩ := trod_flt he h2
      have hv : V i = .float .f64 b := by simpa using hb
      rw [hv] at h1 ⊢
      exact ⟨h1, by simpa [Lit.wf, fbits] using hw⟩
    have hlen : ((List.range l).map fun i => fbits (V i)).length = l := by simp
    refine ⟨some a', c, (List.range l).map fun i => fbits (V i), by rw [hlen], ?_, by rw [hlen]; omega⟩
    by_cases h0 : l = 0
    · left; rw [h0]; rfl
    · right
      have c0 := (hx 0 (by omega)).1
      have hs0 := World.cell?_spot c0
      have ha0 : a'.add 0 = a' := by simp [Addr.add]
      rw [ha0] at hs0 c0
      obtain ⟨bk, o, sp⟩ := a'
      simp only at hs0
      subst hs0
      refine ⟨bk, o, rfl, World.block_lt_of_cell? W _ c0, by rw [hlen]; exact hl, fun j x hj => ?_⟩
      have hjl : j < l := by
        rcases Nat.lt_or_ge j l with h | h
        · exact h
        · rw [List.getElem?_eq_none (by rw [hlen]; exact h)] at hj; cases hj
      obtain ⟨h1, h2⟩ := hx j hjl
      rw [Addr.add_mid] at h1
      simp [hjl] at hj
      rw [← hj]
      exact ⟨h1, h2⟩
end Go.Proofs.YtpjbdejgamajlabDoor

