/- probe: several results; Run; the fixed facts. -/
import Derived.Test.YtklfpnnnoaaiaaaPoC
import Derived.Test.YtklfpnnnoaaiaaaBoolsO
namespace Go.Proofs.Ytklfpnnnoaaiaaa
open Go.RowKit

/-- So many results, and how many changes. -/
def runN (p : Prb) (r f : Int) (l : List Bool) (now : Nat → Int) : Nat → Prb × Nat
  | 0 => (p, 0)
  | j + 1 => ((resP (runN p r f l now j).1 r f (l.getD j false) (now j)).1, if (resP (runN p r f l now j).1 r f (l.getD j false) (now j)).2 = true then (runN p r f l now j).2 + 1 else (runN p r f l now j).2)
theorem runN_le (p : Prb) (r f : Int) (l : List Bool) (now : Nat → Int) : ∀ j, (runN p r f l now j).2 ≤ j
  | 0 => Nat.le_refl _
  | j + 1 => by
    have := runN_le p r f l now j
    rw [runN]
    split
    · omega
    · omega
theorem runN_step {p : Prb} {r f : Int} {l : List Bool} {now : Nat → Int} {j : Nat} (h : j < l.length) : runN p r f l now (j + 1) = ((resP (runN p r f l now j).1 r f l[j] (now j)).1, if (resP (runN p r f l now j).1 r f l[j] (now j)).2 = true then (runN p r f l now j).2 + 1 else (runN p r f l now j).2) := by
  rw [runN, List.getD_eq_getElem?_getD, List.getElem?_eq_getElem h, Option.getD_some]
/-- Two probes that differ at most in their ticks. -/
def SameP (p q : Prb) : Prop := p.up = q.up ∧ p.g = q.g ∧ p.b = q.b
theorem resP_same {p q : Prb} (h : SameP p q) (r f : Int) (good : Bool) (m n : Int) : SameP (resP p r f good m).1 (resP q r f good n).1 ∧ (resP p r f good m).2 = (resP q r f good n).2 := by
  obtain ⟨u, g, b, s⟩ := p
  obtain ⟨u', g', b', s'⟩ := q
  obtain ⟨h1, h2, h3⟩ := h
  simp only at h1 h2 h3
  subst h1 h2 h3
  unfold resP
  split
  · unfold resG
    split
    · exact ⟨⟨rfl, rfl, rfl⟩, rfl⟩
    · split
      · exact ⟨⟨rfl, rfl, rfl⟩, rfl⟩
      · exact ⟨⟨rfl, rfl, rfl⟩, rfl⟩
  · unfold resB
    split
    · split
      · exact ⟨⟨rfl, rfl, rfl⟩, rfl⟩
      · exact ⟨⟨rfl, rfl, rfl⟩, rfl⟩
    · exact ⟨⟨rfl, rfl, rfl⟩, rfl⟩
theorem runN_same (p : Prb) (r f : Int) (l : List Bool) (m n : Nat → Int) : ∀ j, SameP (runN p r f l m j).1 (runN p r f l n j).1 ∧ (runN p r f l m j).2 = (runN p r f l n j).2
  | 0 => ⟨⟨rfl, rfl, rfl⟩, rfl⟩
  | j + 1 => by
    obtain ⟨h1, h2⟩ := runN_same p r f l m n j
    obtain ⟨h3, h4⟩ := resP_same h1 r f (l.getD j false) (m j) (n j)
    refine ⟨?_, ?_⟩
    · rw [runN, runN]; exact h3
    · rw [runN, runN, h4, h2]
theorem runN_take (p : Prb) (r f : Int) (l : List Bool) (now : Nat → Int) (k : Nat) : ∀ j, j ≤ k → runN p r f (l.take k) now j = runN p r f l now j
  | 0, _ => rfl
  | j + 1, h => by
    have ih := runN_take p r f l now k j (by omega)
    have e : (l.take k).getD j false = l.getD j false := by rw [List.getD_eq_getElem?_getD, List.getD_eq_getElem?_getD, List.getElem?_take, if_pos (by omega)]
    rw [runN, runN, ih, e]
theorem row4 {w : World} {g : Nat} {T : TypeId} {cs : Array Value} (h : Row w g T cs) (hs : cs.size = 4) (a b c d : Value) :
    Row ((((w.setCell ⟨g, 0, none⟩ a).setCell ⟨g, 1, none⟩ b).setCell ⟨g, 2, none⟩ c).setCell ⟨g, 3, none⟩ d) g T #[a, b, c, d] := by
  have h2 := (((h.put 0 a).put 1 b).put 2 c).put 3 d
  obtain ⟨l⟩ := cs
  match l, hs with
  | [x0, x1, x2, x3], _ => exact h2
theorem row4far {w : World} {g g' : Nat} {T : TypeId} {cs : Array Value} (h : Row w g T cs) (hg : g ≠ g') (a b c d : Value) :
    Row ((((w.setCell ⟨g', 0, none⟩ a).setCell ⟨g', 1, none⟩ b).setCell ⟨g', 2, none⟩ c).setCell ⟨g', 3, none⟩ d) g T cs :=
  (((h.far (p := ⟨g', 0, none⟩) hg a).far (p := ⟨g', 1, none⟩) hg b).far (p := ⟨g', 2, none⟩) hg c).far (p := ⟨g', 3, none⟩) hg d
theorem bel4 {w0 w : World} {B g : Nat} (h : Below B w0 w) (hg : B ≤ g) (a b c d : Value) :
    Below B w0 ((((w.setCell ⟨g, 0, none⟩ a).setCell ⟨g, 1, none⟩ b).setCell ⟨g, 2, none⟩ c).setCell ⟨g, 3, none⟩ d) :=
  (((h.setCell (p := ⟨g, 0, none⟩) hg a).setCell (p := ⟨g, 1, none⟩) hg b).setCell (p := ⟨g, 2, none⟩) hg c).setCell (p := ⟨g, 3, none⟩) hg d
/-- The value of a probe and a number of changes. -/
def runV (r : Prb × Nat) : Value := .tuple #[.agg #[.bool r.1.up, .int .i64 r.1.g, .int .i64 r.1.b, .int .i64 r.1.s], .int .i64 (r.2 : Nat)]
set_option maxRecDepth 100000 in
set_option maxHeartbeats 4000000 in
theorem runC (p : Prb) (c : Cfg) (now : Int) (a : Option Addr) (cap : Nat) (xs : List Bool) (hl : xs.length ≤ 1000000) (w : World) (hx : IsBools w a cap xs) :
    Calls Try.prog 19 #[prbV p, cfgV c, .int .i64 now, .slice a xs.length cap] w fun e w' => e = .returned (runV (runN p (limN c.r 1000) (limN c.f 1000) xs (fun _ => now) xs.length)) ∧ Below w.heap.size w w' := by
  obtain ⟨up, g, b, s⟩ := p
  obtain ⟨ce, cw, cr, cff⟩ := c
  unfold prbV cfgV
  simp only
  have HRC := Lib.hid (fun q good W => resultC q ⟨ce, cw, cr, cff⟩ good now W)
  unfold cfgV prbV at HRC
  simp only at HRC
  generalize limN cr 1000 = r' at *
  generalize limN cff 1000 = f' at *
  have HX := Lib.hid hx
  have HL := Lib.hid hl
  have HS0 := Lib.hid (Rs3.start w 45 48 #[.bool up, .int .i64 g, .int .i64 b, .int .i64 s] #[.int .i64 ce, .int .i64 cw, .int .i64 cr, .int .i64 cff] zP)
  unfold zP at HS0
  clear hx hl
  go_enter Try.func19, Try.ntmps19
  go_wp2_with fail
  go_loopw [10, 17] (fun n i wr => ∃ (j : Nat) (m : Nat) (q : Prb), j ≤ xs.length ∧ n = .int .i64 (m : Int) ∧ i = .int .i64 (j : Int) ∧ m ≤ j ∧ Hid ((q, m) = runN ⟨up, g, b, s⟩ r' f' xs (fun _ => now) j) ∧ Hid (Rs3 w wr 45 48 #[.bool q.up, .int .i64 q.g, .int .i64 q.b, .int .i64 q.s] #[.int .i64 ce, .int .i64 cw, .int .i64 cr, .int .i64 cff] #[.bool false, .int .i64 0, .int .i64 0, .int .i64 0])) (fun _ i _ => xs.length - (intOf i).toNat)
  case atStart => exact ⟨0, 0, ⟨up, g, b, s⟩, Nat.zero_le _, rfl, rfl, Nat.le_refl _, rfl, HS0⟩
  case round =>
    clear HS0
    obtain ⟨j, m, q, hj, rfl, rfl, hm, HQ, HS⟩ := hrel
    obtain ⟨p0, p1, p2, p3⟩ := pcell HS.out.a
    obtain ⟨k0, k1, k2, k3⟩ := pcell HS.out.b
    have hll := HL.out
    by_cases hlt : j < xs.length
    · obtain h0 | ⟨bk, o, rfl, hbk, hc, hcell⟩ := HX.out.below HS.out.bel
      · rw [h0] at hlt; simp at hlt
      have cx := hcell j _ (List.getElem?_eq_getElem hlt)
      have j1 : (j : Int) < xs.length := by omega
      have HST := Lib.hid (runN_step (p := ⟨up, g, b, s⟩) (r := r') (f := f') (now := fun _ => now) hlt)
      generalize xs[j] = x at *
      have HR := Lib.hid (HRC.out q x)
      have hR2 : Hid (((resP q r' f' x now).1, if (resP q r' f' x now).2 = true then m + 1 else m) = runN ⟨up, g, b, s⟩ r' f' xs (fun _ => now) (j + 1)) := by
        show _ = _
        rw [HST.out, ← HQ.out]
      clear HST HQ hcell
      unfold resV at HR
      generalize resP q r' f' x now = R at *
      obtain ⟨⟨u2, g2, b2, s2⟩, ch⟩ := R
      simp only at HR hR2
      go_wp2_with fail
      refine (HR.out _).mono ?_
      rintro e w1 ⟨rfl, hB1⟩
      have HS1 := Lib.hid (HS.out.below hB1)
      clear hB1 HS HR p0 p1 p2 p3 k0 k1 k2 k3 cx
      go_upto_region 6 with fail
      have hs2 := Rs3.below HS1.out (below_alloc w1 (.cells #[.bool u2, .int .i64 g2, .int .i64 b2, .int .i64 s2] 45))
      have hk := Row.new w1 45 #[.bool u2, .int .i64 g2, .int .i64 b2, .int .i64 s2]
      have hlt2 := HS1.out.a.lt
      have HS2 := Lib.hid hs2
      generalize w1.alloc (.cells #[.bool u2, .int .i64 g2, .int .i64 b2, .int .i64 s2] 45) = w2 at *
      generalize w1.heap.size = kb at *
      have n1 : ¬ w.heap.size = kb := by omega
      have n2 : ¬ kb = w.heap.size := by omega
      clear HS1 hs2 hlt2
      obtain ⟨p0, p1, p2, p3⟩ := pcell HS2.out.a
      obtain ⟨q0, q1, q2, q3⟩ := pcell hk
      have fa := HS2.out.a.free
      clear hk
      have HE : Hid (Rs3 w ((((w2.setCell ⟨w.heap.size, 0, none⟩ (.bool u2)).setCell ⟨w.heap.size, 1, none⟩ (.int .i64 g2)).setCell ⟨w.heap.size, 2, none⟩ (.int .i64 b2)).setCell ⟨w.heap.size, 3, none⟩ (.int .i64 s2)) 45 48 #[.bool u2, .int .i64 g2, .int .i64 b2, .int .i64 s2] #[.int .i64 ce, .int .i64 cw, .int .i64 cr, .int .i64 cff] #[.bool false, .int .i64 0, .int .i64 0, .int .i64 0]) :=
        ⟨bel4 HS2.out.bel (Nat.le_refl _) _ _ _ _, row4 HS2.out.a rfl _ _ _ _, row4far HS2.out.b (by omega) _ _ _ _, row4far HS2.out.c (by omega) _ _ _ _⟩
      clear HS2
      cases ch with
      | true =>
        go_wp2_with fail
        go_roundw
        case rel => exact ⟨j + 1, m + 1, ⟨u2, g2, b2, s2⟩, hlt, by go_num, by go_num, by omega, hR2, HE⟩
        case measure => simp [intOf]; omega
      | false =>
        go_wp2_with fail
        go_roundw
        case rel => exact ⟨j + 1, m, ⟨u2, g2, b2, s2⟩, hlt, rfl, by go_num, by omega, hR2, HE⟩
        case measure => simp [intOf]; omega
    · obtain rfl : j = xs.length := by omega
      have hne : ¬ (xs.length : Int) < xs.length := by omega
      obtain ⟨z0, z1, z2, z3⟩ := pcell HS.out.c
      have fc := HS.out.c.free
      have HV : Hid (runV (q, m) = runV (runN ⟨up, g, b, s⟩ r' f' xs (fun _ => now) xs.length)) := by show _ = _; rw [← HQ.out]
      obtain ⟨qu, qg, qb, qs⟩ := q
      have HB := Lib.hid HS.out.bel
      clear HQ HS
      simp only at p0 p1 p2 p3
      go_wp2_with fail
      refine bodyPost_ret (v := .tuple #[.agg #[.bool qu, .int .i64 qg, .int .i64 qb, .int .i64 qs], .int .i64 (m : Nat)]) (by simp [results, Try.results19, go_sem, z0, z1, z2, z3]) rfl ⟨by rw [← HV.out]; rfl, ?_⟩
      exact bel4 HB.out (by omega) _ _ _ _
end Go.Proofs.Ytklfpnnnoaaiaaa
