/- Candidates; choice.loads, choice.Least. -/
import Derived.Test.YtcmjcpgfnkhnoaaCaA
import Derived.Test.YtcmjcpgfnkhnoaaKeepN
namespace Go.Proofs.Ytcmjcpgfnkhnoaa
open Go.RowKit

/-- A candidate. -/
structure Cand where
  nm : ByteArray
  w : Int
  b : Int
  t : Nat
/-- Its weight and the number of its requests are small. -/
def Small (c : Cand) : Prop := 1 ≤ c.w ∧ c.w < 131072 ∧ 0 ≤ c.b ∧ c.b < 131071
def candV (c : Cand) : Value := .agg #[.string c.nm, .int .i64 c.w, .int .i64 c.b, .float .f64 c.t]
def cellsC (cs : List Cand) : List Value := cs.flatMap fun c => [.string c.nm, .int .i64 c.w, .int .i64 c.b, .float .f64 c.t]
theorem cellsC_append (a b : List Cand) : cellsC (a ++ b) = cellsC a ++ cellsC b := by simp [cellsC]
theorem cellsC_length (a : List Cand) : (cellsC a).length = a.length * 4 := by
  induction a with
  | nil => rfl
  | cons e a ih => simp [cellsC] at ih ⊢; omega
theorem cellsC_at : ∀ (cs : List Cand) (j : Nat) (c : Cand), cs[j]? = some c → (cellsC cs)[j * 4]? = some (.string c.nm) ∧ (cellsC cs)[j * 4 + 1]? = some (.int .i64 c.w) ∧ (cellsC cs)[j * 4 + 2]? = some (.int .i64 c.b) ∧ (cellsC cs)[j * 4 + 3]? = some (.float .f64 c.t)
  | [], j, e, h => by cases j <;> cases h
  | x :: es, 0, e, h => by
    simp at h; subst h
    exact ⟨rfl, rfl, rfl, rfl⟩
  | x :: es, j + 1, e, h => by
    have := cellsC_at es j e (by simpa using h)
    rw [show (j + 1) * 4 = j * 4 + 1 + 1 + 1 + 1 by omega]
    exact ⟨this.1, this.2.1, this.2.2.1, this.2.2.2⟩
/-- A slice that reads as these candidates. -/
def IsCands (w : World) (a : Option Addr) (c : Nat) (cs : List Cand) : Prop :=
  cs = [] ∨ ∃ bk o, a = some ⟨bk, o, none⟩ ∧ bk < w.heap.size ∧ cs.length ≤ c ∧ ∀ (j : Nat) e, cs[j]? = some e → w.cell? ⟨bk, o + j * 4, none⟩ = some (.string e.nm) ∧ w.cell? ⟨bk, o + j * 4 + 1, none⟩ = some (.int .i64 e.w) ∧ w.cell? ⟨bk, o + j * 4 + 2, none⟩ = some (.int .i64 e.b) ∧ w.cell? ⟨bk, o + j * 4 + 3, none⟩ = some (.float .f64 e.t)
theorem IsCands.below {w w' : World} {a : Option Addr} {c : Nat} {cs : List Cand} (h : IsCands w a c cs) (hb : Below w.heap.size w w') : IsCands w' a c cs := by
  obtain h | ⟨bk, o, ha, hlt, hc, hcell⟩ := h
  · exact .inl h
  · obtain ⟨hc', _⟩ := bcell hb
    exact .inr ⟨bk, o, ha, Nat.lt_of_lt_of_le hlt hb.size, hc, fun j f hf => by rw [hc' _ _ hlt, hc' _ _ hlt, hc' _ _ hlt, hc' _ _ hlt]; exact hcell j f hf⟩
theorem isCands_own {w : World} {base : Nat} {e : TypeId} {a : Option Addr} {m c : Nat} {cs : List Cand} (h : w.ownsRow base e 4 (.slice a m c) cs.length (cellsC cs)) : m = cs.length ∧ IsCands w a c cs := by
  obtain ⟨_, ⟨hv, h0⟩ | ⟨g, cap, cur, hv, hb, hg, hcap, _, hcs, htk⟩⟩ := h
  · injection hv with h1 h2 h3
    exact ⟨by omega, .inl (List.eq_nil_of_length_eq_zero h0)⟩
  · injection hv with h1 h2 h3
    have hlt : g < w.heap.size := (Array.getElem?_eq_some_iff.1 hg).1
    subst h1 h2 h3
    refine ⟨rfl, .inr ⟨g, 0, rfl, hlt, hcap, fun j e' he => ?_⟩⟩
    have hj : j < cs.length := by
      rcases Nat.lt_or_ge j cs.length with h | h
      · exact h
      · rw [List.getElem?_eq_none h] at he; cases he
    obtain ⟨q1, q2, q3, q4⟩ := cellsC_at cs j e' he
    rw [← htk, List.getElem?_take, if_pos (by omega)] at q1 q2 q3 q4
    rw [Nat.zero_add]
    refine ⟨?_, ?_, ?_, ?_⟩
    · simpa [World.cell?, hg] using q1
    · simpa [World.cell?, hg] using q2
    · simpa [World.cell?, hg] using q3
    · simpa [World.cell?, hg] using q4
theorem below_drewN {w w' : World} {B : Nat} (h : Below B w w') (n : Nat) : Below B w (w'.drewN n) := h.trans ⟨rfl, rfl, rfl, Nat.le_refl _, fun _ _ => rfl⟩
/-- A function gives each of these candidates a number of this place. -/
def LoadsC (F : FuncId) (K : Cand → Int) (ok : Cand → Prop) : Prop :=
  ∀ c, ok c → ∀ W, Calls Try.prog F #[candV c] W fun e w' => ∃ y, e = .returned (.float .f64 y) ∧ kf y = K c ∧ Below W.heap.size W w'
/-- The place of a candidate's load by its number of requests. -/
def ck (c : Cand) : Int := (qk (c.b + 1).toNat c.w.toNat : Int)
theorem count31 : LoadsC 31 ck Small := by
  rintro ⟨N, v, b, t⟩ ⟨h1, h2, h3, h4⟩ W
  simp only at h1 h2 h3 h4
  obtain ⟨v, rfl⟩ := Int.eq_ofNat_of_zero_le (show 0 ≤ v by omega)
  obtain ⟨b, rfl⟩ := Int.eq_ofNat_of_zero_le h3
  have hl := Lib.hid (load42_one b v (by omega) (by omega) (by omega))
  have hb := Lib.hid (below_alloc W (.cells #[.string N, .int .i64 (v : Int), .int .i64 (b : Int), .float .f64 t] 54))
  unfold candV
  go_enter Try.func31, Try.ntmps31
  go_wp2_with (go_at_call 42; refine (hl.out _).mono ?_; rintro e w' ⟨y, n, rfl, hk, rfl⟩)
  go_ret
  exact ⟨y, rfl, hk, below_drewN hb.out n⟩
/-- The load by the time has this place. -/
def LoadIs (c : Cand) (k : Int) : Prop := ∀ w, Calls Try.prog 42 #[.int .i64 c.b, .int .i64 c.w, .float .f64 c.t] w fun e w' => ∃ y n, e = .returned (.float .f64 y) ∧ kf y = k ∧ w' = w.drewN n
theorem load_is (c : Cand) (hc : Small c) : ∃ k, LoadIs c k := by
  obtain ⟨N, v, b, t⟩ := c
  obtain ⟨h1, h2, h3, h4⟩ := hc
  simp only at h1 h2 h3 h4
  obtain ⟨v, rfl⟩ := Int.eq_ofNat_of_zero_le (show 0 ≤ v by omega)
  obtain ⟨b, rfl⟩ := Int.eq_ofNat_of_zero_le h3
  exact load42 b v (by omega) (by omega) (by omega) t
open Classical in
/-- The place of a candidate's load by its time. -/
noncomputable def tk (c : Cand) : Int := if h : ∃ k, LoadIs c k then Classical.choose h else 0
theorem tk_load (c : Cand) (hc : Small c) : LoadIs c (tk c) := by
  unfold tk
  rw [dif_pos (load_is c hc)]
  exact Classical.choose_spec (load_is c hc)
theorem time37 : LoadsC 37 tk Small := by
  intro c hc W
  have hl := Lib.hid (tk_load c hc)
  have hb := Lib.hid (below_alloc W (.cells #[.string c.nm, .int .i64 c.w, .int .i64 c.b, .float .f64 c.t] 54))
  generalize tk c = k at *
  obtain ⟨N, v, b, t⟩ := c
  simp only at hl hb
  unfold candV
  go_enter Try.func37, Try.ntmps37
  go_wp2_with (go_at_call 42; refine (hl.out _).mono ?_; rintro e w' ⟨y, n, rfl, hk, rfl⟩)
  go_ret
  exact ⟨y, rfl, hk, below_drewN hb.out n⟩

theorem infoF64 : (Try.prog.info? 52).map (fun i => (i.zero, i.size, i.bytes)) = some (some (.float .f64 0), 1, 8) := by kernel_rfl
/-- The cells of floats. -/
def cellsF64 (ys : List Nat) : List Value := ys.map (Value.float .f64)
theorem own_below {w w' : World} {b e n m : Nat} {v : Value} {xs : List Value} (h : w.ownsRow b e n v m xs) (hb : Below w.heap.size w w') : w'.ownsRow b e n v m xs := by
  obtain ⟨hl, h0 | ⟨g, cap, cur, rfl, hbb, hc, r⟩⟩ := h
  · exact ⟨hl, .inl h0⟩
  · exact ⟨hl, .inr ⟨g, cap, cur, rfl, hbb, (hb.block g (Array.getElem?_eq_some_iff.1 hc).1).trans hc, r⟩⟩
theorem store_flt (P : Program) (w : World) (a : Addr) (k : FloatKind) (b : Nat) (m : Mode) : (store a (.float k b) m).run P w = stored P w a (.float k b) m := run_store P w a _ m rfl
end Go.Proofs.Ytcmjcpgfnkhnoaa
