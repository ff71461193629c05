/- Floats: IsInf; a difference, a product, a sum that is a number; min and max. -/
import Derived.Test.YtcmjcpgfnkhnoaaFlB
import Derived.Laws.FloatArith
namespace Go.Proofs.Ytcmjcpgfnkhnoaa
open Go.RowKit

theorem mg_mg (x : Nat) : mg (mg x) = mg x := Nat.mod_mod _ _
theorem ng_mg (x : Nat) : ng (mg x) = false := by
  have := mg_lt x
  unfold ng
  rw [beq_eq_false_iff_ne]
  omega
theorem isN_mg (x : Nat) : isN (mg x) = isN x := by unfold isN; rw [mg_mg]
theorem kf_mg (x : Nat) (h : isN x = false) : kf (mg x) = (mg x : Int) := by
  unfold kf
  rw [isN_mg, h, ng_mg, mg_mg]
  rfl
theorem mg_xor (x : Nat) : mg (x ^^^ 9223372036854775808) = mg x := by
  have := @Nat.xor_mod_two_pow x 9223372036854775808 63
  exact this.trans (by simp [mg])
theorem ng_xor (x : Nat) : ng (x ^^^ 9223372036854775808) = !ng x := by
  unfold ng
  have := @Nat.xor_div_two_pow x 9223372036854775808 63
  have h : (x ^^^ 9223372036854775808) / 9223372036854775808 = x / 9223372036854775808 ^^^ 1 := this
  rw [h]
  have h2 := @Nat.xor_mod_two_pow (x / 9223372036854775808) 1 1
  have h3 : (x / 9223372036854775808 ^^^ 1) % 2 = (x / 9223372036854775808) % 2 ^^^ 1 := h2
  rw [h3]
  have h4 : (x / 9223372036854775808) % 2 < 2 := Nat.mod_lt _ (by decide)
  generalize (x / 9223372036854775808) % 2 = m at *
  match m, h4 with
  | 0, _ => rfl
  | 1, _ => rfl
theorem isN_xor (x : Nat) : isN (x ^^^ 9223372036854775808) = isN x := by unfold isN; rw [mg_xor]
def infP (x : Nat) : Bool := farF x && !ng x
def infM (x : Nat) : Bool := farF x && ng x
theorem gt_max (x : Nat) : (FloatKind.f64.format.order x 9218868437227405311 == some .gt) = infP x := by
  rw [ord_gt]
  have h1 : isN 9218868437227405311 = false := by decide
  have h2 : kf 9218868437227405311 = 9218868437227405311 := by decide
  rw [h1, h2]
  unfold infP farF
  cases hn : isN x
  · have hm : mg x ≤ 9218868437227405312 := by simpa [isN] using hn
    unfold kf
    rw [hn]
    cases hg : ng x
    · simp
      rw [Bool.eq_iff_iff, beq_iff_eq, decide_eq_true_iff]
      omega
    · simp
  · have hm : 9218868437227405312 < mg x := by simpa [isN] using hn
    have : (mg x == 9218868437227405312) = false := by rw [beq_eq_false_iff_ne]; omega
    rw [this]
    rfl
theorem infP_mg (x : Nat) : infP (mg x) = farF x := by unfold infP farF; rw [mg_mg, ng_mg]; simp
theorem infP_xor (x : Nat) : infP (x ^^^ 9223372036854775808) = infM x := by unfold infP infM farF; rw [mg_xor, ng_xor]; simp
theorem andNot_mg (x : Nat) (hx : x < 18446744073709551616) : bits .andNot .u64 (x : Int) 9223372036854775808 = (mg x : Int) := by
  rw [← and_mg x hx]
  unfold bits
  have : ~~~(BitVec.ofInt IntKind.u64.bits 9223372036854775808) = BitVec.ofInt IntKind.u64.bits 9223372036854775807 := by decide
  show IntKind.u64.wrap ((BitVec.ofInt IntKind.u64.bits x &&& ~~~(BitVec.ofInt IntKind.u64.bits 9223372036854775808)).toNat) = IntKind.u64.wrap ((BitVec.ofInt IntKind.u64.bits x &&& (BitVec.ofInt IntKind.u64.bits 9223372036854775807)).toNat)
  rw [this]
theorem neg_float (x : Nat) : Op.unary .neg (.float .f64 x) = pure (.float .f64 (x ^^^ 9223372036854775808)) := rfl
theorem inf1 (w : World) : Calls Try.prog 45 #[.int .i64 1] w fun e w' => e = .returned (.float .f64 9218868437227405312) ∧ w' = w := by
  have hf := frombits29 9218868437227405312
  go_enter Try.func45, Try.ntmps45
  go_wp2
  go_ret
  exact ⟨rfl, rfl⟩

/-- A word that a number gives is no NaN. -/
theorem word_ok (neg : Bool) (r : Nat) (h : r ≤ 9218868437227405312) : Ieee.double.word neg r < 18446744073709551616 ∧ isN (Ieee.double.word neg r) = false ∧ mg (Ieee.double.word neg r) = r ∧ ng (Ieee.double.word neg r) = neg := by
  have e : Ieee.double.word neg r = if neg then 9223372036854775808 + r else r := rfl
  rw [e]
  have hm : mg (if neg then 9223372036854775808 + r else r) = r := by
    unfold mg
    cases neg
    · show r % 9223372036854775808 = r
      exact Nat.mod_eq_of_lt (by omega)
    · show (9223372036854775808 + r) % 9223372036854775808 = r
      omega
  refine ⟨?_, ?_, hm, ?_⟩
  · cases neg
    · show r < _; omega
    · show 9223372036854775808 + r < _; omega
  · unfold isN
    rw [hm]
    simpa using h
  · unfold ng
    cases neg
    · simp
      omega
    · simp
      omega
theorem write_num (neg : Bool) (m : Nat) (p : Int) : ∃ r, r ≤ 9218868437227405312 ∧ Ieee.double.write (.number neg m p) = Ieee.double.word neg r := by
  show ∃ r, r ≤ _ ∧ Ieee.double.nearest neg m p = _
  unfold Ieee.Format.nearest
  split
  · exact ⟨0, by decide, rfl⟩
  · exact ⟨_, Nat.le_trans (Nat.min_le_right _ _) (Nat.le_refl _), rfl⟩
theorem write_inf (neg : Bool) : Ieee.double.write (.infinity neg) = Ieee.double.word neg 9218868437227405312 := rfl
theorem write_ok (d : Ieee.Datum) (h : d.isNaN = false) : Ieee.double.write d < 18446744073709551616 ∧ isN (Ieee.double.write d) = false := by
  cases d with
  | number s m p => obtain ⟨r, hr, e⟩ := write_num s m p; rw [e]; exact ⟨(word_ok s r hr).1, (word_ok s r hr).2.1⟩
  | infinity s => rw [write_inf]; exact ⟨(word_ok s _ (Nat.le_refl _)).1, (word_ok s _ (Nat.le_refl _)).2.1⟩
  | nan => cases h
theorem read_fin (x : Nat) (h : mg x < 9218868437227405312) : ∃ m i, Ieee.double.read x = .number (ng x) m i ∧ (m = 0 → mg x = 0) := by
  rw [read_eq]
  by_cases h1 : mg x < 4503599627370496
  · rw [if_pos h1]; exact ⟨_, _, rfl, id⟩
  · rw [if_neg h1, if_pos h]; exact ⟨_, _, rfl, by omega⟩
theorem read_non (x : Nat) (h : isN x = false) : (∃ m i, Ieee.double.read x = .number (ng x) m i) ∨ Ieee.double.read x = .infinity (ng x) := by
  have hx : mg x ≤ 9218868437227405312 := by simpa [isN] using h
  rcases Nat.lt_or_eq_of_le hx with h1 | h1
  · obtain ⟨m, i, e, _⟩ := read_fin x h1; exact .inl ⟨m, i, e⟩
  · exact .inr (read_inf x h1)
theorem sub_some (x y : Nat) (hx : mg x < 9218868437227405312) (hy : mg y < 9218868437227405312) :
    ∃ d, floatBits .sub .f64 x y = some d ∧ d < 18446744073709551616 ∧ isN d = false := by
  obtain ⟨m, i, e1, _⟩ := read_fin x hx
  obtain ⟨n, j, e2, _⟩ := read_fin y hy
  show ∃ d, ((Ieee.double.read x).sum (Ieee.double.read y).opposite).map Ieee.double.write = some d ∧ _
  rw [e1, e2]
  exact ⟨_, rfl, write_ok _ rfl⟩
theorem mul_some (s d : Nat) (hs : mg s < 9218868437227405312) (h0 : mg s ≠ 0) (hd : isN d = false) :
    ∃ p, floatBits .mul .f64 s d = some p ∧ p < 18446744073709551616 ∧ isN p = false := by
  obtain ⟨m, i, e1, hm⟩ := read_fin s hs
  show ∃ p, ((Ieee.double.read s).product (Ieee.double.read d)).map Ieee.double.write = some p ∧ _
  rw [e1]
  rcases read_non d hd with ⟨n, j, e2⟩ | e2
  · rw [e2]
    exact ⟨_, rfl, write_ok _ rfl⟩
  · rw [e2]
    have : (Ieee.Datum.number (ng s) m i).product (.infinity (ng d)) = if m = 0 then none else some (.infinity (ng d ^^ ng s)) := rfl
    rw [this, if_neg (fun h => h0 (hm h))]
    exact ⟨_, rfl, write_ok _ rfl⟩
theorem add_some (x p : Nat) (hx : mg x < 9218868437227405312) (hp : isN p = false) :
    ∃ r, floatBits .add .f64 x p = some r ∧ r < 18446744073709551616 ∧ isN r = false := by
  obtain ⟨m, i, e1, _⟩ := read_fin x hx
  show ∃ r, ((Ieee.double.read x).sum (Ieee.double.read p)).map Ieee.double.write = some r ∧ _
  rw [e1]
  rcases read_non p hp with ⟨n, j, e2⟩ | e2
  · rw [e2]; exact ⟨_, rfl, write_ok _ rfl⟩
  · rw [e2]; exact ⟨_, rfl, write_ok _ rfl⟩

theorem min_lt (ts : Array TypeId) (t : TypeId) (x y : Nat) (hx : isN x = false) (hy : isN y = false) (h : kf x < kf y) (w : World) :
    (Builtin.min_ ts t #[.float .f64 x, .float .f64 y]).run Try.prog w = .ok (.float .f64 x) w := by
  simp [Builtin.min_, Builtin.min2, ord_key x y hx hy, cmp_def, h]
theorem max_lt (ts : Array TypeId) (t : TypeId) (x y : Nat) (hx : isN x = false) (hy : isN y = false) (h : kf x < kf y) (w : World) :
    (Builtin.max_ ts t #[.float .f64 x, .float .f64 y]).run Try.prog w = .ok (.float .f64 y) w := by
  simp [Builtin.max_, Builtin.max2, ord_key x y hx hy, cmp_def, h]
theorem min_gt (ts : Array TypeId) (t : TypeId) (x y : Nat) (hx : isN x = false) (hy : isN y = false) (h : kf y < kf x) (w : World) :
    (Builtin.min_ ts t #[.float .f64 x, .float .f64 y]).run Try.prog w = .ok (.float .f64 y) w := by
  have h1 : ¬ kf x < kf y := by omega
  have h2 : ¬ kf x = kf y := by omega
  simp [Builtin.min_, Builtin.min2, ord_key x y hx hy, cmp_def, h1, h2]
theorem max_gt (ts : Array TypeId) (t : TypeId) (x y : Nat) (hx : isN x = false) (hy : isN y = false) (h : kf y < kf x) (w : World) :
    (Builtin.max_ ts t #[.float .f64 x, .float .f64 y]).run Try.prog w = .ok (.float .f64 x) w := by
  have h1 : ¬ kf x < kf y := by omega
  have h2 : ¬ kf x = kf y := by omega
  simp [Builtin.max_, Builtin.max2, ord_key x y hx hy, cmp_def, h1, h2]
theorem min_eq (ts : Array TypeId) (t : TypeId) (x y : Nat) (hx : isN x = false) (hy : isN y = false) (h : kf x = kf y) (w : World) :
    (Builtin.min_ ts t #[.float .f64 x, .float .f64 y]).run Try.prog w = .ok (.float .f64 (if ng x then x else y)) w := by
  have hn : (FloatKind.f64.decode x).neg = ng x := by
    show (Ieee.double.read x).neg = _
    rcases read_non x hx with ⟨m, i, e⟩ | e <;> rw [e] <;> rfl
  simp [Builtin.min_, Builtin.min2, ord_key x y hx hy, h, hn]
theorem max_eq (ts : Array TypeId) (t : TypeId) (x y : Nat) (hx : isN x = false) (hy : isN y = false) (h : kf x = kf y) (w : World) :
    (Builtin.max_ ts t #[.float .f64 x, .float .f64 y]).run Try.prog w = .ok (.float .f64 (if ng x then y else x)) w := by
  have hn : (FloatKind.f64.decode x).neg = ng x := by
    show (Ieee.double.read x).neg = _
    rcases read_non x hx with ⟨m, i, e⟩ | e <;> rw [e] <;> rfl
  simp [Builtin.max_, Builtin.max2, ord_key x y hx hy, h, hn]
end Go.Proofs.Ytcmjcpgfnkhnoaa
