/- Packed: FmTx, TabsE, EdN, KeepN, RoA, RoB, RoM, RoC, RoD, RoE, RoN. -/
import Derived.Lib.LaidTab
import Derived.Lib.LaidU8
import Derived.MakeChecks
import Derived.OwnWalk
import Derived.Deep.MidRow
import Derived.Carry
import Derived.Lib.IndexBytes
import Derived.Maps.OwnSet
import Derived.WalkSpells
import Derived.Test.YtpjbdejgamajlabDoorG00
import Derived.Test.YtpjbdejgamajlabDoorG05
import Derived.Test.YtpjbdejgamajlabDoorG08
import Derived.Test.YtpjbdejgamajlabDoorG09
/- score.Text of the number 2. -/
namespace Go.Proofs.YtpjbdejgamajlabDoor
open Go.RowKit

set_option maxRecDepth 100000 in
set_option maxHeartbeats 1000000 in
theorem format_two (w : World) (hP : PmAt w) (hT : P10At w) :
    Calls Tryd.prog 62 #[.float .f64 4611686018427387904, .int .u8 103, .int .i64 (-1), .int .i64 64] w fun e w' =>
      e = .returned (.string ⟨#[50]⟩) ∧ Below w.heap.size w w' := by
  obtain ⟨cs, hm0, ho⟩ := make24 w
  have hm := hm0 w rfl
  have hmx : max (3 : Int) 24 = 24 := by decide
  clear hm0
  have hb : Below w.heap.size w (w.alloc (.cells cs 5)) := (Below.refl _ _).alloc (Nat.le_refl _) _
  have hF := ftoa_two w.heap.size _ _ ho (by simp) (hP.below hb) (hT.on hb)
  clear ho hP hT
  generalize hW : w.alloc (.cells cs 5) = W at *
  clear hW
  go_enter Tryd.func62, Tryd.ntmps62
  go_wp2_with fail
  refine hF.mono ?_
  rintro e w1 ⟨v', rfl, ho1, hb1⟩
  have hc := own_stringZ w1 _ v' [50] ho1
  go_wp2_with fail
  go_ret
  exact ⟨rfl, hb.trans hb1⟩
theorem strconv_two (w : World) (hP : PmAt w) (hT : P10At w) :
    Calls Tryd.prog 41 #[.float .f64 4611686018427387904, .int .u8 103, .int .i64 (-1), .int .i64 64] w fun e w' =>
      e = .returned (.string ⟨#[50]⟩) ∧ Below w.heap.size w w' := by
  have hF := format_two w hP hT
  clear hP hT
  go_enter Tryd.func41, Tryd.ntmps41
  go_wp2_with fail
  refine hF.mono ?_
  rintro e w1 ⟨rfl, hb⟩
  go_wp2_with fail
  go_ret
  exact ⟨rfl, hb⟩
/-- The text of 2 is 2. -/
theorem text_two (w : World) (hP : PmAt w) (hT : P10At w) :
    Calls Tryd.prog 18 #[.float .f64 4611686018427387904] w fun e w' => e = .returned (.string ⟨#[50]⟩) ∧ Below w.heap.size w w' := by
  have h1 := isnan6 4611686018427387904
  have h2 := isinf1 4611686018427387904
  have h3 := isinfm 4611686018427387904
  have h4 := plain3 4611686018427387904
  rw [show isN 4611686018427387904 = false by decide +kernel] at h1
  rw [show infP 4611686018427387904 = false by decide +kernel] at h2
  rw [show infM 4611686018427387904 = false by decide +kernel] at h3
  rw [show plainF 4611686018427387904 = 4611686018427387904 by decide +kernel] at h4
  have HT := Lib.hid (strconv_two w hP hT)
  clear hP hT
  go_enter Tryd.func18, Tryd.ntmps18
  go_wp2_with (first
    | (go_at_call 39; with_reducible refine (h1 _).mono ?_; rintro e w' ⟨rfl, rfl⟩)
    | (go_at_call 40; with_reducible refine (h2 _).mono ?_; rintro e w' ⟨rfl, rfl⟩)
    | (go_at_call 40; with_reducible refine (h3 _).mono ?_; rintro e w' ⟨rfl, rfl⟩)
    | (go_at_call 42; with_reducible refine (h4 _).mono ?_; rintro e w' ⟨rfl, rfl⟩)
    | (go_at_call 41; with_reducible refine HT.out.mono ?_; rintro e w1 ⟨rfl, hb⟩))
  go_ret
  exact ⟨rfl, hb⟩
end Go.Proofs.YtpjbdejgamajlabDoor

/- The tables that StewardEdges looks at (out of XTabsT). -/
namespace Go.Proofs.YtpjbdejgamajlabDoor
open Go.RowKit Go.WideShapes Go.ChangeShapes

def TabsSt (W : World) : Prop := PmAt W ∧ P10At W

theorem cells_of_pairs {H : Type} {enc : TypeId × Value → H} {P : Program} {w : World} {base : Nat} {sp : Nat → Bool} {held : Bool} {fuel : Nat} {t t1 ti : TypeId} {n : Nat} {k : IntKind} {cs : List Value} {rows : List (Nat × Nat)} {p : List MemPlace}
    (ht : P.underlying t = some (.array n t1)) (hf : (P.underlying t1).map fieldsOf = some [(ti, 0), (ti, 1)]) (h1 : P.cellsOf t1 = 2) (hi1 : P.cellsOf ti = 1) (hi : P.underlying ti = some (.int k))
    (h : DataW.trod enc P w base sp held fuel t cs = some (.agg (rows.map fun q => .agg [.lit (.int k q.1), .lit (.int k q.2)]), p)) (r : Nat) (q : Nat × Nat) (hr : rows[r]? = some q) :
    cs[r * 2]? = some (.int k q.1) ∧ cs[r * 2 + 1]? = some (.int k q.2) := by
  obtain ⟨fs, hfs, hl⟩ := fieldsOf_struct hf (List.cons_ne_nil _ _)
  obtain ⟨xs, m, _, hx, _, hxn, hat⟩ := DataW.trod_array ht h
  simp only [Prod.mk.injEq, DataW.agg.injEq] at hx
  have hlen : rows.length = xs.length := by have := congrArg List.length hx.1; simpa using this
  have hrn : r < n := by have := (List.getElem?_eq_some_iff.1 hr).1; omega
  have hx1 := hat r hrn
  rw [h1] at hx1
  obtain ⟨y, hy⟩ : ∃ y, xs[r]? = some y := ⟨xs[r]'(by omega), by simp [show r < xs.length by omega]⟩
  have hy1 : y.1 = .agg [.lit (.int k q.1), .lit (.int k q.2)] := by
    have h2 : (xs.map (·.1))[r]? = some y.1 := by simp [hy]
    rw [← hx.1, List.getElem?_map, hr] at h2
    exact (Option.some.inj h2).symm
  rw [hy] at hx1
  obtain ⟨zs, m2, _, hz, _, hzn, hzat⟩ := DataW.trod_struct hfs hx1
  have hy2 : y.1 = .agg (zs.map (·.1)) := by rw [hz]
  rw [hy1] at hy2
  injection hy2 with hy2
  obtain ⟨f0, f1, hfl⟩ := two_ofZ (l := fs.toList) (by have := congrArg List.length hl; simpa using this)
  obtain ⟨a, b, rfl⟩ := two_ofZ (l := zs) (by have := congrArg List.length hy2; simpa using this.symm)
  rw [hfl] at hl
  simp only [List.map_cons, List.map_nil, List.cons.injEq, Prod.mk.injEq, and_true] at hl
  obtain ⟨⟨e0, o0⟩, e1, o1⟩ := hl
  have g0 := hzat 0 f0 (by rw [← Array.getElem?_toList, hfl]; rfl)
  have g1 := hzat 1 f1 (by rw [← Array.getElem?_toList, hfl]; rfl)
  rw [e0, o0, hi1] at g0
  rw [e1, o1, hi1] at g1
  simp only [List.map_cons, List.map_nil, List.cons.injEq, and_true] at hy2
  obtain ⟨c, hc, hca, _⟩ := DataW.trod_int hi g0
  obtain ⟨s, hsc, hsa, _⟩ := DataW.trod_int hi g1
  have ea : (q.1 : Int) = c := by
    have := hy2.1
    rw [hca] at this
    simpa using this
  have eb : (q.2 : Int) = s := by
    have := hy2.2
    rw [hsa] at this
    simpa using this
  have k0 := one_cellR hc
  have k1 := one_cellR hsc
  rw [List.getElem?_take, if_pos (by decide), List.getElem?_drop] at k0 k1
  exact ⟨by rw [ea]; exact k0, by rw [eb]; exact k1⟩
theorem gPm : Tryd.prog.globalNamed "internal/strconv.pow10Tab" = some 4 := by kernel_rfl
theorem gPmT : (Tryd.prog.globals[4]?).map (·.type) = some 215 := by kernel_rfl
theorem gP10T : (Tryd.prog.globals[3]?).map (·.type) = some 197 := by kernel_rfl
theorem cells20T : Tryd.prog.cellsOf 197 = 20 := by kernel_rfl
theorem pm_reads {W : World} (h : Lib.VarReads Tryd.prog W "internal/strconv.pow10Tab" Go.Pinned.pow10Tab) : PmAt W := by
  obtain ⟨g', t', cs, fuel, p, hg', ht', hvar, hd⟩ := h
  obtain rfl := Option.some.inj (gPm.symm.trans hg')
  obtain rfl := Option.some.inj (gPmT.symm.trans ht')
  have hlen := pmLen
  unfold Go.Pinned.pow10Tab at hd
  unfold PmAt
  generalize Go.Pinned.pow10Rows = rows at *
  have hall := cells_of_pairs Tryd.underlying215 pmF pmC2 pmC1 Tryd.underlying40 hd
  have hcell : ∀ (j : Nat) (x : Nat × Nat), rows[j]? = some x → W.cell? ⟨4, j * 2, none⟩ = some (.int .u64 (x.1 : Int)) ∧ W.cell? ⟨4, j * 2 + 1, none⟩ = some (.int .u64 (x.2 : Int)) := fun j x hx => by
    obtain ⟨k0, k1⟩ := hall j x hx
    rw [World.var?_cell gPm hvar (j * 2), World.var?_cell gPm hvar (j * 2 + 1)]
    exact ⟨by simpa using k0, by simpa using k1⟩
  have h0 : rows[0]? = some (rows[0]'(by omega)) := by simp [show 0 < rows.length by omega]
  exact ⟨World.block_lt_of_cell? W _ (hcell 0 _ h0).1, hcell⟩
theorem pow_reads {W : World} (h : Lib.VarReads Tryd.prog W "internal/strconv.uint64pow10" Rows.laid_internal_strconv_uint64pow10) : P10At W := by
  obtain ⟨g', t', cs, fuel, p, hg', ht', hvar, hd⟩ := h
  have hg : Tryd.prog.globalNamed "internal/strconv.uint64pow10" = some 3 := gP10
  obtain rfl := Option.some.inj (hg.symm.trans hg')
  obtain rfl := Option.some.inj (gP10T.symm.trans ht')
  have e : (Rows.laid_internal_strconv_uint64pow10 : DataW Unit) = Lib.tabData .u64 Lib.pow10Tab := by
    rw [show Lib.pow10Tab = [1, 10, 100, 1000, 10000, 100000, 1000000, 10000000, 100000000, 1000000000, 10000000000, 100000000000, 1000000000000, 10000000000000, 100000000000000, 1000000000000000, 10000000000000000, 100000000000000000, 1000000000000000000, 10000000000000000000] by decide +kernel]
    rfl
  rw [e] at hd
  unfold P10At Lib.TabIs
  rw [hvar, ← Lib.cells_of_tab Tryd.underlying197 Tryd.underlying40 pmC1 cells20T hd]
theorem tabs_st {W : World} {l : List (String × DataW Unit)} (h : laidMet Tryd.prog l W) (h1 : ("internal/strconv.pow10Tab", Go.Pinned.pow10Tab) ∈ l) (h2 : ("internal/strconv.uint64pow10", Rows.laid_internal_strconv_uint64pow10) ∈ l) : TabsSt W :=
  ⟨pm_reads (Lib.laidMet.reads h h1), pow_reads (Lib.laidMet.reads h h2)⟩
open Go.MakeChecks in
theorem tabs_edH {W : World} (h : laidMetH Tryd.prog Rows.stewardEdgesRow.laid W) : TabsSt W := by
  rw [laidMetH_plain _ _ _ (by rfl)] at h
  exact tabs_st h (.tail _ (.tail _ (.tail _ (.tail _ (.tail _ (.head _)))))) (.tail _ (.tail _ (.tail _ (.head _))))
end Go.Proofs.YtpjbdejgamajlabDoor

/- The Mean of the program alone; the mean of 1 and 3 by a half. -/
namespace Go.Proofs.YtpjbdejgamajlabDoor.Ed
open Go.RowKit

theorem kf_share (x : Nat) (hx : x < 18446744073709551616) : ∃ s, clampF x 0 4607182418800017408 = s ∧ s < 18446744073709551616 ∧ isN s = false ∧ 0 ≤ kf s ∧ mg s < 9218868437227405312 := by
  have h := clampF_kf x 0 4607182418800017408 (by decide)
  rw [kf_zero, show kf 4607182418800017408 = 4607182418800017408 by decide] at h
  exact ⟨_, rfl, clampF_lt hx (by decide) (by decide), isN_of_kf (by omega), h.1, mg_of_kf h.1 (by omega)⟩
theorem mg_kf0 {s : Nat} (hn : isN s = false) (h : decide (kf s = 0) = false) : mg s ≠ 0 := by
  intro h0
  have : kf s = 0 := by
    unfold kf
    rw [hn, h0]
    cases ng s <;> rfl
  rw [decide_eq_true this] at h
  cases h
/-- Mean returns one number, whatever the world. -/
theorem mean_some (old sample share : Nat) (ho : old < 18446744073709551616) (hs : sample < 18446744073709551616) (hh : share < 18446744073709551616) :
    ∃ y, y < 18446744073709551616 ∧ ∀ w, Calls Tryd.prog 19 #[.float .f64 old, .float .f64 sample, .float .f64 share] w fun e w' => e = .returned (.float .f64 y) ∧ w' = w := by
  cases hno : isN old
  · cases h2 : (isN sample || decide (kf (clampF share 0 4607182418800017408) = 0))
    · obtain ⟨hns, hz⟩ := Bool.or_eq_false_iff.1 h2
      clear h2
      cases h3 : (farF old || farF sample)
      · obtain ⟨hfo, hfs⟩ := Bool.or_eq_false_iff.1 h3
        obtain ⟨s, hcl, hsl, hsn, hs0, hsm⟩ := kf_share share hh
        rw [hcl] at hz
        have mo := far_mg hno hfo
        have ms := far_mg hns hfs
        obtain ⟨d, hd, _, hdn⟩ := sub_some sample old ms mo
        obtain ⟨p, hp, _, hpn⟩ := mul_some s d hsm (mg_kf0 hsn hz) hdn
        obtain ⟨x, hx, hxl, _⟩ := add_some old p mo hpn
        rcases Int.lt_trichotomy (kf old) (kf sample) with h | h | h
        · exact ⟨clampF x old sample, clampF_lt hxl ho hs, fun w => mean6_num old sample s x old sample _ hz hno hns hfo hfs share ho hs d p hd hp hx hcl (fun ts t w => min_lt ts t _ _ hno hns h w) (fun ts t w => max_lt ts t _ _ hno hns h w) rfl w⟩
        · refine ⟨clampF x sample old, clampF_lt hxl hs ho, fun w => ?_⟩
          have hps := plainF_same ho hs hno hns h
          refine mean6_num old sample s x _ _ _ hz hno hns hfo hfs share ho hs d p hd hp hx hcl (fun ts t w => min_eq ts t _ _ hno hns h w) (fun ts t w => max_eq ts t _ _ hno hns h w) ?_ w
          cases ng old
          · show clampF x sample old = _
            rfl
          · show clampF x old sample = _
            exact clampF_same hps hps.symm h h.symm
        · exact ⟨clampF x sample old, clampF_lt hxl hs ho, fun w => mean6_num old sample s x sample old _ hz hno hns hfo hfs share ho hs d p hd hp hx hcl (fun ts t w => min_gt ts t _ _ hno hns h w) (fun ts t w => max_gt ts t _ _ hno hns h w) rfl w⟩
      · exact ⟨plainF sample, plainF_lt hs, fun w => mean6_far old sample share ho hs hno hns hz h3 w⟩
    · exact ⟨plainF old, plainF_lt ho, fun w => mean6_smp old sample share hno h2 w⟩
  · exact ⟨plainF sample, plainF_lt hs, fun w => mean6_old old sample share hno w⟩
/-- The mean of 1 and 3 by a half is 2. -/
theorem mean_two (w : World) : Calls Tryd.prog 19 #[.float .f64 4607182418800017408, .float .f64 4613937818241073152, .float .f64 4602678819172646912] w fun e w' => e = .returned (.float .f64 4611686018427387904) ∧ w' = w := by
  refine mean6_num 4607182418800017408 4613937818241073152 4602678819172646912 4611686018427387904 4607182418800017408 4613937818241073152 4611686018427387904 (by decide +kernel) (by decide +kernel) (by decide +kernel) (by decide +kernel) (by decide +kernel) 4602678819172646912 (by decide) (by decide) 4611686018427387904 4607182418800017408 (by decide +kernel) (by decide +kernel) (by decide +kernel) (by decide +kernel)
    (fun ts t w => min_lt ts t _ _ (by decide +kernel) (by decide +kernel) (by decide +kernel) w) (fun ts t w => max_lt ts t _ _ (by decide +kernel) (by decide +kernel) (by decide +kernel) w) (by decide +kernel) w
end Go.Proofs.YtpjbdejgamajlabDoor.Ed

/- Memory of an object that lies in some blocks G, its own: what a call that writes there leaves as it was. -/
namespace Go.Proofs.YtpjbdejgamajlabDoor
open Go.RowKit

theorem below_alloc (w : World) (o : Obj) : Below w.heap.size w (w.alloc o) := (Below.refl _ _).alloc (Nat.le_refl _) _

/-- Nothing has changed but blocks of G and new ones. -/
structure Keep (G : Nat → Prop) (w w' : World) : Prop where
  os : w'.os = w.os
  tape : w'.tape = w.tape
  output : w'.output = w.output
  size : w.heap.size ≤ w'.heap.size
  block : ∀ k, k < w.heap.size → ¬ G k → w'.heap[k]? = w.heap[k]?
/-- The blocks to come are G's. -/
def Up (G : Nat → Prop) (w : World) : Prop := ∀ k, w.heap.size ≤ k → G k
/-- The first size is small enough for B. -/
def Floor (G : Nat → Prop) (B : Nat) : Prop := ∀ k, G k → B ≤ k
section
variable {G : Nat → Prop} {a w w' : World} {B : Nat}
theorem Keep.refl (G : Nat → Prop) (w : World) : Keep G w w := ⟨rfl, rfl, rfl, Nat.le_refl _, fun _ _ _ => rfl⟩
theorem Keep.trans {b c : World} (h : Keep G a b) (k : Keep G b c) : Keep G a c :=
  ⟨k.os.trans h.os, k.tape.trans h.tape, k.output.trans h.output, Nat.le_trans h.size k.size, fun i hi hn => (k.block i (Nat.lt_of_lt_of_le hi h.size) hn).trans (h.block i hi hn)⟩
theorem Keep.of_below (h : Below w.heap.size w w') : Keep G w w' := ⟨h.os, h.tape, h.output, h.size, fun k hk _ => h.block k hk⟩
theorem Keep.more {G' : Nat → Prop} (h : Keep G w w') (hg : ∀ k, k < w.heap.size → G k → G' k) : Keep G' w w' := ⟨h.os, h.tape, h.output, h.size, fun k hk hn => h.block k hk (fun hk2 => hn (hg k hk hk2))⟩
theorem Keep.bel (h : Keep G w w') (hf : Floor G B) (hB : B ≤ w.heap.size) : Below B w w' :=
  ⟨h.os, h.tape, h.output, h.size, fun k hk => h.block k (by omega) (fun hg => by have := hf k hg; omega)⟩
theorem Keep.grown {row : Option Nat} (hg : w.grownBy w' row) (hr : ∀ k, row = some k → G k) : Keep G w w' :=
  ⟨hg.os, hg.tape, hg.output, hg.size, fun k hk hn => hg.block k hk (fun e => hn (hr k e.symm))⟩
theorem Keep.setCell (w : World) {p : Addr} (hp : G p.block) (u : Value) : Keep G w (w.setCell p u) :=
  ⟨rfl, rfl, rfl, by simp [World.setCell], fun k _ hn => Below.heap_setCell w p u k (fun e => hn (by rw [e]; exact hp))⟩
theorem Keep.alloc (w : World) (o : Obj) : Keep G w (w.alloc o) := .of_below (below_alloc w o)
theorem Keep.drew (w : World) : Keep G w w.drew := ⟨rfl, rfl, rfl, Nat.le_refl _, fun _ _ _ => rfl⟩
theorem Keep.drewN (w : World) (n : Nat) : Keep G w (w.drewN n) := ⟨rfl, rfl, rfl, Nat.le_refl _, fun _ _ _ => rfl⟩
theorem Up.keep (h : Up G w) (hk : Keep G w w') : Up G w' := fun k hk2 => h k (Nat.le_trans hk.size hk2)
theorem Up.below (h : Up G w) (hk : Below w.heap.size w w') : Up G w' := fun k hk2 => h k (Nat.le_trans hk.size hk2)
end

/-- Block g is just these cells; none is frozen. -/
def Row (w : World) (g : Nat) (t : TypeId) (cs : Array Value) : Prop := w.heap[g]? = some (.cells cs t (0, 0))
section
variable {w w' : World} {g : Nat} {t : TypeId} {cs : Array Value} {G : Nat → Prop}
theorem Row.lt (h : Row w g t cs) : g < w.heap.size := (Array.getElem?_eq_some_iff.1 h).1
theorem Row.cell (h : Row w g t cs) (i : Nat) : w.cell? ⟨g, i, none⟩ = cs[i]? := cell_of_row w g i cs t (0, 0) h
theorem Row.free (h : Row w g t cs) (i : Nat) : w.frozen? ⟨g, i, none⟩ = false := by
  unfold Row at h
  simp [World.frozen?, h]
theorem Row.new (w : World) (t : TypeId) (cs : Array Value) : Row (w.alloc (.cells cs t)) w.heap.size t cs := heap_alloc_new w _
theorem Row.keep (h : Row w g t cs) (hk : Keep G w w') (hg : ¬ G g) : Row w' g t cs := (hk.block g h.lt hg).trans h
theorem Row.below (h : Row w g t cs) (hb : Below w.heap.size w w') : Row w' g t cs := (hb.block g h.lt).trans h
theorem Row.grown {row : Option Nat} (h : Row w g t cs) (hb : w.grownBy w' row) (hg : row ≠ some g) : Row w' g t cs := (hb.block g h.lt (fun e => hg e.symm)).trans h
theorem Row.alloc (h : Row w g t cs) (o : Obj) : Row (w.alloc o) g t cs := h.below (below_alloc w o)
theorem Row.put (h : Row w g t cs) (i : Nat) (u : Value) : Row (w.setCell ⟨g, i, none⟩ u) g t (cs.setIfInBounds i u) := by
  unfold Row at h ⊢
  simp [World.setCell, Array.getElem?_modify, h]
theorem Row.far (h : Row w g t cs) {p : Addr} (hp : g ≠ p.block) (u : Value) : Row (w.setCell p u) g t cs := (Below.heap_setCell w p u g hp).trans h
theorem Row.drew (h : Row w g t cs) : Row w.drew g t cs := h
theorem Row.drewN (h : Row w g t cs) (n : Nat) : Row (w.drewN n) g t cs := h
end

/-- A row of elements that the object owns. -/
def Own (w : World) (e : TypeId) (n : Nat) (v : Value) (m : Nat) (xs : List Value) : Prop := w.ownsRow 0 e n v m xs
theorem own_lt {w : World} {e : TypeId} {n m : Nat} {v : Value} {xs : List Value} (h : w.ownsRow 0 e n v m xs) {k : Nat} (hk : v.ownBlock = some k) : k < w.heap.size := (h.lt k hk).2
theorem own_ne {w : World} {e t : TypeId} {n m g : Nat} {v : Value} {xs : List Value} {cs : Array Value} (h : w.ownsRow 0 e n v m xs) (hg : Row w g t cs) (hne : e ≠ t) : v.ownBlock ≠ some g := by
  obtain ⟨_, ⟨rfl, _⟩ | ⟨k, cap, cur, rfl, _, hk, _⟩⟩ := h
  · simp [Value.ownBlock]
  · intro he
    have : k = g := by simpa [Value.ownBlock] using he
    subst this
    unfold Row at hg
    rw [hk] at hg
    injection hg with h2
    injection h2 with _ h3
    exact hne h3
theorem own_keep {w w' : World} {G : Nat → Prop} {e : TypeId} {n m : Nat} {v : Value} {xs : List Value} (h : w.ownsRow 0 e n v m xs) (hk : Keep G w w') (hg : ∀ k, v.ownBlock = some k → ¬ G k) : w'.ownsRow 0 e n v m xs := by
  obtain ⟨hl, h0 | ⟨g, cap, cur, rfl, hb, hc, r⟩⟩ := h
  · exact ⟨hl, .inl h0⟩
  · exact ⟨hl, .inr ⟨g, cap, cur, rfl, hb, (hk.block g (Array.getElem?_eq_some_iff.1 hc).1 (hg g rfl)).trans hc, r⟩⟩
theorem own_bel {w w' : World} {e : TypeId} {n m : Nat} {v : Value} {xs : List Value} (h : w.ownsRow 0 e n v m xs) (hb : Below w.heap.size w w') : w'.ownsRow 0 e n v m xs :=
  own_keep (G := fun _ => False) h (.of_below hb) (fun _ _ h => h)
theorem own_grown {w w' : World} {row : Option Nat} {e : TypeId} {n m : Nat} {v : Value} {xs : List Value} (h : w.ownsRow 0 e n v m xs) (hg : w.grownBy w' row) (hr : ∀ k, v.ownBlock = some k → row ≠ some k) : w'.ownsRow 0 e n v m xs :=
  own_keep (G := fun k => row = some k) h (.grown hg (fun _ h => h)) hr
theorem own_set {w : World} {e t : TypeId} {n m g i : Nat} {v : Value} {xs : List Value} {cs : Array Value} (h : w.ownsRow 0 e n v m xs) (hg : Row w g t cs) (hne : e ≠ t) (u : Value) : (w.setCell ⟨g, i, none⟩ u).ownsRow 0 e n v m xs :=
  own_keep (G := fun k => k = g) h (Keep.setCell (G := fun k => k = g) w (p := ⟨g, i, none⟩) rfl u) (fun k hk e => own_ne h hg hne (by rw [hk, e]))
theorem own_slice {w : World} {base : Nat} {e : TypeId} {n m : Nat} {v : Value} {xs : List Value} (h : w.ownsRow base e n v m xs) : ∃ a c, v = .slice a m c := by
  obtain ⟨_, ⟨rfl, h0⟩ | ⟨g, cap, cur, rfl, _⟩⟩ := h
  · exact ⟨none, 0, by rw [h0]⟩
  · exact ⟨_, _, rfl⟩
theorem own_len {w : World} {base : Nat} {e : TypeId} {n m m' : Nat} {v : Value} {xs : List Value} (h : w.ownsRow base e n v m xs) (he : m = m') : w.ownsRow base e n v m' xs := he ▸ h
end Go.Proofs.YtpjbdejgamajlabDoor

/- Maps of names to numbers; a rotor in memory. -/
namespace Go.Proofs.YtpjbdejgamajlabDoor
open Go.RowKit Go.Maps

theorem lawS : Keyed Tryd.prog 9 := string_keyed Tryd.underlying9
theorem zeroI (w : World) : (zeroValue 3).run Tryd.prog w = .ok (.int .i64 0) w := by kernel_rfl
/-- One number changed. -/
def upd (f : ByteArray → Int) (s : ByteArray) (c : Int) : ByteArray → Int := fun x => if x = s then c else f x
theorem upd_same (f : ByteArray → Int) (s : ByteArray) (c : Int) : upd f s c s = c := if_pos rfl
theorem upd_other (f : ByteArray → Int) {s x : ByteArray} (c : Int) (h : x ≠ s) : upd f s c x = f x := if_neg h
theorem upd_id (f : ByteArray → Int) (s : ByteArray) : upd f s (f s) = f := by
  funext x; unfold upd; split
  · rename_i h; rw [h]
  · rfl
/-- A map that reads as these numbers. -/
def MapI (w : World) (b n : Nat) (f : ByteArray → Int) : Prop :=
  ∃ D : DataW Unit, w.ownsMap Tryd.prog 9 (plainElem Tryd.prog 3) b n D ∧ ∀ s : ByteArray, D.atKey (.string s.data.toList) (.lit (.int .i64 0)) = .lit (.int .i64 (f s))
theorem key_ne {x s : ByteArray} (h : x ≠ s) : (Lit.string x.data.toList) ≠ (Lit.string s.data.toList) := by
  intro e
  injection e with e
  exact h (ByteArray.ext (Array.ext' e))
theorem MapI.lt {w : World} {b n : Nat} {f : ByteArray → Int} (h : MapI w b n f) : b < w.heap.size := by
  obtain ⟨D, ho, _⟩ := h
  exact ho.lt
theorem MapI.same {w w' : World} {b n : Nat} {f : ByteArray → Int} (h : MapI w b n f) (hb : w'.heap[b]? = w.heap[b]?) : MapI w' b n f := by
  obtain ⟨D, ⟨es, clock, hm, F, hs, hD⟩, r⟩ := h
  exact ⟨D, ⟨es, clock, hb.trans hm, F, hs, hD⟩, r⟩
theorem MapI.mono {w : World} {b n m : Nat} {f : ByteArray → Int} (h : MapI w b n f) (hm : n ≤ m) : MapI w b m f := by
  obtain ⟨D, ho, r⟩ := h
  exact ⟨D, ho.mono hm, r⟩
theorem MapI.keep {w w' : World} {G : Nat → Prop} {b n : Nat} {f : ByteArray → Int} (h : MapI w b n f) (hk : Keep G w w') (hg : ¬ G b) : MapI w' b n f := h.same (hk.block b h.lt hg)
set_option maxRecDepth 100000 in
theorem MapI.look {w : World} {b n : Nat} {f : ByteArray → Int} (h : MapI w b n f) {s : ByteArray} (hs : s.size ≤ maxLen) : (Instr.lookup 60 (.map (some b)) (.string s) false).run Tryd.prog w = .ok (.int .i64 (f s)) w := by
  obtain ⟨D, ho, r⟩ := h
  obtain ⟨c, hrun, hat, _⟩ := ho.lookup_int lawS Tryd.underlying60 Tryd.underlying3 (zeroI _) (WideMaps.keyOf_string_mk Tryd.underlying9 hs)
  rw [r s] at hat
  injection hat with e
  injection e with _ e
  rw [hrun, e]
set_option maxRecDepth 100000 in
theorem MapI.wf {w : World} {b n : Nat} {f : ByteArray → Int} (h : MapI w b n f) {s : ByteArray} (hs : s.size ≤ maxLen) : (Lit.int .i64 (f s)).wf = true := by
  obtain ⟨D, ho, r⟩ := h
  obtain ⟨c, hrun, hat, hw⟩ := ho.lookup_int lawS Tryd.underlying60 Tryd.underlying3 (zeroI _) (WideMaps.keyOf_string_mk Tryd.underlying9 hs)
  rw [r s] at hat
  injection hat with e
  injection e with _ e
  rw [e]; exact hw
theorem MapI.new (w : World) : MapI (w.alloc (.map #[] 0)) w.heap.size 0 (fun _ => 0) :=
  ⟨_, World.ownsMap_made w _ _ _, fun _ => rfl⟩
theorem put_reads {D : DataW Unit} {f : ByteArray → Int} (hD : IsMap D) (r : ∀ s : ByteArray, D.atKey (.string s.data.toList) (.lit (.int .i64 0)) = .lit (.int .i64 (f s))) (s : ByteArray) (c : Int) (x : ByteArray) :
    (D.put (.string s.data.toList) (.lit (.int .i64 c))).atKey (.string x.data.toList) (.lit (.int .i64 0)) = .lit (.int .i64 (upd f s c x)) := by
  by_cases h : x = s
  · subst h
    rw [upd_same, atKey_put_same hD (by unfold WideAt.IsKeyLit; trivial)]
  · rw [upd_other f c h, atKey_put_other (key_ne h), r x]
theorem del_reads {D : DataW Unit} {f : ByteArray → Int} (r : ∀ s : ByteArray, D.atKey (.string s.data.toList) (.lit (.int .i64 0)) = .lit (.int .i64 (f s))) (s : ByteArray) (x : ByteArray) :
    (D.del (.string s.data.toList)).atKey (.string x.data.toList) (.lit (.int .i64 0)) = .lit (.int .i64 (upd f s 0 x)) := by
  by_cases h : x = s
  · subst h
    rw [upd_same, atKey_del_same]
  · rw [upd_other f 0 h, atKey_del_other (key_ne h), r x]
theorem MapI.drop {w : World} {b n : Nat} {f : ByteArray → Int} (h : MapI w b n f) {s : ByteArray} (hs : s.size ≤ maxLen) (ty : TypeId) :
    ∃ w', (Builtin.delete_ #[60, 9] ty #[.map (some b), .string s]).run Tryd.prog w = .ok (.tuple #[]) w' ∧ MapI w' b n (upd f s 0) ∧ w.grownBy w' (some b) := by
  obtain ⟨D, ho, r⟩ := h
  obtain ⟨w', hrun, ho', ht⟩ := ho.drop lawS Tryd.underlying60 (WideMaps.keyOf_string_mk Tryd.underlying9 hs) ty
  exact ⟨w', hrun, ⟨_, ho', del_reads r s⟩, ht.grown⟩
theorem MapI.store {w : World} {b n : Nat} {f : ByteArray → Int} (h : MapI w b n f) (hn : n < maxLen) {s : ByteArray} (hs : s.size ≤ maxLen) {c : Int} (hc : (Lit.int .i64 c).wf = true) :
    ∃ w', (Instr.mapUpdate 60 (.map (some b)) (.string s) (.int .i64 c)).run Tryd.prog w = .ok () w' ∧ MapI w' b (n + 1) (upd f s c) ∧ w.grownBy w' (some b) := by
  obtain ⟨D, ho, r⟩ := h
  obtain ⟨w', hrun, ho', ht⟩ := ho.store lawS Tryd.underlying60 hn (WideMaps.keyOf_string_mk Tryd.underlying9 hs) (plainElem_int Tryd.underlying3 hc)
  exact ⟨w', hrun, ⟨_, ho', put_reads ho.isMap r s c⟩, ht.grown⟩

/-- The blocks of a rotor. -/
def RG (rb : Nat) (v : Option Nat) : Nat → Prop := fun k => k = rb ∨ v = some k
/-- A rotor with these marks. -/
def Rot (w : World) (rb : Nat) (v : Option Nat) (n : Nat) (f : ByteArray → Int) : Prop :=
  Row w rb 99 #[.map v] ∧ ((v = none ∧ f = fun _ => 0) ∨ ∃ bm, v = some bm ∧ bm ≠ rb ∧ MapI w bm n f)
/-- The map is the same, or new. -/
def Fresh (w : World) (v v' : Option Nat) : Prop := v' = v ∨ ∃ b, v' = some b ∧ w.heap.size ≤ b
theorem Rot.lt {w : World} {rb n : Nat} {v : Option Nat} {f : ByteArray → Int} (h : Rot w rb v n f) : rb < w.heap.size := h.1.lt
theorem Rot.glt {w : World} {rb n : Nat} {v : Option Nat} {f : ByteArray → Int} (h : Rot w rb v n f) {k : Nat} (hk : RG rb v k) : k < w.heap.size := by
  rcases hk with rfl | hk
  · exact h.1.lt
  · rcases h.2 with ⟨h1, _⟩ | ⟨bm, h1, _, h2⟩
    · rw [h1] at hk; cases hk
    · rw [h1] at hk; injection hk with hk; rw [← hk]; exact h2.lt
theorem Rot.keep {w w' : World} {G : Nat → Prop} {rb n : Nat} {v : Option Nat} {f : ByteArray → Int} (h : Rot w rb v n f) (hk : Keep G w w') (hg : ∀ k, RG rb v k → ¬ G k) : Rot w' rb v n f := by
  refine ⟨h.1.keep hk (hg rb (.inl rfl)), ?_⟩
  rcases h.2 with h1 | ⟨bm, h1, h2, h3⟩
  · exact .inl h1
  · exact .inr ⟨bm, h1, h2, h3.keep hk (hg bm (.inr h1))⟩
theorem Rot.below {w w' : World} {rb n : Nat} {v : Option Nat} {f : ByteArray → Int} (h : Rot w rb v n f) (hb : Below w.heap.size w w') : Rot w' rb v n f :=
  h.keep (G := fun _ => False) (.of_below hb) (fun _ _ h => h)
theorem Rot.mono {w : World} {rb n m : Nat} {v : Option Nat} {f : ByteArray → Int} (h : Rot w rb v n f) (hm : n ≤ m) : Rot w rb v m f := by
  refine ⟨h.1, ?_⟩
  rcases h.2 with h1 | ⟨bm, h1, h2, h3⟩
  · exact .inl h1
  · exact .inr ⟨bm, h1, h2, h3.mono hm⟩
theorem fresh_keep {a b c : World} {rb : Nat} {v v1 v2 : Option Nat} (h1 : Keep (RG rb v) a b) (f1 : Fresh a v v1) (h2 : Keep (RG rb v1) b c) (f2 : Fresh b v1 v2) : Keep (RG rb v) a c ∧ Fresh a v v2 := by
  have hs := h1.size
  refine ⟨⟨h2.os.trans h1.os, h2.tape.trans h1.tape, h2.output.trans h1.output, Nat.le_trans h1.size h2.size, fun k hk hn => ?_⟩, ?_⟩
  · refine (h2.block k (by omega) fun hg => hn ?_).trans (h1.block k hk hn)
    rcases hg with hg | hg
    · exact .inl hg
    · rcases f1 with rfl | ⟨b', hb', hlt⟩
      · exact .inr hg
      · rw [hb'] at hg; injection hg with hg; omega
  · rcases f2 with rfl | ⟨b', hb', hlt⟩
    · exact f1
    · exact .inr ⟨b', hb', by omega⟩
end Go.Proofs.YtpjbdejgamajlabDoor

/- rotor.New, Mark, add. -/
namespace Go.Proofs.YtpjbdejgamajlabDoor
open Go.RowKit Go.Maps

theorem new8 (w : World) : Calls Tryd.prog 23 #[] w fun e w' => e = .returned (.pointer (some ⟨w.heap.size, 0, none⟩)) ∧ Rot w' w.heap.size none 0 (fun _ => 0) ∧ Below w.heap.size w w' := by
  have hr := Row.new w 99 #[.map none]
  have hb := below_alloc w (.cells #[.map none] 99)
  have HR := Lib.hid hr
  have HB := Lib.hid hb
  clear hr hb
  go_enter Tryd.func23, Tryd.ntmps23
  go_wp2_with fail
  go_ret
  exact ⟨rfl, ⟨HR.out, .inl ⟨rfl, rfl⟩⟩, HB.out⟩
theorem look_none (w : World) {s : ByteArray} (hs : s.size ≤ maxLen) : (Instr.lookup 60 (.map none) (.string s) false).run Tryd.prog w = .ok (.int .i64 0) w :=
  Maps.look_nil false lawS Tryd.underlying60 (zeroI w) (WideMaps.keyOf_string_mk Tryd.underlying9 hs)
theorem mark11 (rb n : Nat) (v : Option Nat) (f : ByteArray → Int) (s : ByteArray) (hs : s.size ≤ maxLen) (w : World) (h : Rot w rb v n f) :
    Calls Tryd.prog 51 #[.pointer (some ⟨rb, 0, none⟩), .string s] w fun e w' => e = .returned (.int .i64 (f s)) ∧ w' = w := by
  have c0 := h.1.cell 0
  have c0' : w.cell? ⟨rb, 0, none⟩ = some (.map v) := c0
  clear c0
  obtain ⟨_, ⟨rfl, rfl⟩ | ⟨bm, rfl, _, hm⟩⟩ := h
  · have hl := fun W => look_none W hs
    go_enter Tryd.func51, Tryd.ntmps51
    go_wp2_with fail
    go_ret
    exact ⟨rfl, rfl⟩
  · have hl := hm.look hs
    clear hm
    go_enter Tryd.func51, Tryd.ntmps51
    go_wp2_with fail
    go_ret
    exact ⟨rfl, rfl⟩
/-- A number that int holds. -/
def In64 (c : Int) : Prop := -9223372036854775808 ≤ c ∧ c ≤ 9223372036854775807
theorem In64.wf {c : Int} (h : In64 c) : (Lit.int .i64 c).wf = true := WalkArith.wf_i64 h

section
variable {P : Program} (w : World) {ops : Array Oper} {rest : List Oper} {o : Oper} {a : Act} {Q : Exit → Act → World → Prop}
/-- 'm[k] = c' at the operation. -/
theorem wpl_store (hg : o.guard = none) (m x v : Operand) (hop : o.op = Op.mapUpdate 60 m x v) (b n : Nat) (f : ByteArray → Int)
    (hm : a.eval m = .map (some b)) (hown : MapI w b n f) (hn : n < maxLen) (s : ByteArray) (c : Int) (hx : a.eval x = .string s) (hv : a.eval v = .int .i64 c) (hs : s.size ≤ maxLen) (hc : In64 c)
    (hK : ∀ w', MapI w' b (n + 1) (upd f s c) → w.grownBy w' (some b) → wpList Tryd.prog ops Q rest (a.put o.dst undef) w') :
    wpList Tryd.prog ops Q (o :: rest) a w := by
  refine wpList_plain hg fun K' hK' => ?_
  obtain ⟨w', hrun, r1, r2⟩ := hown.store hn hs hc.wf
  unfold Oper.wp
  simp [execOp, hop, hm, hx, hv, hrun, Result.andThen]
  exact hK' _ _ (hK w' r1 r2)
/-- 'delete(m, k)' at the operation. -/
theorem wpl_drop (hg : o.guard = none) (m x : Operand) (hop : o.op = Op.call { callee := Callee.builtin Builtin.delete, args := #[m, x], argTypes := #[60, 9] }) (b n : Nat) (f : ByteArray → Int)
    (hm : a.eval m = .map (some b)) (hown : MapI w b n f) (s : ByteArray) (hx : a.eval x = .string s) (hs : s.size ≤ maxLen)
    (hK : ∀ w', MapI w' b n (upd f s 0) → w.grownBy w' (some b) → wpList Tryd.prog ops Q rest (a.put o.dst (.tuple #[])) w') :
    wpList Tryd.prog ops Q (o :: rest) a w := by
  refine wpList_plain hg fun K' hK' => ?_
  obtain ⟨w', hrun, r1, r2⟩ := hown.drop hs o.type
  unfold Oper.wp
  simp [execOp, hop, resolve, invoke, builtin, hm, hx, hrun, Result.andThen]
  exact hK' _ _ (hK w' r1 r2)
/-- 'delete(nil, k)' at the operation. -/
theorem wpl_drop_nil (hg : o.guard = none) (m x : Operand) (hop : o.op = Op.call { callee := Callee.builtin Builtin.delete, args := #[m, x], argTypes := #[60, 9] })
    (hm : a.eval m = .map none) (s : ByteArray) (hx : a.eval x = .string s) (hs : s.size ≤ maxLen)
    (hK : wpList Tryd.prog ops Q rest (a.put o.dst (.tuple #[])) w) :
    wpList Tryd.prog ops Q (o :: rest) a w := by
  refine wpList_plain hg fun K' hK' => ?_
  have hrun := Maps.drop_nil (w := w) lawS Tryd.underlying60 (WideMaps.keyOf_string_mk Tryd.underlying9 hs) o.type
  unfold Oper.wp
  simp [execOp, hop, resolve, invoke, builtin, hm, hx, hrun, Result.andThen]
  exact hK' _ _ hK
end

/-- What add leaves. -/
def AddPost (rb : Nat) (v : Option Nat) (n : Nat) (f : ByteArray → Int) (w w' : World) : Prop := ∃ v', Rot w' rb v' n f ∧ Keep (RG rb v) w w' ∧ Fresh w v v'
theorem qMap (w : World) (r : Option Nat) : (binOp .eql 60 (.map r) (.map none)).run Tryd.prog w = .ok (.bool r.isNone) w := run_eql_map_nil w _ _ _ r Tryd.underlying60
set_option maxRecDepth 100000 in
theorem add27_n0 (rb : Nat) (s : ByteArray) (hs : s.size ≤ maxLen) (w : World) (h : Row w rb 99 #[.map none]) :
    Calls Tryd.prog 50 #[.pointer (some ⟨rb, 0, none⟩), .string s, .int .i64 0] w fun e w' => e = .returned (.tuple #[]) ∧ w' = w := by
  have c0' : w.cell? ⟨rb, 0, none⟩ = some (.map none) := h.cell 0
  have hl := fun W => look_none W hs
  go_enter Tryd.func50, Tryd.ntmps50
  go_wp2_with (at_delete; refine wpl_drop_nil _ rfl _ _ rfl rfl _ rfl hs ?_)
  refine bodyPost_ret (v := .tuple #[]) (results_none rfl _ _ _) rfl ?_
  exact ⟨rfl, rfl⟩
set_option maxRecDepth 100000 in
theorem add27_nk (rb : Nat) (s : ByteArray) (hs : s.size ≤ maxLen) (k : Int) (hk1 : -9223372036854775808 ≤ k) (hk2 : k ≤ 9223372036854775807) (h0 : k ≠ 0) (w : World) (h : Row w rb 99 #[.map none]) :
    Calls Tryd.prog 50 #[.pointer (some ⟨rb, 0, none⟩), .string s, .int .i64 k] w fun e w' => e = .returned (.tuple #[]) ∧ AddPost rb none 1 (upd (fun _ => 0) s k) w w' := by
  have c0' : w.cell? ⟨rb, 0, none⟩ = some (.map none) := h.cell 0
  have hf : w.frozen? ⟨rb, 0, none⟩ = false := h.free 0
  have hl := fun W => look_none W hs
  have hq := qMap
  have hlt := h.lt
  have hmm := @run_makeMap Tryd.prog
  have R1 := (h.put 0 (.map (some w.heap.size))).alloc (.map #[] 0)
  have M1 := MapI.new (w.setCell ⟨rb, 0, none⟩ (.map (some w.heap.size)))
  rw [show (w.setCell ⟨rb, 0, none⟩ (.map (some w.heap.size))).heap.size = w.heap.size by simp [World.setCell]] at M1
  have K1 : Keep (RG rb none) w ((w.setCell ⟨rb, 0, none⟩ (.map (some w.heap.size))).alloc (.map #[] 0)) := (Keep.setCell w (p := ⟨rb, 0, none⟩) (.inl rfl) _).trans (Keep.alloc _ _)
  have HM := Lib.hid M1
  have HR := Lib.hid R1
  have HK := Lib.hid K1
  clear R1 M1 K1
  go_enter Tryd.func50, Tryd.ntmps50
  go_wp2_with (at_mapUpdate; go_loud (refine wpl_store _ rfl _ _ _ rfl w.heap.size 0 _ rfl HM.out (by unfold maxLen; omega) s k rfl rfl hs ⟨hk1, hk2⟩ ?_; intro w2 m2 g2))
  go_end0
  have hk2 := HK.out
  refine ⟨rfl, some w.heap.size, ⟨HR.out.grown g2 (by intro e; injection e with e; omega), .inr ⟨_, rfl, by omega, m2⟩⟩, ?_, .inr ⟨_, rfl, Nat.le_refl _⟩⟩
  exact ⟨g2.os.trans hk2.os, g2.tape.trans hk2.tape, g2.output.trans hk2.output, Nat.le_trans hk2.size g2.size, fun j hj hn => (g2.block j (Nat.lt_of_lt_of_le hj hk2.size) (by intro e; injection e with e; omega)).trans (hk2.block j hj hn)⟩
set_option maxRecDepth 100000 in
theorem add27_s (rb bm n : Nat) (f : ByteArray → Int) (s : ByteArray) (hs : s.size ≤ maxLen) (k c : Int) (hc : f s + k = c) (hk1 : -9223372036854775808 ≤ c) (hk2 : c ≤ 9223372036854775807) (hn : n < maxLen) (w : World) (h : Row w rb 99 #[.map (some bm)]) (hne : bm ≠ rb) (hm : MapI w bm n f) :
    Calls Tryd.prog 50 #[.pointer (some ⟨rb, 0, none⟩), .string s, .int .i64 k] w fun e w' => e = .returned (.tuple #[]) ∧ AddPost rb (some bm) (n + 1) (upd f s c) w w' := by
  have c0' : w.cell? ⟨rb, 0, none⟩ = some (.map (some bm)) := h.cell 0
  have hl := hm.look hs
  have hq := qMap
  have HM := Lib.hid hm
  have HN : Hid (n < maxLen) := hn
  clear hm
  by_cases h0 : c = 0
  · subst h0
    go_enter Tryd.func50, Tryd.ntmps50
    go_wp2_with (at_delete; refine wpl_drop _ rfl _ _ rfl bm n f rfl HM.out s rfl hs ?_; intro w2 m2 g2)
    refine bodyPost_ret (v := .tuple #[]) (results_none rfl _ _ _) rfl ?_
    refine ⟨rfl, some bm, ⟨h.grown g2 (by intro e; injection e with e; omega), .inr ⟨_, rfl, hne, m2.mono (by omega)⟩⟩, .grown g2 (fun k hk => .inr hk), .inl rfl⟩
  · go_enter Tryd.func50, Tryd.ntmps50
    go_wp2_with (at_mapUpdate; refine wpl_store _ rfl _ _ _ rfl bm n f rfl HM.out HN.out s c rfl rfl hs ⟨hk1, hk2⟩ ?_; intro w2 m2 g2)
    go_end0
    refine ⟨rfl, some bm, ⟨h.grown g2 (by intro e; injection e with e; omega), .inr ⟨_, rfl, hne, m2⟩⟩, .grown g2 (fun k hk => .inr hk), .inl rfl⟩
end Go.Proofs.YtpjbdejgamajlabDoor

/- Weighted round robin over lists: what Pick comes to; shares. -/
namespace Go.Proofs.YtpjbdejgamajlabDoor

/-- An entry: its name, its weight. -/
abbrev Ent := ByteArray × Int
/-- A weight as it counts. -/
def lim (n : Int) : Int := min (max n 1) 65535
theorem lim_one (n : Int) : 1 ≤ lim n ∧ lim n ≤ 65535 := by unfold lim; omega
/-- Is the name among the entries? -/
def hasE (es : List Ent) (s : ByteArray) : Bool := es.any fun x => decide (x.1 = s)
theorem hasE_append (a b : List Ent) (s : ByteArray) : hasE (a ++ b) s = (hasE a s || hasE b s) := by simp [hasE]
theorem hasE_map (a : List Ent) (g : Int → Int) (s : ByteArray) : hasE (a.map fun e => (e.1, g e.2)) s = hasE a s := by simp [hasE, List.any_map, Function.comp_def]
theorem hasE_mem {a : List Ent} {s : ByteArray} : hasE a s = true ↔ ∃ e ∈ a, e.1 = s := by simp [hasE]
/-- The first entry of each name. -/
def onceF (acc : List Ent) (e : Ent) : List Ent := if hasE acc e.1 then acc else acc ++ [e]
def once (es : List Ent) : List Ent := es.foldl onceF []
theorem once_step {es : List Ent} {j : Nat} (hj : j < es.length) : once (es.take (j + 1)) = onceF (once (es.take j)) es[j] := by
  unfold once
  rw [List.take_add_one, List.getElem?_eq_getElem hj, Option.toList_some, List.foldl_append]
  rfl
/-- No name twice. -/
def Apart (es : List Ent) : Prop := es.Pairwise fun x y => x.1 ≠ y.1
theorem Apart.snoc {a : List Ent} (h : Apart a) {e : Ent} (he : hasE a e.1 = false) : Apart (a ++ [e]) := by
  unfold Apart
  rw [List.pairwise_append]
  refine ⟨h, by simp, fun x hx y hy => ?_⟩
  simp at hy
  subst hy
  intro e2
  have : hasE a y.1 = true := hasE_mem.2 ⟨x, hx, e2⟩
  rw [he] at this; cases this
theorem onceF_apart {a : List Ent} (h : Apart a) (e : Ent) : Apart (onceF a e) := by
  unfold onceF
  split
  · exact h
  · rename_i hn
    exact h.snoc (by simpa using hn)
theorem fold_apart : ∀ (es a : List Ent), Apart a → Apart (es.foldl onceF a)
  | [], _, h => h
  | e :: es, _, h => fold_apart es _ (onceF_apart h e)
theorem once_apart (es : List Ent) : Apart (once es) := fold_apart es [] List.Pairwise.nil
theorem fold_len : ∀ (es a : List Ent), (es.foldl onceF a).length ≤ a.length + es.length
  | [], _ => by simp
  | e :: es, a => by
    have h := fold_len es (onceF a e)
    have h2 : (onceF a e).length ≤ a.length + 1 := by unfold onceF; split <;> simp
    simp only [List.foldl_cons, List.length_cons]
    omega
theorem once_len (es : List Ent) : (once es).length ≤ es.length := by
  have := fold_len es []
  simpa [once] using this
theorem fold_sub : ∀ (es a : List Ent), ∀ e ∈ es.foldl onceF a, e ∈ a ∨ e ∈ es
  | [], _, e, h => .inl h
  | x :: es, a, e, h => by
    rcases fold_sub es _ e h with h | h
    · unfold onceF at h
      split at h
      · exact .inl h
      · rcases List.mem_append.1 h with h | h
        · exact .inl h
        · simp at h; exact .inr (by simp [h])
    · exact .inr (List.mem_cons_of_mem _ h)
theorem once_sub {es : List Ent} {e : Ent} (h : e ∈ once es) : e ∈ es := by
  rcases fold_sub es [] e h with h | h
  · cases h
  · exact h
theorem fold_keeps : ∀ (es a : List Ent), a ≠ [] → es.foldl onceF a ≠ []
  | [], _, h => h
  | _ :: es, _, h => fold_keeps es _ (by unfold onceF; split <;> simp [h])
theorem once_ne {es : List Ent} (h : es ≠ []) : once es ≠ [] := by
  cases es with
  | nil => exact absurd rfl h
  | cons e es => exact fold_keeps es _ (by simp [onceF, hasE])
theorem fold_apart_id : ∀ (es a : List Ent), Apart (a ++ es) → es.foldl onceF a = a ++ es
  | [], _, _ => by simp
  | e :: es, a, h => by
    have h1 : hasE a e.1 = false := by
      cases hb : hasE a e.1
      · rfl
      · obtain ⟨x, hx, hxe⟩ := hasE_mem.1 hb
        exact absurd hxe ((List.pairwise_append.1 h).2.2 x hx e (by simp))
    have : onceF a e = a ++ [e] := by unfold onceF; rw [h1]; rfl
    rw [List.foldl_cons, this, fold_apart_id es (a ++ [e]) (by simpa using h)]
    simp
theorem once_id {es : List Ent} (h : Apart es) : once es = es := by
  have := fold_apart_id es [] (by simpa using h)
  simpa [once] using this
/-- The entries that count. -/
def cnt (es : List Ent) : List Ent := (once es).map fun e => (e.1, lim e.2)
theorem Apart.map {es : List Ent} (h : Apart es) (g : Ent → Int) : Apart (es.map fun e => (e.1, g e)) := by
  unfold Apart
  rw [List.pairwise_map]
  exact h
theorem cnt_apart (es : List Ent) : Apart (cnt es) := (once_apart es).map (fun e => lim e.2)
theorem cnt_len (es : List Ent) : (cnt es).length ≤ es.length := by unfold cnt; rw [List.length_map]; exact once_len es
theorem cnt_id {es : List Ent} (h : Apart es) (hw : ∀ e ∈ es, 1 ≤ e.2 ∧ e.2 ≤ 65535) : cnt es = es := by
  unfold cnt
  rw [once_id h]
  conv => rhs; rw [← List.map_id es]
  apply List.map_congr_left
  intro e he
  have := hw e he
  show (e.1, lim e.2) = e
  have : lim e.2 = e.2 := by unfold lim; omega
  rw [this]

/-- Each weight added to its name's mark. -/
def addAll (f : ByteArray → Int) (E : List Ent) : ByteArray → Int := E.foldl (fun f e => upd f e.1 (f e.1 + e.2)) f
theorem addAll_step (f : ByteArray → Int) {E : List Ent} {j : Nat} (hj : j < E.length) : addAll f (E.take (j + 1)) = upd (addAll f (E.take j)) E[j].1 (addAll f (E.take j) E[j].1 + E[j].2) := by
  unfold addAll
  rw [List.take_add_one, List.getElem?_eq_getElem hj, Option.toList_some, List.foldl_append]
  rfl
theorem addAll_other : ∀ (E : List Ent) (f : ByteArray → Int) (s : ByteArray), hasE E s = false → addAll f E s = f s
  | [], _, _, _ => rfl
  | e :: E, f, s, h => by
    simp only [hasE, List.any_cons, Bool.or_eq_false_iff, decide_eq_false_iff_not] at h
    show addAll (upd f e.1 (f e.1 + e.2)) E s = _
    rw [addAll_other E _ s h.2, upd_other _ _ (Ne.symm h.1)]
theorem addAll_mem : ∀ (E : List Ent) (f : ByteArray → Int), Apart E → ∀ e ∈ E, addAll f E e.1 = f e.1 + e.2
  | [], _, _, e, h => by cases h
  | x :: E, f, ha, e, h => by
    have ha2 := List.pairwise_cons.1 ha
    show addAll (upd f x.1 (f x.1 + x.2)) E e.1 = _
    rcases List.mem_cons.1 h with rfl | h
    · rw [addAll_other E _ _ (by
        cases hb : hasE E e.1
        · rfl
        · obtain ⟨y, hy, hye⟩ := hasE_mem.1 hb
          exact absurd hye.symm (ha2.1 y hy)), upd_same]
    · rw [addAll_mem E _ ha2.2 e h, upd_other _ _ (Ne.symm (ha2.1 e h))]
/-- The name at a place. -/
def nm (E : List Ent) (j : Nat) : ByteArray := ((E[j]?).getD (⟨#[]⟩, 0)).1
theorem nm_eq {E : List Ent} {j : Nat} (hj : j < E.length) : nm E j = E[j].1 := by simp [nm, hj]
/-- The place of the greatest mark so far. -/
def great (f : ByteArray → Int) (E : List Ent) : Nat → Nat
  | 0 => 0
  | j + 1 => if addAll f (E.take (j + 1)) (nm E (great f E j)) < addAll f (E.take (j + 1)) (nm E j) then j else great f E j
theorem great_lt (f : ByteArray → Int) (E : List Ent) : ∀ j, great f E j < j ∨ great f E j = 0
  | 0 => .inr rfl
  | j + 1 => by
    unfold great
    split
    · exact .inl (by omega)
    · rcases great_lt f E j with h | h
      · exact .inl (by omega)
      · exact .inr h
/-- The sum of the weights. -/
def sumW (E : List Ent) : Int := (E.map fun e => e.2).sum
theorem sumW_step {E : List Ent} {j : Nat} (hj : j < E.length) : sumW (E.take (j + 1)) = sumW (E.take j) + E[j].2 := by
  unfold sumW
  rw [List.take_add_one, List.getElem?_eq_getElem hj, Option.toList_some, List.map_append, List.sum_append]
  simp
/-- Whose turn it is. -/
def turn (f : ByteArray → Int) (E : List Ent) : ByteArray := nm E (great f E E.length)
/-- The marks behind it. -/
def after (f : ByteArray → Int) (E : List Ent) : ByteArray → Int := upd (addAll f E) (turn f E) (addAll f E (turn f E) - sumW E)
end Go.Proofs.YtpjbdejgamajlabDoor

/- Slices of entries; sets of names; counting. -/
namespace Go.Proofs.YtpjbdejgamajlabDoor
open Go.RowKit Go.Maps

theorem infoEnt : (Tryd.prog.info? 63).map (fun i => (i.zero, i.size, i.bytes)) = some (some (.agg #[.string ⟨#[]⟩, .int .i64 0]), 2, 24) := by kernel_rfl
/-- The cells of entries. -/
def cellsE (es : List Ent) : List Value := es.flatMap fun e => [.string e.1, .int .i64 e.2]
theorem cellsE_append (a b : List Ent) : cellsE (a ++ b) = cellsE a ++ cellsE b := by simp [cellsE]
theorem cellsE_length (a : List Ent) : (cellsE a).length = a.length * 2 := by
  induction a with
  | nil => rfl
  | cons e a ih => simp [cellsE] at ih ⊢; omega
theorem cellsE_at : ∀ (es : List Ent) (j : Nat) (e : Ent), es[j]? = some e → (cellsE es)[j * 2]? = some (.string e.1) ∧ (cellsE es)[j * 2 + 1]? = some (.int .i64 e.2)
  | [], j, e, h => by cases j <;> cases h
  | x :: es, 0, e, h => by
    simp at h; subst h
    exact ⟨rfl, rfl⟩
  | x :: es, j + 1, e, h => by
    have := cellsE_at es j e (by simpa using h)
    rw [show (j + 1) * 2 = j * 2 + 1 + 1 by omega]
    exact ⟨this.1, this.2⟩
theorem cellsE_step {es : List Ent} {j : Nat} (hj : j < es.length) : cellsE (es.take (j + 1)) = cellsE (es.take j) ++ [.string es[j].1, .int .i64 es[j].2] := by
  rw [List.take_add_one, List.getElem?_eq_getElem hj, Option.toList_some, cellsE_append]
  rfl
/-- A slice that reads as these entries. -/
def IsEnts (w : World) (a : Option Addr) (c : Nat) (es : List Ent) : Prop :=
  es = [] ∨ ∃ bk o, a = some ⟨bk, o, none⟩ ∧ bk < w.heap.size ∧ es.length ≤ c ∧ ∀ (j : Nat) e, es[j]? = some e → w.cell? ⟨bk, o + j * 2, none⟩ = some (.string e.1) ∧ w.cell? ⟨bk, o + j * 2 + 1, none⟩ = some (.int .i64 e.2)
theorem keep_cell {G : Nat → Prop} {w w' : World} (h : Keep G w w') {b : Nat} (hb : b < w.heap.size) (hg : ¬ G b) (o : Nat) : w'.cell? ⟨b, o, none⟩ = w.cell? ⟨b, o, none⟩ := by
  have := h.block b hb hg
  simp only [World.cell?, this]
theorem IsEnts.keep {G : Nat → Prop} {w w' : World} {a : Option Addr} {c : Nat} {es : List Ent} (h : IsEnts w a c es) (hk : Keep G w w') (hg : ∀ p, a = some p → ¬ G p.block) : IsEnts w' a c es := by
  obtain h | ⟨bk, o, ha, hlt, hc, hcell⟩ := h
  · exact .inl h
  · have hb := hg _ ha
    exact .inr ⟨bk, o, ha, Nat.lt_of_lt_of_le hlt hk.size, hc, fun j f hf => by rw [keep_cell hk hlt hb, keep_cell hk hlt hb]; exact hcell j f hf⟩
theorem IsEnts.below {w w' : World} {a : Option Addr} {c : Nat} {es : List Ent} (h : IsEnts w a c es) (hb : Below w.heap.size w w') : IsEnts w' a c es :=
  h.keep (G := fun _ => False) (.of_below hb) (fun _ _ h => h)
theorem isEnts_own {w : World} {base : Nat} {e : TypeId} {a : Option Addr} {m c : Nat} {es : List Ent} (h : w.ownsRow base e 2 (.slice a m c) es.length (cellsE es)) : m = es.length ∧ IsEnts w a c es ∧ ∀ p, a = some p → base ≤ p.block ∧ p.block < w.heap.size := by
  have hl := fun k hk => h.lt k hk
  obtain ⟨_, ⟨hv, h0⟩ | ⟨g, cap, cur, hv, hb, hg, hcap, _, hcs, htk⟩⟩ := h
  · injection hv with h1 h2 h3
    refine ⟨by omega, .inl (List.eq_nil_of_length_eq_zero h0), fun p hp => ?_⟩
    rw [h1] at hp; cases hp
  · injection hv with h1 h2 h3
    have hlt : g < w.heap.size := (Array.getElem?_eq_some_iff.1 hg).1
    subst h1 h2 h3
    refine ⟨rfl, .inr ⟨g, 0, rfl, hlt, hcap, fun j e' he => ?_⟩, fun p hp => ?_⟩
    · have hj : j < es.length := by
        rcases Nat.lt_or_ge j es.length with h | h
        · exact h
        · rw [List.getElem?_eq_none h] at he; cases he
      obtain ⟨q1, q2⟩ := cellsE_at es j e' he
      rw [← htk, List.getElem?_take, if_pos (by omega)] at q1 q2
      rw [Nat.zero_add]
      constructor
      · simpa [World.cell?, hg] using q1
      · simpa [World.cell?, hg] using q2
    · injection hp with hp; subst hp; exact ⟨hb, hlt⟩
theorem cells_ent (w : World) (n : ByteArray) (v : Int) (T : TypeId) : ∀ (k : Nat) u, [Value.string n, .int .i64 v][k]? = some u → (w.alloc (.cells #[.string n, .int .i64 v] T)).cell? ((⟨w.heap.size, 0, none⟩ : Addr).add k) = some u := by
  intro k u hu
  rw [Addr.add_mid]
  match k, hu with
  | 0, hu => obtain rfl := Option.some.inj hu; simp
  | 1, hu => obtain rfl := Option.some.inj hu; simp
  | k + 2, hu => simp at hu
theorem ent_one (n : ByteArray) (v : Int) : ∀ u ∈ [Value.string n, Value.int .i64 v], u.oneCell' = true := by intro u hu; simp at hu; rcases hu with rfl | rfl <;> rfl

/-- A set of names. -/
def MapS (w : World) (b n : Nat) (p : ByteArray → Bool) : Prop :=
  ∃ D : DataW Unit, w.ownsMap Tryd.prog 9 unitElem b n D ∧ ∀ s : ByteArray, Maps.has D (.string s.data.toList) = p s
theorem MapS.lt {w : World} {b n : Nat} {p : ByteArray → Bool} (h : MapS w b n p) : b < w.heap.size := by
  obtain ⟨D, ho, _⟩ := h
  exact ho.lt
theorem MapS.same {w w' : World} {b n : Nat} {p : ByteArray → Bool} (h : MapS w b n p) (hb : w'.heap[b]? = w.heap[b]?) : MapS w' b n p := by
  obtain ⟨D, ⟨es, clock, hm, F, hs, hD⟩, r⟩ := h
  exact ⟨D, ⟨es, clock, hb.trans hm, F, hs, hD⟩, r⟩
theorem MapS.alloc {w : World} {b n : Nat} {p : ByteArray → Bool} (h : MapS w b n p) (o : Obj) : MapS (w.alloc o) b n p := h.same ((below_alloc w o).block b h.lt)
theorem MapS.mono {w : World} {b n m : Nat} {p : ByteArray → Bool} (h : MapS w b n p) (hm : n ≤ m) : MapS w b m p := by
  obtain ⟨D, ho, r⟩ := h
  exact ⟨D, ho.mono hm, r⟩
theorem MapS.keep {w w' : World} {G : Nat → Prop} {b n : Nat} {p : ByteArray → Bool} (h : MapS w b n p) (hk : Keep G w w') (hg : ¬ G b) : MapS w' b n p := h.same (hk.block b h.lt hg)
theorem MapS.new (w : World) : MapS (w.alloc (.map #[] 0)) w.heap.size 0 (fun _ => false) := ⟨_, World.ownsMap_made w _ _ _, fun _ => rfl⟩
theorem zeroU (w : World) : (zeroValue 83).run Tryd.prog w = .ok (.agg #[]) w := by kernel_rfl
section
variable (w : World) {ops : Array Oper} {rest : List Oper} {o : Oper} {a : Act} {Q : Exit → Act → World → Prop}
theorem wpl_seen (hg : o.guard = none) (m x : Operand) (hop : o.op = Op.lookup 81 m x true) (b n : Nat) (p : ByteArray → Bool)
    (hm : a.eval m = .map (some b)) (hown : MapS w b n p) (s : ByteArray) (hx : a.eval x = .string s) (hs : s.size ≤ maxLen)
    (hK : wpList Tryd.prog ops Q rest (a.put o.dst (.tuple #[.agg #[], .bool (p s)])) w) :
    wpList Tryd.prog ops Q (o :: rest) a w := by
  obtain ⟨D, ho, r⟩ := hown
  rw [← r s] at hK
  exact wpList_lookup_own_unit w hg m x _ hop _ _ lawS Tryd.underlying81 (zeroU _) b n D hm ho _ _ hx (WideMaps.keyOf_string_mk Tryd.underlying9 hs) hK
theorem wpl_mark (hg : o.guard = none) (m x v : Operand) (hop : o.op = Op.mapUpdate 81 m x v) (b n : Nat) (p : ByteArray → Bool)
    (hm : a.eval m = .map (some b)) (hown : MapS w b n p) (hn : n < maxLen) (s : ByteArray) (hx : a.eval x = .string s) (hv : a.eval v = .agg #[]) (hs : s.size ≤ maxLen)
    (hK : ∀ w', MapS w' b (n + 1) (fun y => p y || decide (s = y)) → w.grownBy w' (some b) → wpList Tryd.prog ops Q rest (a.put o.dst undef) w') :
    wpList Tryd.prog ops Q (o :: rest) a w := by
  obtain ⟨D, ho, r⟩ := hown
  refine wpList_mapUpdate_own w hg m x v _ hop _ _ lawS Tryd.underlying81 unitElem b n D hm ho hn _ _ _ hx hv (WideMaps.keyOf_string_mk Tryd.underlying9 hs) _ [] unitElem_mk ?_
  intro w' ho' hg'
  refine hK w' ⟨_, ho', fun y => ?_⟩ hg'
  by_cases h : y = s
  · subst h
    rw [has_put_same ho.isMap (by unfold WideAt.IsKeyLit; trivial)]
    simp
  · rw [has_put_other (key_ne h), r y]
    have : ¬ s = y := fun e => h e.symm
    simp [this]
end
end Go.Proofs.YtpjbdejgamajlabDoor

/- rotor.counting. -/
namespace Go.Proofs.YtpjbdejgamajlabDoor
open Go.RowKit Go.Maps

theorem run_makeMap_hint {P : Program} {t k e : TypeId} (hu : P.underlying t = some (.map k e)) (q : IntKind) (n : Int) (w : World) : (Instr.makeMap t (some (.int q n))).run P w = .ok (.map (some w.heap.size)) (w.alloc (.map #[] 0)) := by
  simp [Instr.makeMap, run_underlying hu, asInt, asIntOf, Result.andThen]
theorem max_int (x y m : Int) (h : m = max x y) (ts : Array TypeId) (t : TypeId) (w : World) : (Builtin.max_ ts t #[.int .i64 x, .int .i64 y]).run Tryd.prog w = .ok (.int .i64 m) w := by
  have : m = if y > x then y else x := by subst h; split <;> omega
  simp [Builtin.max_, Builtin.max2, this]
theorem min_int (x y m : Int) (h : m = min x y) (ts : Array TypeId) (t : TypeId) (w : World) : (Builtin.min_ ts t #[.int .i64 x, .int .i64 y]).run Tryd.prog w = .ok (.int .i64 m) w := by
  have : m = if y < x then y else x := by subst h; split <;> omega
  simp [Builtin.min_, Builtin.min2, this]
/-- What the loop holds. -/
structure CntS (w : World) (es : List Ent) (mb : Nat) (u : Value) (j : Nat) (wr : World) : Prop where
  bel : Below w.heap.size w wr
  own : wr.ownsRow (mb + 1) 63 2 u (cnt (es.take j)).length (cellsE (cnt (es.take j)))
  set : MapS wr mb j (hasE (once (es.take j)))
theorem cnt_hasE (es : List Ent) (s : ByteArray) : hasE (cnt es) s = hasE (once es) s := hasE_map _ lim s
theorem once_nil : once [] = [] := rfl
theorem cnt_step_old {es : List Ent} {j : Nat} (hj : j < es.length) (h : hasE (once (es.take j)) es[j].1 = true) : once (es.take (j + 1)) = once (es.take j) := by
  rw [once_step hj]; unfold onceF; rw [if_pos h]
theorem cnt_step_new {es : List Ent} {j : Nat} (hj : j < es.length) (h : hasE (once (es.take j)) es[j].1 = false) : once (es.take (j + 1)) = once (es.take j) ++ [es[j]] := by
  rw [once_step hj]; unfold onceF; rw [h]; rfl
theorem own_base {w : World} {b b' : Nat} {e : TypeId} {n m : Nat} {v : Value} {xs : List Value} (h : w.ownsRow b e n v m xs) (hb : b' ≤ b) : w.ownsRow b' e n v m xs := by
  obtain ⟨hl, h0 | ⟨g, cap, cur, rfl, hbb, r⟩⟩ := h
  · exact ⟨hl, .inl h0⟩
  · exact ⟨hl, .inr ⟨g, cap, cur, rfl, Nat.le_trans hb hbb, r⟩⟩
set_option maxHeartbeats 4000000 in
set_option maxRecDepth 100000 in
theorem count26 (a : Option Addr) (c : Nat) (es : List Ent) (hl : es.length ≤ 1000000) (hsz : ∀ e ∈ es, e.1.size ≤ maxLen) (w : World) (hf : IsEnts w a c es) :
    Calls Tryd.prog 49 #[.slice a es.length c] w fun e w' => ∃ u, e = .returned u ∧ w'.ownsRow w.heap.size 63 2 u (cnt es).length (cellsE (cnt es)) ∧ Below w.heap.size w w' := by
  obtain ⟨i0, hi, hz0, hz1, hz2⟩ := info_parts infoEnt
  have HFF := Lib.hid hf
  have HSZ := Lib.hid hsz
  have hmm := run_makeMap_hint Tryd.underlying81
  have HM0 := Lib.hid (MapS.new w)
  clear hf hsz
  go_enter Tryd.func49, Tryd.ntmps49
  go_wp2_with (at_make; refine wpList_make_own _ rfl _ _ 61 rfl (w.heap.size + 1) 63 i0 (.agg #[.string ⟨#[]⟩, .int .i64 0]) 2 Tryd.underlying61 hi hz0 hz1 _ _ _ es.length rfl rfl rfl (by rw [hz2]; omega) (by unfold maxLen; omega) (by simp) ?_; intro w1 hown1 hg1)
  have HB1 := Lib.hid ((below_alloc w (.map #[] 0)).grown hg1 (by simp) (fun k hk => by cases hk))
  have HS1 := Lib.hid (HM0.out.keep (Keep.grown (G := fun _ => False) hg1 (fun k hk => by cases hk)) (fun h => h))
  simp only [World.size_alloc] at hown1
  have HO1 := Lib.hid hown1
  clear hown1 hg1 HM0
  obtain ⟨mb, hmb⟩ : ∃ mb, mb = w.heap.size := ⟨_, rfl⟩
  have HB0 : Hid (mb = w.heap.size) := hmb
  rw [← hmb] at HS1 HO1 ⊢
  clear hmb
  go_wp2_with fail
  go_loopw [4, 17] (fun u i wr => ∃ j : Nat, j ≤ es.length ∧ i = .int .i64 (j : Int) ∧ CntS w es mb u j wr) (fun _ i _ => es.length - (intOf i).toNat)
  case atStart =>
    refine ⟨0, Nat.zero_le _, rfl, HB1.out, ?_, ?_⟩
    · simpa [once_nil, cnt, cellsE] using HO1.out
    · exact HS1.out
  case round =>
    obtain ⟨j, hj, rfl, HC⟩ := hrel
    by_cases hlt : j < es.length
    · obtain h0 | ⟨bk, o, rfl, hbk, hc, hcell⟩ := HFF.out.below HC.bel
      · subst h0; simp at hlt
      obtain ⟨c1, c2⟩ := hcell j es[j] (by simp [hlt])
      have hss := HSZ.out es[j] (List.getElem_mem hlt)
      have j1 : (j : Int) < es.length := by omega
      have hst1 : Hid (hasE (once (es.take j)) es[j].1 = true → once (es.take (j + 1)) = once (es.take j)) := cnt_step_old hlt
      have hst2 : Hid (hasE (once (es.take j)) es[j].1 = false → once (es.take (j + 1)) = once (es.take j) ++ [es[j]]) := cnt_step_new hlt
      obtain ⟨f, hfe⟩ : ∃ f, f = es[j] := ⟨_, rfl⟩
      rw [← hfe] at c1 c2 hst1 hst2 hss
      clear hcell hfe
      obtain ⟨N, V⟩ := f
      simp only at c1 c2 hst1 hst2 hss
      obtain ⟨R, hR⟩ : ∃ R, R = wr.heap.size := ⟨_, rfl⟩
      have hmR : mb < wr.heap.size := HC.set.lt
      have HS2 := Lib.hid (HC.set.alloc (.cells #[.string N, .int .i64 V] 63))
      have hq : Hid (∀ q, q = hasE (once (es.take j)) N → MapS (wr.alloc (.cells #[.string N, .int .i64 V] 63)) mb j (hasE (once (es.take j)))) := fun _ _ => HS2.out
      obtain ⟨q, hqe⟩ : ∃ q, q = hasE (once (es.take j)) N := ⟨_, rfl⟩
      have HQE : Hid (hasE (once (es.take j)) N = q) := hqe.symm
      clear hq hqe hR R
      cases q
      · have hs2 := hst2.out HQE.out
        have HE := Lib.hid hs2
        clear hst1 hst2 hs2
        go_wp2_with (first
          | (at_lookup; refine wpl_seen _ rfl _ _ rfl mb j _ rfl HS2.out N rfl hss ?_; rw [HQE.out])
          | (at_mapUpdate; refine wpl_mark _ rfl _ _ _ rfl mb j _ rfl (HS2.out.alloc _) (by unfold maxLen; omega) N rfl rfl hss ?_))
        intro w2 m2 g2
        have hsz : ((wr.alloc (.cells #[.string N, .int .i64 V] 63)).alloc (.cells #[] 83)).heap.size = wr.heap.size + 1 + 1 := by rw [World.size_alloc, World.size_alloc]
        have R2 : Row w2 wr.heap.size 63 #[.string N, .int .i64 V] := ((Row.new wr 63 #[.string N, .int .i64 V]).alloc (.cells #[] 83)).grown g2 (by intro e; injection e with e; omega)
        have c3 : w2.cell? ⟨wr.heap.size, 0, none⟩ = some (.string N) := R2.cell 0
        have c4 : w2.cell? ⟨wr.heap.size, 1, none⟩ = some (.int .i64 V) := R2.cell 1
        have f4 : w2.frozen? ⟨wr.heap.size, 1, none⟩ = false := R2.free 1
        have hgs := g2.size
        rw [hsz] at hgs
        obtain ⟨Y, hY⟩ : ∃ Y, Y = max V 1 := ⟨_, rfl⟩
        obtain ⟨X, hX⟩ : ∃ X, X = min Y 65535 := ⟨_, rfl⟩
        have qmx := max_int V 1 Y hY
        have qmn := min_int Y 65535 X hX
        have HX : Hid (X = lim V) := by rw [hX, hY]; rfl
        have O2 : w2.ownsRow (mb + 1) 63 2 u4 (cnt (es.take j)).length (cellsE (cnt (es.take j))) := by
          refine ((HC.own.alloc _).alloc _).kept g2 ?_
          cases hob : u4.ownBlock with
          | none => exact .inl rfl
          | some k => have := (HC.own.lt k hob).1; exact .inr (by intro e; injection e with e; omega)
        have O3 : (w2.setCell ⟨wr.heap.size, 1, none⟩ (.int .i64 X)).ownsRow (mb + 1) 63 2 u4 (cnt (es.take j)).length (cellsE (cnt (es.take j))) := by
          refine O2.kept (row := some wr.heap.size) ⟨rfl, rfl, rfl, by simp [World.setCell], fun i _ hi => Below.heap_setCell _ _ _ _ (fun e => hi (by rw [e]))⟩ ?_
          cases hob : u4.ownBlock with
          | none => exact .inl rfl
          | some k => have := (HC.own.lt k hob).2; exact .inr (by intro e; injection e with e; omega)
        have HO3 := Lib.hid (O3.alloc (.cells #[.string N, .int .i64 X] 63))
        have hsz3 : (w2.setCell ⟨wr.heap.size, 1, none⟩ (.int .i64 X)).heap.size = w2.heap.size := by simp [World.setCell]
        have hnw := cells_ent (w2.setCell ⟨wr.heap.size, 1, none⟩ (.int .i64 X)) N X 63
        rw [hsz3] at hnw
        have HNW := Lib.hid hnw
        have hbw := HC.bel.size
        have hmbw := HB0.out
        have B2 : Below w.heap.size w w2 := ((HC.bel.alloc HC.bel.size (.cells #[.string N, .int .i64 V] 63)).alloc (by rw [World.size_alloc]; omega) (.cells #[] 83)).grown g2 (by rw [hsz]; omega) (fun k hk => by injection hk with hk; omega)
        have B3 : Below w.heap.size w (w2.setCell ⟨wr.heap.size, 1, none⟩ (.int .i64 X)) := B2.setCell (p := ⟨wr.heap.size, 1, none⟩) hbw _
        have HB4 := Lib.hid (B3.alloc (by rw [hsz3]; omega) (.cells #[.string N, .int .i64 X] 63))
        have M3 : MapS (w2.setCell ⟨wr.heap.size, 1, none⟩ (.int .i64 X)) mb (j + 1) (fun y => hasE (once (es.take j)) y || decide (N = y)) := m2.same (Below.heap_setCell _ _ _ _ (by show mb ≠ wr.heap.size; omega))
        have HM4 := Lib.hid (M3.alloc (.cells #[.string N, .int .i64 X] 63))
        have hlen : (cnt (es.take j)).length ≤ es.length := Nat.le_trans (cnt_len _) (by simp; omega)
        clear m2 g2 R2 O2 O3 hnw B2 B3 M3 HS2 hX hY hmbw
        go_wp2_with (at_builtin; (refine wpList_append_own _ rfl _ _ 61 rfl (mb + 1) 63 i0 (.agg #[.string ⟨#[]⟩, .int .i64 0]) 2 24 Tryd.underlying61 hi hz0 hz1 hz2 rfl (by decide) _ _ _ rfl HO3.out ⟨w2.heap.size, 0, none⟩ 1 1 [.string N, .int .i64 X] rfl rfl HNW.out (ent_one N X) (by unfold maxLen; omega) (by omega) (by simp; omega) ?_))
        intro v' w4 hown' hgrow _
        have hB0 := HB0.out
        have hgs4 := HB4.out.size
        have HB5 : Hid (Below w.heap.size w w4) := HB4.out.grown hgrow hgs4 (fun k hk => by have := (HO3.out.lt k hk).1; omega)
        have hst : cnt (es.take (j + 1)) = cnt (es.take j) ++ [(N, X)] := by unfold cnt; rw [HE.out, HX.out, List.map_append]; rfl
        have hown5 : w4.ownsRow (mb + 1) 63 2 v' (cnt (es.take (j + 1))).length (cellsE (cnt (es.take (j + 1)))) := by
          rw [hst, List.length_append, cellsE_append]; exact hown'
        have HO5 := Lib.hid hown5
        have hm5 : MapS w4 mb (j + 1) (hasE (once (es.take (j + 1)))) := by
          have h5 := HM4.out.keep (G := fun k => u4.ownBlock = some k) (Keep.grown hgrow (fun k hk => hk)) (fun hk => by have := (HO3.out.lt _ hk).1; omega)
          have : (fun y => hasE (once (es.take j)) y || decide (N = y)) = hasE (once (es.take (j + 1))) := by
            funext y; rw [HE.out, hasE_append]; simp [hasE]
          rw [this] at h5; exact h5
        have HM5 := Lib.hid hm5
        clear hown' hgrow hst hown5 hm5 hB0 hgs4 HB4 HO3 HM4 HNW
        go_wp2_with fail
        go_roundw
        case rel => exact ⟨j + 1, hlt, by go_num, HB5.out, HO5.out, HM5.out⟩
        case measure => simp [intOf]; omega
      · have hs2 := hst1.out HQE.out
        have HE := Lib.hid hs2
        clear hst1 hst2 hs2
        go_wp2_with (at_lookup; refine wpl_seen _ rfl _ _ rfl mb j _ rfl HS2.out N rfl hss ?_; rw [HQE.out])
        go_roundw
        case rel =>
          refine ⟨j + 1, hlt, by go_num, ?_⟩
          have B2 : Below w.heap.size w ((wr.alloc (.cells #[.string N, .int .i64 V] 63)).alloc (.cells #[] 83)) := (HC.bel.alloc HC.bel.size _).alloc (by rw [World.size_alloc]; have := HC.bel.size; omega) _
          exact ⟨B2, by unfold cnt; rw [HE.out]; exact (HC.own.alloc _).alloc _, by rw [HE.out]; exact (HS2.out.alloc _).mono (by omega)⟩
        case measure => simp [intOf]; omega
    · obtain rfl : es.length = j := by omega
      have ho := HC.own
      rw [List.take_of_length_le (Nat.le_refl _)] at ho
      have HO := Lib.hid ho
      have HBB := Lib.hid HC.bel
      clear HC ho
      have hne : ¬ ((es.length : Int) < es.length) := by omega
      go_wp2_with fail
      go_ret
      exact ⟨_, rfl, own_base HO.out (by rw [HB0.out]; omega), HBB.out⟩
end Go.Proofs.YtpjbdejgamajlabDoor

/- rotor.Pick. -/
namespace Go.Proofs.YtpjbdejgamajlabDoor
open Go.RowKit Go.Maps

theorem Rot.drewN {w : World} {rb n : Nat} {v : Option Nat} {f : ByteArray → Int} (h : Rot w rb v n f) (m : Nat) : Rot (w.drewN m) rb v n f := by
  refine ⟨h.1.drewN m, ?_⟩
  rcases h.2 with h1 | ⟨bm, h1, h2, h3⟩
  · exact .inl h1
  · exact .inr ⟨bm, h1, h2, h3.same rfl⟩
theorem add27 (rb : Nat) (v : Option Nat) (n : Nat) (f : ByteArray → Int) (s : ByteArray) (hs : s.size ≤ maxLen) (k c : Int) (hc : f s + k = c) (hk1 : -9223372036854775808 ≤ c) (hk2 : c ≤ 9223372036854775807) (hn : n < maxLen) (w : World) (h : Rot w rb v n f) :
    Calls Tryd.prog 50 #[.pointer (some ⟨rb, 0, none⟩), .string s, .int .i64 k] w fun e w' => e = .returned (.tuple #[]) ∧ AddPost rb v (n + 1) (upd f s c) w w' := by
  obtain ⟨h1, ⟨rfl, rfl⟩ | ⟨bm, rfl, hne, hm⟩⟩ := h
  · have hkc : k = c := by simpa using hc
    subst hkc
    by_cases h0 : k = 0
    · subst h0
      refine (add27_n0 rb s hs w h1).mono ?_
      rintro e w' ⟨rfl, rfl⟩
      refine ⟨rfl, none, ⟨h1, .inl ⟨rfl, ?_⟩⟩, Keep.refl _ _, .inl rfl⟩
      exact upd_id (fun _ => 0) s
    · refine (add27_nk rb s hs k hk1 hk2 h0 w h1).mono ?_
      rintro e w' ⟨rfl, v', hr, hk, hf⟩
      exact ⟨rfl, v', hr.mono (by omega), hk, hf⟩
  · exact add27_s rb bm n f s hs k c hc hk1 hk2 hn w h1 hne hm
theorem addAll_bound {E : List Ent} (hA : Apart E) (hw : ∀ e ∈ E, 1 ≤ e.2 ∧ e.2 ≤ 65535) (f : ByteArray → Int) (s : ByteArray) : f s ≤ addAll f E s ∧ addAll f E s ≤ f s + 65535 := by
  cases h : hasE E s
  · rw [addAll_other E f s h]; omega
  · obtain ⟨e, he, rfl⟩ := hasE_mem.1 h
    rw [addAll_mem E f hA e he]
    have := hw e he
    omega
theorem sumW_bound : ∀ (E : List Ent), (∀ e ∈ E, 1 ≤ e.2 ∧ e.2 ≤ 65535) → (E.length : Int) ≤ sumW E ∧ sumW E ≤ 65535 * E.length
  | [], _ => by simp [sumW]
  | e :: E, h => by
    have h1 := h e (by simp)
    have h2 := sumW_bound E (fun x hx => h x (by simp [hx]))
    simp only [sumW, List.map_cons, List.sum_cons, List.length_cons] at h2 ⊢
    omega
theorem Apart.take {E : List Ent} (h : Apart E) (j : Nat) : Apart (E.take j) := List.Pairwise.sublist (List.take_sublist j E) h
theorem count26s (a : Option Addr) (c : Nat) (es : List Ent) (hl : es.length ≤ 1000000) (hsz : ∀ e ∈ es, e.1.size ≤ maxLen) (w : World) (hf : IsEnts w a c es) :
    Calls Tryd.prog 49 #[.slice a es.length c] w fun e w' => ∃ a' c', e = .returned (.slice a' (cnt es).length c') ∧ IsEnts w' a' c' (cnt es) ∧ (∀ p, a' = some p → w.heap.size ≤ p.block ∧ p.block < w'.heap.size) ∧ Below w.heap.size w w' := by
  refine (count26 a c es hl hsz w hf).mono ?_
  rintro e w' ⟨u, rfl, ho, hb⟩
  obtain ⟨a', c', rfl⟩ := own_slice ho
  obtain ⟨_, h1, h2⟩ := isEnts_own ho
  exact ⟨a', c', rfl, h1, h2, hb⟩
/-- What the loop holds. -/
structure PickS (w1 : World) (rb : Nat) (v : Option Nat) (n : Nat) (f : ByteArray → Int) (E : List Ent) (j : Nat) (v' : Option Nat) (wr : World) : Prop where
  rot : Rot wr rb v' (n + j) (addAll f (E.take j))
  keep : Keep (RG rb v) w1 wr
  fresh : Fresh w1 v v'
/-- What Pick leaves. -/
def PickPost (rb : Nat) (v : Option Nat) (n : Nat) (f : ByteArray → Int) (w w' : World) : Prop := ∃ v', Rot w' rb v' n f ∧ Keep (RG rb v) w w' ∧ Fresh w v v'
theorem pickS_step {w1 wr w3 : World} {rb : Nat} {v v' v3 : Option Nat} {n j : Nat} {f F2 : ByteArray → Int} {E : List Ent} {o : Obj} (hst : addAll f (E.take (j + 1)) = F2) (hk : Keep (RG rb v) w1 wr) (hf : Fresh w1 v v') (hr : Rot w3 rb v3 (n + j + 1) F2) (hk3 : Keep (RG rb v') (wr.alloc o) w3) (hf3 : Fresh (wr.alloc o) v' v3) (m : Nat) :
    PickS w1 rb v n f E (j + 1) v3 (w3.drewN m) := by
  have hf4 : Fresh wr v' v3 := by
    rcases hf3 with h | ⟨b, h, h'⟩
    · exact .inl h
    · exact .inr ⟨b, h, by rw [World.size_alloc] at h'; omega⟩
  obtain ⟨k4, f4⟩ := fresh_keep hk hf ((Keep.alloc wr o).trans hk3) hf4
  exact ⟨by rw [hst]; exact hr.drewN m, k4.trans (Keep.drewN _ _), f4⟩
theorem ent_rows {w wr : World} {G : Nat → Prop} {bk o : Nat} {E : List Ent} (hk : Keep G w wr) (hb : bk < w.heap.size) (hg : ¬ G bk) (hcell : ∀ (j : Nat) e, E[j]? = some e → w.cell? ⟨bk, o + j * 2, none⟩ = some (.string e.1) ∧ w.cell? ⟨bk, o + j * 2 + 1, none⟩ = some (.int .i64 e.2)) {j : Nat} (hj : j < E.length) :
    wr.cell? ⟨bk, o + j * 2, none⟩ = some (.string (nm E j)) ∧ wr.cell? ⟨bk, o + j * 2 + 1, none⟩ = some (.int .i64 E[j].2) := by
  rw [keep_cell hk hb hg, keep_cell hk hb hg, nm_eq hj]
  exact hcell j E[j] (by simp [hj])
set_option maxHeartbeats 4000000 in
set_option maxRecDepth 100000 in
theorem pick15_nil (a : Option Addr) (c : Nat) (p : Value) (w : World) :
    Calls Tryd.prog 24 #[p, .slice a 0 c] w fun e w' => e = .returned (.tuple #[.string ⟨#[]⟩, .bool false]) ∧ w' = w := by
  go_enter Tryd.func24, Tryd.ntmps24
  go_wp2_with fail
  go_ret2
  exact ⟨rfl, rfl⟩
set_option maxHeartbeats 4000000 in
set_option maxRecDepth 100000 in
theorem pick15 (rb : Nat) (v : Option Nat) (n : Nat) (f : ByteArray → Int) (M : Int) (hM : M ≤ 1000000000000000) (hf : ∀ s, -M ≤ f s ∧ f s ≤ M) (a : Option Addr) (c : Nat) (es : List Ent) (hne : es ≠ []) (hl : es.length ≤ 1000) (hsz : ∀ e ∈ es, e.1.size ≤ maxLen) (hn : n ≤ 1000000000) (w : World) (hr : Rot w rb v n f) (he : IsEnts w a c es) :
    Calls Tryd.prog 24 #[.pointer (some ⟨rb, 0, none⟩), .slice a es.length c] w fun e w' => e = .returned (.tuple #[.string (turn f (cnt es)), .bool true]) ∧ PickPost rb v (n + es.length + 1) (after f (cnt es)) w w' := by
  have hcnt := count26s a c es (by omega) hsz w he
  have hlen0 : 0 < es.length := List.length_pos_iff.2 hne
  have hA := cnt_apart es
  have hW : ∀ e ∈ cnt es, 1 ≤ e.2 ∧ e.2 ≤ 65535 := by
    intro e h
    unfold cnt at h
    obtain ⟨x, _, rfl⟩ := List.mem_map.1 h
    exact lim_one _
  have hZ : ∀ e ∈ cnt es, e.1.size ≤ maxLen := by
    intro e h
    unfold cnt at h
    obtain ⟨x, hx, rfl⟩ := List.mem_map.1 h
    exact hsz x (once_sub hx)
  have hpos : 0 < (cnt es).length := by
    unfold cnt; rw [List.length_map]
    exact List.length_pos_iff.2 (once_ne hne)
  have hle := cnt_len es
  have HCN := Lib.hid hcnt
  have HR := Lib.hid hr
  generalize cnt es = E at *
  clear hcnt hr he
  have HA := Lib.hid hA
  have HW := Lib.hid hW
  have HZ := Lib.hid hZ
  have HF := Lib.hid hf
  clear hA hW hZ hf hsz
  go_enter Tryd.func24, Tryd.ntmps24
  go_wp2_with (go_at_call 49; refine HCN.out.mono ?_; rintro e w1 ⟨a1, k1, rfl, ho, hblk, hb⟩)
  have HO := Lib.hid ho
  have HK := Lib.hid hblk
  have HB := Lib.hid hb
  have HR1 := Lib.hid (HR.out.below hb)
  clear ho hblk hb HCN
  go_loopw [7, 8, 19] (fun g s i wr => ∃ j : Nat, j ≤ E.length ∧ i = .int .i64 (j : Int) ∧ g = .int .i64 (great f E j : Int) ∧ s = .int .i64 (sumW (E.take j)) ∧ ∃ v', PickS w1 rb v n f E j v' wr) (fun _ _ i _ => E.length - (intOf i).toNat)
  case atStart => exact ⟨0, Nat.zero_le _, rfl, rfl, rfl, v, HR1.out, Keep.refl _ _, .inl rfl⟩
  case round =>
    obtain ⟨j, hj, rfl, rfl, rfl, v', HS⟩ := hrel
    obtain h0 | ⟨bk, o, rfl, hbk, hc, hcell⟩ := HO.out
    · subst h0; simp at hpos
    have hgb : ¬ RG rb v bk := by
      intro h
      have h1 := (HK.out _ rfl).1
      have h2 := HR.out.glt h
      simp only at h1
      omega
    by_cases hlt : j < E.length
    · obtain ⟨c1, c2⟩ := ent_rows HS.keep hbk hgb hcell hlt
      have hgl : great f E j < E.length := by rcases great_lt f E j with h | h <;> omega
      obtain ⟨d1, d2⟩ := ent_rows HS.keep hbk hgb hcell hgl
      have hgb2 : ¬ RG rb v' bk := by
        rintro (h | h)
        · exact hgb (.inl h)
        · rcases HS.fresh with h1 | ⟨b', h1, h2⟩
          · rw [h1] at h; exact hgb (.inr h)
          · rw [h1] at h; injection h with h; omega
      have hstep := addAll_step f hlt
      have hsum := sumW_step hlt
      have hgs : great f E (j + 1) = if addAll f (E.take (j + 1)) (nm E (great f E j)) < addAll f (E.take (j + 1)) (nm E j) then j else great f E j := rfl
      have hsN : (nm E j).size ≤ maxLen := by rw [nm_eq hlt]; exact HZ.out _ (List.getElem_mem hlt)
      have hsG : (nm E (great f E j)).size ≤ maxLen := by rw [nm_eq hgl]; exact HZ.out _ (List.getElem_mem hgl)
      have hw := HW.out _ (List.getElem_mem hlt)
      have hWt : ∀ e ∈ E.take j, 1 ≤ e.2 ∧ e.2 ≤ 65535 := fun e he => HW.out e (List.mem_of_mem_take he)
      have hb1 := addAll_bound (HA.out.take j) hWt f (nm E j)
      have hb2 := sumW_bound (E.take j) hWt
      have hb3 : (E.take j).length ≤ 1000 := by simp; omega
      have hb4 := HF.out (nm E j)
      rw [← nm_eq hlt] at hstep
      obtain ⟨W, hWe⟩ : ∃ W, W = E[j].2 := ⟨_, rfl⟩
      rw [← hWe] at hstep hsum hw c2
      obtain ⟨N, hN⟩ : ∃ N, N = nm E j := ⟨_, rfl⟩
      rw [← hN] at hstep hsN c1 hgs hb1 hb4
      obtain ⟨G, hG⟩ : ∃ G, G = nm E (great f E j) := ⟨_, rfl⟩
      rw [← hG] at hsG d1 hgs
      obtain ⟨F, hFe⟩ : ∃ F, F = addAll f (E.take j) := ⟨_, rfl⟩
      have hrot := HS.rot
      rw [← hFe] at hstep hb1 hrot
      obtain ⟨S, hSe⟩ : ∃ S, S = sumW (E.take j) := ⟨_, rfl⟩
      rw [← hSe] at hsum hb2 ⊢
      have hS1 : 0 ≤ S := by omega
      have hS2 : S ≤ 65535000 := by omega
      obtain ⟨g, hge⟩ : ∃ g, g = great f E j := ⟨_, rfl⟩
      rw [← hge] at hgs hgl d1 ⊢
      have j1 : (j : Int) < E.length := by omega
      have HRA := hrot.below (below_alloc wr (.cells #[.string N, .int .i64 W] 63))
      have HADD := Lib.hid (add27 rb v' (n + j) F N hsN W (F N + W) rfl (by omega) (by omega) (by unfold maxLen; omega) _ HRA)
      have hrlt : ∀ k, RG rb v' k → k < wr.heap.size := fun k hk => hrot.glt hk
      have HKP := Lib.hid HS.keep
      have HFR := Lib.hid HS.fresh
      have HST := Lib.hid hstep
      have HSU := Lib.hid hsum
      have HGS := Lib.hid hgs
      clear HRA hrot hstep hsum hgs hb1 hb2 hb3 hb4 hWt hWe hN hG hFe hSe hge HS hcell d2
      go_wp2_with (go_at_call 50; refine HADD.out.mono ?_; rintro e w3 ⟨rfl, hp⟩)
      obtain ⟨v3, r3, k3, f3⟩ := hp
      have e1 : w3.cell? ⟨wr.heap.size, 0, none⟩ = some (.string N) := ((Row.new wr 63 #[.string N, .int .i64 W]).keep k3 (fun h => by have := hrlt _ h; omega)).cell 0
      have hbkr : bk < wr.heap.size := Nat.lt_of_lt_of_le hbk HKP.out.size
      have e2 : w3.cell? ⟨bk, o + g * 2, none⟩ = some (.string G) := by
        rw [keep_cell k3 (by rw [World.size_alloc]; omega) hgb2, (bcell (below_alloc wr _)).1 _ _ hbkr]; exact d1
      have HR3 := Lib.hid r3
      have HK3 := Lib.hid k3
      have HF3 := Lib.hid f3
      have g1 : (g : Int) < E.length := by omega
      clear r3 k3 f3 HADD d1 c1 c2
      obtain ⟨F2, hF2⟩ : ∃ F2, F2 = upd F N (F N + W) := ⟨_, rfl⟩
      have HST2 : Hid (addAll f (E.take (j + 1)) = F2) := by rw [hF2]; exact HST.out
      rw [← hF2] at HR3
      have HGS2 : Hid (great f E (j + 1) = if F2 G < F2 N then j else g) := by have := HGS.out; rw [HST2.out] at this; exact this
      clear hF2 HGS HST
      by_cases hgt : F2 G < F2 N
      · have HG2 : Hid (great f E (j + 1) = j) := by have := HGS2.out; rw [if_pos hgt] at this; exact this
        clear HGS2
        go_quiet ((go_at_call 51; exact Calls.quiet_of_same (mark11 rb _ v3 F2 _ (by assumption) _ (HR3.out.drewN _))))
        go_wp2_with fail
        go_roundw
        case rel => exact ⟨j + 1, hlt, by go_num, by rw [HG2.out], by rw [HSU.out], v3, pickS_step HST2.out HKP.out HFR.out HR3.out HK3.out HF3.out nq⟩
        case measure => simp [intOf]; omega
      · have HG2 : Hid (great f E (j + 1) = g) := by have := HGS2.out; rw [if_neg hgt] at this; exact this
        clear HGS2
        go_quiet ((go_at_call 51; exact Calls.quiet_of_same (mark11 rb _ v3 F2 _ (by assumption) _ (HR3.out.drewN _))))
        go_wp2_with fail
        go_roundw
        case rel => exact ⟨j + 1, hlt, by go_num, by rw [HG2.out], by rw [HSU.out], v3, pickS_step HST2.out HKP.out HFR.out HR3.out HK3.out HF3.out nq⟩
        case measure => simp [intOf]; omega
    · obtain rfl : E.length = j := by omega
      have hgl : great f E E.length < E.length := by rcases great_lt f E E.length with h | h <;> omega
      obtain ⟨d1, d2⟩ := ent_rows HS.keep hbk hgb hcell hgl
      have hne' : ¬ ((E.length : Int) < E.length) := by omega
      have hsG : (nm E (great f E E.length)).size ≤ maxLen := by rw [nm_eq hgl]; exact HZ.out _ (List.getElem_mem hgl)
      have hb1 := addAll_bound HA.out HW.out f (nm E (great f E E.length))
      have hb2 := sumW_bound E HW.out
      have hb4 := HF.out (nm E (great f E E.length))
      have hrot := HS.rot
      rw [List.take_of_length_le (Nat.le_refl _)] at hrot ⊢
      have hturn : turn f E = nm E (great f E E.length) := rfl
      have hafter : after f E = upd (addAll f E) (turn f E) (addAll f E (turn f E) + -sumW E) := rfl
      rw [← hturn] at hsG hb1 hb4 d1
      obtain ⟨g, hge⟩ : ∃ g, g = great f E E.length := ⟨_, rfl⟩
      rw [← hge] at hgl d1 ⊢
      obtain ⟨G, hG⟩ : ∃ G, G = turn f E := ⟨_, rfl⟩
      have HGT : Hid (G = turn f E) := hG
      rw [← hG] at hsG hb1 hb4 d1 hafter
      obtain ⟨S, hSe⟩ : ∃ S, S = sumW E := ⟨_, rfl⟩
      rw [← hSe] at hb2 hafter ⊢
      have hS1 : 0 ≤ S := by omega
      have hS2 : S ≤ 65535000 := by omega
      have hadd := add27 rb v' (n + E.length) (addAll f E) G hsG (-S) (addAll f E G + -S) rfl (by omega) (by omega) (by unfold maxLen; omega) _ hrot
      rw [← hafter] at hadd
      have HADD := Lib.hid hadd
      have HKP := Lib.hid HS.keep
      have HFR := Lib.hid HS.fresh
      have g1 : (g : Int) < E.length := by omega
      clear hadd hafter hturn hb1 hb2 hb4 hrot HS hcell d2 hge hG hSe
      go_wp2_with (go_at_call 50; refine HADD.out.mono ?_; rintro e w3 ⟨rfl, hp⟩)
      obtain ⟨v3, r3, k3, f3⟩ := hp
      obtain ⟨k4, f4⟩ := fresh_keep HKP.out HFR.out k3 f3
      go_ret2
      refine ⟨by rw [← HGT.out]; rfl, v3, r3.mono (by omega), (Keep.of_below HB.out).trans k4, ?_⟩
      rcases f4 with h | ⟨b', h, h'⟩
      · exact .inl h
      · exact .inr ⟨b', h, Nat.le_trans HB.out.size h'⟩
end Go.Proofs.YtpjbdejgamajlabDoor

/- Weighted round robin: each one's share. -/
namespace Go.Proofs.YtpjbdejgamajlabDoor

theorem nm_ne {E : List Ent} (hA : Apart E) {i j : Nat} (hij : i < j) (hj : j < E.length) : nm E i ≠ nm E j := by
  rw [nm_eq (by omega), nm_eq hj]
  exact List.pairwise_iff_getElem.1 hA i j (by omega) hj hij
theorem great_max (f : ByteArray → Int) {E : List Ent} (hA : Apart E) : ∀ j, j ≤ E.length → ∀ i, i < j → addAll f (E.take j) (nm E i) ≤ addAll f (E.take j) (nm E (great f E j))
  | 0, _, i, hi => by omega
  | j + 1, hj, i, hi => by
    have ih := great_max f hA j (by omega)
    have hs := addAll_step f (E := E) (j := j) (by omega)
    rw [← nm_eq] at hs
    have hg := great_lt f E j
    have hgs : great f E (j + 1) = if addAll f (E.take (j + 1)) (nm E (great f E j)) < addAll f (E.take (j + 1)) (nm E j) then j else great f E j := rfl
    have old : ∀ k, k < j → addAll f (E.take (j + 1)) (nm E k) = addAll f (E.take j) (nm E k) := fun k hk => by
      rw [hs, upd_other _ _ (nm_ne hA hk (by omega))]
    rw [hgs]
    by_cases hc : addAll f (E.take (j + 1)) (nm E (great f E j)) < addAll f (E.take (j + 1)) (nm E j)
    · rw [if_pos hc]
      by_cases hij : i = j
      · subst hij; omega
      · have h1 := ih i (by omega)
        have h2 := old i (by omega)
        have h3 := old (great f E j) (by omega)
        omega
    · rw [if_neg hc]
      by_cases hij : i = j
      · subst hij; omega
      · have h1 := ih i (by omega)
        have h2 := old i (by omega)
        have h3 := old (great f E j) (by omega)
        omega
theorem turn_mem (f : ByteArray → Int) {E : List Ent} (hE : E ≠ []) : ∃ e ∈ E, e.1 = turn f E := by
  have hl := List.length_pos_iff.2 hE
  have hg : great f E E.length < E.length := by rcases great_lt f E E.length with h | h <;> omega
  exact ⟨E[great f E E.length], List.getElem_mem hg, (nm_eq hg).symm⟩
theorem turn_max (f : ByteArray → Int) {E : List Ent} (hA : Apart E) {e : Ent} (he : e ∈ E) : f e.1 + e.2 ≤ addAll f E (turn f E) := by
  obtain ⟨i, hi, rfl⟩ := List.getElem_of_mem he
  have h := great_max f hA E.length (Nat.le_refl _) i hi
  rw [List.take_of_length_le (Nat.le_refl _), nm_eq hi, addAll_mem E f hA _ he] at h
  exact h

theorem sum_upd : ∀ (E : List Ent) (c : ByteArray → Int), Apart E → ∀ e0 ∈ E, (E.map fun e => upd c e0.1 (c e0.1 + 1) e.1).sum = (E.map fun e => c e.1).sum + 1
  | [], _, _, e0, h => by cases h
  | x :: E, c, hA, e0, h => by
    have hA2 := List.pairwise_cons.1 hA
    simp only [List.map_cons, List.sum_cons]
    by_cases hx : e0.1 = x.1
    · have : (E.map fun e => upd c e0.1 (c e0.1 + 1) e.1) = E.map fun e => c e.1 := by
        apply List.map_congr_left
        intro e he
        exact upd_other c _ (fun h => hA2.1 e he (by rw [← hx, h]))
      rw [this, ← hx, upd_same]; omega
    · have he : e0 ∈ E := by
        rcases List.mem_cons.1 h with h | h
        · exact absurd (by rw [h]) hx
        · exact h
      rw [sum_upd E c hA2.2 e0 he, upd_other c _ (fun h => hx h.symm)]; omega
theorem sum_lin (t S : Int) (c : ByteArray → Int) : ∀ E : List Ent, (E.map fun e => t * e.2 - S * c e.1 + e.2).sum = t * sumW E - S * (E.map fun e => c e.1).sum + sumW E
  | [] => by simp [sumW]
  | e :: E => by
    have ih := sum_lin t S c E
    simp only [sumW, List.map_cons, List.sum_cons] at ih ⊢
    rw [ih, Int.mul_add, Int.mul_add]; omega
theorem sum_le0 (g : Ent → Int) : ∀ E : List Ent, (∀ e ∈ E, g e ≤ 0) → (E.map g).sum ≤ 0
  | [], _ => by simp
  | e :: E, h => by
    have := sum_le0 g E (fun x hx => h x (by simp [hx]))
    have := h e (by simp)
    simp only [List.map_cons, List.sum_cons]; omega
theorem sum_ge0 (g : Ent → Int) : ∀ E : List Ent, (∀ e ∈ E, 0 ≤ g e) → 0 ≤ (E.map g).sum
  | [], _ => by simp
  | e :: E, h => by
    have := sum_ge0 g E (fun x hx => h x (by simp [hx]))
    have := h e (by simp)
    simp only [List.map_cons, List.sum_cons]; omega
theorem sum_zero (g : Ent → Int) : ∀ E : List Ent, (∀ e ∈ E, 0 ≤ g e) → (E.map g).sum = 0 → ∀ e ∈ E, g e = 0
  | [], _, _, e, he => by cases he
  | x :: E, h, hs, e, he => by
    have h1 := sum_ge0 g E (fun y hy => h y (by simp [hy]))
    have h2 := h x (by simp)
    simp only [List.map_cons, List.sum_cons] at hs
    rcases List.mem_cons.1 he with rfl | he
    · omega
    · exact sum_zero g E (fun y hy => h y (by simp [hy])) (by omega) e he
/-- What each had of t turns: c; its mark: f. -/
structure Share (E : List Ent) (t : Int) (f c : ByteArray → Int) : Prop where
  eq : ∀ e ∈ E, f e.1 = t * e.2 - sumW E * c e.1
  pos : ∀ e ∈ E, 0 ≤ c e.1
  sum : (E.map fun e => c e.1).sum = t
  low : ∀ e ∈ E, - sumW E < f e.1
  out : ∀ s, hasE E s = false → f s = 0
theorem sumW_pos {E : List Ent} (hE : E ≠ []) (hw : ∀ e ∈ E, 1 ≤ e.2 ∧ e.2 ≤ 65535) : 1 ≤ sumW E := by
  have h1 := sumW_bound E hw
  have h2 := List.length_pos_iff.2 hE
  omega
theorem Share.start {E : List Ent} (hw : ∀ e ∈ E, 1 ≤ e.2 ∧ e.2 ≤ 65535) : Share E 0 (fun _ => 0) (fun _ => 0) := by
  refine ⟨fun e _ => by simp, fun _ _ => Int.le_refl _, ?_, fun e he => ?_, fun _ _ => rfl⟩
  · have h1 := sum_le0 (fun _ => 0) E (fun _ _ => Int.le_refl _)
    have h2 := sum_ge0 (fun _ => 0) E (fun _ _ => Int.le_refl _)
    omega
  · have := sumW_pos (List.ne_nil_of_mem he) hw; omega
theorem Share.step {E : List Ent} {t : Int} {f c : ByteArray → Int} (hA : Apart E) (hE : E ≠ []) (hw : ∀ e ∈ E, 1 ≤ e.2 ∧ e.2 ≤ 65535) (h : Share E t f c) :
    Share E (t + 1) (after f E) (upd c (turn f E) (c (turn f E) + 1)) := by
  obtain ⟨p, hp, hpt⟩ := turn_mem f hE
  have hS := sumW_pos hE hw
  have hX : 0 < addAll f E (turn f E) := by
    apply Decidable.byContradiction
    intro hn
    have h1 := sum_le0 (fun e => t * e.2 - sumW E * c e.1 + e.2) E (fun e he => by
      have h2 := turn_max f hA he
      rw [h.eq e he] at h2
      omega)
    rw [sum_lin, h.sum, Int.mul_comm] at h1
    omega
  have ha : ∀ e ∈ E, addAll f E e.1 = f e.1 + e.2 := fun e he => addAll_mem E f hA e he
  unfold after
  rw [← hpt] at hX ⊢
  refine ⟨fun e he => ?_, fun e he => ?_, ?_, fun e he => ?_, fun s hs => ?_⟩
  · by_cases hx : e.1 = p.1
    · rw [hx, upd_same, upd_same, ← hx, ha e he, h.eq e he, Int.mul_add, Int.add_mul]; omega
    · rw [upd_other _ _ hx, upd_other _ _ hx, ha e he, h.eq e he, Int.add_mul]; omega
  · by_cases hx : e.1 = p.1
    · rw [hx, upd_same]; have := h.pos p hp; omega
    · rw [upd_other _ _ hx]; exact h.pos e he
  · rw [sum_upd E c hA p hp, h.sum]
  · by_cases hx : e.1 = p.1
    · rw [hx, upd_same]; omega
    · rw [upd_other _ _ hx, ha e he]; have := h.low e he; have := hw e he; omega
  · have hx : s ≠ p.1 := by
      intro hx; subst hx
      have : hasE E p.1 = true := hasE_mem.2 ⟨p, hp, rfl⟩
      rw [hs] at this; cases this
    rw [upd_other _ _ hx, addAll_other E f s hs]; exact h.out s hs
/-- Behind k rounds each had k times its weight, and all marks are 0. -/
theorem Share.full {E : List Ent} {k : Int} {f c : ByteArray → Int} (hE : E ≠ []) (hw : ∀ e ∈ E, 1 ≤ e.2 ∧ e.2 ≤ 65535) (h : Share E (k * sumW E) f c) : ∀ e ∈ E, c e.1 = k * e.2 ∧ f e.1 = 0 := by
  have hS := sumW_pos hE hw
  have hle : ∀ e ∈ E, 0 ≤ k * e.2 - c e.1 := by
    intro e he
    have h1 := h.eq e he
    have h2 := h.low e he
    have h3 : sumW E * c e.1 < sumW E * (k * e.2 + 1) := by
      rw [Int.mul_add, ← Int.mul_assoc, Int.mul_comm (sumW E) k]; omega
    have := Int.lt_of_mul_lt_mul_left h3 (by omega)
    omega
  have hsum : (E.map fun e => k * e.2 - c e.1).sum = 0 := by
    have hl : ∀ L : List Ent, (L.map fun e => k * e.2 - c e.1).sum = k * sumW L - (L.map fun e => c e.1).sum := by
      intro L
      induction L with
      | nil => simp [sumW]
      | cons x L ih =>
        simp only [sumW, List.map_cons, List.sum_cons] at ih ⊢
        rw [ih, Int.mul_add]; omega
    rw [hl, h.sum]; omega
  intro e he
  have h0 := sum_zero _ E hle hsum e he
  have hc : c e.1 = k * e.2 := by omega
  refine ⟨hc, ?_⟩
  rw [h.eq e he, hc, Int.mul_assoc, Int.mul_left_comm]; omega
theorem Share.fair {E : List Ent} {t : Int} {f c : ByteArray → Int} (h : Share E t f c) {e : Ent} (he : e ∈ E) : c e.1 * sumW E < t * e.2 + sumW E := by
  have h1 := h.eq e he
  have h2 := h.low e he
  rw [Int.mul_comm]; omega
theorem sumW_mem : ∀ {E : List Ent} {e : Ent}, (∀ e ∈ E, 1 ≤ e.2 ∧ e.2 ≤ 65535) → e ∈ E → e.2 + ((E.length : Int) - 1) ≤ sumW E
  | [], _, _, he => by cases he
  | x :: E, e, hw, he => by
    have hb := sumW_bound E (fun y hy => hw y (by simp [hy]))
    have hx := hw x (by simp)
    simp only [sumW, List.map_cons, List.sum_cons, List.length_cons] at hb ⊢
    rcases List.mem_cons.1 he with rfl | he
    · omega
    · have := sumW_mem (fun y hy => hw y (by simp [hy])) he
      simp only [sumW] at this
      omega
theorem Share.single {E : List Ent} {t : Int} {f c : ByteArray → Int} (hw : ∀ e ∈ E, 1 ≤ e.2 ∧ e.2 ≤ 65535) (h : Share E t f c) {e : Ent} (he : e ∈ E) (hs : sumW E = e.2) : f e.1 = 0 := by
  have h1 := sumW_mem hw he
  have hl : E.length = 1 := by
    have := List.length_pos_of_mem he
    omega
  match E, hl with
  | [x], _ =>
    obtain rfl : e = x := by simpa using he
    have h2 := h.sum
    have h3 := h.eq e he
    simp only [List.map_cons, List.map_nil, List.sum_cons, List.sum_nil, Int.add_zero] at h2
    rw [h3, h2, hs, Int.mul_comm]; omega
theorem Share.bound {E : List Ent} {t : Int} {f c : ByteArray → Int} (hw : ∀ e ∈ E, 1 ≤ e.2 ∧ e.2 ≤ 65535) (ht2 : t ≤ 1000000) (hl : E.length ≤ 1000) (h : Share E t f c) (s : ByteArray) : -1000000000000000 ≤ f s ∧ f s ≤ 1000000000000000 := by
  cases hs : hasE E s
  · rw [h.out s hs]; omega
  · obtain ⟨e, he, rfl⟩ := hasE_mem.1 hs
    have h1 := h.low e he
    have h2 := sumW_bound E hw
    have h3 := h.eq e he
    have h4 := hw e he
    have h5 : 0 ≤ sumW E * c e.1 := Int.mul_nonneg (by omega) (h.pos e he)
    have h6 : t * e.2 ≤ 1000000 * 65535 := Int.mul_le_mul ht2 h4.2 (by omega) (by omega)
    omega
end Go.Proofs.YtpjbdejgamajlabDoor

