/- probe: Result; the reference's Clip and Result. -/
import Derived.Test.YtklfpnnnoaaiaaaPoA
namespace Go.Proofs.Ytklfpnnnoaaiaaa
open Go.RowKit

def Cfg.cells (c : Cfg) : Array Value := #[.int .i64 c.e, .int .i64 c.w, .int .i64 c.r, .int .i64 c.f]
def zP : Array Value := #[.bool false, .int .i64 0, .int .i64 0, .int .i64 0]
theorem below_setRow {B : Nat} {w : World} {g : Nat} (hg : B ≤ g) (cs : Array Value) : Below B w (w.setRow g cs) := ⟨rfl, rfl, rfl, by simp, fun k hk => setRow_other _ _ _ _ (by omega)⟩
/-- Three rows that a call of Result has made: its probe, its configuration, its result. -/
structure Rs3 (w0 w : World) (tp tc : TypeId) (p c r : Array Value) : Prop where
  bel : Below w0.heap.size w0 w
  a : Row w w0.heap.size tp p
  b : Row w (w0.heap.size + 1) tc c
  c : Row w (w0.heap.size + 1 + 1) tp r
section
variable {w0 w w' : World} {tp tc : TypeId} {p c r : Array Value}
theorem Rs3.start (w0 : World) (tp tc : TypeId) (p c r : Array Value) : Rs3 w0 (((w0.alloc (.cells p tp)).alloc (.cells c tc)).alloc (.cells r tp)) tp tc p c r := by
  refine ⟨below_a3 _ _ _ _, ((Row.new w0 tp p).alloc _).alloc _, ?_, ?_⟩
  · have h := (Row.new (w0.alloc (.cells p tp)) tc c).alloc (.cells r tp)
    rwa [World.size_alloc] at h
  · have h := Row.new ((w0.alloc (.cells p tp)).alloc (.cells c tc)) tp r
    rwa [World.size_alloc, World.size_alloc] at h
theorem Rs3.below (h : Rs3 w0 w tp tc p c r) (hb : Below w.heap.size w w') : Rs3 w0 w' tp tc p c r := ⟨h.bel.trans (hb.mono h.bel.size), h.a.below hb, h.b.below hb, h.c.below hb⟩
theorem Rs3.putB (h : Rs3 w0 w tp tc p c r) (c' : Array Value) : Rs3 w0 (w.setRow (w0.heap.size + 1) c') tp tc p c' r :=
  ⟨h.bel.trans (below_setRow (by omega) _), h.a.far2 (by omega), h.b.over2, h.c.far2 (by omega)⟩
theorem Rs3.putC (h : Rs3 w0 w tp tc p c r) (r' : Array Value) : Rs3 w0 (w.setRow (w0.heap.size + 1 + 1) r') tp tc p c r' :=
  ⟨h.bel.trans (below_setRow (by omega) _), h.a.far2 (by omega), h.b.far2 (by omega), h.c.over2⟩
end
theorem limN_le {x m : Int} (hm : 1 ≤ m) : 1 ≤ limN x m ∧ limN x m ≤ m := by unfold limN; omega
set_option maxRecDepth 100000 in
set_option maxHeartbeats 1000000 in
theorem resultC (p : Prb) (c : Cfg) (good : Bool) (now : Int) (w : World) :
    Calls Try.prog 17 #[prbV p, cfgV c, .bool good, .int .i64 now] w fun e w' => e = .returned (resV (resP p (limN c.r 1000) (limN c.f 1000) good now)) ∧ Below w.heap.size w w' := by
  obtain ⟨up, g, b, s⟩ := p
  obtain ⟨ce, cw, cr, cff⟩ := c
  have hC := fun w => clipP ⟨ce, cw, cr, cff⟩ w
  have hr := limN_le (x := cr) (m := 1000) (by decide)
  have hf := limN_le (x := cff) (m := 1000) (by decide)
  unfold cfgV clipC at hC
  unfold prbV cfgV
  simp only at hC ⊢
  generalize limN ce 1048576 = e' at *
  generalize limN cw 1048576 = w' at *
  generalize limN cr 1000 = r' at *
  generalize limN cff 1000 = f' at *
  obtain ⟨cs, hcs⟩ : ∃ cs : Array Value, cs = #[.int .i64 e', .int .i64 w', .int .i64 r', .int .i64 f'] := ⟨_, rfl⟩
  rw [← hcs] at hC
  have hsz : (Try.prog.info? 48).map (·.size) = some cs.size := by rw [hcs]; exact infoCf
  have hon : cs.all (·.oneCell') = true := by rw [hcs]; simp [Value.oneCell']
  have hold : (#[.int .i64 ce, .int .i64 cw, .int .i64 cr, .int .i64 cff] : Array Value).size = cs.size := by rw [hcs]; rfl
  have HCS := Lib.hid hcs
  have HS0 := Lib.hid (Rs3.start w 45 48 #[.bool up, .int .i64 g, .int .i64 b, .int .i64 s] #[.int .i64 ce, .int .i64 cw, .int .i64 cr, .int .i64 cff] zP)
  unfold zP at HS0
  clear hcs
  cases good with
  | true =>
    have hG := fun w => goodC ⟨up, g, b, s⟩ r' now hr.2 w
    have hRP : resP ⟨up, g, b, s⟩ r' f' true now = resG ⟨up, g, b, s⟩ r' now := rfl
    rw [hRP]
    unfold prbV resV at hG
    unfold resV
    generalize resG ⟨up, g, b, s⟩ r' now = R at *
    obtain ⟨⟨u2, g2, b2, s2⟩, ch⟩ := R
    simp only at hG ⊢
    obtain ⟨cs2, hcs2⟩ : ∃ cs : Array Value, cs = #[.bool u2, .int .i64 g2, .int .i64 b2, .int .i64 s2] := ⟨_, rfl⟩
    rw [← hcs2] at hG
    have hsz2 : (Try.prog.info? 45).map (·.size) = some cs2.size := by rw [hcs2]; exact infoPb
    have hon2 : cs2.all (·.oneCell') = true := by rw [hcs2]; simp [Value.oneCell']
    have hold2 : (#[.bool false, .int .i64 0, .int .i64 0, .int .i64 0] : Array Value).size = cs2.size := by rw [hcs2]; rfl
    have HCS2 := Lib.hid hcs2
    clear hcs2
    go_enter Try.func17, Try.ntmps17
    go_wp2_with fail
    refine (hC _).mono ?_
    rintro e w1 ⟨rfl, hB1⟩
    have HS1 := Lib.hid (HS0.out.below hB1)
    clear hB1 hC HS0
    go_wp2_with (refine wpList_store_row rfl 48 _ _ rfl (w.heap.size + 1) cs rfl rfl 48 _ HS1.out.b hsz hold hon ?_; have HS2 := Lib.hid (HS1.out.putB cs); generalize w1.setRow (w.heap.size + 1) cs = w2 at *; have p0 : w2.cell? ⟨w.heap.size, 0, none⟩ = some (.bool up) := (by rw [HS2.out.a.cell]; rfl); have p1 : w2.cell? ⟨w.heap.size, 1, none⟩ = some (.int .i64 g) := (by rw [HS2.out.a.cell]; rfl); have p2 : w2.cell? ⟨w.heap.size, 2, none⟩ = some (.int .i64 b) := (by rw [HS2.out.a.cell]; rfl); have p3 : w2.cell? ⟨w.heap.size, 3, none⟩ = some (.int .i64 s) := (by rw [HS2.out.a.cell]; rfl); have q2 : w2.cell? ⟨w.heap.size + 1, 2, none⟩ = some (.int .i64 r') := (by rw [HS2.out.b.cell, HCS.out]; rfl))
    refine (hG _).mono ?_
    rintro e w3 ⟨rfl, hB3⟩
    have HS3 := Lib.hid (HS2.out.below hB3)
    clear hB3 hG p0 p1 p2 p3 q2 hold hon hsz
    go_wp2_with (refine wpList_store_row rfl 45 _ _ rfl (w.heap.size + 1 + 1) cs2 rfl rfl 45 _ HS3.out.c hsz2 hold2 hon2 ?_; have HS4 := Lib.hid (HS3.out.putC cs2); generalize w3.setRow (w.heap.size + 1 + 1) cs2 = w4 at *)
    have r0 : w4.cell? ⟨w.heap.size + 1 + 1, 0, none⟩ = some (.bool u2) := by rw [HS4.out.c.cell, HCS2.out]; rfl
    have r1 : w4.cell? ⟨w.heap.size + 1 + 1, 1, none⟩ = some (.int .i64 g2) := by rw [HS4.out.c.cell, HCS2.out]; rfl
    have r2 : w4.cell? ⟨w.heap.size + 1 + 1, 2, none⟩ = some (.int .i64 b2) := by rw [HS4.out.c.cell, HCS2.out]; rfl
    have r3 : w4.cell? ⟨w.heap.size + 1 + 1, 3, none⟩ = some (.int .i64 s2) := by rw [HS4.out.c.cell, HCS2.out]; rfl
    refine bodyPost_ret (v := .tuple #[.agg #[.bool u2, .int .i64 g2, .int .i64 b2, .int .i64 s2], .bool ch]) (by simp [results, Try.results17, go_sem, r0, r1, r2, r3]) rfl ⟨rfl, HS4.out.bel⟩
  | false =>
    have hG := fun w => badC ⟨up, g, b, s⟩ f' now hf.2 w
    have hRP : resP ⟨up, g, b, s⟩ r' f' false now = resB ⟨up, g, b, s⟩ f' now := rfl
    rw [hRP]
    unfold prbV resV at hG
    unfold resV
    generalize resB ⟨up, g, b, s⟩ f' now = R at *
    obtain ⟨⟨u2, g2, b2, s2⟩, ch⟩ := R
    simp only at hG ⊢
    obtain ⟨cs2, hcs2⟩ : ∃ cs : Array Value, cs = #[.bool u2, .int .i64 g2, .int .i64 b2, .int .i64 s2] := ⟨_, rfl⟩
    rw [← hcs2] at hG
    have hsz2 : (Try.prog.info? 45).map (·.size) = some cs2.size := by rw [hcs2]; exact infoPb
    have hon2 : cs2.all (·.oneCell') = true := by rw [hcs2]; simp [Value.oneCell']
    have hold2 : (#[.bool false, .int .i64 0, .int .i64 0, .int .i64 0] : Array Value).size = cs2.size := by rw [hcs2]; rfl
    have HCS2 := Lib.hid hcs2
    clear hcs2
    go_enter Try.func17, Try.ntmps17
    go_wp2_with fail
    refine (hC _).mono ?_
    rintro e w1 ⟨rfl, hB1⟩
    have HS1 := Lib.hid (HS0.out.below hB1)
    clear hB1 hC HS0
    go_wp2_with (refine wpList_store_row rfl 48 _ _ rfl (w.heap.size + 1) cs rfl rfl 48 _ HS1.out.b hsz hold hon ?_; have HS2 := Lib.hid (HS1.out.putB cs); generalize w1.setRow (w.heap.size + 1) cs = w2 at *; have p0 : w2.cell? ⟨w.heap.size, 0, none⟩ = some (.bool up) := (by rw [HS2.out.a.cell]; rfl); have p1 : w2.cell? ⟨w.heap.size, 1, none⟩ = some (.int .i64 g) := (by rw [HS2.out.a.cell]; rfl); have p2 : w2.cell? ⟨w.heap.size, 2, none⟩ = some (.int .i64 b) := (by rw [HS2.out.a.cell]; rfl); have p3 : w2.cell? ⟨w.heap.size, 3, none⟩ = some (.int .i64 s) := (by rw [HS2.out.a.cell]; rfl); have q2 : w2.cell? ⟨w.heap.size + 1, 3, none⟩ = some (.int .i64 f') := (by rw [HS2.out.b.cell, HCS.out]; rfl))
    refine (hG _).mono ?_
    rintro e w3 ⟨rfl, hB3⟩
    have HS3 := Lib.hid (HS2.out.below hB3)
    clear hB3 hG p0 p1 p2 p3 q2 hold hon hsz
    go_wp2_with (refine wpList_store_row rfl 45 _ _ rfl (w.heap.size + 1 + 1) cs2 rfl rfl 45 _ HS3.out.c hsz2 hold2 hon2 ?_; have HS4 := Lib.hid (HS3.out.putC cs2); generalize w3.setRow (w.heap.size + 1 + 1) cs2 = w4 at *)
    have r0 : w4.cell? ⟨w.heap.size + 1 + 1, 0, none⟩ = some (.bool u2) := by rw [HS4.out.c.cell, HCS2.out]; rfl
    have r1 : w4.cell? ⟨w.heap.size + 1 + 1, 1, none⟩ = some (.int .i64 g2) := by rw [HS4.out.c.cell, HCS2.out]; rfl
    have r2 : w4.cell? ⟨w.heap.size + 1 + 1, 2, none⟩ = some (.int .i64 b2) := by rw [HS4.out.c.cell, HCS2.out]; rfl
    have r3 : w4.cell? ⟨w.heap.size + 1 + 1, 3, none⟩ = some (.int .i64 s2) := by rw [HS4.out.c.cell, HCS2.out]; rfl
    refine bodyPost_ret (v := .tuple #[.agg #[.bool u2, .int .i64 g2, .int .i64 b2, .int .i64 s2], .bool ch]) (by simp [results, Try.results17, go_sem, r0, r1, r2, r3]) rfl ⟨rfl, HS4.out.bel⟩
end Go.Proofs.Ytklfpnnnoaaiaaa
