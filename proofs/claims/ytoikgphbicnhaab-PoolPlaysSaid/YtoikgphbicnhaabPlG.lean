/- pool.Add (written by genplg.py). -/
import Derived.Test.YtoikgphbicnhaabPlF
import Derived.Test.YtoikgphbicnhaabNmT
import Derived.OwnWalk
import Derived.WalkSpells
import Derived.Laws.AppendOwn
import Derived.Deep.Cut
import Derived.Deep.AppendLies
namespace Go.Proofs.Ytoikgphbicnhaab
open Go.RowKit Go.Maps Go.Shelf Go.Sort

theorem info_partsP {P : Program} {t : TypeId} {z : Value} {s b : Nat} (h : (P.info? t).map (fun i => (i.zero, i.size, i.bytes)) = some (some z, s, b)) : ∃ i, P.info? t = some i ∧ i.zero = some z ∧ i.size = s ∧ i.bytes = b := by
  cases e : P.info? t with
  | none => rw [e] at h; cases h
  | some i =>
    rw [e] at h
    simp only [Option.map_some, Option.some.injEq, Prod.mk.injEq] at h
    exact ⟨i, rfl, h.1, h.2.1, h.2.2⟩
theorem infoStrP : (Try.prog.info? 9).map (fun i => (i.zero, i.size, i.bytes)) = some (some (.string ⟨#[]⟩), 1, 16) := by kernel_rfl
theorem keep_turn_new {G : Nat → Prop} {w a b : World} {k : Nat} (h : Keep G w a) (g : a.mapTurned b k) (hk : w.heap.size ≤ k) : Keep G w b := by
  have g2 := g.grown
  exact ⟨g2.os.trans h.os, g2.tape.trans h.tape, g2.output.trans h.output, Nat.le_trans h.size g2.size, fun j hj hn => (g2.block j (Nat.lt_of_lt_of_le hj h.size) (fun e => by have := Option.some.inj e; omega)).trans (h.block j hj hn)⟩
theorem qMapP (w : World) (r : Option Nat) : (binOp .eql 52 (.map r) (.map none)).run Try.prog w = .ok (.bool r.isNone) w := run_eql_map_nil w _ _ _ r Try.underlying52
set_option maxRecDepth 100000 in
set_option maxHeartbeats 2000000 in
theorem add_b1 (pb : Nat) (s : ByteArray) (hs1 : s.size ≤ 4611686018427387904) (wt cp : Int) (w : World) (q1 : nameB s.data.toList = false) :
    Calls Try.prog 17 #[.pointer (some ⟨pb, 0, none⟩), .string s, .int .i64 wt, .int .i64 cp] w fun e w' => e = .returned (.int .i64 1) ∧ Below w.heap.size w w' := by
  have HI := Lib.hid (fun n m w => within34 n m w)
  have hn := name13 s hs1
  rw [q1] at hn
  have HN := Lib.hid hn
  clear hn q1
  go_enter Try.func17, Try.ntmps17
  go_wp2_with fail
  refine (HN.out _).mono ?_
  rintro e w1 ⟨rfl, hb1⟩
  have HB1 := Lib.hid hb1
  clear hb1
  go_wp2_with fail
  go_ret
  exact ⟨rfl, HB1.out⟩
set_option maxRecDepth 100000 in
set_option maxHeartbeats 2000000 in
theorem add_b2 (pb : Nat) (s : ByteArray) (hs1 : s.size ≤ 4611686018427387904) (wt cp : Int) (w : World) (q1 : nameB s.data.toList = true) (q2 : decide (1 ≤ wt ∧ wt ≤ 65535) = false) :
    Calls Try.prog 17 #[.pointer (some ⟨pb, 0, none⟩), .string s, .int .i64 wt, .int .i64 cp] w fun e w' => e = .returned (.int .i64 1) ∧ Below w.heap.size w w' := by
  have HI := Lib.hid (fun n m w => within34 n m w)
  have hn := name13 s hs1
  rw [q1] at hn
  have HN := Lib.hid hn
  clear hn q1
  go_enter Try.func17, Try.ntmps17
  go_wp2_with fail
  refine (HN.out _).mono ?_
  rintro e w1 ⟨rfl, hb1⟩
  have HB1 := Lib.hid hb1
  clear hb1
  go_wp2_with fail
  refine (HI.out wt 65535 _).mono ?_
  rintro e w2 ⟨rfl, hw2⟩
  subst w2
  go_wp2_with fail
  go_ret
  exact ⟨rfl, HB1.out⟩
set_option maxRecDepth 100000 in
set_option maxHeartbeats 2000000 in
theorem add_b3 (pb : Nat) (s : ByteArray) (hs1 : s.size ≤ 4611686018427387904) (wt cp : Int) (w : World) (q1 : nameB s.data.toList = true) (q2 : decide (1 ≤ wt ∧ wt ≤ 65535) = true) (q3 : decide (1 ≤ cp ∧ cp ≤ 65535) = false) :
    Calls Try.prog 17 #[.pointer (some ⟨pb, 0, none⟩), .string s, .int .i64 wt, .int .i64 cp] w fun e w' => e = .returned (.int .i64 1) ∧ Below w.heap.size w w' := by
  have HI := Lib.hid (fun n m w => within34 n m w)
  have hn := name13 s hs1
  rw [q1] at hn
  have HN := Lib.hid hn
  clear hn q1
  go_enter Try.func17, Try.ntmps17
  go_wp2_with fail
  refine (HN.out _).mono ?_
  rintro e w1 ⟨rfl, hb1⟩
  have HB1 := Lib.hid hb1
  clear hb1
  go_wp2_with fail
  refine (HI.out wt 65535 _).mono ?_
  rintro e w2 ⟨rfl, hw2⟩
  subst w2
  go_wp2_with fail
  refine (HI.out cp 65535 _).mono ?_
  rintro e w2 ⟨rfl, hw2⟩
  subst w2
  go_wp2_with fail
  go_ret
  exact ⟨rfl, HB1.out⟩
set_option maxRecDepth 100000 in
set_option maxHeartbeats 2000000 in
theorem add_there (pb : Nat) (s : ByteArray) (hs1 : s.size ≤ 4611686018427387904) (wt cp : Int) (w : World) (q1 : nameB s.data.toList = true) (q2 : decide (1 ≤ wt ∧ wt ≤ 65535) = true) (q3 : decide (1 ≤ cp ∧ cp ≤ 65535) = true) (v : Option Nat) (b : Bk) (c0 : w.cell? ⟨pb, 0, none⟩ = some (.map v)) (hlt : pb < w.heap.size) (hl : ∀ w', Below w.heap.size w w' → (Instr.lookup 52 (.map v) (.string s) true).run Try.prog w' = .ok (.tuple #[bkV b, .bool true]) w') :
    Calls Try.prog 17 #[.pointer (some ⟨pb, 0, none⟩), .string s, .int .i64 wt, .int .i64 cp] w fun e w' => e = .returned (.int .i64 7) ∧ Below w.heap.size w w' := by
  have HI := Lib.hid (fun n m w => within34 n m w)
  have HL := Lib.hid hl
  have HC := Lib.hid c0
  clear hl c0
  obtain ⟨nm, wt0, cp0, st0, bz0⟩ := b
  simp only [bkV, bkC] at HL
  have hn := name13 s hs1
  rw [q1] at hn
  have HN := Lib.hid hn
  clear hn q1
  go_enter Try.func17, Try.ntmps17
  go_wp2_with fail
  refine (HN.out _).mono ?_
  rintro e w1 ⟨rfl, hb1⟩
  have HB1 := Lib.hid hb1
  clear hb1
  go_wp2_with fail
  refine (HI.out wt 65535 _).mono ?_
  rintro e w2 ⟨rfl, hw2⟩
  subst w2
  go_wp2_with fail
  have h1 := HL.out _ HB1.out
  have c1 : w1.cell? ⟨pb, 0, none⟩ = some (.map v) := by rw [(bcell HB1.out).1 _ _ hlt]; exact HC.out
  refine (HI.out cp 65535 _).mono ?_
  rintro e w2 ⟨rfl, hw2⟩
  subst w2
  go_wp2_with fail
  go_ret
  exact ⟨rfl, HB1.out.alloc HB1.out.size _⟩
set_option maxRecDepth 100000 in
set_option maxHeartbeats 2000000 in
theorem add_full (pb : Nat) (s : ByteArray) (hs1 : s.size ≤ 4611686018427387904) (wt cp : Int) (w : World) (q1 : nameB s.data.toList = true) (q2 : decide (1 ≤ wt ∧ wt ≤ 65535) = true) (q3 : decide (1 ≤ cp ∧ cp ≤ 65535) = true) (v : Option Nat) (na : Option Addr) (len nc : Nat) (hlen : 1024 ≤ len) (c0 : w.cell? ⟨pb, 0, none⟩ = some (.map v)) (d0 : w.cell? ⟨pb, 1, none⟩ = some (.slice na len nc)) (hlt : pb < w.heap.size) (hl : ∀ w', Below w.heap.size w w' → (Instr.lookup 52 (.map v) (.string s) true).run Try.prog w' = .ok (.tuple #[.agg #[.string ⟨#[]⟩, .int .i64 0, .int .i64 0, .int .i64 0, .int .i64 0], .bool false]) w') :
    Calls Try.prog 17 #[.pointer (some ⟨pb, 0, none⟩), .string s, .int .i64 wt, .int .i64 cp] w fun e w' => e = .returned (.int .i64 8) ∧ Below w.heap.size w w' := by
  have HI := Lib.hid (fun n m w => within34 n m w)
  have HL := Lib.hid hl
  have HC := Lib.hid c0
  have HD := Lib.hid d0
  have hl1 : (1024 : Int) ≤ len := by omega
  clear hl c0 d0 hlen
  have hn := name13 s hs1
  rw [q1] at hn
  have HN := Lib.hid hn
  clear hn q1
  go_enter Try.func17, Try.ntmps17
  go_wp2_with fail
  refine (HN.out _).mono ?_
  rintro e w1 ⟨rfl, hb1⟩
  have HB1 := Lib.hid hb1
  clear hb1
  go_wp2_with fail
  refine (HI.out wt 65535 _).mono ?_
  rintro e w2 ⟨rfl, hw2⟩
  subst w2
  go_wp2_with fail
  have h1 := HL.out _ HB1.out
  have c1 : w1.cell? ⟨pb, 0, none⟩ = some (.map v) := by rw [(bcell HB1.out).1 _ _ hlt]; exact HC.out
  have d1 : (w1.alloc (.cells #[.string ⟨#[]⟩, .int .i64 0, .int .i64 0, .int .i64 0, .int .i64 0] 33)).cell? ⟨pb, 1, none⟩ = some (.slice na len nc) := by rw [(bcell (below_alloc w1 _)).1 _ _ (Nat.lt_of_lt_of_le hlt HB1.out.size), (bcell HB1.out).1 _ _ hlt]; exact HD.out
  refine (HI.out cp 65535 _).mono ?_
  rintro e w2 ⟨rfl, hw2⟩
  subst w2
  go_wp2_with fail
  go_ret
  exact ⟨rfl, HB1.out.alloc HB1.out.size _⟩
set_option maxRecDepth 100000 in
set_option maxHeartbeats 2000000 in
theorem add_nil (pb : Nat) (s : ByteArray) (hs1 : s.size ≤ 4611686018427387904) (wt cp : Int) (w : World) (q1 : nameB s.data.toList = true) (q2 : decide (1 ≤ wt ∧ wt ≤ 65535) = true) (q3 : decide (1 ≤ cp ∧ cp ≤ 65535) = true) (h : PNil w pb) :
    Calls Try.prog 17 #[.pointer (some ⟨pb, 0, none⟩), .string s, .int .i64 wt, .int .i64 cp] w fun e w' => e = .returned (.int .i64 0) ∧ ∃ bm g nc, w.heap.size ≤ bm ∧ w.heap.size ≤ g ∧ PMem w' pb bm g nc 1 [s] (updO (fun _ => none) s (some ⟨s, wt, cp, 0, 0⟩)) ∧ Keep (fun k => k = pb) w w' := by
  have HI := Lib.hid (fun n m w => within34 n m w)
  have hs2 : s.size ≤ maxLen := by unfold maxLen; omega
  have HP := Lib.hid h
  have hl := fun W => look_ok_nilO MB W hs2
  have HS := Lib.hid hs2
  simp only [MB, bkV, bkC, bk0] at hl
  have hq := qMapP
  have hmm := @run_makeMap Try.prog
  obtain ⟨i0, hi, hz0, hz1, hz2⟩ := info_partsP infoStrP
  obtain ⟨GG, hGG⟩ : ∃ GG : Nat → Prop, GG = fun k => k = pb := ⟨_, rfl⟩
  rw [← hGG]
  have HG0 : Hid (GG pb) := by rw [hGG]; exact rfl
  clear h hs2 hGG
  have hn := name13 s hs1
  rw [q1] at hn
  have HN := Lib.hid hn
  clear hn q1
  go_enter Try.func17, Try.ntmps17
  go_wp2_with fail
  refine (HN.out _).mono ?_
  rintro e w1 ⟨rfl, hb1⟩
  have HB1 := Lib.hid hb1
  clear hb1
  go_wp2_with fail
  refine (HI.out wt 65535 _).mono ?_
  rintro e w2 ⟨rfl, hw2⟩
  subst w2
  go_wp2_with fail
  have hrow := Row.below HP.out HB1.out
  have c1 : w1.cell? ⟨pb, 0, none⟩ = some (.map none) := hrow.cell 0
  obtain ⟨wb, hwb⟩ : ∃ wb, wb = w1.setCell ⟨pb, 0, none⟩ (.map (some (w1.heap.size + 1))) := ⟨_, rfl⟩
  have hrb : Row wb pb 54 #[.map (some (w1.heap.size + 1)), .slice none 0 0] := by rw [hwb]; exact hrow.put 0 _
  have hsb : wb.heap.size = w1.heap.size := by rw [hwb]; simp [World.setCell]
  have hsc : (wb.alloc (.cells #[.string ⟨#[]⟩, .int .i64 0, .int .i64 0, .int .i64 0, .int .i64 0] 33)).heap.size = w1.heap.size + 1 := by rw [World.size_alloc, hsb]
  have hr4 := (hrb.alloc (.cells #[.string ⟨#[]⟩, .int .i64 0, .int .i64 0, .int .i64 0, .int .i64 0] 33)).alloc (.map #[] 0)
  have hm4 := MapO.new MB (wb.alloc (.cells #[.string ⟨#[]⟩, .int .i64 0, .int .i64 0, .int .i64 0, .int .i64 0] 33))
  rw [hsc] at hm4
  have hk4 : Keep GG w ((wb.alloc (.cells #[.string ⟨#[]⟩, .int .i64 0, .int .i64 0, .int .i64 0, .int .i64 0] 33)).alloc (.map #[] 0)) := (((Keep.of_below HB1.out).trans (by rw [hwb]; exact Keep.setCell (G := GG) w1 (p := ⟨pb, 0, none⟩) HG0.out _)).trans (Keep.alloc _ _)).trans (Keep.alloc _ _)
  have c4 : ((wb.alloc (.cells #[.string ⟨#[]⟩, .int .i64 0, .int .i64 0, .int .i64 0, .int .i64 0] 33)).alloc (.map #[] 0)).cell? ⟨pb, 0, none⟩ = some (.map (some (w1.heap.size + 1))) := hr4.cell 0
  rw [hwb] at c4 hm4 hr4 hk4
  have HM4 := Lib.hid hm4
  have HR4 := Lib.hid hr4
  have HK4 := Lib.hid hk4
  have hlt1 := hrow.lt
  have f1 := hrow.free 0
  have d1 : w1.cell? ⟨pb, 1, none⟩ = some (.slice none 0 0) := hrow.cell 1
  have HSI : Hid (w.heap.size ≤ w1.heap.size) := HB1.out.size
  have HLT : Hid (pb < w.heap.size) := Row.lt HP.out
  have HL1 := Lib.hid hlt1
  clear hm4 hr4 hk4 hrow hrb hsb hsc hwb
  refine (HI.out cp 65535 _).mono ?_
  rintro e w3 ⟨rfl, hw3⟩
  subst w3
  go_upto_region 11 with (at_mapUpdate; go_loud (refine wpl_storeO MB _ rfl _ _ _ rfl (w1.heap.size + 1) 0 _ rfl HM4.out (by unfold maxLen; omega) s ⟨s, wt, cp, 0, 0⟩ rfl rfl HS.out ?_; intro w5 m5 g5))
  have hr5 := HR4.out.grown g5.grown (by intro e; have h1 := HL1.out; have h2 := Option.some.inj e; omega)
  have HK5 : Hid (Keep GG w w5) := keep_turn_new HK4.out g5 (by have h1 := HSI.out; omega)
  have ho5 := World.ownsRow_nil w5 0 9 1
  have HNE : Hid ((Value.slice none 0 0).ownBlock ≠ some pb) := by intro h; cases h
  have HSC : Hid (∀ j u, [Value.string s][j]? = some u → (w5.alloc (.cells #[.string s] 9)).cell? ((⟨w5.heap.size, 0, none⟩ : Addr).add j) = some u) := fun j u h => by
    obtain ⟨rfl, rfl⟩ : j = 0 ∧ u = .string s := by
      cases j with
      | zero => simp at h; exact ⟨rfl, h.symm⟩
      | succ j => simp at h
    show World.cell? _ ⟨w5.heap.size, 0, none⟩ = _
    rw [(Row.new w5 9 #[.string s]).cell]; rfl
  have HON : Hid (∀ u ∈ [Value.string s], u.oneCell' = true) := by intro u hu; simp at hu; subst hu; rfl
  have HMA := Lib.hid (m5.below (below_alloc w5 (.cells #[.string s] 9)))
  have HOA := Lib.hid (own_bel ho5 (below_alloc w5 (.cells #[.string s] 9)))
  have HRA := Lib.hid (hr5.alloc (.cells #[.string s] 9))
  have HKA : Hid (Keep GG w (w5.alloc (.cells #[.string s] 9))) := HK5.out.trans (Keep.alloc _ _)
  have c5 : w5.cell? ⟨pb, 1, none⟩ = some (.slice none 0 0) := hr5.cell 1
  have HM5 := Lib.hid m5
  clear m5 g5 hr5 ho5
  go_wp2_with (at_builtin; refine wpList_append_lies _ rfl _ _ 49 rfl 0 9 i0 (.string ⟨#[]⟩) 1 16 Try.underlying49 hi hz0 hz1 hz2 rfl (by decide) _ _ _ rfl HOA.out ⟨w5.heap.size, 0, none⟩ 1 1 [.string s] rfl rfl HSC.out HON.out (by decide) (by unfold maxLen; omega) (by omega) (Nat.zero_le _) _ rfl ?_; intro g9 k9 w10 hown' hgrow hv9 hlt9; have HO9 := Lib.hid hown'; have HG9 : Hid ((w5.alloc (.cells #[.string s] 9)).grownBy w10 (Value.ownBlock (.slice none 0 0))) := hgrow; have HV9 : Hid (Value.ownBlock (.slice none 0 0) = some g9 ∨ g9 = (w5.alloc (.cells #[.string s] 9)).heap.size) := hv9; have HRR := Lib.hid (HRA.out.grown hgrow HNE.out); have c9 : w10.cell? ⟨pb, 1, none⟩ = some (.slice none 0 0) := HRR.out.cell 1; have f9 := HRR.out.free 1; clear hown' hgrow hv9 hlt9)
  go_ret
  have hv := HV9.out
  have hs5 := HKA.out.size
  have hbp : w1.heap.size + 1 ≠ pb := by have h1 := HL1.out; omega
  refine ⟨rfl, w1.heap.size + 1, g9, k9, by have h1 := HSI.out; omega, ?_, ⟨HRR.out.put 1 _, (HMA.out.grown HG9.out (by intro e; cases e)).far hbp _, own_set HO9.out HRR.out (by decide) _⟩, (HKA.out.trans (Keep.grown (G := GG) HG9.out (fun k hk => by cases hk))).trans (Keep.setCell (G := GG) _ (p := ⟨pb, 1, none⟩) HG0.out _)⟩
  rcases hv with h | h
  · cases h
  · omega
set_option maxRecDepth 100000 in
set_option maxHeartbeats 2000000 in
theorem add_some (pb : Nat) (s : ByteArray) (hs1 : s.size ≤ 4611686018427387904) (wt cp : Int) (w : World) (q1 : nameB s.data.toList = true) (q2 : decide (1 ≤ wt ∧ wt ≤ 65535) = true) (q3 : decide (1 ≤ cp ∧ cp ≤ 65535) = true) (bm g nc n : Nat) (hn : n < maxLen) (ns : List ByteArray) (hl : ns.length < 1024) (f : ByteArray → Option Bk) (hf : f s = none) (h : PMem w pb bm g nc n ns f) :
    Calls Try.prog 17 #[.pointer (some ⟨pb, 0, none⟩), .string s, .int .i64 wt, .int .i64 cp] w fun e w' => e = .returned (.int .i64 0) ∧ ∃ g' nc', (g' = g ∨ w.heap.size ≤ g') ∧ PMem w' pb bm g' nc' (n + 1) (ns ++ [s]) (updO f s (some ⟨s, wt, cp, 0, 0⟩)) ∧ Keep (PF pb bm g) w w' := by
  have HI := Lib.hid (fun n m w => within34 n m w)
  have hs2 : s.size ≤ maxLen := by unfold maxLen; omega
  have HP := Lib.hid h
  have HF := Lib.hid hf
  have HS := Lib.hid hs2
  have HN0 := Lib.hid hn
  have hl1 : (ns.length : Int) < 1024 := by omega
  have hq := qMapP
  obtain ⟨i0, hi, hz0, hz1, hz2⟩ := info_partsP infoStrP
  obtain ⟨GG, hGG⟩ : ∃ GG : Nat → Prop, GG = PF pb bm g := ⟨_, rfl⟩
  rw [← hGG]
  have HG0 : Hid (GG pb ∧ GG bm ∧ GG g) := by rw [hGG]; exact ⟨.inl rfl, .inr (.inl rfl), .inr (.inr rfl)⟩
  clear h hs2 hGG hn hf
  have hn := name13 s hs1
  rw [q1] at hn
  have HN := Lib.hid hn
  clear hn q1
  go_enter Try.func17, Try.ntmps17
  go_wp2_with fail
  refine (HN.out _).mono ?_
  rintro e w1 ⟨rfl, hb1⟩
  have HB1 := Lib.hid hb1
  clear hb1
  go_wp2_with fail
  refine (HI.out wt 65535 _).mono ?_
  rintro e w2 ⟨rfl, hw2⟩
  subst w2
  go_wp2_with fail
  have hP1 := HP.out.below HB1.out
  have hlt1 := hP1.row.lt
  have c1 : w1.cell? ⟨pb, 0, none⟩ = some (.map (some bm)) := hP1.row.cell 0
  have d1 : w1.cell? ⟨pb, 1, none⟩ = some (.slice (some ⟨g, 0, none⟩) ns.length nc) := hP1.row.cell 1
  have hl := hP1.map.look_ok HS.out
  rw [HF.out] at hl
  simp only [Option.getD_none, Option.isSome_none, MB, bkV, bkC, bk0] at hl
  have HP2 := Lib.hid (hP1.below (below_alloc w1 (.cells #[.string ⟨#[]⟩, .int .i64 0, .int .i64 0, .int .i64 0, .int .i64 0] 33)))
  have HK2 : Hid (Keep GG w (w1.alloc (.cells #[.string ⟨#[]⟩, .int .i64 0, .int .i64 0, .int .i64 0, .int .i64 0] 33))) := (Keep.of_below HB1.out).trans (Keep.alloc _ _)
  have HLG : Hid (pb < w1.heap.size) := hlt1
  clear hP1
  refine (HI.out cp 65535 _).mono ?_
  rintro e w3 ⟨rfl, hw3⟩
  subst w3
  go_upto_region 11 with (at_mapUpdate; go_loud (refine wpl_storeO MB _ rfl _ _ _ rfl bm n f rfl HP2.out.map HN0.out s ⟨s, wt, cp, 0, 0⟩ rfl rfl HS.out ?_; intro w5 m5 g5))
  have hr5 := HP2.out.row.grown g5.grown (fun e => HP2.out.gne.2.1 (Option.some.inj e))
  have HK5 : Hid (Keep GG w w5) := HK2.out.trans (Keep.turned g5 HG0.out.2.1)
  have ho5 := own_grown HP2.out.own g5.grown (fun k hk e => HP2.out.gne.2.2 ((Option.some.inj e).trans (Option.some.inj hk).symm))
  have HNE : Hid (Value.ownBlock (.slice (some ⟨g, 0, none⟩) ns.length nc) ≠ some pb) := fun h => HP2.out.gne.1 (Option.some.inj h)
  have HNM : Hid (Value.ownBlock (.slice (some ⟨g, 0, none⟩) ns.length nc) ≠ some bm) := fun h => HP2.out.gne.2.2 (Option.some.inj h).symm
  have HSC : Hid (∀ j u, [Value.string s][j]? = some u → (w5.alloc (.cells #[.string s] 9)).cell? ((⟨w5.heap.size, 0, none⟩ : Addr).add j) = some u) := fun j u h => by
    obtain ⟨rfl, rfl⟩ : j = 0 ∧ u = .string s := by
      cases j with
      | zero => simp at h; exact ⟨rfl, h.symm⟩
      | succ j => simp at h
    show World.cell? _ ⟨w5.heap.size, 0, none⟩ = _
    rw [(Row.new w5 9 #[.string s]).cell]; rfl
  have HON : Hid (∀ u ∈ [Value.string s], u.oneCell' = true) := by intro u hu; simp at hu; subst hu; rfl
  have HMA := Lib.hid (m5.below (below_alloc w5 (.cells #[.string s] 9)))
  have HOA := Lib.hid (own_bel ho5 (below_alloc w5 (.cells #[.string s] 9)))
  have HRA := Lib.hid (hr5.alloc (.cells #[.string s] 9))
  have HKA : Hid (Keep GG w (w5.alloc (.cells #[.string s] 9))) := HK5.out.trans (Keep.alloc _ _)
  have c5 : w5.cell? ⟨pb, 1, none⟩ = some (.slice (some ⟨g, 0, none⟩) ns.length nc) := hr5.cell 1
  have HM5 := Lib.hid m5
  have HBP : Hid (bm ≠ pb) := HP2.out.gne.2.1
  clear m5 g5 hr5 ho5 hl
  go_wp2_with (at_builtin; refine wpList_append_lies _ rfl _ _ 49 rfl 0 9 i0 (.string ⟨#[]⟩) 1 16 Try.underlying49 hi hz0 hz1 hz2 rfl (by decide) _ _ _ rfl HOA.out ⟨w5.heap.size, 0, none⟩ 1 1 [.string s] rfl rfl HSC.out HON.out (by decide) (by unfold maxLen; omega) (by omega) (Nat.zero_le _) _ rfl ?_; intro g9 k9 w10 hown' hgrow hv9 hlt9; have HO9 := Lib.hid hown'; have HG9 : Hid ((w5.alloc (.cells #[.string s] 9)).grownBy w10 (Value.ownBlock (.slice (some ⟨g, 0, none⟩) ns.length nc))) := hgrow; have HV9 : Hid (Value.ownBlock (.slice (some ⟨g, 0, none⟩) ns.length nc) = some g9 ∨ g9 = (w5.alloc (.cells #[.string s] 9)).heap.size) := hv9; have HRR := Lib.hid (HRA.out.grown hgrow HNE.out); have c9 : w10.cell? ⟨pb, 1, none⟩ = some (.slice (some ⟨g, 0, none⟩) ns.length nc) := HRR.out.cell 1; have f9 := HRR.out.free 1; clear hown' hgrow hv9 hlt9)
  go_ret
  have hv := HV9.out
  have hs5 := HKA.out.size
  have ho9 := HO9.out
  rw [show ns.map Value.string ++ [.string s] = (ns ++ [s]).map Value.string by simp, show ns.length + 1 = (ns ++ [s]).length by simp] at ho9
  refine ⟨rfl, g9, k9, ?_, ⟨?_, (HMA.out.grown HG9.out HNM.out).far HBP.out _, ?_⟩, (HKA.out.trans (Keep.grown (G := GG) HG9.out (fun k hk => by have h3 := Option.some.inj hk; exact h3 ▸ HG0.out.2.2))).trans (Keep.setCell (G := GG) _ (p := ⟨pb, 1, none⟩) HG0.out.1 _)⟩
  · rcases hv with h | h
    · exact .inl (Option.some.inj h).symm
    · right; omega
  · rw [show (ns ++ [s]).length = ns.length + 1 by simp]
    exact HRR.out.put 1 _
  · have h3 := own_set (i := 1) ho9 HRR.out (by decide) (.slice (some ⟨g9, 0, none⟩) (ns.length + 1) k9)
    simpa using h3
/-- Add. -/
theorem padd17 (pb n : Nat) (hn : n + 1 < maxLen) (F : Nat → Prop) (l : List Bk) (s : ByteArray) (hs1 : s.size ≤ 40) (wt cp : Int) (w : World) (h : PoolM w pb n F l) :
    Calls Try.prog 17 #[.pointer (some ⟨pb, 0, none⟩), .string s, .int .i64 wt, .int .i64 cp] w fun e w' => e = .returned (.int .i64 (addE (nameB s.data.toList) l s wt cp)) ∧ PoolTo w pb (n + 1) F (addL (nameB s.data.toList) l s wt cp) w' := by
  have hs2 : s.size ≤ 4611686018427387904 := by omega
  have hs3 : s.size ≤ maxLen := by unfold maxLen; omega
  have hbad : ∀ w', Below w.heap.size w w' → PoolTo w pb (n + 1) F l w' := fun w' hb => (h.to hb).mono (Nat.le_succ n)
  have hgood := h.good.add (nameB s.data.toList) hs1 wt cp
  by_cases q1 : nameB s.data.toList = true
  · by_cases q2 : 1 ≤ wt ∧ wt ≤ 65535
    · by_cases q3 : 1 ≤ cp ∧ cp ≤ 65535
      · have d2 := decide_eq_true q2
        have d3 := decide_eq_true q3
        have e0 : addE (nameB s.data.toList) l s wt cp = if (fndB l s).isSome = true then 7 else if 1024 ≤ l.length then 8 else 0 := by
          unfold addE
          rw [if_neg]
          rw [q1]; simp; omega
        unfold addL at hgood ⊢
        rw [e0] at hgood ⊢
        cases hf : fndB l s with
        | some b =>
          rw [hf] at hgood
          simp only [Option.isSome_some, if_true]
          obtain ⟨v, c0, hl⟩ := h.look hs3
          refine (add_there pb s hs2 wt cp w q1 d2 d3 v b c0 (World.block_lt_of_cell? w _ c0) (fun w' hb => by have := (hl w' hb).1; rw [hf] at this; exact this)).mono ?_
          rintro e w' ⟨rfl, hb⟩
          exact ⟨rfl, by simpa using hbad w' hb⟩
        | none =>
          rw [hf] at hgood
          simp only [Option.isSome_none, Bool.false_eq_true, if_false] at hgood ⊢
          obtain ⟨v, c0, hl⟩ := h.look hs3
          have hlt := World.block_lt_of_cell? w _ c0
          have hll : ∀ w', Below w.heap.size w w' → (Instr.lookup 52 (.map v) (.string s) true).run Try.prog w' = .ok (.tuple #[.agg #[.string ⟨#[]⟩, .int .i64 0, .int .i64 0, .int .i64 0, .int .i64 0], .bool false]) w' := fun w' hb => by
            have := (hl w' hb).1
            rw [hf] at this
            exact this
          by_cases q4 : 1024 ≤ l.length
          · simp only [q4, if_true] at hgood ⊢
            rcases h.2.2 with ⟨rfl, _, hnil⟩ | ⟨bm, g, nc, hF, hmem⟩
            · simp at q4
            · refine (add_full pb s hs2 wt cp w q1 d2 d3 v (some ⟨g, 0, none⟩) (nmsB l).length nc (by unfold nmsB; simpa using q4) c0 (hmem.row.cell 1) hlt hll).mono ?_
              rintro e w' ⟨rfl, hb⟩
              exact ⟨rfl, by simpa using hbad w' hb⟩
          · simp only [q4, if_false] at hgood ⊢
            simp only [if_true] at hgood ⊢
            rcases h.2.2 with ⟨rfl, rfl, hnil⟩ | ⟨bm, g, nc, rfl, hmem⟩
            · refine (add_nil pb s hs2 wt cp w q1 d2 d3 hnil).mono ?_
              rintro e w' ⟨rfl, bm, g, nc, h1, h2, h3, h4⟩
              refine ⟨rfl, PF pb bm g, ⟨hgood, by simp, .inr ⟨bm, g, nc, rfl, ?_⟩⟩, h4, ?_⟩
              · have e5 : updO (fun _ => none) s (some ⟨s, wt, cp, 0, 0⟩) = fndB ([] ++ [⟨s, wt, cp, 0, 0⟩]) := by
                  funext x
                  unfold updO
                  rw [List.nil_append, fndB_cons]
                  by_cases hx : x = s
                  · subst hx; simp
                  · have : ¬ s = x := fun e => hx e.symm
                    simp [hx, this, fndB]
                rw [e5] at h3
                exact h3.mono (by omega)
              · rintro k (rfl | rfl | rfl)
                · exact .inl rfl
                · exact .inr h1
                · exact .inr h2
            · refine (add_some pb s hs2 wt cp w q1 d2 d3 bm g nc n (by omega) (nmsB l) (by unfold nmsB; simp; omega) (fndB l) hf hmem).mono ?_
              rintro e w' ⟨rfl, g', nc', h1, h3, h4⟩
              refine ⟨rfl, PF pb bm g', ⟨hgood, by simp; omega, .inr ⟨bm, g', nc', rfl, ?_⟩⟩, h4, ?_⟩
              · have e5 : updO (fndB l) s (some ⟨s, wt, cp, 0, 0⟩) = fndB (l ++ [⟨s, wt, cp, 0, 0⟩]) := by
                  funext x
                  unfold updO
                  rw [fndB_append, fndB_cons]
                  by_cases hx : x = s
                  · subst hx; simp [hf]
                  · have : ¬ s = x := fun e => hx e.symm
                    simp [hx, this, fndB]
                have e6 : nmsB l ++ [s] = nmsB (l ++ [⟨s, wt, cp, 0, 0⟩]) := by simp [nmsB]
                rw [e5, e6] at h3
                exact h3
              · rintro k (rfl | rfl | rfl)
                · exact .inl (.inl rfl)
                · exact .inl (.inr (.inl rfl))
                · rcases h1 with rfl | h1
                  · exact .inl (.inr (.inr rfl))
                  · exact .inr h1
      · have e0 : addE (nameB s.data.toList) l s wt cp = 1 := by unfold addE; rw [if_pos (.inr (.inr q3))]
        unfold addL
        rw [e0]
        refine (add_b3 pb s hs2 wt cp w q1 (decide_eq_true q2) (decide_eq_false q3)).mono ?_
        rintro e w' ⟨rfl, hb⟩
        exact ⟨rfl, by simpa using hbad w' hb⟩
    · have e0 : addE (nameB s.data.toList) l s wt cp = 1 := by unfold addE; rw [if_pos (.inr (.inl q2))]
      unfold addL
      rw [e0]
      refine (add_b2 pb s hs2 wt cp w q1 (decide_eq_false q2)).mono ?_
      rintro e w' ⟨rfl, hb⟩
      exact ⟨rfl, by simpa using hbad w' hb⟩
  · have q0 : nameB s.data.toList = false := by simpa using q1
    have e0 : addE (nameB s.data.toList) l s wt cp = 1 := by unfold addE; rw [if_pos (.inl q0)]
    unfold addL
    rw [e0]
    refine (add_b1 pb s hs2 wt cp w q0).mono ?_
    rintro e w' ⟨rfl, hb⟩
    exact ⟨rfl, by simpa using hbad w' hb⟩
end Go.Proofs.Ytoikgphbicnhaab
