/- The reference's pool: Add (written by genplv.py). -/
import Derived.Test.YtoikgphbicnhaabPlU
import Derived.Test.YtoikgphbicnhaabNmT
import Derived.Laws.AppendOwnNone
namespace Go.Proofs.Ytoikgphbicnhaab
open Go.RowKit Go.Maps Go.Shelf Go.Sort

theorem grown_reflP (w : World) (r : Option Nat) : w.grownBy w r := ⟨rfl, rfl, rfl, Nat.le_refl _, fun _ _ _ => rfl⟩
section
variable {P : Program} (w : World) {ops : Array Oper} {rest : List Oper} {o : Oper} {a : Act} {Q : Exit → Act → World → Prop}
/-- 'append(v, x..)' to a slice of the call's own, x any slice of backends, nil too. -/
theorem wpl_append_bks (hgd : o.guard = none) (s x : Operand) (t : TypeId)
    (ho : o.op = .call { callee := .builtin .append, args := #[s, x], argTypes := #[t, t] })
    (base : Nat) (e : TypeId) (i : TypeInfo) (z : Value) (bytes : Nat) (ht : P.underlying t = some (.slice e)) (hi : P.info? e = some i) (hz : i.zero = some z)
    (hsize : i.size = 5) (hby : i.bytes = bytes) (hzs : z.cells.size = 5)
    (v : Value) (hs : a.eval s = v) (hown : w.ownsRow base e 5 v 0 []) (xa : Option Addr) (xc : Nat) (l : List Bk) (hx : a.eval x = .slice xa l.length xc) (hl : IsBksN w xa xc l)
    (h63 : l.length ≤ maxLen) (hbytes : l.length * bytes ≤ 140737488355328) (hbase : base ≤ w.heap.size)
    (h : ∀ v' w', w'.ownsRow base e 5 v' l.length (cellsB l) → w.grownBy w' v.ownBlock → wpList P ops Q rest (a.put o.dst v') w') : wpList P ops Q (o :: rest) a w := by
  cases xa with
  | none =>
    obtain rfl : l = [] := by
      rcases hl.bks with e | ⟨_, _, e, _⟩
      · exact e
      · cases e
    obtain rfl := hl.cap rfl
    exact wpList_append_own_none hgd s x t ho base e i 5 ht hi v 0 [] hs hown hx (h v w hown (grown_reflP w _))
  | some ad =>
    refine wpList_append_own w hgd s x t ho base e i z 5 bytes ht hi hz hsize hby hzs (by decide) v 0 [] hs hown ad l.length xc (cellsB l) hx (cellsB_length l) ?_ ?_ (by omega) (by simpa using hbytes) hbase (fun v' w' h1 h2 _ => h v' w' (by simpa using h1) h2)
    · intro j u hu
      rcases hl.bks with e | ⟨bk, oo, e, hbk, hc, hcell⟩
      · subst e; simp [cellsB] at hu
      · cases e
        rw [Addr.add_mid]
        have hj : j < l.length * 5 := by
          rcases Nat.lt_or_ge j (l.length * 5) with h | h
          · exact h
          · rw [List.getElem?_eq_none (by rw [cellsB_length]; omega)] at hu; cases hu
        have hk : j / 5 < l.length := by omega
        obtain ⟨q0, q1, q2, q3, q4⟩ := hcell (j / 5) l[j / 5] (by simp [hk])
        obtain ⟨p0, p1, p2, p3, p4⟩ := cellsB_at l (j / 5) l[j / 5] (by simp [hk])
        have hm : j = j / 5 * 5 + j % 5 := by omega
        have hr : j % 5 < 5 := Nat.mod_lt _ (by decide)
        generalize j / 5 = d at *
        generalize j % 5 = r at *
        subst hm
        match r, hr with
        | 0, _ => rw [Nat.add_zero] at hu ⊢; rw [p0] at hu; rw [← hu]; exact q0
        | 1, _ => rw [p1] at hu; rw [← hu, ← Nat.add_assoc]; exact q1
        | 2, _ => rw [p2] at hu; rw [← hu, ← Nat.add_assoc]; exact q2
        | 3, _ => rw [p3] at hu; rw [← hu, ← Nat.add_assoc]; exact q3
        | 4, _ => rw [p4] at hu; rw [← hu, ← Nat.add_assoc]; exact q4
    · intro u hu
      unfold cellsB at hu
      obtain ⟨b, _, hb⟩ := List.mem_flatMap.1 hu
      exact bk_one b u hb
end
set_option maxRecDepth 100000 in
set_option maxHeartbeats 4000000 in
theorem radd_b1 (a : Option Addr) (c : Nat) (l : List Bk) (_hl : l.length ≤ 1100) (s : ByteArray) (hs1 : s.size ≤ 4611686018427387904) (wt cp : Int) (w : World) (h : IsBksN w a c l) (q1 : nameB s.data.toList = false) :
    Calls Try.prog 24 #[.slice a l.length c, .string s, .int .i64 wt, .int .i64 cp] w (RetB w a l (pairE 1)) := by
  have HI := Lib.hid h.bks
  have HNC := Lib.hid h
  have hn := rname14 s hs1
  rw [q1] at hn
  have HN := Lib.hid hn
  clear hn q1 h
  go_enter Try.func24, Try.ntmps24
  go_wp2_with fail
  refine (HN.out _).mono ?_
  rintro e w1 ⟨rfl, hb1⟩
  have HB1 := Lib.hid hb1
  clear hb1
  go_wp2_with fail
  refine bodyPost_ret (v := .tuple #[.slice a l.length c, .int .i64 1]) (by simp [results, Try.results24, go_sem]) rfl ?_
  exact ⟨a, c, rfl, HNC.out.below HB1.out, .inl rfl, HB1.out⟩
set_option maxRecDepth 100000 in
set_option maxHeartbeats 4000000 in
theorem radd_b2 (a : Option Addr) (c : Nat) (l : List Bk) (_hl : l.length ≤ 1100) (s : ByteArray) (hs1 : s.size ≤ 4611686018427387904) (wt cp : Int) (w : World) (h : IsBksN w a c l) (q1 : nameB s.data.toList = true) (q2 : decide (wt < 1) = true) :
    Calls Try.prog 24 #[.slice a l.length c, .string s, .int .i64 wt, .int .i64 cp] w (RetB w a l (pairE 1)) := by
  have HI := Lib.hid h.bks
  have HNC := Lib.hid h
  have hn := rname14 s hs1
  rw [q1] at hn
  have HN := Lib.hid hn
  clear hn q1 h
  go_enter Try.func24, Try.ntmps24
  go_wp2_with fail
  refine (HN.out _).mono ?_
  rintro e w1 ⟨rfl, hb1⟩
  have HB1 := Lib.hid hb1
  clear hb1
  go_wp2_with fail
  refine bodyPost_ret (v := .tuple #[.slice a l.length c, .int .i64 1]) (by simp [results, Try.results24, go_sem]) rfl ?_
  exact ⟨a, c, rfl, HNC.out.below HB1.out, .inl rfl, HB1.out⟩
set_option maxRecDepth 100000 in
set_option maxHeartbeats 4000000 in
theorem radd_b3 (a : Option Addr) (c : Nat) (l : List Bk) (_hl : l.length ≤ 1100) (s : ByteArray) (hs1 : s.size ≤ 4611686018427387904) (wt cp : Int) (w : World) (h : IsBksN w a c l) (q1 : nameB s.data.toList = true) (q2 : decide (wt < 1) = false) (q3 : decide (65535 < wt) = true) :
    Calls Try.prog 24 #[.slice a l.length c, .string s, .int .i64 wt, .int .i64 cp] w (RetB w a l (pairE 1)) := by
  have HI := Lib.hid h.bks
  have HNC := Lib.hid h
  have hn := rname14 s hs1
  rw [q1] at hn
  have HN := Lib.hid hn
  clear hn q1 h
  go_enter Try.func24, Try.ntmps24
  go_wp2_with fail
  refine (HN.out _).mono ?_
  rintro e w1 ⟨rfl, hb1⟩
  have HB1 := Lib.hid hb1
  clear hb1
  go_wp2_with fail
  refine bodyPost_ret (v := .tuple #[.slice a l.length c, .int .i64 1]) (by simp [results, Try.results24, go_sem]) rfl ?_
  exact ⟨a, c, rfl, HNC.out.below HB1.out, .inl rfl, HB1.out⟩
set_option maxRecDepth 100000 in
set_option maxHeartbeats 4000000 in
theorem radd_b4 (a : Option Addr) (c : Nat) (l : List Bk) (_hl : l.length ≤ 1100) (s : ByteArray) (hs1 : s.size ≤ 4611686018427387904) (wt cp : Int) (w : World) (h : IsBksN w a c l) (q1 : nameB s.data.toList = true) (q2 : decide (wt < 1) = false) (q3 : decide (65535 < wt) = false) (q4 : decide (cp < 1) = true) :
    Calls Try.prog 24 #[.slice a l.length c, .string s, .int .i64 wt, .int .i64 cp] w (RetB w a l (pairE 1)) := by
  have HI := Lib.hid h.bks
  have HNC := Lib.hid h
  have hn := rname14 s hs1
  rw [q1] at hn
  have HN := Lib.hid hn
  clear hn q1 h
  go_enter Try.func24, Try.ntmps24
  go_wp2_with fail
  refine (HN.out _).mono ?_
  rintro e w1 ⟨rfl, hb1⟩
  have HB1 := Lib.hid hb1
  clear hb1
  go_wp2_with fail
  refine bodyPost_ret (v := .tuple #[.slice a l.length c, .int .i64 1]) (by simp [results, Try.results24, go_sem]) rfl ?_
  exact ⟨a, c, rfl, HNC.out.below HB1.out, .inl rfl, HB1.out⟩
set_option maxRecDepth 100000 in
set_option maxHeartbeats 4000000 in
theorem radd_b5 (a : Option Addr) (c : Nat) (l : List Bk) (_hl : l.length ≤ 1100) (s : ByteArray) (hs1 : s.size ≤ 4611686018427387904) (wt cp : Int) (w : World) (h : IsBksN w a c l) (q1 : nameB s.data.toList = true) (q2 : decide (wt < 1) = false) (q3 : decide (65535 < wt) = false) (q4 : decide (cp < 1) = false) (q5 : decide (65535 < cp) = true) :
    Calls Try.prog 24 #[.slice a l.length c, .string s, .int .i64 wt, .int .i64 cp] w (RetB w a l (pairE 1)) := by
  have HI := Lib.hid h.bks
  have HNC := Lib.hid h
  have hn := rname14 s hs1
  rw [q1] at hn
  have HN := Lib.hid hn
  clear hn q1 h
  go_enter Try.func24, Try.ntmps24
  go_wp2_with fail
  refine (HN.out _).mono ?_
  rintro e w1 ⟨rfl, hb1⟩
  have HB1 := Lib.hid hb1
  clear hb1
  go_wp2_with fail
  refine bodyPost_ret (v := .tuple #[.slice a l.length c, .int .i64 1]) (by simp [results, Try.results24, go_sem]) rfl ?_
  exact ⟨a, c, rfl, HNC.out.below HB1.out, .inl rfl, HB1.out⟩
set_option maxRecDepth 100000 in
set_option maxHeartbeats 4000000 in
theorem radd_there (a : Option Addr) (c : Nat) (l : List Bk) (hl : l.length ≤ 1100) (s : ByteArray) (hs1 : s.size ≤ 4611686018427387904) (wt cp : Int) (w : World) (h : IsBksN w a c l) (q1 : nameB s.data.toList = true) (q2 : decide (wt < 1) = false) (q3 : decide (65535 < wt) = false) (q4 : decide (cp < 1) = false) (q5 : decide (65535 < cp) = false) (b : Bk) (hf : fndB l s = some b) :
    Calls Try.prog 24 #[.slice a l.length c, .string s, .int .i64 wt, .int .i64 cp] w (RetB w a l (pairE 7)) := by
  have HI := Lib.hid h.bks
  have HNC := Lib.hid h
  have hn := rname14 s hs1
  rw [q1] at hn
  have HN := Lib.hid hn
  clear hn q1 h
  go_enter Try.func24, Try.ntmps24
  go_wp2_with fail
  refine (HN.out _).mono ?_
  rintro e w1 ⟨rfl, hb1⟩
  have HB1 := Lib.hid hb1
  clear hb1
  go_wp2_with fail
  refine (rfind39 a c l hl s w1 (HI.out.below HB1.out)).mono ?_
  rintro e w2 ⟨rfl, hb2⟩
  rw [hf, Option.getD_some, Option.isSome_some]
  obtain ⟨n0, w0, c0, s0, z0⟩ := b
  simp only [bkV, bkC]
  have HB2 := Lib.hid (HB1.out.trans (hb2.mono HB1.out.size))
  clear hb2 hf
  have HB3 : Hid (Below w.heap.size w (w2.alloc (.cells #[.string n0, .int .i64 w0, .int .i64 c0, .int .i64 s0, .int .i64 z0] 61))) := HB2.out.alloc HB2.out.size _
  go_wp2_with fail
  refine bodyPost_ret (v := .tuple #[.slice a l.length c, .int .i64 7]) (by simp [results, Try.results24, go_sem]) rfl ?_
  exact ⟨a, c, rfl, HNC.out.below HB3.out, .inl rfl, HB3.out⟩
set_option maxRecDepth 100000 in
set_option maxHeartbeats 4000000 in
theorem radd_full (a : Option Addr) (c : Nat) (l : List Bk) (hl : l.length ≤ 1100) (s : ByteArray) (hs1 : s.size ≤ 4611686018427387904) (wt cp : Int) (w : World) (h : IsBksN w a c l) (q1 : nameB s.data.toList = true) (q2 : decide (wt < 1) = false) (q3 : decide (65535 < wt) = false) (q4 : decide (cp < 1) = false) (q5 : decide (65535 < cp) = false) (hf : fndB l s = none) (hfull : 1024 ≤ l.length) :
    Calls Try.prog 24 #[.slice a l.length c, .string s, .int .i64 wt, .int .i64 cp] w (RetB w a l (pairE 8)) := by
  have HI := Lib.hid h.bks
  have HNC := Lib.hid h
  have hl1 : (1024 : Int) ≤ l.length := by omega
  have hn := rname14 s hs1
  rw [q1] at hn
  have HN := Lib.hid hn
  clear hn q1 h
  go_enter Try.func24, Try.ntmps24
  go_wp2_with fail
  refine (HN.out _).mono ?_
  rintro e w1 ⟨rfl, hb1⟩
  have HB1 := Lib.hid hb1
  clear hb1
  go_wp2_with fail
  refine (rfind39 a c l hl s w1 (HI.out.below HB1.out)).mono ?_
  rintro e w2 ⟨rfl, hb2⟩
  rw [hf, Option.getD_none, Option.isSome_none]
  obtain ⟨n0, w0, c0, s0, z0⟩ := bk0
  simp only [bkV, bkC]
  have HB2 := Lib.hid (HB1.out.trans (hb2.mono HB1.out.size))
  clear hb2 hf
  have HB3 : Hid (Below w.heap.size w (w2.alloc (.cells #[.string n0, .int .i64 w0, .int .i64 c0, .int .i64 s0, .int .i64 z0] 61))) := HB2.out.alloc HB2.out.size _
  go_wp2_with fail
  refine bodyPost_ret (v := .tuple #[.slice a l.length c, .int .i64 8]) (by simp [results, Try.results24, go_sem]) rfl ?_
  exact ⟨a, c, rfl, HNC.out.below HB3.out, .inl rfl, HB3.out⟩
set_option maxRecDepth 100000 in
set_option maxHeartbeats 4000000 in
theorem radd_ok (a : Option Addr) (c : Nat) (l : List Bk) (hl : l.length ≤ 1100) (s : ByteArray) (hs1 : s.size ≤ 4611686018427387904) (wt cp : Int) (w : World) (h : IsBksN w a c l) (q1 : nameB s.data.toList = true) (q2 : decide (wt < 1) = false) (q3 : decide (65535 < wt) = false) (q4 : decide (cp < 1) = false) (q5 : decide (65535 < cp) = false) (hf : fndB l s = none) (hfull : l.length < 1024) :
    Calls Try.prog 24 #[.slice a l.length c, .string s, .int .i64 wt, .int .i64 cp] w (RetB w a (l ++ [⟨s, wt, cp, 0, 0⟩]) (pairE 0)) := by
  have HI := Lib.hid h.bks
  have HNC := Lib.hid h
  have hl1 : (l.length : Int) < 1024 := by omega
  obtain ⟨i0, hi, hz0, hz1, hz2⟩ := info_partsP infoRk
  have hn := rname14 s hs1
  rw [q1] at hn
  have HN := Lib.hid hn
  clear hn q1 h
  go_enter Try.func24, Try.ntmps24
  go_wp2_with fail
  refine (HN.out _).mono ?_
  rintro e w1 ⟨rfl, hb1⟩
  have HB1 := Lib.hid hb1
  clear hb1
  go_wp2_with fail
  refine (rfind39 a c l hl s w1 (HI.out.below HB1.out)).mono ?_
  rintro e w2 ⟨rfl, hb2⟩
  rw [hf, Option.getD_none, Option.isSome_none]
  obtain ⟨n0, w0, c0, s0, z0⟩ := bk0
  simp only [bkV, bkC]
  have HB2 := Lib.hid (HB1.out.trans (hb2.mono HB1.out.size))
  clear hb2 hf
  have HB3 : Hid (Below w.heap.size w (w2.alloc (.cells #[.string n0, .int .i64 w0, .int .i64 c0, .int .i64 s0, .int .i64 z0] 61))) := HB2.out.alloc HB2.out.size _
  go_upto_region 8 with fail
  obtain ⟨w3, hw3⟩ : ∃ w3, w3 = w2.alloc (.cells #[.string n0, .int .i64 w0, .int .i64 c0, .int .i64 s0, .int .i64 z0] 61) := ⟨_, rfl⟩
  rw [← hw3] at HB3 ⊢
  clear hw3 HB2 HB1
  have HO3 : Hid ((w3.alloc (.cells #[] 61)).ownsRow w3.heap.size 61 5 (.slice (some ⟨w3.heap.size, 0, none⟩) 0 0) 0 []) := World.ownsRow_lit w3 #[] 0 (Nat.le_refl _) (by decide) (by simp)
  have HI4 : Hid (IsBksN (w3.alloc (.cells #[] 61)) a c l) := Lib.hid (HNC.out.below (HB3.out.alloc HB3.out.size (.cells #[] 61)))
  have HS4 : Hid (w3.heap.size ≤ (w3.alloc (.cells #[] 61)).heap.size) := by rw [World.size_alloc]; exact Nat.le_succ _
  go_wp2_with (first
    | (at_builtin; refine wpl_append_bks _ rfl _ _ 26 rfl w3.heap.size 61 i0 (.agg #[.string ⟨#[]⟩, .int .i64 0, .int .i64 0, .int .i64 0, .int .i64 0]) 48 Try.underlying26 hi hz0 hz1 hz2 rfl _ rfl HO3.out a c l rfl HI4.out (by unfold maxLen; omega) (by omega) HS4.out ?_; intro v5 w5 ho5 hg5; go_loud (obtain ⟨va, vc, rfl⟩ := own_slice ho5; have HB5 : Hid (Below w3.heap.size w3 w5) := (below_alloc w3 (.cells #[] 61)).grown hg5 HS4.out (fun k hk => by have h9 : w3.heap.size = k := (Option.some.inj hk); omega); have HO5 := Lib.hid (ho5.alloc (.cells #[.string s, .int .i64 wt, .int .i64 cp, .int .i64 0, .int .i64 0] 61)); have HB6 := Lib.hid (HB5.out.alloc HB5.out.size (.cells #[.string s, .int .i64 wt, .int .i64 cp, .int .i64 0, .int .i64 0] 61)); have HC5 := Lib.hid (rk_new w5 ⟨s, wt, cp, 0, 0⟩); have HN5 := Lib.hid (bk_one ⟨s, wt, cp, 0, 0⟩); clear ho5 hg5))
    | (at_builtin; go_loud (refine wpList_append_lies _ rfl _ _ 26 rfl w3.heap.size 61 i0 (.agg #[.string ⟨#[]⟩, .int .i64 0, .int .i64 0, .int .i64 0, .int .i64 0]) 5 48 Try.underlying26 hi hz0 hz1 hz2 rfl (by decide) _ _ _ rfl HO5.out ⟨w5.heap.size, 0, none⟩ 1 1 (bkL ⟨s, wt, cp, 0, 0⟩) rfl rfl HC5.out HN5.out (by decide) (by unfold maxLen; omega) (by omega) HB6.out.size _ rfl ?_; intro g9 k9 w10 hown' hgrow hv9 hlt9; have HO9 := Lib.hid hown'; have HG9 : Hid ((w5.alloc (.cells #[.string s, .int .i64 wt, .int .i64 cp, .int .i64 0, .int .i64 0] 61)).grownBy w10 (Value.ownBlock (.slice va l.length vc))) := hgrow; clear hown' hgrow hv9 hlt9)))
  refine bodyPost_ret (v := .tuple #[.slice (some ⟨g9, 0, none⟩) (l.length + 1) k9, .int .i64 0]) (by simp [results, Try.results24, go_sem]) rfl ?_
  have h9 := HO9.out
  rw [show cellsB l ++ bkL ⟨s, wt, cp, 0, 0⟩ = cellsB (l ++ [⟨s, wt, cp, 0, 0⟩]) by rw [cellsB_append]; rfl, show l.length + 1 = (l ++ [(⟨s, wt, cp, 0, 0⟩ : Bk)]).length by simp] at h9
  have hb9 : Below w3.heap.size w3 w10 := HB6.out.grown HG9.out HB6.out.size (fun k hk => (HO5.out.lt k hk).1)
  have hr := RetB.of_own (w := w) (a0 := a) (k := pairE 0) h9 (HB3.out.trans (hb9.mono HB3.out.size)) HB3.out.size
  simpa [pairE] using hr
end Go.Proofs.Ytoikgphbicnhaab
