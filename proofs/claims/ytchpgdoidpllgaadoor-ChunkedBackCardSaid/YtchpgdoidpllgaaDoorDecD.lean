/- chunked: take. -/
import Derived.Test.YtchpgdoidpllgaaDoorDecC
import Derived.Test.YtchpgdoidpllgaaDoorChM
namespace Go.Proofs.YtchpgdoidpllgaaDoor
open Go.RowKit

/-- A decoder's fields, for a machine's place. -/
inductive ChRep (m : Int) : ChS → Int → Int → List UInt8 → Nat → Bool → List UInt8 → Int → Prop
  | size (ds b : List UInt8) (z : Bool) (h1 : ds.all isHex = true) (h2 : ds.length ≤ 8) (h3 : b = [] ∨ (b.length : Int) ≤ m) : ChRep m (.size ds b) m 0 ds 0 z b 0
  | sizeLF (ds b : List UInt8) (z : Bool) (h0 : ds ≠ []) (h1 : ds.all isHex = true) (h2 : ds.length ≤ 8) (h3 : b = [] ∨ (b.length : Int) ≤ m) : ChRep m (.sizeLF ds b) m 1 ds 0 z b 0
  | data (k : Nat) (b : List UInt8) (h0 : 0 < k) (h4 : k ≤ 4294967296) (h3 : (b.length : Int) + k ≤ m) : ChRep m (.data k b) m 2 [] k false b 0
  | end00 (z : Bool) (b : List UInt8) (h3 : (b.length : Int) ≤ m) : ChRep m (.end0 z b) m 2 [] 0 z b 0
  | end0 (z : Bool) (b : List UInt8) (h3 : (b.length : Int) ≤ m) : ChRep m (.end0 z b) m 3 [] 0 z b 0
  | end1 (z : Bool) (b : List UInt8) (h3 : (b.length : Int) ≤ m) : ChRep m (.end1 z b) m 4 [] 0 z b 0
  | done (b : List UInt8) : ChRep m (.done b) m 5 [] 0 true b 0
  | err (e : Int) (h0 : e ≠ 0) : ChRep m (.err e) 0 6 [] 0 false [] e
/-- A decoder in memory that stands at a machine's place. -/
def DecS (G : Nat → Prop) (w : World) (g : Nat) (m : Int) (σ : ChS) : Prop := ∃ m' st ds k z b e, ChRep m σ m' st ds k z b e ∧ Dec G w g m' st ds k z b e
theorem DecS.below {G : Nat → Prop} {w w' : World} {g : Nat} {m : Int} {σ : ChS} (h : DecS G w g m σ) (hb : Below w.heap.size w w') : DecS G w' g m σ := by
  obtain ⟨m', st, ds, k, z, b, e, hr, hd⟩ := h
  exact ⟨m', st, ds, k, z, b, e, hr, hd.below hb⟩
theorem DecS.less {G : Nat → Prop} {w : World} {g : Nat} {m : Int} {σ : ChS} (h : DecS G w g m σ) : DecS (fun j => G j ∧ j < w.heap.size) w g m σ := by
  obtain ⟨m', st, ds, k, z, b, e, hr, hd⟩ := h
  exact ⟨m', st, ds, k, z, b, e, hr, hd.less⟩
theorem DecS.more {G G' : Nat → Prop} {w : World} {g : Nat} {m : Int} {σ : ChS} (h : DecS G w g m σ) (hg : ∀ j, j < w.heap.size → G j → G' j) : DecS G' w g m σ := by
  obtain ⟨m', st, ds, k, z, b, e, hr, hd⟩ := h
  exact ⟨m', st, ds, k, z, b, e, hr, hd.more hg⟩
theorem hexN {ds : List UInt8} {c : UInt8} {m : Int} (h1 : ds.all isHex = true) (h : isHex c = true ∧ ds.length < 8) : ∃ r1 r2, numR 16 8 isHex (ds ++ [c]) m = (r1, r2) ∧ (r2 == 2) = false := by
  unfold numR
  rw [if_neg (by rw [List.all_append, h1, List.length_append]; simp [h.1]; omega)]
  split
  · exact ⟨_, _, rfl, rfl⟩
  · exact ⟨_, _, rfl, rfl⟩
theorem hexE {ds : List UInt8} {c : UInt8} {m : Int} (h1 : ds.all isHex = true) (h : ¬ (isHex c = true ∧ ds.length < 8)) : numR 16 8 isHex (ds ++ [c]) m = (0, 2) := by
  unfold numR
  rw [if_pos]
  by_cases hc : isHex c = true
  · exact .inr (.inl (by rw [List.length_append, List.length_singleton]; have : ¬ ds.length < 8 := fun hl => h ⟨hc, hl⟩; omega))
  · refine .inr (.inr ?_)
    rw [List.all_append, h1]
    simpa using hc
def Sel (q : Bool) (A B : Prop) : Prop := if q = true then A else B
theorem fail_s (G : Nat → Prop) (g : Nat) (M m st : Int) (ds : List UInt8) (k : Nat) (z : Bool) (body : List UInt8) (e : Int) (w : World) (h : Dec G w g m st ds k z body e) :
    Calls Tryd.prog 31 #[.pointer (some ⟨g, 0, none⟩), .int .i64 2] w fun r w' => r = .returned (.tuple #[]) ∧ DecS G w' g M (.err 2) ∧ Keep G w w' := by
  refine (fail31 G g m st ds k z body e 2 w h).mono ?_
  rintro r w' ⟨rfl, hd, hk⟩
  exact ⟨rfl, ⟨_, _, _, _, _, _, _, .err 2 (by decide), hd⟩, hk⟩
set_option maxRecDepth 100000 in
set_option maxHeartbeats 1000000 in
theorem take_a (G : Nat → Prop) (g : Nat) (m : Int) (ds : List UInt8) (k : Nat) (z : Bool) (body : List UInt8) (e : Int) (h0 : 0 < ds.length) (w : World) (h : Dec G w g m 0 ds k z body e) :
    Calls Tryd.prog 25 #[.pointer (some ⟨g, 0, none⟩), .int .u8 13] w fun r w' => r = .returned (.tuple #[]) ∧ Dec G w' g m 1 ds k z body e ∧ Keep G w w' := by
  have f0 : decide (0 < ds.length) = true := decide_eq_true h0
  have f9 : (0 : Int) < ds.length := by omega
  obtain ⟨s, b, h⟩ := h
  have c1 := h.c.2.1
  have c2 := h.c.2.2.1
  have f1 := h.row.free 1
  obtain ⟨sa, sc, hsv⟩ := own_slice h.so
  subst hsv
  have HD := Lib.hid h
  clear h
  go_enter Tryd.func25, Tryd.ntmps25
  go_wp2_with fail
  go_end0
  exact ⟨rfl, ⟨_, _, HD.out.set1 1⟩, Keep.setCell w (p := ⟨g, 1, none⟩) HD.out.gG _⟩
set_option maxRecDepth 100000 in
set_option maxHeartbeats 1000000 in
theorem take_b (G : Nat → Prop) (g : Nat) (m : Int) (ds : List UInt8) (k : Nat) (z : Bool) (body : List UInt8) (e : Int) (c : UInt8) (hc : c ≠ 13) (hl : ds.length ≤ 8) (r1 r2 : Int) (q : Bool) (hq : (r2 == 2) = q) (hr : numR 16 8 isHex (ds ++ [c]) m = (r1, r2)) (w : World) (h : Dec G w g m 0 ds k z body e) (hu : Up G w) (hy : ∀ w', Keep G w w' → Syn w') :
    Calls Tryd.prog 25 #[.pointer (some ⟨g, 0, none⟩), .int .u8 (c.toNat : Int)] w fun r w' => r = .returned (.tuple #[]) ∧ Sel q (Dec G w' g 0 6 [] 0 false [] r2) (Dec G w' g m 0 (ds ++ [c]) k z body e) ∧ Keep G w w' := by
  have HX := Lib.hid (extend28 G g m ds k z body e c hl r1 r2 q hq hr w h hu hy)
  clear hu hy hq hr
  have n13 : ((c.toNat : Int) == 13) = false := beq_eq_false_iff_ne.2 (fun e => hc (UInt8.toNat_inj.1 (by have : (13 : UInt8).toNat = 13 := rfl; omega)))
  clear hc
  obtain ⟨s, b, h⟩ := h
  have c1 := h.c.2.1
  have c2 := h.c.2.2.1
  have f1 := h.row.free 1
  obtain ⟨sa, sc, hsv⟩ := own_slice h.so
  subst hsv
  have HD := Lib.hid h
  clear h
  go_enter Tryd.func25, Tryd.ntmps25
  go_wp2_with fail
  refine HX.out.mono ?_
  rintro e9 w9 ⟨rfl, hd9, hk9⟩
  have HD9 := Lib.hid hd9
  clear hd9
  go_wp2_with fail
  go_end0
  exact ⟨rfl, HD9.out, hk9⟩
set_option maxRecDepth 100000 in
set_option maxHeartbeats 1000000 in
theorem take_d (G : Nat → Prop) (g : Nat) (m : Int) (ds : List UInt8) (k : Nat) (z : Bool) (body : List UInt8) (e : Int) (hl : ds.length ≤ 8) (hm0 : -9223372036854775808 ≤ m - body.length) (hm1 : m - body.length ≤ 9223372036854775807) (r1 : Nat) (r2 : Int) (q : Bool) (hq : (r2 != 0) = q) (hr : numR 16 8 isHex ds (m - body.length) = ((r1 : Int), r2)) (w : World) (h : Dec G w g m 1 ds k z body e) (hu : Up G w) (hy : ∀ w', Keep G w w' → Syn w') :
    Calls Tryd.prog 25 #[.pointer (some ⟨g, 0, none⟩), .int .u8 10] w fun r w' => r = .returned (.tuple #[]) ∧ Sel q (Dec G w' g 0 6 [] 0 false [] r2) (Dec G w' g m 2 [] r1 (decide (r1 = 0)) body e) ∧ Keep G w w' := by
  have HX := Lib.hid (begin29 G g m ds k z body e hl hm0 hm1 r1 r2 q hq hr w h hu hy)
  clear hu hy hq hr hm0 hm1
  obtain ⟨s, b, h⟩ := h
  have c1 := h.c.2.1
  have c2 := h.c.2.2.1
  have f1 := h.row.free 1
  obtain ⟨sa, sc, hsv⟩ := own_slice h.so
  subst hsv
  have HD := Lib.hid h
  clear h
  go_enter Tryd.func25, Tryd.ntmps25
  go_wp2_with fail
  refine HX.out.mono ?_
  rintro e9 w9 ⟨rfl, hd9, hk9⟩
  have HD9 := Lib.hid hd9
  clear hd9
  go_wp2_with fail
  go_end0
  exact ⟨rfl, HD9.out, hk9⟩
set_option maxRecDepth 100000 in
set_option maxHeartbeats 1000000 in
theorem take_e (G : Nat → Prop) (g : Nat) (M m : Int) (ds : List UInt8) (k : Nat) (z : Bool) (body : List UInt8) (e : Int) (c : UInt8) (hc : c ≠ 10) (w : World) (h : Dec G w g m 1 ds k z body e) :
    Calls Tryd.prog 25 #[.pointer (some ⟨g, 0, none⟩), .int .u8 (c.toNat : Int)] w fun r w' => r = .returned (.tuple #[]) ∧ DecS G w' g M (.err 2) ∧ Keep G w w' := by
  have HX := Lib.hid (fail_s G g M m 1 ds k z body e w h)
  have n10 : ((c.toNat : Int) == 10) = false := beq_eq_false_iff_ne.2 (fun e => hc (UInt8.toNat_inj.1 (by have : (10 : UInt8).toNat = 10 := rfl; omega)))
  clear hc
  obtain ⟨s, b, h⟩ := h
  have c1 := h.c.2.1
  have c2 := h.c.2.2.1
  have f1 := h.row.free 1
  obtain ⟨sa, sc, hsv⟩ := own_slice h.so
  subst hsv
  have HD := Lib.hid h
  clear h
  go_enter Tryd.func25, Tryd.ntmps25
  go_wp2_with fail
  refine HX.out.mono ?_
  rintro e9 w9 ⟨rfl, hd9, hk9⟩
  have HD9 := Lib.hid hd9
  clear hd9
  go_wp2_with fail
  go_end0
  exact ⟨rfl, HD9.out, hk9⟩
set_option maxRecDepth 100000 in
set_option maxHeartbeats 1000000 in
theorem take_f (G : Nat → Prop) (g : Nat) (m : Int) (ds : List UInt8) (k : Nat) (z : Bool) (body : List UInt8) (e : Int) (w : World) (h : Dec G w g m 3 ds k z body e) :
    Calls Tryd.prog 25 #[.pointer (some ⟨g, 0, none⟩), .int .u8 13] w fun r w' => r = .returned (.tuple #[]) ∧ Dec G w' g m 4 ds k z body e ∧ Keep G w w' := by
  obtain ⟨s, b, h⟩ := h
  have c1 := h.c.2.1
  have c2 := h.c.2.2.1
  have f1 := h.row.free 1
  obtain ⟨sa, sc, hsv⟩ := own_slice h.so
  subst hsv
  have HD := Lib.hid h
  clear h
  go_enter Tryd.func25, Tryd.ntmps25
  go_wp2_with fail
  go_end0
  exact ⟨rfl, ⟨_, _, HD.out.set1 4⟩, Keep.setCell w (p := ⟨g, 1, none⟩) HD.out.gG _⟩
set_option maxRecDepth 100000 in
set_option maxHeartbeats 1000000 in
theorem take_g (G : Nat → Prop) (g : Nat) (M m : Int) (ds : List UInt8) (k : Nat) (z : Bool) (body : List UInt8) (e : Int) (c : UInt8) (hc : c ≠ 13) (w : World) (h : Dec G w g m 3 ds k z body e) :
    Calls Tryd.prog 25 #[.pointer (some ⟨g, 0, none⟩), .int .u8 (c.toNat : Int)] w fun r w' => r = .returned (.tuple #[]) ∧ DecS G w' g M (.err 2) ∧ Keep G w w' := by
  have HX := Lib.hid (fail_s G g M m 3 ds k z body e w h)
  have n13 : ((c.toNat : Int) == 13) = false := beq_eq_false_iff_ne.2 (fun e => hc (UInt8.toNat_inj.1 (by have : (13 : UInt8).toNat = 13 := rfl; omega)))
  clear hc
  obtain ⟨s, b, h⟩ := h
  have c1 := h.c.2.1
  have c2 := h.c.2.2.1
  have f1 := h.row.free 1
  obtain ⟨sa, sc, hsv⟩ := own_slice h.so
  subst hsv
  have HD := Lib.hid h
  clear h
  go_enter Tryd.func25, Tryd.ntmps25
  go_wp2_with fail
  refine HX.out.mono ?_
  rintro e9 w9 ⟨rfl, hd9, hk9⟩
  have HD9 := Lib.hid hd9
  clear hd9
  go_wp2_with fail
  go_end0
  exact ⟨rfl, HD9.out, hk9⟩
set_option maxRecDepth 100000 in
set_option maxHeartbeats 1000000 in
theorem take_h (G : Nat → Prop) (g : Nat) (m : Int) (ds : List UInt8) (k : Nat) (z : Bool) (body : List UInt8) (e : Int) (x : Int) (hx : (if z = true then (5 : Int) else 0) = x) (w : World) (h : Dec G w g m 4 ds k z body e) :
    Calls Tryd.prog 25 #[.pointer (some ⟨g, 0, none⟩), .int .u8 10] w fun r w' => r = .returned (.tuple #[]) ∧ Dec G w' g m x ds k z body e ∧ Keep G w w' := by
  have HX := Lib.hid (endc30 G g m 4 ds k z body e w h)
  rw [hx] at HX
  clear hx
  obtain ⟨s, b, h⟩ := h
  have c1 := h.c.2.1
  have c2 := h.c.2.2.1
  have f1 := h.row.free 1
  obtain ⟨sa, sc, hsv⟩ := own_slice h.so
  subst hsv
  have HD := Lib.hid h
  clear h
  go_enter Tryd.func25, Tryd.ntmps25
  go_wp2_with fail
  refine HX.out.mono ?_
  rintro e9 w9 ⟨rfl, hd9, hk9⟩
  have HD9 := Lib.hid hd9
  clear hd9
  go_wp2_with fail
  go_end0
  exact ⟨rfl, HD9.out, hk9⟩
set_option maxRecDepth 100000 in
set_option maxHeartbeats 1000000 in
theorem take_i (G : Nat → Prop) (g : Nat) (M m : Int) (ds : List UInt8) (k : Nat) (z : Bool) (body : List UInt8) (e : Int) (c : UInt8) (hc : c ≠ 10) (w : World) (h : Dec G w g m 4 ds k z body e) :
    Calls Tryd.prog 25 #[.pointer (some ⟨g, 0, none⟩), .int .u8 (c.toNat : Int)] w fun r w' => r = .returned (.tuple #[]) ∧ DecS G w' g M (.err 2) ∧ Keep G w w' := by
  have HX := Lib.hid (fail_s G g M m 4 ds k z body e w h)
  have n10 : ((c.toNat : Int) == 10) = false := beq_eq_false_iff_ne.2 (fun e => hc (UInt8.toNat_inj.1 (by have : (10 : UInt8).toNat = 10 := rfl; omega)))
  clear hc
  obtain ⟨s, b, h⟩ := h
  have c1 := h.c.2.1
  have c2 := h.c.2.2.1
  have f1 := h.row.free 1
  obtain ⟨sa, sc, hsv⟩ := own_slice h.so
  subst hsv
  have HD := Lib.hid h
  clear h
  go_enter Tryd.func25, Tryd.ntmps25
  go_wp2_with fail
  refine HX.out.mono ?_
  rintro e9 w9 ⟨rfl, hd9, hk9⟩
  have HD9 := Lib.hid hd9
  clear hd9
  go_wp2_with fail
  go_end0
  exact ⟨rfl, HD9.out, hk9⟩
end Go.Proofs.YtchpgdoidpllgaaDoor
