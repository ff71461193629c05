/- chunked: take at a machine's place; the bytes of a chunk. -/
import Derived.Test.YtchpgdoidpllgaaDoorDecD
namespace Go.Proofs.YtchpgdoidpllgaaDoor
open Go.RowKit

set_option maxRecDepth 100000 in
set_option maxHeartbeats 1000000 in
theorem take_c (G : Nat → Prop) (g : Nat) (m : Int) (k : Nat) (z : Bool) (body : List UInt8) (e : Int) (r1 r2 : Int) (q : Bool) (hq : (r2 == 2) = q) (hr : numR 16 8 isHex ([] ++ [13]) m = (r1, r2)) (w : World) (h : Dec G w g m 0 [] k z body e) (hu : Up G w) (hy : ∀ w', Keep G w w' → Syn w') :
    Calls Tryd.prog 25 #[.pointer (some ⟨g, 0, none⟩), .int .u8 13] w fun r w' => r = .returned (.tuple #[]) ∧ Sel q (Dec G w' g 0 6 [] 0 false [] r2) (Dec G w' g m 0 ([] ++ [13]) k z body e) ∧ Keep G w w' := by
  have HX := Lib.hid (extend28 G g m [] k z body e 13 (by decide) r1 r2 q hq hr w h hu hy)
  clear hu hy hq hr
  obtain ⟨s, b, h⟩ := h
  have c1 := h.c.2.1
  have c2 := h.c.2.2.1
  obtain ⟨sa, sc, hsv⟩ := own_slice h.so
  rw [List.length_nil] at hsv
  subst hsv
  clear h
  go_enter Tryd.func25, Tryd.ntmps25
  go_wp2_with fail
  refine HX.out.mono ?_
  rintro e9 w9 ⟨rfl, hd9, hk9⟩
  have HD9 := Lib.hid hd9
  clear hd9
  go_wp2_with fail
  go_end0
  exact ⟨rfl, HD9.out, hk9⟩
theorem isHex13 : isHex 13 = false := by decide +kernel
/-- take, at a place that takes single bytes. -/
theorem take_s (G : Nat → Prop) (g : Nat) (m : Int) (hm0 : -9223372036854775808 ≤ m) (hm1 : m ≤ 9223372036854775807) (σ : ChS) (m' st : Int) (ds : List UInt8) (k : Nat) (z : Bool) (b : List UInt8) (e : Int) (hr : ChRep m σ m' st ds k z b e) (hst : st = 0 ∨ st = 1 ∨ st = 3 ∨ st = 4) (c : UInt8) (w : World) (h : Dec G w g m' st ds k z b e) (hu : Up G w) (hy : ∀ w', Keep G w w' → Syn w') :
    Calls Tryd.prog 25 #[.pointer (some ⟨g, 0, none⟩), .int .u8 (c.toNat : Int)] w fun r w' => r = .returned (.tuple #[]) ∧ DecS G w' g m (σ.step m c) ∧ Keep G w w' := by
  cases hr with
  | size ds b z h1 h2 h3 =>
    by_cases h13 : c = 13 ∧ ds ≠ []
    · obtain ⟨rfl, h0⟩ := h13
      have hs : ChS.step m (.size ds b) 13 = .sizeLF ds b := by
        simp only [ChS.step]
        rw [if_neg (by rw [isHex13]; simp), if_pos ⟨h0, trivial⟩]
      rw [hs]
      refine (take_a G g m ds 0 z b 0 (List.length_pos_iff.2 h0) w h).mono ?_
      rintro r w' ⟨rfl, hd, hk⟩
      exact ⟨rfl, ⟨_, _, _, _, _, _, _, .sizeLF ds b z h0 h1 h2 h3, hd⟩, hk⟩
    · by_cases hx : isHex c = true ∧ ds.length < 8
      · obtain ⟨r1, r2, hn, hq⟩ := hexN (m := m) h1 hx
        have hs : ChS.step m (.size ds b) c = .size (ds ++ [c]) b := by
          simp only [ChS.step]
          rw [if_pos hx]
        have hc : c ≠ 13 := fun e => by rw [e, isHex13] at hx; cases hx.1
        rw [hs]
        refine (take_b G g m ds 0 z b 0 c hc h2 r1 r2 false hq hn w h hu hy).mono ?_
        rintro r w' ⟨rfl, hd, hk⟩
        exact ⟨rfl, ⟨_, _, _, _, _, _, _, .size (ds ++ [c]) b z (by rw [List.all_append, h1]; simp [hx.1]) (by rw [List.length_append, List.length_singleton]; omega) h3, hd⟩, hk⟩
      · have hn := hexE (m := m) h1 hx
        have hs : ChS.step m (.size ds b) c = .err 2 := by
          simp only [ChS.step]
          rw [if_neg hx, if_neg (fun hh => h13 ⟨hh.2, hh.1⟩)]
        rw [hs]
        by_cases hc : c = 13
        · subst hc
          obtain rfl : ds = [] := by
            cases ds with
            | nil => rfl
            | cons a l => exact absurd ⟨rfl, by simp⟩ h13
          refine (take_c G g m 0 z b 0 0 2 true rfl hn w h hu hy).mono ?_
          rintro r w' ⟨rfl, hd, hk⟩
          exact ⟨rfl, ⟨_, _, _, _, _, _, _, .err 2 (by decide), hd⟩, hk⟩
        · refine (take_b G g m ds 0 z b 0 c hc h2 0 2 true rfl hn w h hu hy).mono ?_
          rintro r w' ⟨rfl, hd, hk⟩
          exact ⟨rfl, ⟨_, _, _, _, _, _, _, .err 2 (by decide), hd⟩, hk⟩
  | sizeLF ds b z h0 h1 h2 h3 =>
    by_cases hc : c = 10
    · subst hc
      obtain ⟨p0, p1⟩ := numD_lt 16 isHex (fun c h => hex_dgt c h) ds h1
      have p0' : 0 ≤ numD 16 ds := p0
      obtain ⟨r1, hr1⟩ : ∃ r1 : Nat, numD 16 ds = (r1 : Int) := ⟨(numD 16 ds).toNat, (Int.toNat_of_nonneg p0').symm⟩
      have hl1 : ¬ (ds.length < 1 ∨ 8 < ds.length ∨ ds.all isHex = false) := by
        have := List.length_pos_iff.2 h0
        rintro (h | h | h)
        · omega
        · omega
        · rw [h1] at h; cases h
      have hn : numR 16 8 isHex ds (m - b.length) = if m - b.length < numD 16 ds then (0, 3) else (numD 16 ds, 0) := by
        unfold numR
        rw [if_neg hl1]
      have hb0 : -9223372036854775808 ≤ m - b.length ∧ m - b.length ≤ 9223372036854775807 := by
        rcases h3 with rfl | h3
        · simp only [List.length_nil]; omega
        · omega
      by_cases hbig : m - b.length < numD 16 ds
      · rw [if_pos hbig] at hn
        have hs : ChS.step m (.sizeLF ds b) 10 = .err 3 := by
          simp only [ChS.step]
          rw [if_pos trivial, if_pos hbig]
        rw [hs]
        refine (take_d G g m ds 0 z b 0 h2 hb0.1 hb0.2 0 3 true rfl hn w h hu hy).mono ?_
        rintro r w' ⟨rfl, hd, hk⟩
        exact ⟨rfl, ⟨_, _, _, _, _, _, _, .err 3 (by decide), hd⟩, hk⟩
      · rw [if_neg hbig, hr1] at hn
        refine (take_d G g m ds 0 z b 0 h2 hb0.1 hb0.2 r1 0 false rfl hn w h hu hy).mono ?_
        rintro r w' ⟨rfl, hd, hk⟩
        refine ⟨rfl, ?_, hk⟩
        have hd' : Dec G w' g m 2 [] r1 (decide (r1 = 0)) b 0 := hd
        have h16 := pow16_le ds.length h2
        have h17 : ((16 ^ ds.length : Nat) : Int) ≤ ((4294967296 : Nat) : Int) := Int.ofNat_le.2 h16
        have p1' : numD 16 ds < ((16 ^ ds.length : Nat) : Int) := p1
        have hr16 : r1 ≤ 4294967296 := by omega
        by_cases hz : r1 = 0
        · subst hz
          have hs : ChS.step m (.sizeLF ds b) 10 = .end0 true b := by
            simp only [ChS.step]
            rw [if_pos trivial, if_neg hbig, if_pos (by rw [hr1]; rfl)]
          rw [hs]
          exact ⟨_, _, _, _, _, _, _, .end00 true b (by omega), hd'⟩
        · have hs : ChS.step m (.sizeLF ds b) 10 = .data r1 b := by
            simp only [ChS.step]
            rw [if_pos trivial, if_neg hbig, if_neg (by omega), hr1]; rfl
          rw [hs]
          rw [decide_eq_false hz] at hd'
          exact ⟨_, _, _, _, _, _, _, .data r1 b (by omega) hr16 (by omega), hd'⟩
    · have hs : ChS.step m (.sizeLF ds b) c = .err 2 := by
        simp only [ChS.step]
        rw [if_neg hc]
      rw [hs]
      exact take_e G g m m ds 0 z b 0 c hc w h
  | data k b h0 h4 h3 => omega
  | end00 z b h3 => omega
  | end0 z b h3 =>
    by_cases hc : c = 13
    · subst hc
      have hs : ChS.step m (.end0 z b) 13 = .end1 z b := rfl
      rw [hs]
      refine (take_f G g m [] 0 z b 0 w h).mono ?_
      rintro r w' ⟨rfl, hd, hk⟩
      exact ⟨rfl, ⟨_, _, _, _, _, _, _, .end1 z b h3, hd⟩, hk⟩
    · have hs : ChS.step m (.end0 z b) c = .err 2 := by
        simp only [ChS.step]
        rw [if_neg hc]
      rw [hs]
      exact take_g G g m m [] 0 z b 0 c hc w h
  | end1 z b h3 =>
    by_cases hc : c = 10
    · subst hc
      refine (take_h G g m [] 0 z b 0 (if z = true then 5 else 0) rfl w h).mono ?_
      rintro r w' ⟨rfl, hd, hk⟩
      refine ⟨rfl, ?_, hk⟩
      cases z with
      | true => exact ⟨_, _, _, _, _, _, _, .done b, hd⟩
      | false => exact ⟨_, _, _, _, _, _, _, .size [] b false rfl (by decide) (.inr h3), hd⟩
    · have hs : ChS.step m (.end1 z b) c = .err 2 := by
        simp only [ChS.step]
        rw [if_neg hc]
      rw [hs]
      exact take_i G g m m [] 0 z b 0 c hc w h
  | done b => omega
  | err e h0 => omega
/-- Bytes behind bytes: where the new row lies. -/
theorem run_app_str {P : Program} (w : World) (t u ty e : TypeId) (i : TypeInfo) (ht : P.underlying t = some (.slice e)) (hu : P.underlying u = some .string) (hi : P.info? e = some i) (hz : i.zero = some (.int .u8 0))
    (hsize : i.size = 1) (hby : i.bytes = 1) (v : Value) (n : Nat) (xs : List Value) (hown : w.ownsRow 0 e 1 v n xs) (s : ByteArray) (h63 : n + s.size ≤ maxLen) (hbytes : n + s.size ≤ 140737488355328) :
    ∃ v' w', (Builtin.append_ #[t, u] ty #[v, .string s]).run P w = .ok v' w' ∧ w'.ownsRow 0 e 1 v' (n + s.size) (xs ++ Lib.strCells s) ∧ w.grownBy w' v.ownBlock ∧ (v'.ownBlock = v.ownBlock ∨ v'.ownBlock = some w.heap.size) := by
  have hsmall : n + s.size ≤ 9223372036854775807 := by simp only [maxLen] at h63; omega
  obtain ⟨v', w', hr, h2, h3, h4⟩ := Lib.run_append_own_string (P := P) w 0 t u ty e i ht hu hi hz hsize hby v n xs hown s h63 hbytes (Nat.zero_le _)
  refine ⟨v', w', hr, h2, h3, ?_⟩
  rcases hown.2 with ⟨rfl, rfl⟩ | ⟨g, cap, cur, rfl, hbg, hg, hnc, hcm, hcs, htake⟩
  · by_cases hm : s.size = 0
    · left
      rw [h4.2 ⟨rfl, hm⟩]
    · have hr2 := run_append_nil_string (P := P) w t u ty e i (.int .u8 0) ht hu hi hz s (by omega) (by omega) (by rw [hby]; omega)
      rw [hr] at hr2
      injection hr2 with e1 e2
      subst e1
      exact .inr rfl
  · by_cases hroom : n + s.size ≤ cap
    · have hcs' : cur.size = cap := by simpa using hcs
      have hr2 := Lib.run_append_room_string (P := P) w t u ty e i ht hu hi hsize g n cap cur hg s hroom (by omega)
      rw [hr] at hr2
      injection hr2 with e1 e2
      subst e1
      exact .inl rfl
    · have hxl : xs.length = n := by simpa using hown.1
      have holds : ∀ j u, xs[j]? = some u → w.cell? ((⟨g, 0, none⟩ : Addr).add j) = some u := hown.cells (g := g) rfl
      have hr2 := Lib.run_append_grow_string (P := P) w t u ty e i (.int .u8 0) ht hu hi hz ⟨g, 0, none⟩ n cap xs (by rw [hsize]; simpa using hxl) holds s (by omega) (by omega) (by rw [hby]; exact growslice_fits (by omega) (by omega))
      rw [hr] at hr2
      injection hr2 with e1 e2
      subst e1
      exact .inr rfl
theorem wp_app_str {P : Program} {w : World} {o : Oper} {a : Act} {K : Act → World → Prop} {Q : Exit → Act → World → Prop} (sl x : Operand) (t u : TypeId)
    (ho : o.op = .call { callee := .builtin .append, args := #[sl, x], argTypes := #[t, u] })
    (e : TypeId) (i : TypeInfo) (ht : P.underlying t = some (.slice e)) (hu : P.underlying u = some .string) (hi : P.info? e = some i) (hz : i.zero = some (.int .u8 0))
    (hsize : i.size = 1) (hby : i.bytes = 1) (v : Value) (n : Nat) (xs : List Value) (hs : a.eval sl = v) (hown : w.ownsRow 0 e 1 v n xs) (s : ByteArray) (hx : a.eval x = .string s)
    (h63 : n + s.size ≤ maxLen) (hbytes : n + s.size ≤ 140737488355328)
    (h : ∀ v' w', w'.ownsRow 0 e 1 v' (n + s.size) (xs ++ Lib.strCells s) → w.grownBy w' v.ownBlock → (v'.ownBlock = v.ownBlock ∨ v'.ownBlock = some w.heap.size) → K (a.put o.dst v') w') : o.wp P a w K Q := by
  obtain ⟨v', w', hr, h2, h3, h4⟩ := run_app_str (P := P) w t u o.type e i ht hu hi hz hsize hby v n xs hown s h63 hbytes
  unfold Oper.wp execOp
  simp only [ho, resolve, invoke, builtin, Sem.run_bind, Sem.run_pure, Result.andThen_ok, List.map_toArray, List.map_cons, List.map_nil, hs, hx, hr]
  exact h v' w' h2 h3 h4
theorem strCells_bytes (s : ByteArray) : Lib.strCells s = byteVals s.data.toList := rfl
end Go.Proofs.YtchpgdoidpllgaaDoor
