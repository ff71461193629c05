/- maglev.assign (written by genmgn.py). -/
import Derived.Test.YtlcpkplipfcdaaaDoorMgP
namespace Go.Proofs.YtlcpkplipfcdaaaDoor
open Go.RowKit

/-- The greatest of the first numbers. -/
def gm (W : Nat → Nat) : Nat → Nat
  | 0 => 0
  | j + 1 => max (gm W j) (W j)
theorem gm_ge {W : Nat → Nat} : ∀ {n i : Nat}, i < n → W i ≤ gm W n
  | n + 1, i, h => by
    unfold gm
    rcases Nat.lt_or_ge i n with h2 | h2
    · exact Nat.le_trans (gm_ge h2) (Nat.le_max_left _ _)
    · obtain rfl : i = n := by omega
      exact Nat.le_max_right _ _
theorem gm_le {W : Nat → Nat} {B : Nat} : ∀ {n : Nat}, (∀ i, i < n → W i ≤ B) → gm W n ≤ B
  | 0, _ => Nat.zero_le _
  | n + 1, h => by unfold gm; exact Nat.max_le.2 ⟨gm_le fun i hi => h i (by omega), h n (by omega)⟩
theorem gm_mem {W : Nat → Nat} : ∀ {n : Nat}, 0 < n → ∃ i, i < n ∧ W i = gm W n
  | 1, _ => ⟨0, by omega, by unfold gm gm; exact (Nat.max_eq_right (Nat.zero_le _)).symm⟩
  | n + 2, _ => by
    unfold gm
    rcases Nat.le_total (gm W (n + 1)) (W (n + 1)) with h | h
    · exact ⟨n + 1, by omega, (Nat.max_eq_right h).symm⟩
    · obtain ⟨i, h1, h2⟩ := gm_mem (W := W) (n := n + 1) (by omega)
      exact ⟨i, by omega, by rw [h2]; exact (Nat.max_eq_left h).symm⟩
namespace Par
variable {P : Par}
theorem cnt_up (P : Par) (T : Nat) : (P.run T).cnt ≤ (P.run (T + 1)).cnt := by
  show _ ≤ (P.stp (T % P.n) (P.run T)).cnt
  unfold stp
  split
  · exact Nat.le_refl _
  · split
    · exact Nat.le_refl _
    · exact Nat.le_succ _
theorem cnt_mono (P : Par) (T : Nat) : ∀ d, (P.run T).cnt ≤ (P.run (T + d)).cnt
  | 0 => Nat.le_refl _
  | d + 1 => Nat.le_trans (cnt_mono P T d) (cnt_up P (T + d))
theorem round_mod (P : Par) (r : Nat) {i : Nat} (hi : i < P.n) : (r * P.n + i) % P.n = i := by
  rw [Nat.mul_comm, Nat.mul_add_mod, Nat.mod_eq_of_lt hi]
theorem run_next (P : Par) (r : Nat) {i : Nat} (hi : i < P.n) : P.run (r * P.n + i + 1) = P.stp i (P.run (r * P.n + i)) := by
  show P.stp ((r * P.n + i) % P.n) _ = _
  rw [round_mod P r hi]
theorem run_more (h : P.Ok) (r : Nat) (hc : (P.run (r * P.n + P.n)).cnt < P.m) : (P.run (r * P.n)).cnt < (P.run (r * P.n + P.n)).cnt := by
  obtain ⟨i, hi, hg⟩ := h.g
  have h1 := cnt_mono P (r * P.n) i
  have h2 := cnt_mono P (r * P.n + i + 1) (P.n - i - 1)
  rw [show r * P.n + i + 1 + (P.n - i - 1) = r * P.n + P.n by omega] at h2
  have h3 := run_next P r hi
  have hI := run_inv h (r * P.n + i)
  have h4 := hI.ow i hi
  have h5 := cnt_up P (r * P.n + i)
  have h6 : (P.run (r * P.n + i + 1)).cnt = (P.run (r * P.n + i)).cnt + 1 := by
    rw [h3]
    unfold stp
    rw [if_neg (by omega), if_neg (by omega)]
    rfl
  omega
end Par
theorem ClaimsAt.keep {w w' : World} {cb : Nat} {P : Par} {nx : Nat → Nat} {ow : Nat → Int} (h : ClaimsAt w cb P nx ow) (hlt : cb < w.heap.size) (hb : Below w.heap.size w w') : ClaimsAt w' cb P nx ow := by
  obtain ⟨b1, b2⟩ := bcell hb
  exact ⟨fun i hi => by rw [b1 _ _ hlt]; exact h.c0 i hi, fun i hi => by rw [b1 _ _ hlt]; exact h.c1 i hi, fun i hi => by rw [b1 _ _ hlt]; exact h.c2 i hi, fun i hi => by rw [b1 _ _ hlt]; exact h.c3 i hi, fun j hj => by rw [b2 _ _ hlt]; exact h.fz j hj⟩
theorem OwnersAt.keep {w w' : World} {ob m : Nat} {own : Nat → Int} (h : OwnersAt w ob m own) (hlt : ob < w.heap.size) (hb : Below w.heap.size w w') : OwnersAt w' ob m own := by
  obtain ⟨b1, b2⟩ := bcell hb
  exact fun q hq => by rw [b1 _ _ hlt, b2 _ _ hlt]; exact h q hq
theorem wrapI (z : Int) (h1 : -9223372036854775808 ≤ z) (h2 : z < 9223372036854775808) : IntKind.i64.wrap z = z := by
  simp [IntKind.wrap, IntKind.signed, IntKind.bits]; omega
theorem nxt_ow (P : Par) (k : Nat) (a : Nat → Int) (b : Nat → Nat) (c d : Nat → Int) (n n' : Nat) (st : St) (h : st = ⟨a, b, d, n'⟩) : P.nxt k ⟨a, b, c, n⟩ = P.nxt k st := by rw [h]; rfl
theorem keep_ob {w a b : World} {cb ob q : Nat} {v : Value} (h1 : Keep (fun k => k = cb) w a) (h2 : Keep (fun k => k = cb) a b) (ho : w.heap.size ≤ ob) : Keep (fun k => k = cb) w (b.setCell ⟨ob, q, none⟩ v) :=
  (((h1.more (G' := fun k => k = cb ∨ k = ob) (fun _ _ h => .inl h)).trans (h2.more (fun _ _ h => .inl h))).trans (Keep.setCell (G := fun k => k = cb ∨ k = ob) b (p := ⟨ob, q, none⟩) (.inr rfl) v)).more (fun k hk h => h.elim id (fun e => by omega))
theorem sz_ob {a b : World} {cb ob o q : Nat} {v : Value} (h : cb < a.heap.size ∧ ob < a.heap.size) (h2 : Keep (fun k => k = cb) a b) : cb < (b.setCell ⟨o, q, none⟩ v).heap.size ∧ ob < (b.setCell ⟨o, q, none⟩ v).heap.size := by
  have hz := (Keep.setCell (G := fun k => k = o) b (p := ⟨o, q, none⟩) rfl v).size
  have hy := h2.size
  omega
theorem setI_same (f : Nat → Int) (i : Nat) (v : Int) : setI f i v i = v := if_pos rfl
theorem setI_twice (f : Nat → Int) (i : Nat) (v u : Int) : setI (setI f i v) i u = setI f i u := by
  funext k; unfold setI; split <;> rfl
set_option maxRecDepth 100000 in
set_option maxHeartbeats 4000000 in
theorem assign27 (P : Par) (h : P.Ok) (hm : P.m ≤ 1048576) (hS : ∀ i, i < P.n → P.S i < P.m) (hG : P.G = gm P.W P.n) (hG2 : P.G ≤ 65535) (hn : P.n ≤ 100000) (c cb : Nat) (w : World) (hcb : cb < w.heap.size) (hC : ClaimsAt w cb P (fun _ => 0) (fun _ => 0)) :
    Calls Tryd.prog 42 #[.slice (some ⟨cb, 0, none⟩) P.n c, .int .i64 (P.m : Nat)] w fun e w' => ∃ ob T, e = .returned (.slice (some ⟨ob, 0, none⟩) P.m P.m) ∧ (P.run T).cnt = P.m ∧ OwnersAt w' ob P.m (P.run T).own ∧ w.heap.size ≤ ob ∧ ob < w'.heap.size ∧ Keep (fun k => k = cb) w w' := by
  have hm2 := h.m2
  have hn0 := h.n0
  have hb1 := below_alloc w (.cells #[.int .i64 (-1)] 3)
  have HREP := Lib.hid (rep39 P.m (by omega) hm w.heap.size (w.alloc (.cells #[.int .i64 (-1)] 3)) (Row.new w 3 #[.int .i64 (-1)]).lt ((Row.new w 3 #[.int .i64 (-1)]).cell 0))
  have HC1 := Lib.hid (hC.keep hcb hb1)
  have hs1 : w.heap.size ≤ (w.alloc (.cells #[.int .i64 (-1)] 3)).heap.size := hb1.size
  have HB1 := Lib.hid hb1
  clear hb1 hC
  go_enter Tryd.func42, Tryd.ntmps42
  go_wp2_with (go_at_call 62; refine HREP.out.mono ?_; rintro e w' ⟨ob, rfl, hO, ho1, ho2, hB⟩)
  have HC2 := Lib.hid (HC1.out.keep (Nat.lt_of_lt_of_le hcb hs1) hB)
  have HO2 := Lib.hid hO
  have HS2 : Hid (cb < w'.heap.size ∧ ob < w'.heap.size ∧ Keep (fun k => k = cb) w w') := ⟨Nat.lt_of_lt_of_le hcb (Nat.le_trans hs1 hB.size), ho2, (Keep.of_below HB1.out).trans (Keep.of_below hB)⟩
  have ho1 : w.heap.size ≤ ob := Nat.le_trans hs1 ho1
  have HOB := Lib.hid ho1
  have HNE : Hid (cb ≠ ob) := by show cb ≠ ob; omega
  clear HREP HC1 hs1 HB1 hO ho1 ho2 hB
  go_wp2_with fail
  go_loopw [6, 17] (fun g i wr => ∃ j : Nat, j ≤ P.n ∧ g = .int .i64 (gm P.W j : Nat) ∧ i = .int .i64 (j : Int) ∧ Hid (ClaimsAt wr cb P (fun _ => 0) (fun _ => 0)) ∧ Hid (OwnersAt wr ob P.m fun _ => -1) ∧ Hid (cb < wr.heap.size ∧ ob < wr.heap.size ∧ Keep (fun k => k = cb) w wr)) (fun _ i _ => P.n - (intOf i).toNat)
  case atStart => exact ⟨0, Nat.zero_le _, rfl, rfl, HC2, HO2, HS2⟩
  case round =>
    clear HC2 HO2 HS2
    obtain ⟨j, hj, rfl, rfl, HC, HO, HS⟩ := hrel
    by_cases hlt : j < P.n
    · have c0 := HC.out.c0 j hlt
      have c1 := HC.out.c1 j hlt
      have c2 := HC.out.c2 j hlt
      have c3 := HC.out.c3 j hlt
      have j1 : (j : Int) < P.n := by omega
      have HCA := Lib.hid (HC.out.keep HS.out.1 (below_alloc wr (.cells #[.int .i64 (P.W j : Nat), .int .i64 0, .int .i64 (P.pl j 0 : Nat), .int .i64 (P.S j : Nat)] 81)))
      have HOA := Lib.hid (HO.out.keep HS.out.2.1 (below_alloc wr (.cells #[.int .i64 (P.W j : Nat), .int .i64 0, .int .i64 (P.pl j 0 : Nat), .int .i64 (P.S j : Nat)] 81)))
      have HSA : Hid (cb < (wr.alloc (.cells #[.int .i64 (P.W j : Nat), .int .i64 0, .int .i64 (P.pl j 0 : Nat), .int .i64 (P.S j : Nat)] 81)).heap.size ∧ ob < (wr.alloc (.cells #[.int .i64 (P.W j : Nat), .int .i64 0, .int .i64 (P.pl j 0 : Nat), .int .i64 (P.S j : Nat)] 81)).heap.size ∧ Keep (fun k => k = cb) w (wr.alloc (.cells #[.int .i64 (P.W j : Nat), .int .i64 0, .int .i64 (P.pl j 0 : Nat), .int .i64 (P.S j : Nat)] 81))) := by
        obtain ⟨s1, s2, s3⟩ := HS.out
        have hb := below_alloc wr (.cells #[.int .i64 (P.W j : Nat), .int .i64 0, .int .i64 (P.pl j 0 : Nat), .int .i64 (P.S j : Nat)] 81)
        exact ⟨Nat.lt_of_lt_of_le s1 hb.size, Nat.lt_of_lt_of_le s2 hb.size, s3.trans (Keep.of_below hb)⟩
      go_wp2_with fail
      go_roundw
      case rel => exact ⟨j + 1, hlt, by show _ = Value.int .i64 ((max (gm P.W j) (P.W j) : Nat) : Int); congr 1; omega, by go_num, HCA, HOA, HSA⟩
      case measure => simp [intOf]; omega
    · obtain rfl : j = P.n := by omega
      have hne : ¬ (P.n : Int) < P.n := by omega
      rw [← hG]
      clear hG
      have hn1 : (0 : Int) < P.n := by omega
      have hm1 : (0 : Int) < P.m := by omega
      go_wp2_with fail
      go_loopw [9] (fun q w2 => ∃ r : Nat, (P.run (r * P.n)).cnt < P.m ∧ q = .int .i64 ((P.run (r * P.n)).cnt : Nat) ∧ Hid (ClaimsAt w2 cb P (P.run (r * P.n)).nx (P.run (r * P.n)).ow) ∧ Hid (OwnersAt w2 ob P.m (P.run (r * P.n)).own) ∧ Hid (cb < w2.heap.size ∧ ob < w2.heap.size ∧ Keep (fun k => k = cb) w w2)) (fun q _ => P.m - (intOf q).toNat)
      case atStart => exact ⟨0, by rw [Nat.zero_mul]; show 0 < P.m; omega, by rw [Nat.zero_mul]; rfl, by rw [Nat.zero_mul]; exact HC, by rw [Nat.zero_mul]; exact HO, HS⟩
      case round =>
        clear HC HO HS
        obtain ⟨r, hcr, rfl, HC, HO, HS⟩ := hrel
        have HMORE := Lib.hid (Par.run_more h r)
        obtain ⟨n0, hn0e⟩ : ∃ n0, n0 = (P.run (r * P.n)).cnt := ⟨_, rfl⟩
        have HN0 := Lib.hid hn0e
        go_wp2_with fail
        go_loopw [9, 31] (fun q i w3 => ∃ (k : Nat) (st : St), k ≤ P.n ∧ Hid (st = P.run (r * P.n + k)) ∧ st.cnt < P.m ∧ q = .int .i64 (st.cnt : Nat) ∧ i = .int .i64 (k : Int) ∧ Hid (ClaimsAt w3 cb P st.nx st.ow) ∧ Hid (OwnersAt w3 ob P.m st.own) ∧ Hid (cb < w3.heap.size ∧ ob < w3.heap.size ∧ Keep (fun k => k = cb) w w3)) (fun _ i _ => P.n - (intOf i).toNat)
        case atStart => exact ⟨0, P.run (r * P.n), Nat.zero_le _, rfl, hcr, rfl, rfl, HC, HO, HS⟩
        case round =>
          clear HC HO HS
          obtain ⟨k, st, hk, HST, hcs, rfl, rfl, HC, HO, HS⟩ := hrel
          by_cases hlt : k < P.n
          · have hI : P.Inv st := by rw [HST.out]; exact Par.run_inv h _
            have hnext := Par.run_next P r hlt
            rw [← HST.out] at hnext
            have HNX := Lib.hid hnext
            have how := hI.ow k hlt
            have hwk := h.w1 k hlt
            have HI := Lib.hid hI
            have c1 := HC.out.drew.c1 k hlt
            have c0 := HC.out.drew.c0 k hlt
            have cf := HC.out.drew.fz (k * 4 + 1) (by omega)
            have hw1 := wrapI (st.ow k + P.W k) (by omega) (by omega)
            have HC1 := Lib.hid (HC.out.drew.setO hlt (st.ow k + P.W k))
            have HO1 := Lib.hid (HO.out.drew.far HNE.out (k * 4 + 1) (.int .i64 (st.ow k + P.W k)))
            have HK1 := Lib.hid ((HS.out.2.2.trans (Keep.drew wr)).trans (Keep.setCell (G := fun k => k = cb) wr.drew (p := ⟨cb, k * 4 + 1, none⟩) rfl (.int .i64 (st.ow k + P.W k))))
            have HZ1 : Hid (cb < (wr.drew.setCell ⟨cb, k * 4 + 1, none⟩ (.int .i64 (st.ow k + P.W k))).heap.size ∧ ob < (wr.drew.setCell ⟨cb, k * 4 + 1, none⟩ (.int .i64 (st.ow k + P.W k))).heap.size) := by
              have hz := (Keep.setCell (G := fun k => k = cb) wr.drew (p := ⟨cb, k * 4 + 1, none⟩) rfl (.int .i64 (st.ow k + P.W k))).size
              exact ⟨Nat.lt_of_lt_of_le HS.out.1 hz, Nat.lt_of_lt_of_le HS.out.2.1 hz⟩
            have k1 : (k : Int) < P.n := by omega
            clear HC HO HS hI hnext
            go_wp2_with fail
            refine region_tail 11 (by kernel_rfl) (by kernel_rfl) ?_
            simp only [List.take_succ_cons, List.take_zero, List.drop_succ_cons, List.drop_zero]
            iterate 11 still_step
            refine still_tail_nil ?_
            generalize wr.drew = W at *
            go_upto_region 15 with fail
            clear c1 cf c0
            generalize W.setCell ⟨cb, k * 4 + 1, none⟩ (.int .i64 (st.ow k + P.W k)) = W1 at *
            have d1 := HC1.out.c1 k hlt
            rw [setI_same] at d1
            by_cases hgt : st.ow k + P.W k < P.G
            · have HST2 : Hid (P.wait k st = P.run (r * P.n + (k + 1))) := by
                show _ = P.run (r * P.n + k + 1)
                rw [HNX.out]; unfold Par.stp; rw [if_neg (by omega), if_pos hgt]
              clear HNX
              go_wp2_with fail
              go_roundw
              case rel => exact ⟨k + 1, P.wait k st, hlt, HST2, hcs, rfl, by go_num, HC1, HO1, HZ1.out.1, HZ1.out.2, HK1.out⟩
              case measure => simp [intOf]; omega
            · have hnx : P.take k st = P.run (r * P.n + (k + 1)) := by
                show _ = P.run (r * P.n + k + 1)
                rw [HNX.out]; unfold Par.stp; rw [if_neg (by omega), if_neg hgt]
              have HST2 := Lib.hid hnx
              clear HNX hnx
              have ef := HC1.out.fz (k * 4 + 1) (by omega)
              have hw2 := wrapI (st.ow k + P.W k - P.G) (by omega) (by omega)
              have HC2 := Lib.hid (HC1.out.setO hlt (st.ow k + P.W k - P.G))
              rw [setI_twice] at HC2
              have HO2 := Lib.hid (HO1.out.far HNE.out (k * 4 + 1) (.int .i64 (st.ow k + P.W k - P.G)))
              have HK2 := Lib.hid (HK1.out.trans (Keep.setCell (G := fun k => k = cb) W1 (p := ⟨cb, k * 4 + 1, none⟩) rfl (.int .i64 (st.ow k + P.W k - P.G))))
              have HZ2 : Hid (cb < (W1.setCell ⟨cb, k * 4 + 1, none⟩ (.int .i64 (st.ow k + P.W k - P.G))).heap.size ∧ ob < (W1.setCell ⟨cb, k * 4 + 1, none⟩ (.int .i64 (st.ow k + P.W k - P.G))).heap.size) := by
                have hz := (Keep.setCell (G := fun k => k = cb) W1 (p := ⟨cb, k * 4 + 1, none⟩) rfl (.int .i64 (st.ow k + P.W k - P.G))).size
                exact ⟨Nat.lt_of_lt_of_le HZ1.out.1 hz, Nat.lt_of_lt_of_le HZ1.out.2 hz⟩
              clear HC1 HO1 HK1 HZ1
              go_upto_region 17 with fail
              clear d1 ef
              generalize W1.setCell ⟨cb, k * 4 + 1, none⟩ (.int .i64 (st.ow k + P.W k - P.G)) = W3 at *
              have hI2 : P.Inv ⟨st.own, st.nx, setI st.ow k (st.ow k + P.W k - P.G), st.cnt⟩ := by
                refine ⟨HI.out.cnt, HI.out.nx, fun j hj => ?_, HI.out.rng⟩
                show 0 ≤ setI st.ow k (st.ow k + P.W k - P.G) j ∧ setI st.ow k (st.ow k + P.W k - P.G) j < P.G
                unfold setI
                split
                · omega
                · exact HI.out.ow j hj
              have HF := Lib.hid (free40 P h hm hS cb ob HNE.out k hlt ⟨st.own, st.nx, setI st.ow k (st.ow k + P.W k - P.G), st.cnt⟩ hI2 hcs P.m W3 HC2.out HO2.out)
              rw [nxt_ow P k st.own st.nx _ st.ow _ st.cnt st rfl] at HF
              dsimp only at HF
              have hq := Par.pl_lt h k (P.nxt k st)
              clear hI2 HC2 HO2
              have HT1 : Hid ((P.take k st).cnt = st.cnt + 1 ∧ (P.take k st).nx = setN st.nx k (P.nxt k st) ∧ (P.take k st).ow = setI st.ow k (st.ow k + P.W k - P.G) ∧ (P.take k st).own = setI st.own (P.pl k (P.nxt k st)) k) := ⟨rfl, rfl, rfl, rfl⟩
              generalize P.take k st = st2 at *
              generalize P.nxt k st = v at *
              generalize hqe : P.pl k v = q at *
              clear hqe
              have q1 : (q : Int) < P.m := by omega
              have hw3 := wrapI ((st.cnt : Int) + 1) (by omega) (by omega)
              by_cases hce : st.cnt + 1 = P.m
              · have h3 : (((st.cnt : Int) + 1) == (P.m : Int)) = true := by rw [beq_iff_eq]; omega
                have HCE := Lib.hid hce
                clear hce
                go_wp2_with (go_at_call 63; refine HF.out.mono ?_; rintro e w9 ⟨rfl, hC9, hO9, hK9⟩; have qf := (hO9 q hq).2; have qc := (hO9 q hq).1; have HC9 := Lib.hid (hC9.far HNE.out q (.int .i64 (k : Int))); have HO9 := Lib.hid (hO9.set hq (k : Int)); have HK9 := Lib.hid (keep_ob (q := q) (v := .int .i64 (k : Int)) HK2.out hK9 HOB.out); have HZ9 := Lib.hid (sz_ob (o := ob) (q := q) (v := .int .i64 (k : Int)) HZ2.out hK9); clear hC9 hO9 hK9)
                go_ret
                refine ⟨ob, r * P.n + (k + 1), rfl, ?_, ?_, HOB.out, HZ9.out.2, HK9.out⟩
                · rw [← HST2.out, HT1.out.1]; exact HCE.out
                · rw [← HST2.out, HT1.out.2.2.2]; exact HO9.out
              · have h3 : (((st.cnt : Int) + 1) == (P.m : Int)) = false := by rw [beq_eq_false_iff_ne]; omega
                go_wp2_with (go_at_call 63; refine HF.out.mono ?_; rintro e w9 ⟨rfl, hC9, hO9, hK9⟩; have qf := (hO9 q hq).2; have qc := (hO9 q hq).1; have HC9 := Lib.hid (hC9.far HNE.out q (.int .i64 (k : Int))); have HO9 := Lib.hid (hO9.set hq (k : Int)); have HK9 := Lib.hid (keep_ob (q := q) (v := .int .i64 (k : Int)) HK2.out hK9 HOB.out); have HZ9 := Lib.hid (sz_ob (o := ob) (q := q) (v := .int .i64 (k : Int)) HZ2.out hK9); clear hC9 hO9 hK9)
                go_roundw
                case rel =>
                  refine ⟨k + 1, st2, hlt, HST2, by rw [HT1.out.1]; omega, by rw [HT1.out.1]; go_num, by go_num, ?_, ?_, HZ9.out.1, HZ9.out.2, HK9.out⟩
                  · rw [HT1.out.2.1, HT1.out.2.2.1]; exact HC9
                  · rw [HT1.out.2.2.2]; exact HO9
                case measure => simp [intOf]; omega
          · obtain rfl : k = P.n := by omega
            have hne : ¬ (P.n : Int) < P.n := by omega
            have hr : r * P.n + P.n = (r + 1) * P.n := by rw [Nat.add_mul, Nat.one_mul]
            have HS9 : Hid (st = P.run ((r + 1) * P.n)) := by show _ = _; rw [← hr]; exact HST.out
            have HM9 : Hid (n0 < st.cnt) := by
              show n0 < _
              rw [HN0.out, HST.out]
              exact HMORE.out (by rw [← HST.out]; exact hcs)
            clear hr
            go_wp2_with fail
            go_roundw
            case rel =>
              refine ⟨r + 1, by rw [← HS9.out]; exact hcs, by rw [← HS9.out], ?_, ?_, HS⟩
              · rw [← HS9.out]; exact HC
              · rw [← HS9.out]; exact HO
            case measure =>
              have m1 := HM9.out
              have m2 := HN0.out
              simp only [intOf, Int.toNat_natCast]
              omega
set_option maxRecDepth 100000 in
set_option maxHeartbeats 4000000 in
theorem assign27_none (m : Nat) (hm1 : 1 ≤ m) (hm : m ≤ 1048576) (w : World) :
    Calls Tryd.prog 42 #[.slice none 0 0, .int .i64 (m : Nat)] w fun e w' => ∃ ob, e = .returned (.slice (some ⟨ob, 0, none⟩) m m) ∧ OwnersAt w' ob m (fun _ => -1) ∧ w.heap.size ≤ ob ∧ ob < w'.heap.size ∧ Below w.heap.size w w' := by
  have hb1 := below_alloc w (.cells #[.int .i64 (-1)] 3)
  have HREP := Lib.hid (rep39 m hm1 hm w.heap.size (w.alloc (.cells #[.int .i64 (-1)] 3)) (Row.new w 3 #[.int .i64 (-1)]).lt ((Row.new w 3 #[.int .i64 (-1)]).cell 0))
  have HB1 := Lib.hid hb1
  have HS1 : Hid (w.heap.size ≤ (w.alloc (.cells #[.int .i64 (-1)] 3)).heap.size) := hb1.size
  clear hb1
  go_enter Tryd.func42, Tryd.ntmps42
  go_wp2_with (go_at_call 62; refine HREP.out.mono ?_; rintro e w' ⟨ob, rfl, hO, ho1, ho2, hB⟩)
  go_wp2_with fail
  go_loopw [6, 17] (fun g i wr => g = .int .i64 0 ∧ i = .int .i64 0 ∧ wr = w') (fun _ i _ => 0)
  case atStart => exact ⟨rfl, rfl, rfl⟩
  case round =>
    obtain ⟨rfl, rfl, rfl⟩ := hrel
    go_wp2_with fail
    go_loopw [9] (fun q w2 => q = .int .i64 0 ∧ w2 = wr) (fun _ _ => 0)
    case atStart => exact ⟨rfl, rfl⟩
    case round =>
      rename_i wq
      obtain ⟨rfl, rfl⟩ := hrel
      go_wp2_with fail
      go_ret
      exact ⟨ob, rfl, hO, Nat.le_trans HS1.out ho1, ho2, HB1.out.trans (hB.mono HS1.out)⟩
end Go.Proofs.YtlcpkplipfcdaaaDoor
