/- The program's Keep. -/
import Derived.Test.YtcmjcpgfnkhnoaaRpE
namespace Go.Proofs.Ytcmjcpgfnkhnoaa
open Go.RowKit Go.Maps Go.Shelf

theorem del32 (bm n : Nat) (f : ByteArray → Int) (bx kb m : Nat) (p : ByteArray → Bool) (w : World) (hmap : MapI w bm n f) (hx : w.cell? ⟨bx, 0, none⟩ = some (.map (some kb))) (hs : MapS w kb m p) (hne : kb ≠ bm) (hbx : bx ≠ bm) :
    Calls Try.prog 32 #[.map (some bm), .func (.func 33) #[] #[.pointer (some ⟨bx, 0, none⟩)]] w fun e w' => e = .returned (.tuple #[]) ∧ MapI w' bm n (fun x => if p x = true then f x else 0) ∧ w.grownBy w' (some bm) := by
  obtain ⟨D, hown, r⟩ := hmap
  have eg : ∀ args w, (callFunc 33 args).run Try.prog w = .ok (.enter 33 args) w := enters_of Try.func33 (by kernel_rfl) rfl
  refine (AnyDf.maps_DeleteFunc Try.delRp lawS (plainElem Try.prog 3) (pdK p) 33 #[.pointer (some ⟨bx, 0, none⟩)] bm n D w eg hown (fun W key val kl yd yp hgW hkey hv => ?_)).mono ?_
  · obtain ⟨s, rfl, hs1, rfl⟩ := keyStr hkey
    obtain ⟨v, rfl, hy, _⟩ := plainElem_int_inv Try.underlying3 hv
    refine (closure33 s hs1 v bx kb m p W (hgW.cell hx (fun e => hbx (Option.some.inj e))) (hs.keep (Keep.grown (G := fun k => k = bm) hgW (fun k hk => (Option.some.inj hk).symm)) hne)).mono ?_
    rintro e w' ⟨rfl, h⟩
    exact ⟨rfl, h⟩
  · rintro e w' ⟨rfl, h1, h2⟩
    exact ⟨rfl, ⟨_, h1, keep_reads hown.isMap r p⟩, h2⟩
theorem any_step {ns : List ByteArray} {j : Nat} (hj : j < ns.length) : (fun y => ((ns.take j).any fun t => decide (t = y)) || decide (ns[j] = y)) = fun y => (ns.take (j + 1)).any fun t => decide (t = y) := by
  funext y
  rw [List.take_add_one, List.getElem?_eq_getElem hj, Option.toList_some, List.any_append]
  simp
set_option maxHeartbeats 4000000 in
set_option maxRecDepth 100000 in
theorem pkeep20 (rb : Nat) (v : Option Nat) (n : Nat) (f : ByteArray → Int) (a : Option Addr) (c : Nat) (ns : List ByteArray) (hl : ns.length ≤ 1000000) (hsz : ∀ s ∈ ns, s.size ≤ maxLen) (w : World) (hr : Rot w rb v n f) (hn : IsStrs w a c ns) :
    Calls Try.prog 20 #[.pointer (some ⟨rb, 0, none⟩), .slice a ns.length c] w fun e w' => e = .returned (.tuple #[]) ∧ Rot w' rb v n (keepF f ns) ∧ Keep (RG rb v) w w' := by
  have HNN := Lib.hid hn
  have HSZ := Lib.hid hsz
  have HRR := Lib.hid hr
  have hmm := run_makeMap_hint Try.underlying78
  obtain ⟨W1, hW1⟩ : ∃ W1, W1 = (w.alloc (.map #[] 0)).alloc (.cells #[.map (some w.heap.size)] 78) := ⟨_, rfl⟩
  have hs1 : (w.alloc (.map #[] 0)).heap.size = w.heap.size + 1 := World.size_alloc _ _
  have HM1 : Hid (MapS W1 w.heap.size 0 (fun y => (ns.take 0).any fun t => decide (t = y))) := by rw [hW1]; exact (MapS.new w).alloc _
  have HR1 : Hid (Row W1 (w.heap.size + 1) 78 #[.map (some w.heap.size)]) := by rw [hW1, ← hs1]; exact Row.new _ _ _
  have HB1 : Hid (Below w.heap.size w W1) := by rw [hW1]; exact (below_alloc w _).alloc (by rw [hs1]; omega) _
  clear hn hsz hr
  go_enter Try.func20, Try.ntmps20
  go_wp2_with fail
  rw [← hW1]
  clear hW1 hs1
  go_loopw [12] (fun i wr => ∃ j : Nat, j ≤ ns.length ∧ i = .int .i64 (j : Int) ∧ Hid (Below w.heap.size w wr) ∧ Hid (Row wr (w.heap.size + 1) 78 #[.map (some w.heap.size)]) ∧ Hid (MapS wr w.heap.size j (fun y => (ns.take j).any fun t => decide (t = y)))) (fun i _ => ns.length - (intOf i).toNat)
  case atStart => exact ⟨0, Nat.zero_le _, rfl, HB1, HR1, HM1⟩
  case round =>
    obtain ⟨j, hj, rfl, hb, hrow, hms⟩ := hrel
    by_cases hlt : j < ns.length
    · obtain h0 | ⟨bi, oi, rfl, hbi2, hci, hcelli⟩ := HNN.out.below hb.out
      · subst h0; simp at hlt
      have x1 := hcelli j ns[j] (by simp [hlt])
      have hss := HSZ.out ns[j] (List.getElem_mem hlt)
      have HST := Lib.hid (any_step hlt)
      obtain ⟨X, hxe⟩ : ∃ x, x = ns[j] := ⟨_, rfl⟩
      rw [← hxe] at x1 hss HST
      clear hcelli hxe
      have j1 : (j : Int) < ns.length := by omega
      have e1 : wr.cell? ⟨w.heap.size + 1, 0, none⟩ = some (.map (some w.heap.size)) := hrow.out.cell 0
      go_wp2_with (at_mapUpdate; refine wpl_mark _ rfl _ _ _ rfl w.heap.size j _ rfl hms.out (by unfold maxLen; omega) X rfl rfl hss ?_)
      intro w2 m2 g2
      rw [HST.out] at m2
      have HM2 := Lib.hid m2
      have HB2 : Hid (Below w.heap.size w w2) := hb.out.grown g2 hb.out.size (fun k hk => by injection hk with hk; omega)
      have HR2 : Hid (Row w2 (w.heap.size + 1) 78 #[.map (some w.heap.size)]) := hrow.out.grown g2 (by intro e; injection e with e; omega)
      clear m2 g2 hms hrow hb e1 x1 hss HST
      go_wp2_with fail
      go_roundw
      case rel => exact ⟨j + 1, hlt, by go_num, HB2, HR2, HM2⟩
      case measure => simp [intOf]; omega
    · obtain rfl : j = ns.length := by omega
      have hj0 : ¬ ((ns.length : Int) < ns.length) := by omega
      have hm2 := hms.out
      rw [List.take_of_length_le (Nat.le_refl _)] at hm2
      have HM2 := Lib.hid hm2
      have e1 : wr.cell? ⟨w.heap.size + 1, 0, none⟩ = some (.map (some w.heap.size)) := hrow.out.cell 0
      have hrot := HRR.out.below hb.out
      have r0 : wr.cell? ⟨rb, 0, none⟩ = some (.map v) := hrot.1.cell 0
      have HROT := Lib.hid hrot
      have hrl := HRR.out.lt
      have HRL := Lib.hid hrl
      clear hm2 hms hrot hrl
      rcases HROT.out.2 with ⟨rfl, hf0⟩ | ⟨bm, rfl, hbm, hmi⟩
      · have hdel := AnyDf.maps_DeleteFunc_nil Try.delRp (.func (.func 33) #[] #[.pointer (some ⟨w.heap.size + 1, 0, none⟩)]) wr
        have HD := Lib.hid hdel
        have HF0 := Lib.hid hf0
        clear hdel hf0
        go_wp2_with (go_at_call 32; refine HD.out.mono ?_; rintro e w2 ⟨rfl, rfl⟩)
        go_end0
        refine ⟨rfl, ⟨HROT.out.1.alloc _, .inl ⟨rfl, ?_⟩⟩, (Keep.of_below hb.out).trans (Keep.alloc _ _)⟩
        rw [HF0.out]; funext s; simp [keepF]
      · have hbl : bm < w.heap.size := HRR.out.glt (.inr rfl)
        have hdel := del32 bm n f (w.heap.size + 1) w.heap.size ns.length _ wr hmi e1 HM2.out (by omega) (by omega)
        have HD := Lib.hid hdel
        have HBM := Lib.hid hbm
        clear hdel hbl hbm hmi
        go_wp2_with (go_at_call 32; refine HD.out.mono ?_; rintro e w2 ⟨rfl, hm3, hg3⟩)
        go_end0
        refine ⟨rfl, ⟨HROT.out.1.grown hg3 (by intro e; injection e with e; exact HBM.out e), .inr ⟨bm, rfl, HBM.out, hm3⟩⟩, (Keep.of_below hb.out).trans (Keep.grown hg3 (fun k hk => by injection hk with hk; exact .inr (by rw [hk])))⟩
end Go.Proofs.Ytcmjcpgfnkhnoaa
