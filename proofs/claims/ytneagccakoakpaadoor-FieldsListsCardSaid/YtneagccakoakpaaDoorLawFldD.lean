/- The walk of the statement FieldsDrops. -/
import Derived.Test.YtneagccakoakpaaDoorFldQ
import Derived.Test.YtneagccakoakpaaDoorFewO
namespace Go.Proofs.YtneagccakoakpaaDoor
open Go.RowKit

theorem isB_has (x : ByteArray) (r : List ByteArray) (f : Fld) : hasB (x :: r) f = (isB x f || hasB r f) := by
  unfold hasB isB
  rw [List.any_cons]
  congr 1
  exact decide_eq_decide.2 ⟨fun h => h.symm, fun h => h.symm⟩
theorem drops_all : ∀ (ns : List ByteArray) (fs : List Fld), ns.foldl (fun w x => dropR x w) fs = dropL ns fs
  | [], fs => by
    unfold dropL
    exact (List.filter_eq_self.2 (fun _ _ => rfl)).symm
  | x :: r, fs => by
    rw [List.foldl_cons, drops_all r]
    unfold dropL dropR
    rw [List.filter_filter]
    congr 1
    funext f
    rw [isB_has, Bool.not_or, Bool.and_comm]
def curF (ns : List ByteArray) (fs : List Fld) (j : Nat) : List Fld := (ns.take j).foldl (fun w x => dropR x w) fs
theorem curF_step {ns : List ByteArray} {fs : List Fld} {j : Nat} (hj : j < ns.length) : curF ns fs (j + 1) = dropR ns[j] (curF ns fs j) := by
  unfold curF
  rw [List.take_add_one, List.getElem?_eq_getElem hj, Option.toList_some, List.foldl_append]
  rfl
theorem fewF_ok (fs : List Fld) (n : Nat) : ∀ f ∈ fewF fs n, FldOk f := by
  intro f hf
  unfold fewF at hf
  obtain ⟨g, _, rfl⟩ := List.mem_map.1 hf
  exact ⟨by simp; omega, by simp; omega⟩
theorem dropR_mem {x : ByteArray} {fs : List Fld} {f : Fld} (h : f ∈ dropR x fs) : f ∈ fs := (List.mem_filter.1 h).1
theorem fewS_mem {xs : List ByteArray} {n m : Nat} {x : ByteArray} (h : x ∈ fewS xs n m) : x.size ≤ m := by
  unfold fewS at h
  obtain ⟨y, _, rfl⟩ := List.mem_map.1 h
  exact cutS_size y m
theorem fewS_len (xs : List ByteArray) (n m : Nat) : (fewS xs n m).length ≤ n := by
  unfold fewS
  simp
  omega
theorem drop54s (a : Option Addr) (c : Nat) (fs : List Fld) (x : ByteArray) (hfl : fs.length ≤ 1000000) (hok : ∀ f ∈ fs, FldOk f) (hx : x.size ≤ 4000000000) (gs : List Fld) (hg : gs = dropR x fs) (w : World) (hf : IsFlds w a c fs) :
    Calls Tryd.prog 54 #[.slice a fs.length c, .string x] w fun e w' => ∃ b d, e = .returned (.slice b gs.length d) ∧ IsFlds w' b d gs ∧ Below w.heap.size w w' := by
  subst hg
  refine (drop54 a c fs x hfl hok hx w hf).mono ?_
  rintro e w' ⟨u, rfl, ho, hb⟩
  obtain ⟨b, d, rfl, _, h2⟩ := own_isFldsT ho
  exact ⟨b, d, rfl, h2, hb⟩
theorem own40n (a : Option Addr) (c : Nat) (fs : List Fld) (hfl : fs.length ≤ 1000000) (w : World) (hf : IsFlds w a c fs) :
    Calls Tryd.prog 40 #[.slice a fs.length c] w fun e w' => ∃ b d, e = .returned (.slice b fs.length d) ∧ (b = none → d = 0 ∧ fs = []) ∧ IsFlds w' b d fs ∧ Below w.heap.size w w' := by
  refine (own40 a c fs hfl w hf).mono ?_
  rintro e w' ⟨u, rfl, ho, hb⟩
  obtain ⟨b, d, rfl, h1, h2⟩ := own_isFldsT ho
  exact ⟨b, d, rfl, h1, h2, hb⟩
set_option maxRecDepth 100000 in
set_option maxHeartbeats 4000000 in
theorem lawFieldsDrops (a : Option Addr) (c : Nat) (xs0 : List Fld) (b : Option Addr) (d : Nat) (ns0 : List ByteArray) (hlx : xs0.length ≤ 9223372036854775807) (hly : ns0.length ≤ 9223372036854775807) (w : World) (hw : MaxL w) (hx : IsFlds w a c xs0) (hy : IsStrs w b d ns0) :
    Calls Tryd.prog 10 #[.slice a xs0.length c, .slice b ns0.length d] w fun e w' => e = .returned (.bool true) ∧ Below w.heap.size w w' := by
  have HA := Lib.hid (awake35 w hw)
  have HFX : Hid (∀ W, IsFlds W a c xs0 → Calls Tryd.prog 39 #[.slice a xs0.length c, .int .i64 12] W fun e w' => ∃ b d, e = .returned (.slice b (fewF xs0 12).length d) ∧ (b = none → d = 0 ∧ fewF xs0 12 = []) ∧ IsFlds w' b d (fewF xs0 12) ∧ Below W.heap.size W w') := fun W h => few39s a c xs0 12 (by decide) hlx W h
  have HFN : Hid (∀ W, IsStrs W b d ns0 → Calls Tryd.prog 31 #[.slice b ns0.length d, .int .i64 5, .int .i64 20] W (FewPostN W (fewS ns0 5 20))) := fun W h => few14n b d ns0 5 20 (by decide) hly W h
  have lx := fewF_length xs0 12
  have hok := fewF_ok xs0 12
  have hnm : ∀ x ∈ fewS ns0 5 20, x.size ≤ 20 := fun x h => fewS_mem h
  have hnl := fewS_len ns0 5 20
  generalize fewF xs0 12 = xs at *
  generalize fewS ns0 5 20 = ns at *
  have HX := Lib.hid hx
  have HY := Lib.hid hy
  have HO := Lib.hid (fun p q W h => own40n p q xs (by omega) W h)
  have HNM := Lib.hid hnm
  have HOK := Lib.hid hok
  clear hw hx hy hnm hok
  go_enter Tryd.func10, Tryd.ntmps10
  go_wp2_with fail
  refine HA.out.mono ?_
  rintro e w1 ⟨rfl, hb1⟩
  have X1 := Lib.hid (HX.out.below hb1)
  go_wp2_with fail
  refine (HFX.out w1 X1.out).mono ?_
  rintro e w2 ⟨a2, c2, rfl, _, hx2, hb2⟩
  have b2 := hb1.trans (hb2.mono hb1.size)
  have X2 := Lib.hid hx2
  clear hb1 hb2 hx2
  go_wp2_with fail
  refine (HO.out _ _ w2 X2.out).mono ?_
  rintro e w3 ⟨a3, c3, rfl, hn3, hf3, hb3⟩
  have b3 := b2.trans (hb3.mono b2.size)
  have X3 := Lib.hid (X2.out.below hb3)
  have F3 := Lib.hid hf3
  have N3 := Lib.hid hn3
  have Y3 := Lib.hid (HY.out.below b3)
  clear hb3 hf3 b2 X2 hn3
  go_wp2_with fail
  refine (HFN.out w3 Y3.out).mono ?_
  rintro e w4 ⟨p4, r4, rfl, hs4, _, hb4⟩
  have b4 := Lib.hid (b3.trans (hb4.mono b3.size))
  have X4 := Lib.hid (X3.out.below hb4)
  have F4 := Lib.hid (F3.out.below hb4)
  have S4 := Lib.hid hs4
  clear hb4 hs4 b3 X3 F3
  go_wp2_with fail
  go_loopw [7, 21] (fun v i wr => ∃ (j : Nat) (p : Option Addr) (r : Nat), j ≤ ns.length ∧ i = .int .i64 (j : Int) ∧ v = .slice p (curF ns xs j).length r ∧ Hid (IsFlds wr p r (curF ns xs j)) ∧ Hid ((curF ns xs j).length ≤ 12 ∧ ∀ f ∈ curF ns xs j, FldOk f) ∧ Hid (Below w4.heap.size w4 wr)) (fun _ i _ => ns.length - (intOf i).toNat)
  case atStart => exact ⟨0, a2, c2, Nat.zero_le _, rfl, rfl, X4.out, ⟨lx, HOK.out⟩, Below.refl _ _⟩
  case round =>
    obtain ⟨j, p, r, hj, rfl, rfl, hcf, hco, hb⟩ := hrel
    by_cases hlt : j < ns.length
    · obtain h0 | ⟨bk, o, rfl, hbk, hc, hcell⟩ := S4.out.below hb.out
      · subst h0; simp at hlt
      have cj := hcell j ns[j] (by simp [hlt])
      have hst := curF_step (fs := xs) hlt
      have hnj := HNM.out ns[j] (List.getElem_mem hlt)
      obtain ⟨x, hxe⟩ : ∃ x, x = ns[j] := ⟨_, rfl⟩
      rw [← hxe] at cj hst hnj
      clear hcell hxe
      have j1 : (j : Int) < ns.length := by omega
      have HD := Lib.hid (drop54s p r (curF ns xs j) x (by have := hco.out.1; omega) hco.out.2 (by omega) _ hst wr hcf.out)
      have hco2 : Hid ((curF ns xs (j + 1)).length ≤ 12 ∧ ∀ f ∈ curF ns xs (j + 1), FldOk f) := by
        rw [hst]
        exact ⟨Nat.le_trans (dropR_len _ _) hco.out.1, fun f hf => hco.out.2 f (dropR_mem hf)⟩
      clear hst hco hcf
      go_wp2_with fail
      refine HD.out.mono ?_
      rintro e w5 ⟨p5, r5, rfl, hf5, hb5⟩
      have hb6 : Hid (Below w4.heap.size w4 w5) := hb.out.trans (hb5.mono hb.out.size)
      have F5 := Lib.hid hf5
      clear hf5 hb5
      go_wp2_with fail
      go_roundw
      case rel => exact ⟨j + 1, p5, r5, hlt, by go_num, rfl, F5, hco2, hb6⟩
      case measure => simp [intOf]; omega
    · obtain rfl : j = ns.length := by omega
      have hcur : curF ns xs ns.length = dropL ns xs := by
        unfold curF
        rw [List.take_of_length_le (Nat.le_refl _)]
        exact drops_all ns xs
      rw [hcur] at hcf hco
      have hll := hco.out.1
      have HD := Lib.hid (drop55 a3 c3 xs p4 r4 ns (by omega) (by omega) N3.out HOK.out wr (F4.out.below hb.out) (S4.out.below hb.out))
      have HI1 := Lib.hid (fun b1 d1 b2 d2 W h1 h2 => lawIs45 b1 d1 (dropL ns xs) b2 d2 (dropL ns xs) true (by simp) (by omega) (by omega) W h1 h2)
      have HI2 := Lib.hid (fun b1 d1 b2 d2 W h1 h2 => lawIs45 b1 d1 xs b2 d2 xs true (by simp) (by omega) (by omega) W h1 h2)
      rw [hcur]
      clear hco hcur
      go_wp2_with fail
      refine HD.out.mono ?_
      rintro e w5 ⟨p5, r5, rfl, _, hf5, hb5⟩
      have b5 := hb.out.trans (hb5.mono hb.out.size)
      have F5 := Lib.hid hf5
      have C5 := Lib.hid (hcf.out.below hb5)
      clear hf5 hb5 hcf
      go_wp2_with fail
      refine (HI1.out _ _ _ _ w5 F5.out C5.out).mono ?_
      rintro e w6 ⟨rfl, hb6⟩
      have b6 := b5.trans (hb6.mono b5.size)
      clear hb6 b5
      go_wp2_with fail
      refine (HI2.out _ _ _ _ w6 (F4.out.below b6) (X4.out.below b6)).mono ?_
      rintro e w7 ⟨rfl, hb7⟩
      have b7 := b6.trans (hb7.mono b6.size)
      go_wp2_with fail
      go_ret
      exact ⟨rfl, b4.out.trans (b7.mono b4.out.size)⟩
end Go.Proofs.YtneagccakoakpaaDoor
