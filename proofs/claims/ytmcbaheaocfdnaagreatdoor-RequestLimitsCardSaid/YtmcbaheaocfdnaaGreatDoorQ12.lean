/- request's reference: bad, may, ReadHead of any first line. -/
import Derived.StillTailTactics
import Derived.Test.YtmcbaheaocfdnaaGreatDoorQ08
import Derived.Test.YtmcbaheaocfdnaaGreatDoorQ09
import Derived.Test.YtmcbaheaocfdnaaGreatDoorQ10
import Derived.Test.YtmcbaheaocfdnaaGreatDoorQ11
namespace Go.Proofs.YtmcbaheaocfdnaaGreatDoor
open Go.RowKit

theorem bad26 (e : Int) (w : World) :
    Calls Tryz.prog 26 #[.int .i64 e] w fun x w' => x = .returned (.agg #[.string ⟨#[]⟩, .bool false, .slice none 0 0, .int .i64 0, .bool false, .int .i64 e]) ∧ Below w.heap.size w w' := by
  have L0 := below_alloc w (.cells #[.string ⟨#[]⟩, .bool false, .slice none 0 0, .int .i64 0, .bool false, .int .i64 e] 37)
  go_enter Tryz.func26, Tryz.ntmps26
  go_wp2_with fail
  refine bodyPost_ret (v := .agg #[.string ⟨#[]⟩, .bool false, .slice none 0 0, .int .i64 0, .bool false, .int .i64 e]) (by simp [results, Tryz.results26, go_sem]) rfl ⟨rfl, L0⟩
theorem may27 (s : ByteArray) (w : World) :
    Calls Tryz.prog 27 #[.int .i64 0, .string s] w fun x w' => x = .returned (.bool true) ∧ w = w' := by
  go_enter Tryz.func27, Tryz.ntmps27
  go_wp2_with fail
  go_ret
  exact ⟨rfl, rfl⟩
theorem infoHd6 : (Tryz.prog.info? 37).map (·.size) = some 6 := by kernel_rfl
theorem infoLn4 : (Tryz.prog.info? 69).map (·.size) = some 4 := by kernel_rfl
def RhPost (w : World) (T : HdT) (x : Ending) (w' : World) : Prop :=
  ∃ v, x = .returned (.agg #[.string (bs T.first), .bool T.begun, v, .int .i64 (T.n : Int), .bool T.whole, .int .i64 T.e]) ∧ w'.ownsRow w.heap.size 46 2 v T.fs.length (cellsF T.fs) ∧ Below w.heap.size w w'
theorem rl_err {most : Int} : ∀ {r cur : List UInt8} {e : Int}, rlGo most cur r = .err e → e = 2 ∨ e = 4
  | [], cur, e, h => by simp only [rlGo] at h; cases h
  | c :: r, cur, e, h => by
    simp only [rlGo] at h
    split at h
    · injection h with h; exact .inl h.symm
    · split at h
      · split at h
        · cases h
        · split at h
          · cases h
          · injection h with h; exact .inl h.symm
      · split at h
        · injection h with h; exact .inr h.symm
        · exact rl_err h
/-- The end: the result lies in its variable. -/
theorem rh_end {w0 w : World} {br : Nat} {T : HdT} {v : Value} (u0 u1 u2 u3 u4 u5 : Value) (hbel : Below w0.heap.size w0 w) (hbr : w0.heap.size ≤ br) (ho : w.ownsRow w0.heap.size 46 2 v T.fs.length (cellsF T.fs)) (hn : v.ownBlock ≠ some br) (cs : Array Value) (hc : cs = #[.string (bs T.first), .bool T.begun, v, .int .i64 (T.n : Int), .bool T.whole, .int .i64 T.e]) :
    RhPost w0 T (.returned (.agg cs)) ((((((w.setCell ⟨br, 0, none⟩ u0).setCell ⟨br, 1, none⟩ u1).setCell ⟨br, 2, none⟩ u2).setCell ⟨br, 3, none⟩ u3).setCell ⟨br, 4, none⟩ u4).setCell ⟨br, 5, none⟩ u5) := by
  have K : ∀ (v : World) (i : Nat) (u : Value), Keep (fun j => j = br) v (v.setCell ⟨br, i, none⟩ u) := fun v i u => Keep.setCell (G := fun j => j = br) v (p := ⟨br, i, none⟩) rfl u
  have KC := (((((K w 0 u0).trans (K _ 1 u1)).trans (K _ 2 u2)).trans (K _ 3 u3)).trans (K _ 4 u4)).trans (K _ 5 u5)
  exact ⟨v, by rw [hc], own_keepB ho KC (fun k hk e => hn (by rw [hk, e])), (((((hbel.setCell (p := ⟨br, 0, none⟩) hbr u0).setCell (p := ⟨br, 1, none⟩) hbr u1).setCell (p := ⟨br, 2, none⟩) hbr u2).setCell (p := ⟨br, 3, none⟩) hbr u3).setCell (p := ⟨br, 4, none⟩) hbr u4).setCell (p := ⟨br, 5, none⟩) hbr u5⟩
structure RhD (w0 : World) (bl br bx bh B : Nat) : Prop where
  r0 : w0.heap.size ≤ br
  x0 : w0.heap.size ≤ bx
  h0 : w0.heap.size ≤ bh
  lr : bl ≠ br
  lx : bl ≠ bx
  lh : bl ≠ bh
  rx : br ≠ bx
  rh : br ≠ bh
  xh : bx ≠ bh
  lB : bl < B
  rB : br < B
  xB : bx < B
  hB : bh < B
/-- ReadHead's memory: the limits, the result, the line that was read, the head so far. -/
structure RhM (w0 : World) (bl br bx bh B : Nat) (l h c b : Int) (X HH : Array Value) (v : Value) (fs : List Fld) (w : World) : Prop where
  bel : Below w0.heap.size w0 w
  rl : Row w bl 24 #[.int .i64 l, .int .i64 h, .int .i64 c, .int .i64 b]
  rr : Row w br 37 #[.string ⟨#[]⟩, .bool false, .slice none 0 0, .int .i64 0, .bool false, .int .i64 0]
  rx : Row w bx 69 X
  rh : Row w bh 37 HH
  own : w.ownsRow B 46 2 v fs.length (cellsF fs)
  up : B ≤ w.heap.size
section
variable {w0 w w' : World} {bl br bx bh B : Nat} {l h c b : Int} {X HH : Array Value} {v : Value} {fs : List Fld}
theorem RhM.below (m : RhM w0 bl br bx bh B l h c b X HH v fs w) (hb : Below w.heap.size w w') : RhM w0 bl br bx bh B l h c b X HH v fs w' :=
  ⟨m.bel.trans (hb.mono m.bel.size), m.rl.below hb, m.rr.below hb, m.rx.below hb, m.rh.below hb, own_keepB (G := fun _ => False) m.own (.of_below hb) (fun _ _ h => h), Nat.le_trans m.up hb.size⟩
theorem RhM.setX (d : RhD w0 bl br bx bh B) (m : RhM w0 bl br bx bh B l h c b X HH v fs w) (i : Nat) (u : Value) : RhM w0 bl br bx bh B l h c b (X.setIfInBounds i u) HH v fs (w.setCell ⟨bx, i, none⟩ u) :=
  ⟨m.bel.setCell (p := ⟨bx, i, none⟩) d.x0 u, m.rl.far (p := ⟨bx, i, none⟩) d.lx u, m.rr.far (p := ⟨bx, i, none⟩) d.rx u, m.rx.put i u, m.rh.far (p := ⟨bx, i, none⟩) d.xh.symm u,
    own_keepB m.own (Keep.setCell (G := fun j => j = bx) w (p := ⟨bx, i, none⟩) rfl u) (fun k hk e => by have := (m.own.lt k hk).1; have := d.xB; omega), by simpa using m.up⟩
theorem RhM.setH (d : RhD w0 bl br bx bh B) (m : RhM w0 bl br bx bh B l h c b X HH v fs w) (i : Nat) (u : Value) : RhM w0 bl br bx bh B l h c b X (HH.setIfInBounds i u) v fs (w.setCell ⟨bh, i, none⟩ u) :=
  ⟨m.bel.setCell (p := ⟨bh, i, none⟩) d.h0 u, m.rl.far (p := ⟨bh, i, none⟩) d.lh u, m.rr.far (p := ⟨bh, i, none⟩) d.rh u, m.rx.far (p := ⟨bh, i, none⟩) d.xh u, m.rh.put i u,
    own_keepB m.own (Keep.setCell (G := fun j => j = bh) w (p := ⟨bh, i, none⟩) rfl u) (fun k hk e => by have := (m.own.lt k hk).1; have := d.hB; omega), by simpa using m.up⟩
theorem RhM.reown {v' : Value} {fs' : List Fld} (m : RhM w0 bl br bx bh B l h c b X HH v fs w) (ho : w.ownsRow B 46 2 v' fs'.length (cellsF fs')) : RhM w0 bl br bx bh B l h c b X HH v' fs' w :=
  ⟨m.bel, m.rl, m.rr, m.rx, m.rh, ho, m.up⟩
end
def cellN (w : World) (b : Nat) : Nat := (((w.cell? ⟨b, 3, none⟩).map intOf).getD 0).toNat
theorem cellN_of {w : World} {b k : Nat} (h : w.cell? ⟨b, 3, none⟩ = some (.int .i64 (k : Int))) : cellN w b = k := by
  unfold cellN
  rw [h]
  simp [intOf]
/-- append of nothing, at an operation. -/
theorem wp_append_nil {P : Program} (w : World) {o : Oper} {a : Act} {K : Act → World → Prop} {Q : Exit → Act → World → Prop} (s x : Operand) (t : TypeId)
    (ho : o.op = .call { callee := .builtin .append, args := #[s, x], argTypes := #[t, t] })
    (base : Nat) (e : TypeId) (i : TypeInfo) (size : Nat) (ht : P.underlying t = some (.slice e)) (hi : P.info? e = some i)
    (v : Value) (n : Nat) (xs : List Value) (hs : a.eval s = v) (hown : w.ownsRow base e size v n xs) (hx : a.eval x = .slice none 0 0)
    (h : K (a.put o.dst v) w) : o.wp P a w K Q := by
  have hrun := run_append_owned_none (P := P) (w := w) base t o.type e i size ht hi v n xs hown
  unfold Oper.wp
  simp [execOp, ho, resolve, invoke, builtin, hs, hx, hrun, Result.andThen]
  exact h
theorem grown_refl (w : World) (row : Option Nat) : w.grownBy w row := ⟨rfl, rfl, rfl, Nat.le_refl _, fun _ _ _ => rfl⟩
/-- The cells of a row that is owned, as a source. -/
theorem own_src {w w' : World} {B : Nat} {e : TypeId} {n m c : Nat} {ad : Addr} {k : Nat} {xs : List Value} (h : w.ownsRow B e n (.slice (some ad) k c) m xs) (hb : Below w.heap.size w w') : ∀ j u, xs[j]? = some u → w'.cell? (ad.add j) = some u := by
  intro j u hu
  obtain ⟨_, ⟨h1, _⟩ | ⟨g, cap, cur, h1, _, hg, _, _, _, ht⟩⟩ := h
  · cases h1
  · injection h1 with h2
    injection h2 with h2
    subst h2
    rw [Addr.add_mid, Nat.zero_add, (bcell hb).1 _ _ (Array.getElem?_eq_some_iff.1 hg).1]
    have hx := hu
    rw [← ht, List.getElem?_take] at hx
    split at hx
    · simp only [Array.getElem?_toList] at hx
      simp [World.cell?, hg, hx]
    · cases hx
/-- What holds while a field is put behind a copy of the others. -/
structure ReS (w0 : World) (fs : List Fld) (N V : ByteArray) (S : Nat → Bool) (x : Nat → Value) (w : World) : Prop where
  a : Below w0.heap.size w0 w
  i0 : S 0 = true → S 3 = false → w.ownsRow w0.heap.size 46 2 (x 0) 0 []
  i3 : S 3 = true → S 6 = false → w.ownsRow w0.heap.size 46 2 (x 3) fs.length (cellsF fs)
  i5 : S 5 = true → S 6 = false → ∃ b5, x 5 = .slice (some ⟨b5, 0, none⟩) 1 1 ∧ w0.heap.size ≤ b5 ∧ b5 < w.heap.size ∧ (∀ (k : Nat) u, [Value.string N, .string V][k]? = some u → w.cell? ((⟨b5, 0, none⟩ : Addr).add k) = some u) ∧ (S 0 = true → S 3 = false → (x 0).ownBlock ≠ some b5) ∧ (S 3 = true → (x 3).ownBlock ≠ some b5)
  i6 : S 6 = true → w.ownsRow w0.heap.size 46 2 (x 6) (fs.length + 1) (cellsF fs ++ [.string N, .string V])
  o3 : S 6 = true → S 3 = true
  o5 : S 6 = true → S 5 = true
  o0 : S 3 = true → S 0 = true
theorem ReS.keep {w0 : World} {fs : List Fld} {N V : ByteArray} {S : Nat → Bool} {x : Nat → Value} {w : World} (h : ReS w0 fs N V S x w) (i : Nat) (u : Value) (h0 : i ≠ 0) (h3 : i ≠ 3) (h5 : i ≠ 5) (h6 : i ≠ 6) : ReS w0 fs N V (setL S i) (updV x i u) w := by
  have e0 : setL S i 0 = S 0 := by simp only [setL, if_neg (Ne.symm h0)]
  have e3 : setL S i 3 = S 3 := by simp only [setL, if_neg (Ne.symm h3)]
  have e5 : setL S i 5 = S 5 := by simp only [setL, if_neg (Ne.symm h5)]
  have e6 : setL S i 6 = S 6 := by simp only [setL, if_neg (Ne.symm h6)]
  have x0 : updV x i u 0 = x 0 := by simp only [updV, if_neg (Ne.symm h0)]
  have x3 : updV x i u 3 = x 3 := by simp only [updV, if_neg (Ne.symm h3)]
  have x5 : updV x i u 5 = x 5 := by simp only [updV, if_neg (Ne.symm h5)]
  have x6 : updV x i u 6 = x 6 := by simp only [updV, if_neg (Ne.symm h6)]
  exact ⟨h.a, by rw [e0, e3, x0]; exact h.i0, by rw [e3, e6, x3]; exact h.i3, by rw [e5, e6, e0, e3, x5, x0, x3]; exact h.i5, by rw [e6, x6]; exact h.i6, by rw [e6, e3]; exact h.o3, by rw [e6, e5]; exact fun q => h.o5 q, by rw [e3, e0]; exact h.o0⟩
theorem infoRf : (Tryz.prog.info? 46).map (fun i => (i.zero, i.size, i.bytes)) = some (some (.agg #[.string ⟨#[]⟩, .string ⟨#[]⟩]), 2, 32) := by kernel_rfl
theorem ReS.lit {w0 : World} {fs : List Fld} {N V : ByteArray} {S : Nat → Bool} {x : Nat → Value} {w : World} (h : ReS w0 fs N V S x w) (hl : S 0 = false) (T : TypeId) (hT : T = 46) : ReS w0 fs N V (setL S 0) (updV x 0 (.slice (some ⟨w.heap.size, 0, none⟩) 0 0)) (w.alloc (.cells #[] T)) := by
  subst hT
  have h3 : S 3 = false := by
    cases h3 : S 3 with
    | false => rfl
    | true => rw [h.o0 h3] at hl; cases hl
  have h6 : S 6 = false := by
    cases h6 : S 6 with
    | false => rfl
    | true => rw [h.o3 h6] at h3; cases h3
  have hz := h.a.size
  refine ⟨h.a.alloc hz _, fun _ _ => ?_, fun q => ?_, fun q1 q2 => ?_, fun q => ?_, fun q => ?_, fun q => ?_, fun _ => by simp [setL]⟩
  · have e : updV x 0 (Value.slice (some ⟨w.heap.size, 0, none⟩) 0 0) 0 = .slice (some ⟨w.heap.size, 0, none⟩) 0 0 := by simp [updV]
    rw [e]
    exact World.ownsRow_lit w #[] 0 hz (by decide) (by simp)
  · simp [setL, h3] at q
  · have q5 : S 5 = true := by simpa [setL] using q1
    obtain ⟨b5, hx, hb0, hb, hc, _, _⟩ := h.i5 q5 h6
    refine ⟨b5, by simpa [updV] using hx, hb0, by simp; omega, fun k u hu => ?_, fun _ _ => ?_, fun q => by simp [setL, h3] at q⟩
    · have := hc k u hu
      rw [Addr.add_mid] at this ⊢
      rw [(bcell (below_alloc w _)).1 _ _ hb]
      exact this
    · simp [updV, Value.ownBlock]
      omega
  · simp [setL, h6] at q
  · simp [setL, h6] at q
  · simp [setL, h6] at q
theorem ReS.arr {w0 : World} {fs : List Fld} {N V : ByteArray} {S : Nat → Bool} {x : Nat → Value} {w : World} (h : ReS w0 fs N V S x w) (h6 : S 6 = false) (T : TypeId) : ReS w0 fs N V (setL S 5) (updV x 5 (.slice (some ⟨w.heap.size, 0, none⟩) 1 1)) (w.alloc (.cells #[.string N, .string V] T)) := by
  have hz := h.a.size
  refine ⟨h.a.alloc hz _, fun q1 q2 => ?_, fun q1 q2 => ?_, fun _ _ => ?_, fun q => ?_, fun q => ?_, fun _ => by simp [setL], fun q => ?_⟩
  · simpa [updV] using (h.i0 (by simpa [setL] using q1) (by simpa [setL] using q2)).alloc (.cells #[.string N, .string V] T)
  · simpa [updV] using (h.i3 (by simpa [setL] using q1) h6).alloc (.cells #[.string N, .string V] T)
  · refine ⟨w.heap.size, by simp [updV], hz, by simp, cells_new1 w N V T, fun q1 q2 e => ?_, fun q e => ?_⟩
    · have := (h.i0 (by simpa [setL] using q1) (by simpa [setL] using q2)).lt w.heap.size (by simpa [updV] using e)
      omega
    · have := (h.i3 (by simpa [setL] using q) h6).lt w.heap.size (by simpa [updV] using e)
      omega
  · simp [setL, h6] at q
  · simp [setL, h6] at q
  · have := h.o0 (by simpa [setL] using q)
    simpa [setL] using this
theorem ReS.app {w0 : World} {fs : List Fld} {N V : ByteArray} {S : Nat → Bool} {x : Nat → Value} {w w' : World} {v' : Value} (h : ReS w0 fs N V S x w) (h0 : S 0 = true) (h3 : S 3 = false) (hg : w.grownBy w' (x 0).ownBlock) (hat : v'.ownBlock = (x 0).ownBlock ∨ v'.ownBlock = some w.heap.size)
    (ho : w'.ownsRow w0.heap.size 46 2 v' fs.length (cellsF fs)) : ReS w0 fs N V (setL S 3) (updV x 3 v') w' := by
  have h6 : S 6 = false := by
    cases h6 : S 6 with
    | false => rfl
    | true => rw [h.o3 h6] at h3; cases h3
  have hown := h.i0 h0 h3
  have hz := h.a.size
  have hz2 := hg.size
  refine ⟨h.a.grown hg hz (fun k hk => (hown.lt k hk).1), fun _ q => ?_, fun _ _ => ?_, fun q1 _ => ?_, fun q => ?_, fun q => ?_, fun q => ?_, fun _ => by simpa [setL] using h0⟩
  · simp [setL] at q
  · simpa [updV] using ho
  · have q5 : S 5 = true := by simpa [setL] using q1
    obtain ⟨b5, hx, hb0, hb, hc, hn, _⟩ := h.i5 q5 h6
    refine ⟨b5, by simpa [updV] using hx, hb0, by omega, fun k u hu => ?_, fun _ q => by simp [setL] at q, fun _ e => ?_⟩
    · have := hc k u hu
      rw [Addr.add_mid] at this ⊢
      unfold World.cell? at this ⊢
      rw [hg.block b5 hb (fun e => hn h0 h3 e.symm)]
      exact this
    · have e2 : v'.ownBlock = some b5 := by simpa [updV] using e
      rcases hat with q | q
      · exact hn h0 h3 (by rw [← q]; exact e2)
      · rw [e2] at q
        injection q with q
        omega
  · simp [setL, h6] at q
  · simp [setL, h6] at q
  · simp [setL, h6] at q
theorem ReS.fin {w0 : World} {fs : List Fld} {N V : ByteArray} {S : Nat → Bool} {x : Nat → Value} {w w' : World} {v' : Value} (h : ReS w0 fs N V S x w) (h3 : S 3 = true) (h5 : S 5 = true) (h6 : S 6 = false) (hg : w.grownBy w' (x 3).ownBlock)
    (ho : w'.ownsRow w0.heap.size 46 2 v' (fs.length + 1) (cellsF fs ++ [.string N, .string V])) : ReS w0 fs N V (setL S 6) (updV x 6 v') w' := by
  have hown := h.i3 h3 h6
  have hz := h.a.size
  refine ⟨h.a.grown hg hz (fun k hk => (hown.lt k hk).1), fun _ q => ?_, fun _ q => ?_, fun _ q => ?_, fun _ => ?_, fun _ => by simpa [setL] using h3, fun _ => by simpa [setL] using h5, fun _ => by simpa [setL] using h.o0 h3⟩
  · simp [setL, h3] at q
  · simp [setL] at q
  · simp [setL] at q
  · simpa [updV] using ho
set_option maxRecDepth 100000 in
set_option maxHeartbeats 8000000 in
theorem rhead11 (s : ByteArray) (hs : s.size ≤ 1000000) (l h c b : Int) (hh0 : h ≤ 9223372036854775807) (T : HdT) (hT : T = hdTook ⟨l, h, c⟩ anyFirst s.data.toList) (w : World) :
    Calls Tryz.prog 11 #[.string s, .agg #[.int .i64 l, .int .i64 h, .int .i64 c, .int .i64 b], .int .i64 0] w (RhPost w T) := by
  obtain ⟨L, hL⟩ : ∃ L, L = s.data.toList := ⟨_, rfl⟩
  rw [← hL] at hT
  have hz : s.size = L.length := by rw [hL, Lib.size_eq]
  have HRL := Lib.hid (fun W => rline25 s hs (max 0 l) W)
  rw [← hL] at HRL
  have hstart := atLine_start ⟨l, h, c⟩ anyFirst L
  have L0 := (below_alloc w (.cells #[.int .i64 l, .int .i64 h, .int .i64 c, .int .i64 b] 24)).alloc (by simp) (.cells #[.string ⟨#[]⟩, .bool false, .slice none 0 0, .int .i64 0, .bool false, .int .i64 0] 37)
  have HL0 := Lib.hid L0
  have HR0 : Hid (Row ((w.alloc (.cells #[.int .i64 l, .int .i64 h, .int .i64 c, .int .i64 b] 24)).alloc (.cells #[.string ⟨#[]⟩, .bool false, .slice none 0 0, .int .i64 0, .bool false, .int .i64 0] 37)) (w.heap.size + 1) 37 #[.string ⟨#[]⟩, .bool false, .slice none 0 0, .int .i64 0, .bool false, .int .i64 0]) := by
    have := Row.new (w.alloc (.cells #[.int .i64 l, .int .i64 h, .int .i64 c, .int .i64 b] 24)) 37 #[.string ⟨#[]⟩, .bool false, .slice none 0 0, .int .i64 0, .bool false, .int .i64 0]
    rw [show (w.alloc (.cells #[.int .i64 l, .int .i64 h, .int .i64 c, .int .i64 b] 24)).heap.size = w.heap.size + 1 by simp] at this
    exact this
  have HRL0 := Lib.hid ((Row.new w 24 #[.int .i64 l, .int .i64 h, .int .i64 c, .int .i64 b]).alloc (.cells #[.string ⟨#[]⟩, .bool false, .slice none 0 0, .int .i64 0, .bool false, .int .i64 0] 37))
  cases hq : rlGo (max 0 l) [] L with
  | err e =>
    have hTT : T = ⟨[], false, [], 0, false, e⟩ := hT.trans (took_lnErr hstart hq)
    have he2 : (e != 0) = true := by rcases rl_err hq with rfl | rfl <;> rfl
    rw [hq] at HRL
    unfold lnV at HRL
    simp only at HRL
    subst hTT
    clear hstart hq hT hL hz L0
    go_enter Tryz.func11, Tryz.ntmps11
    go_wp2_with fail
    with_reducible refine (HRL.out _).mono ?_
    rintro x w1 ⟨rfl, hb1⟩
    have B2 := Lib.hid ((HL0.out.trans (hb1.mono HL0.out.size)).alloc (HL0.out.trans (hb1.mono HL0.out.size)).size (.cells #[.string ⟨#[]⟩, .int .i64 0, .bool false, .int .i64 e] 69))
    have R2 := Lib.hid ((HR0.out.below hb1).alloc (.cells #[.string ⟨#[]⟩, .int .i64 0, .bool false, .int .i64 e] 69))
    have cx3 : (w1.alloc (.cells #[.string ⟨#[]⟩, .int .i64 0, .bool false, .int .i64 e] 69)).cell? ⟨w1.heap.size, 3, none⟩ = some (.int .i64 e) := by simp
    clear HR0 HL0 hb1
    go_upto_region 3 with fail
    obtain ⟨bx, hbx⟩ : ∃ bx, bx = w1.heap.size := ⟨_, rfl⟩
    rw [← hbx] at cx3 ⊢
    generalize w1.alloc (.cells #[.string ⟨#[]⟩, .int .i64 0, .bool false, .int .i64 e] 69) = w2 at *
    obtain ⟨br, hbr⟩ : ∃ br, br = w.heap.size + 1 := ⟨_, rfl⟩
    rw [← hbr] at R2 ⊢
    have hbr0 : w.heap.size ≤ br := by omega
    clear hbx hbr
    go_wp2_with fail
    with_reducible refine (bad26 e w2).mono ?_
    rintro x9 w9 ⟨rfl, hb9⟩
    have R9 := Lib.hid (R2.out.below hb9)
    have B9 := Lib.hid (B2.out.trans (hb9.mono B2.out.size))
    clear hb9
    have z0 := R9.out.free 0
    have z1 := R9.out.free 1
    have z2 := R9.out.free 2
    have z3 := R9.out.free 3
    have z4 := R9.out.free 4
    have z5 := R9.out.free 5
    have p0 : w9.cell? ⟨br, 0, none⟩ = some (.string ⟨#[]⟩) := R9.out.cell 0
    have p1 : w9.cell? ⟨br, 1, none⟩ = some (.bool false) := R9.out.cell 1
    have p2 : w9.cell? ⟨br, 2, none⟩ = some (.slice none 0 0) := R9.out.cell 2
    have p3 : w9.cell? ⟨br, 3, none⟩ = some (.int .i64 0) := R9.out.cell 3
    have p4 : w9.cell? ⟨br, 4, none⟩ = some (.bool false) := R9.out.cell 4
    have p5 : w9.cell? ⟨br, 5, none⟩ = some (.int .i64 0) := R9.out.cell 5
    have PEND := Lib.hid (rh_end (T := ⟨[], false, [], 0, false, e⟩) (.string ⟨#[]⟩) (.bool false) (.slice none 0 0) (.int .i64 0) (.bool false) (.int .i64 e) B9.out hbr0 (World.ownsRow_nil _ _ _ _) (fun h => by cases h) #[.string ⟨#[]⟩, .bool false, .slice none 0 0, .int .i64 0, .bool false, .int .i64 e] rfl)
    go_wp2_with fail
    refine bodyPost_ret (v := .agg #[.string ⟨#[]⟩, .bool false, .slice none 0 0, .int .i64 0, .bool false, .int .i64 e]) (by simp [results, Tryz.results11, go_sem, p0, p1, p2, p3, p4, p5]) rfl PEND.out
  | part cur cr =>
    have hTT : T = ⟨[], false, [], L.length, false, 0⟩ := hT.trans (took_lnPart0 hq)
    rw [hq] at HRL
    unfold lnV at HRL
    simp only at HRL
    subst hTT
    obtain ⟨n1, hn1⟩ : ∃ n1, n1 = L.length := ⟨_, rfl⟩
    rw [← hn1] at HRL ⊢
    clear hstart hq hT hL hz L0 hn1
    go_enter Tryz.func11, Tryz.ntmps11
    go_wp2_with fail
    with_reducible refine (HRL.out _).mono ?_
    rintro x w1 ⟨rfl, hb1⟩
    have hB1 := HL0.out.trans (hb1.mono HL0.out.size)
    have hB2 := hB1.alloc hB1.size (.cells #[.string (bs cur), .int .i64 (n1 : Int), .bool false, .int .i64 0] 69)
    have B3 := Lib.hid (hB2.alloc hB2.size (.cells #[.string ⟨#[]⟩, .bool false, .slice none 0 0, .int .i64 (n1 : Int), .bool false, .int .i64 0] 37))
    have R3 := Lib.hid (((HR0.out.below hb1).alloc (.cells #[.string (bs cur), .int .i64 (n1 : Int), .bool false, .int .i64 0] 69)).alloc (.cells #[.string ⟨#[]⟩, .bool false, .slice none 0 0, .int .i64 (n1 : Int), .bool false, .int .i64 0] 37))
    have RH := Row.new (w1.alloc (.cells #[.string (bs cur), .int .i64 (n1 : Int), .bool false, .int .i64 0] 69)) 37 #[.string ⟨#[]⟩, .bool false, .slice none 0 0, .int .i64 (n1 : Int), .bool false, .int .i64 0]
    rw [show (w1.alloc (.cells #[.string (bs cur), .int .i64 (n1 : Int), .bool false, .int .i64 0] 69)).heap.size = w1.heap.size + 1 by simp] at RH
    clear HR0 HL0 hb1 hB1 hB2
    go_upto_region 6 with fail
    obtain ⟨bh, hbh⟩ : ∃ bh, bh = w1.heap.size + 1 := ⟨_, rfl⟩
    rw [← hbh] at RH ⊢
    generalize (w1.alloc (.cells #[.string (bs cur), .int .i64 (n1 : Int), .bool false, .int .i64 0] 69)).alloc (.cells #[.string ⟨#[]⟩, .bool false, .slice none 0 0, .int .i64 (n1 : Int), .bool false, .int .i64 0] 37) = w2 at *
    have d0 : w2.cell? ⟨bh, 0, none⟩ = some (.string ⟨#[]⟩) := RH.cell 0
    have d1 : w2.cell? ⟨bh, 1, none⟩ = some (.bool false) := RH.cell 1
    have d2 : w2.cell? ⟨bh, 2, none⟩ = some (.slice none 0 0) := RH.cell 2
    have d3 : w2.cell? ⟨bh, 3, none⟩ = some (.int .i64 (n1 : Int)) := RH.cell 3
    have d4 : w2.cell? ⟨bh, 4, none⟩ = some (.bool false) := RH.cell 4
    have d5 : w2.cell? ⟨bh, 5, none⟩ = some (.int .i64 0) := RH.cell 5
    obtain ⟨br, hbr⟩ : ∃ br, br = w.heap.size + 1 := ⟨_, rfl⟩
    rw [← hbr] at R3 ⊢
    have hbr0 : w.heap.size ≤ br := by omega
    clear hbh hbr RH
    have z0 := R3.out.free 0
    have z1 := R3.out.free 1
    have z2 := R3.out.free 2
    have z3 := R3.out.free 3
    have z4 := R3.out.free 4
    have z5 := R3.out.free 5
    have p0 : w2.cell? ⟨br, 0, none⟩ = some (.string ⟨#[]⟩) := R3.out.cell 0
    have p1 : w2.cell? ⟨br, 1, none⟩ = some (.bool false) := R3.out.cell 1
    have p2 : w2.cell? ⟨br, 2, none⟩ = some (.slice none 0 0) := R3.out.cell 2
    have p3 : w2.cell? ⟨br, 3, none⟩ = some (.int .i64 0) := R3.out.cell 3
    have p4 : w2.cell? ⟨br, 4, none⟩ = some (.bool false) := R3.out.cell 4
    have p5 : w2.cell? ⟨br, 5, none⟩ = some (.int .i64 0) := R3.out.cell 5
    have PEND := Lib.hid (rh_end (T := ⟨[], false, [], n1, false, 0⟩) (.string ⟨#[]⟩) (.bool false) (.slice none 0 0) (.int .i64 (n1 : Int)) (.bool false) (.int .i64 0) B3.out hbr0 (World.ownsRow_nil _ _ _ _) (fun h => by cases h) #[.string ⟨#[]⟩, .bool false, .slice none 0 0, .int .i64 (n1 : Int), .bool false, .int .i64 0] rfl)
    go_wp2_with fail
    refine bodyPost_ret (v := .agg #[.string ⟨#[]⟩, .bool false, .slice none 0 0, .int .i64 (n1 : Int), .bool false, .int .i64 0]) (by simp [results, Tryz.results11, go_sem, p0, p1, p2, p3, p4, p5]) rfl PEND.out
  | whole s1 =>
    rw [hq] at HRL
    unfold lnV at HRL
    simp only at HRL
    have hn2 := rlGo_len _ _ _ _ hq
    rw [List.length_nil, Nat.zero_add] at hn2
    have hat := atLine_next hstart hq (fo2 := some s1) (fs2 := []) (sz2 := 0) (by simp [HdL.close, anyFirst])
    rw [Nat.zero_add] at hat
    obtain ⟨n1, hn1⟩ : ∃ n1, n1 = s1.length + 2 := ⟨_, rfl⟩
    rw [← hn1] at HRL hat hn2
    obtain ⟨F, hF⟩ : ∃ F, F = bs s1 := ⟨_, rfl⟩
    rw [← hF] at HRL
    have HF := Lib.hid hF
    have HTT := Lib.hid hT
    have HAT := Lib.hid hat
    have HL' := Lib.hid hL
    have HZ := Lib.hid hz
    clear hstart hq hT hL hz L0 hn1 hat hF
    go_enter Tryz.func11, Tryz.ntmps11
    go_wp2_with fail
    with_reducible refine (HRL.out _).mono ?_
    rintro x w1 ⟨rfl, hb1⟩
    have hB1 := HL0.out.trans (hb1.mono HL0.out.size)
    have hB2 := hB1.alloc hB1.size (.cells #[.string F, .int .i64 (n1 : Int), .bool true, .int .i64 0] 69)
    have B3 := hB2.alloc hB2.size (.cells #[.string F, .bool true, .slice none 0 0, .int .i64 (n1 : Int), .bool false, .int .i64 0] 37)
    have RR3 := ((HR0.out.below hb1).alloc (.cells #[.string F, .int .i64 (n1 : Int), .bool true, .int .i64 0] 69)).alloc (.cells #[.string F, .bool true, .slice none 0 0, .int .i64 (n1 : Int), .bool false, .int .i64 0] 37)
    have RL3 := ((HRL0.out.below hb1).alloc (.cells #[.string F, .int .i64 (n1 : Int), .bool true, .int .i64 0] 69)).alloc (.cells #[.string F, .bool true, .slice none 0 0, .int .i64 (n1 : Int), .bool false, .int .i64 0] 37)
    have RX3 := (Row.new w1 69 #[.string F, .int .i64 (n1 : Int), .bool true, .int .i64 0]).alloc (.cells #[.string F, .bool true, .slice none 0 0, .int .i64 (n1 : Int), .bool false, .int .i64 0] 37)
    have RH3 := Row.new (w1.alloc (.cells #[.string F, .int .i64 (n1 : Int), .bool true, .int .i64 0] 69)) 37 #[.string F, .bool true, .slice none 0 0, .int .i64 (n1 : Int), .bool false, .int .i64 0]
    rw [show (w1.alloc (.cells #[.string F, .int .i64 (n1 : Int), .bool true, .int .i64 0] 69)).heap.size = w1.heap.size + 1 by simp] at RH3
    have hs1 := hb1.size
    rw [show ((w.alloc (.cells #[.int .i64 l, .int .i64 h, .int .i64 c, .int .i64 b] 24)).alloc (.cells #[.string ⟨#[]⟩, .bool false, .slice none 0 0, .int .i64 0, .bool false, .int .i64 0] 37)).heap.size = w.heap.size + 2 by simp] at hs1
    have hs3 : ((w1.alloc (.cells #[.string F, .int .i64 (n1 : Int), .bool true, .int .i64 0] 69)).alloc (.cells #[.string F, .bool true, .slice none 0 0, .int .i64 (n1 : Int), .bool false, .int .i64 0] 37)).heap.size = w1.heap.size + 2 := by simp
    have D : Hid (RhD w w.heap.size (w.heap.size + 1) w1.heap.size (w1.heap.size + 1) (w1.heap.size + 2)) := ⟨by omega, by omega, by omega, by omega, by omega, by omega, by omega, by omega, by omega, by omega, by omega, by omega, by omega⟩
    have M0 : Hid (RhM w w.heap.size (w.heap.size + 1) w1.heap.size (w1.heap.size + 1) (w1.heap.size + 2) l h c b #[.string F, .int .i64 (n1 : Int), .bool true, .int .i64 0] #[.string F, .bool true, .slice none 0 0, .int .i64 (n1 : Int), .bool false, .int .i64 0] (.slice none 0 0) [] ((w1.alloc (.cells #[.string F, .int .i64 (n1 : Int), .bool true, .int .i64 0] 69)).alloc (.cells #[.string F, .bool true, .slice none 0 0, .int .i64 (n1 : Int), .bool false, .int .i64 0] 37))) := ⟨B3, RL3, RR3, RX3, RH3, World.ownsRow_nil _ _ _ _, by omega⟩
    clear HR0 HRL0 HL0 hb1 hB1 hB2 B3 RR3 RL3 RX3 RH3 hs1 hs3
    go_wp2_with (go_at_call 27; refine (may27 _ _).mono ?_; rintro _ _ ⟨rfl, rfl⟩)
    obtain ⟨br, hbr⟩ : ∃ br, br = w.heap.size + 1 := ⟨_, rfl⟩
    obtain ⟨bh, hbh⟩ : ∃ bh, bh = w1.heap.size + 1 := ⟨_, rfl⟩
    obtain ⟨bx, hbx⟩ : ∃ bx, bx = w1.heap.size := ⟨_, rfl⟩
    obtain ⟨bl, hbl⟩ : ∃ bl, bl = w.heap.size := ⟨_, rfl⟩
    obtain ⟨B, hB⟩ : ∃ B, B = w1.heap.size + 2 := ⟨_, rfl⟩
    rw [← hB, ← hbh, ← hbr, ← hbx, ← hbl] at D M0
    rw [← hbh, ← hbr, ← hbx, ← hbl]
    have hbr0 : w.heap.size ≤ br := by omega
    have hB0 : w.heap.size ≤ B := by have := D.out.r0; have := D.out.rB; omega
    have hrB : br < B := D.out.rB
    generalize (w1.alloc (.cells #[.string F, .int .i64 (n1 : Int), .bool true, .int .i64 0] 69)).alloc (.cells #[.string F, .bool true, .slice none 0 0, .int .i64 (n1 : Int), .bool false, .int .i64 0] 37) = W0 at *
    clear hB hbh hbr hbx hbl HRL
    obtain ⟨i0, hi, hz0, hz1, hz2⟩ := info_parts infoRf
    have hn1z := hn2
    go_loopw [9] (fun zv wr => ∃ (k sz : Nat) (fs : List Fld) (v x0 x1 x2 x3 : Value), zv = .int .i64 (sz : Int) ∧ Hid (AtLine ⟨l, h, c⟩ anyFirst L k (some s1) fs sz) ∧ k ≤ L.length ∧ sz ≤ k ∧ fs.length ≤ k ∧ Hid (RhM w bl br bx bh B l h c b #[x0, x1, x2, x3] #[.string F, .bool true, v, .int .i64 (k : Int), .bool false, .int .i64 0] v fs wr)) (fun _ wr => L.length - cellN wr bh)
    case atStart => exact ⟨n1, 0, [], _, _, _, _, _, rfl, HAT, by omega, by omega, by simp, M0⟩
    case round =>
      clear M0 HAT hn1z
      obtain ⟨k, sz, fs, v, x0, x1, x2, x3, rfl, HA, hk, hsk, hfk, HM⟩ := hrel
      have hov := HM.out.own
      obtain ⟨va, vc, rfl⟩ := own_slice hov
      have hnil : va = none → vc = 0 ∧ fs = [] := fun ha => ⟨(own_nilF hov ha).1, List.eq_nil_of_length_eq_zero (own_nilF hov ha).2⟩
      have HNIL := Lib.hid hnil
      have hvk : ∀ j, (Value.slice va fs.length vc).ownBlock = some j → B ≤ j := fun j hj => (hov.lt j hj).1
      have HVK := Lib.hid hvk
      have ck : wr.cell? ⟨bh, 3, none⟩ = some (.int .i64 (k : Int)) := HM.out.rh.cell 3
      have ch : wr.cell? ⟨bl, 1, none⟩ = some (.int .i64 h) := HM.out.rl.cell 1
      have HCK := Lib.hid (cellN_of ck)
      have hsz : s.size = L.length := HZ.out
      have hk1 : k ≤ 1000000 := by omega
      have hk2 : (k : Int) ≤ s.size := by omega
      have hk3 : k ≤ s.size := by omega
      have hwr : IntKind.i64.wrap (max 0 h - (sz : Int)) = max 0 h - (sz : Int) := IntWalk.i64_in _ (by omega)
      obtain ⟨y, hy⟩ : ∃ y, y = s.extract k s.size := ⟨_, rfl⟩
      have hyx : s.extract k s.size = y := hy.symm
      have hyl : y.data.toList = L.drop k := by rw [hy, extractL, ← HL'.out, List.take_of_length_le (by rw [List.length_drop, hsz]; exact Nat.le_refl _)]
      have hyz : y.size ≤ 1000000 := by rw [Lib.size_eq, hyl, List.length_drop]; omega
      have HR := Lib.hid (fun W => rline25 y hyz (max 0 h - (sz : Int)) W)
      rw [hyl] at HR
      have HSZ := Lib.hid hsz
      have HDN : Hid (∀ (W : World) k, Below W.heap.size W (W.drewN k)) := fun W k => ⟨rfl, rfl, rfl, Nat.le_refl _, fun _ _ => rfl⟩
      clear hov hnil hvk hy hyl hyz hsz
      cases hr : rlGo (max 0 h - (sz : Int)) [] (L.drop k) with
      | err e =>
        have hTT : T = ⟨[], false, [], 0, false, e⟩ := HTT.out.trans (took_lnErr HA.out hr)
        have he2 : (e != 0) = true := by rcases rl_err hr with rfl | rfl <;> rfl
        rw [hr] at HR
        subst hTT
        clear hr HTT
        unfold lnV at HR
        simp only at HR
        go_wp2_with fail
        refine region_tail 9 (by kernel_rfl) (by kernel_rfl) ?_
        simp only [List.take_succ_cons, List.take_zero, List.drop_succ_cons, List.drop_zero]
        repeat still_step
        refine still_tail_nil ?_
        go_wp2_with fail
        with_reducible refine (HR.out _).mono ?_
        rintro x5 w5 ⟨rfl, hb5⟩
        have hm5 := (HM.out.below (w' := wr.drew) (HDN.out wr 1)).below hb5
        have z0 := hm5.rx.free 0
        have z1 := hm5.rx.free 1
        have z2 := hm5.rx.free 2
        have z3 := hm5.rx.free 3
        have p0 : w5.cell? ⟨bx, 0, none⟩ = some x0 := hm5.rx.cell 0
        have p1 : w5.cell? ⟨bx, 1, none⟩ = some x1 := hm5.rx.cell 1
        have p2 : w5.cell? ⟨bx, 2, none⟩ = some x2 := hm5.rx.cell 2
        have p3 : w5.cell? ⟨bx, 3, none⟩ = some x3 := hm5.rx.cell 3
        have hm6 := ((((hm5.setX D.out 0 (.string ⟨#[]⟩)).setX D.out 1 (.int .i64 0)).setX D.out 2 (.bool false)).setX D.out 3 (.int .i64 e))
        have HM6 : Hid (RhM w bl br bx bh B l h c b #[.string ⟨#[]⟩, .int .i64 0, .bool false, .int .i64 e] #[.string F, .bool true, .slice va fs.length vc, .int .i64 (k : Int), .bool false, .int .i64 0] (.slice va fs.length vc) fs ((((w5.setCell ⟨bx, 0, none⟩ (.string ⟨#[]⟩)).setCell ⟨bx, 1, none⟩ (.int .i64 0)).setCell ⟨bx, 2, none⟩ (.bool false)).setCell ⟨bx, 3, none⟩ (.int .i64 e))) := hm6
        clear hm5 hm6 hb5 HR HM ck ch hwr
        go_upto_region 13 with fail
        clear z0 z1 z2 z3 p0 p1 p2 p3
        generalize (((w5.setCell ⟨bx, 0, none⟩ (.string ⟨#[]⟩)).setCell ⟨bx, 1, none⟩ (.int .i64 0)).setCell ⟨bx, 2, none⟩ (.bool false)).setCell ⟨bx, 3, none⟩ (.int .i64 e) = w6 at *
        have q0 : w6.cell? ⟨bx, 0, none⟩ = some (.string ⟨#[]⟩) := HM6.out.rx.cell 0
        have q1 : w6.cell? ⟨bx, 1, none⟩ = some (.int .i64 0) := HM6.out.rx.cell 1
        have q2 : w6.cell? ⟨bx, 2, none⟩ = some (.bool false) := HM6.out.rx.cell 2
        have q3 : w6.cell? ⟨bx, 3, none⟩ = some (.int .i64 e) := HM6.out.rx.cell 3
        have RR := Lib.hid HM6.out.rr
        have BB := Lib.hid HM6.out.bel
        go_wp2_with fail
        with_reducible refine (bad26 e w6).mono ?_
        rintro x9 w9 ⟨rfl, hb9⟩
        have R9 := Lib.hid (RR.out.below hb9)
        have B9 := Lib.hid (BB.out.trans (hb9.mono BB.out.size))
        clear hb9
        have z0 := R9.out.free 0
        have z1 := R9.out.free 1
        have z2 := R9.out.free 2
        have z3 := R9.out.free 3
        have z4 := R9.out.free 4
        have z5 := R9.out.free 5
        have p0 : w9.cell? ⟨br, 0, none⟩ = some (.string ⟨#[]⟩) := R9.out.cell 0
        have p1 : w9.cell? ⟨br, 1, none⟩ = some (.bool false) := R9.out.cell 1
        have p2 : w9.cell? ⟨br, 2, none⟩ = some (.slice none 0 0) := R9.out.cell 2
        have p3 : w9.cell? ⟨br, 3, none⟩ = some (.int .i64 0) := R9.out.cell 3
        have p4 : w9.cell? ⟨br, 4, none⟩ = some (.bool false) := R9.out.cell 4
        have p5 : w9.cell? ⟨br, 5, none⟩ = some (.int .i64 0) := R9.out.cell 5
        have PEND := Lib.hid (rh_end (T := ⟨[], false, [], 0, false, e⟩) (.string ⟨#[]⟩) (.bool false) (.slice none 0 0) (.int .i64 0) (.bool false) (.int .i64 e) B9.out hbr0 (World.ownsRow_nil _ _ _ _) (fun h => by cases h) #[.string ⟨#[]⟩, .bool false, .slice none 0 0, .int .i64 0, .bool false, .int .i64 e] rfl)
        go_wp2_with fail
        refine bodyPost_ret (v := .agg #[.string ⟨#[]⟩, .bool false, .slice none 0 0, .int .i64 0, .bool false, .int .i64 e]) (by simp [results, Tryz.results11, go_sem, p0, p1, p2, p3, p4, p5]) rfl PEND.out
      | part cur cr =>
        have hTT : T = ⟨s1, true, fs, L.length, false, 0⟩ := HTT.out.trans (took_lnPart HA.out hr)
        rw [hr] at HR
        subst hTT
        obtain ⟨m, hm⟩ : ∃ m, m = L.length := ⟨_, rfl⟩
        obtain ⟨n2, hn2'⟩ : ∃ n2, n2 = (L.drop k).length := ⟨_, rfl⟩
        have hkn : (k : Int) + (n2 : Int) = (m : Int) := by rw [hn2', List.length_drop, hm]; omega
        have hmb : m ≤ 1000000 := by rw [hm, ← HSZ.out]; exact hs
        have hnb2 : n2 ≤ 1000000 := by omega
        unfold lnV at HR
        simp only at HR
        rw [← hn2'] at HR
        rw [← hm]
        clear hr HTT hm hn2'
        go_wp2_with fail
        refine region_tail 9 (by kernel_rfl) (by kernel_rfl) ?_
        simp only [List.take_succ_cons, List.take_zero, List.drop_succ_cons, List.drop_zero]
        repeat still_step
        refine still_tail_nil ?_
        go_wp2_with fail
        with_reducible refine (HR.out _).mono ?_
        rintro x5 w5 ⟨rfl, hb5⟩
        have hm5 := (HM.out.below (w' := wr.drew) (HDN.out wr 1)).below hb5
        have z0 := hm5.rx.free 0
        have z1 := hm5.rx.free 1
        have z2 := hm5.rx.free 2
        have z3 := hm5.rx.free 3
        have p0 : w5.cell? ⟨bx, 0, none⟩ = some x0 := hm5.rx.cell 0
        have p1 : w5.cell? ⟨bx, 1, none⟩ = some x1 := hm5.rx.cell 1
        have p2 : w5.cell? ⟨bx, 2, none⟩ = some x2 := hm5.rx.cell 2
        have p3 : w5.cell? ⟨bx, 3, none⟩ = some x3 := hm5.rx.cell 3
        have hm6 := ((((hm5.setX D.out 0 (.string (bs cur))).setX D.out 1 (.int .i64 (n2 : Int))).setX D.out 2 (.bool false)).setX D.out 3 (.int .i64 0))
        have HM6 : Hid (RhM w bl br bx bh B l h c b #[.string (bs cur), .int .i64 (n2 : Int), .bool false, .int .i64 0] #[.string F, .bool true, .slice va fs.length vc, .int .i64 (k : Int), .bool false, .int .i64 0] (.slice va fs.length vc) fs ((((w5.setCell ⟨bx, 0, none⟩ (.string (bs cur))).setCell ⟨bx, 1, none⟩ (.int .i64 (n2 : Int))).setCell ⟨bx, 2, none⟩ (.bool false)).setCell ⟨bx, 3, none⟩ (.int .i64 0))) := hm6
        clear hm5 hm6 hb5 HR HM ck ch hwr
        go_upto_region 13 with fail
        clear z0 z1 z2 z3 p0 p1 p2 p3
        generalize (((w5.setCell ⟨bx, 0, none⟩ (.string (bs cur))).setCell ⟨bx, 1, none⟩ (.int .i64 (n2 : Int))).setCell ⟨bx, 2, none⟩ (.bool false)).setCell ⟨bx, 3, none⟩ (.int .i64 0) = w6 at *
        have q0 : w6.cell? ⟨bx, 0, none⟩ = some (.string (bs cur)) := HM6.out.rx.cell 0
        have q1 : w6.cell? ⟨bx, 1, none⟩ = some (.int .i64 (n2 : Int)) := HM6.out.rx.cell 1
        have q2 : w6.cell? ⟨bx, 2, none⟩ = some (.bool false) := HM6.out.rx.cell 2
        have q3 : w6.cell? ⟨bx, 3, none⟩ = some (.int .i64 0) := HM6.out.rx.cell 3
        have ck : w6.cell? ⟨bh, 3, none⟩ = some (.int .i64 (k : Int)) := HM6.out.rh.cell 3
        have fk := HM6.out.rh.free 3
        have HM7 : Hid (RhM w bl br bx bh B l h c b #[.string (bs cur), .int .i64 (n2 : Int), .bool false, .int .i64 0] #[.string F, .bool true, .slice va fs.length vc, .int .i64 (m : Int), .bool false, .int .i64 0] (.slice va fs.length vc) fs (w6.setCell ⟨bh, 3, none⟩ (.int .i64 (m : Int)))) := HM6.out.setH D.out 3 (.int .i64 (m : Int))
        go_upto_region 16 with fail
        clear q0 q1 q2 q3 ck fk HM6
        generalize w6.setCell ⟨bh, 3, none⟩ (.int .i64 (m : Int)) = w7 at *
        have q0 : w7.cell? ⟨bx, 0, none⟩ = some (.string (bs cur)) := HM7.out.rx.cell 0
        have q2 : w7.cell? ⟨bx, 2, none⟩ = some (.bool false) := HM7.out.rx.cell 2
        have d0 : w7.cell? ⟨bh, 0, none⟩ = some (.string F) := HM7.out.rh.cell 0
        have d1 : w7.cell? ⟨bh, 1, none⟩ = some (.bool true) := HM7.out.rh.cell 1
        have d2 : w7.cell? ⟨bh, 2, none⟩ = some (.slice va fs.length vc) := HM7.out.rh.cell 2
        have d3 : w7.cell? ⟨bh, 3, none⟩ = some (.int .i64 (m : Int)) := HM7.out.rh.cell 3
        have d4 : w7.cell? ⟨bh, 4, none⟩ = some (.bool false) := HM7.out.rh.cell 4
        have d5 : w7.cell? ⟨bh, 5, none⟩ = some (.int .i64 0) := HM7.out.rh.cell 5
        have RR := Lib.hid HM7.out.rr
        have BB := Lib.hid HM7.out.bel
        have OO := Lib.hid (own_mono HM7.out.own hB0)
        have hnb : (Value.slice va fs.length vc).ownBlock ≠ some br := fun e => by have := HVK.out br e; omega
        have z0 := RR.out.free 0
        have z1 := RR.out.free 1
        have z2 := RR.out.free 2
        have z3 := RR.out.free 3
        have z4 := RR.out.free 4
        have z5 := RR.out.free 5
        have p0 : w7.cell? ⟨br, 0, none⟩ = some (.string ⟨#[]⟩) := RR.out.cell 0
        have p1 : w7.cell? ⟨br, 1, none⟩ = some (.bool false) := RR.out.cell 1
        have p2 : w7.cell? ⟨br, 2, none⟩ = some (.slice none 0 0) := RR.out.cell 2
        have p3 : w7.cell? ⟨br, 3, none⟩ = some (.int .i64 0) := RR.out.cell 3
        have p4 : w7.cell? ⟨br, 4, none⟩ = some (.bool false) := RR.out.cell 4
        have p5 : w7.cell? ⟨br, 5, none⟩ = some (.int .i64 0) := RR.out.cell 5
        have PEND := Lib.hid (rh_end (T := ⟨s1, true, fs, m, false, 0⟩) (.string F) (.bool true) (.slice va fs.length vc) (.int .i64 (m : Int)) (.bool false) (.int .i64 0) BB.out hbr0 OO.out hnb #[.string F, .bool true, .slice va fs.length vc, .int .i64 (m : Int), .bool false, .int .i64 0] (by rw [HF.out]))
        go_wp2_with fail
        refine bodyPost_ret (v := .agg #[.string F, .bool true, .slice va fs.length vc, .int .i64 (m : Int), .bool false, .int .i64 0]) (by simp [results, Tryz.results11, go_sem, p0, p1, p2, p3, p4, p5]) rfl PEND.out
      | whole s2 =>
        have hn3 := rlGo_len _ _ _ _ hr
        rw [List.length_nil, Nat.zero_add, List.length_drop] at hn3
        rw [hr] at HR
        obtain ⟨n2, hn2'⟩ : ∃ n2, n2 = s2.length + 2 := ⟨_, rfl⟩
        obtain ⟨k2, hk2'⟩ : ∃ k2, k2 = k + s2.length + 2 := ⟨_, rfl⟩
        have hkn : (k : Int) + (n2 : Int) = (k2 : Int) := by omega
        have hkb : k2 ≤ 1000000 := by have := HSZ.out; omega
        have hnb2 : n2 ≤ 1000000 := by omega
        have HK2 := Lib.hid hk2'
        have hk2L : k2 ≤ L.length := by omega
        have hkk : k < k2 := by omega
        have HR2 := Lib.hid hr
        clear hr hn3
        obtain ⟨S2, hS2⟩ : ∃ S2, S2 = bs s2 := ⟨_, rfl⟩
        unfold lnV at HR
        simp only at HR
        rw [← hn2', ← hS2] at HR
        have HS2 := Lib.hid hS2
        clear hn2' hk2' hS2
        go_wp2_with fail
        refine region_tail 9 (by kernel_rfl) (by kernel_rfl) ?_
        simp only [List.take_succ_cons, List.take_zero, List.drop_succ_cons, List.drop_zero]
        repeat still_step
        refine still_tail_nil ?_
        go_wp2_with fail
        with_reducible refine (HR.out _).mono ?_
        rintro x5 w5 ⟨rfl, hb5⟩
        have hm5 := (HM.out.below (w' := wr.drew) (HDN.out wr 1)).below hb5
        have z0 := hm5.rx.free 0
        have z1 := hm5.rx.free 1
        have z2 := hm5.rx.free 2
        have z3 := hm5.rx.free 3
        have p0 : w5.cell? ⟨bx, 0, none⟩ = some x0 := hm5.rx.cell 0
        have p1 : w5.cell? ⟨bx, 1, none⟩ = some x1 := hm5.rx.cell 1
        have p2 : w5.cell? ⟨bx, 2, none⟩ = some x2 := hm5.rx.cell 2
        have p3 : w5.cell? ⟨bx, 3, none⟩ = some x3 := hm5.rx.cell 3
        have hm6 := ((((hm5.setX D.out 0 (.string S2)).setX D.out 1 (.int .i64 (n2 : Int))).setX D.out 2 (.bool true)).setX D.out 3 (.int .i64 0))
        have HM6 : Hid (RhM w bl br bx bh B l h c b #[.string S2, .int .i64 (n2 : Int), .bool true, .int .i64 0] #[.string F, .bool true, .slice va fs.length vc, .int .i64 (k : Int), .bool false, .int .i64 0] (.slice va fs.length vc) fs ((((w5.setCell ⟨bx, 0, none⟩ (.string S2)).setCell ⟨bx, 1, none⟩ (.int .i64 (n2 : Int))).setCell ⟨bx, 2, none⟩ (.bool true)).setCell ⟨bx, 3, none⟩ (.int .i64 0))) := hm6
        clear hm5 hm6 hb5 HR HM ck ch hwr
        go_upto_region 13 with fail
        clear z0 z1 z2 z3 p0 p1 p2 p3
        generalize (((w5.setCell ⟨bx, 0, none⟩ (.string S2)).setCell ⟨bx, 1, none⟩ (.int .i64 (n2 : Int))).setCell ⟨bx, 2, none⟩ (.bool true)).setCell ⟨bx, 3, none⟩ (.int .i64 0) = w6 at *
        have q0 : w6.cell? ⟨bx, 0, none⟩ = some (.string S2) := HM6.out.rx.cell 0
        have q1 : w6.cell? ⟨bx, 1, none⟩ = some (.int .i64 (n2 : Int)) := HM6.out.rx.cell 1
        have q2 : w6.cell? ⟨bx, 2, none⟩ = some (.bool true) := HM6.out.rx.cell 2
        have q3 : w6.cell? ⟨bx, 3, none⟩ = some (.int .i64 0) := HM6.out.rx.cell 3
        have ck : w6.cell? ⟨bh, 3, none⟩ = some (.int .i64 (k : Int)) := HM6.out.rh.cell 3
        have fk := HM6.out.rh.free 3
        have HM7 : Hid (RhM w bl br bx bh B l h c b #[.string S2, .int .i64 (n2 : Int), .bool true, .int .i64 0] #[.string F, .bool true, .slice va fs.length vc, .int .i64 (k2 : Int), .bool false, .int .i64 0] (.slice va fs.length vc) fs (w6.setCell ⟨bh, 3, none⟩ (.int .i64 (k2 : Int)))) := HM6.out.setH D.out 3 (.int .i64 (k2 : Int))
        go_upto_region 16 with fail
        clear q0 q1 q2 q3 ck fk HM6
        generalize w6.setCell ⟨bh, 3, none⟩ (.int .i64 (k2 : Int)) = w7 at *
        have q0 : w7.cell? ⟨bx, 0, none⟩ = some (.string S2) := HM7.out.rx.cell 0
        have q2 : w7.cell? ⟨bx, 2, none⟩ = some (.bool true) := HM7.out.rx.cell 2
        by_cases h0 : s2 = []
        · skip
          obtain rfl : S2 = ⟨#[]⟩ := by rw [HS2.out, h0]; rfl
          have hTT : T = ⟨s1, true, fs, k2, true, 0⟩ := by
            have h1 := HR2.out
            rw [h0] at h1
            rw [HTT.out, took_whole HA.out h1, HK2.out, h0]
            rfl
          subst hTT
          have fk := HM7.out.rh.free 4
          have ck : w7.cell? ⟨bh, 4, none⟩ = some (.bool false) := HM7.out.rh.cell 4
          have HM8 : Hid (RhM w bl br bx bh B l h c b #[.string ⟨#[]⟩, .int .i64 (n2 : Int), .bool true, .int .i64 0] #[.string F, .bool true, .slice va fs.length vc, .int .i64 (k2 : Int), .bool true, .int .i64 0] (.slice va fs.length vc) fs (w7.setCell ⟨bh, 4, none⟩ (.bool true))) := HM7.out.setH D.out 4 (.bool true)
          clear HTT HR2 h0
          go_upto_region 20 with fail
          clear q0 q2 ck fk HM7
          generalize w7.setCell ⟨bh, 4, none⟩ (.bool true) = w8 at *
          have d0 : w8.cell? ⟨bh, 0, none⟩ = some (.string F) := HM8.out.rh.cell 0
          have d1 : w8.cell? ⟨bh, 1, none⟩ = some (.bool true) := HM8.out.rh.cell 1
          have d2 : w8.cell? ⟨bh, 2, none⟩ = some (.slice va fs.length vc) := HM8.out.rh.cell 2
          have d3 : w8.cell? ⟨bh, 3, none⟩ = some (.int .i64 (k2 : Int)) := HM8.out.rh.cell 3
          have d4 : w8.cell? ⟨bh, 4, none⟩ = some (.bool true) := HM8.out.rh.cell 4
          have d5 : w8.cell? ⟨bh, 5, none⟩ = some (.int .i64 0) := HM8.out.rh.cell 5
          have RR := Lib.hid HM8.out.rr
          have BB := Lib.hid HM8.out.bel
          have OO := Lib.hid (own_mono HM8.out.own hB0)
          have hnb : (Value.slice va fs.length vc).ownBlock ≠ some br := fun e => by have := HVK.out br e; omega
          have z0 := RR.out.free 0
          have z1 := RR.out.free 1
          have z2 := RR.out.free 2
          have z3 := RR.out.free 3
          have z4 := RR.out.free 4
          have z5 := RR.out.free 5
          have p0 : w8.cell? ⟨br, 0, none⟩ = some (.string ⟨#[]⟩) := RR.out.cell 0
          have p1 : w8.cell? ⟨br, 1, none⟩ = some (.bool false) := RR.out.cell 1
          have p2 : w8.cell? ⟨br, 2, none⟩ = some (.slice none 0 0) := RR.out.cell 2
          have p3 : w8.cell? ⟨br, 3, none⟩ = some (.int .i64 0) := RR.out.cell 3
          have p4 : w8.cell? ⟨br, 4, none⟩ = some (.bool false) := RR.out.cell 4
          have p5 : w8.cell? ⟨br, 5, none⟩ = some (.int .i64 0) := RR.out.cell 5
          have PEND := Lib.hid (rh_end (T := ⟨s1, true, fs, k2, true, 0⟩) (.string F) (.bool true) (.slice va fs.length vc) (.int .i64 (k2 : Int)) (.bool true) (.int .i64 0) BB.out hbr0 OO.out hnb #[.string F, .bool true, .slice va fs.length vc, .int .i64 (k2 : Int), .bool true, .int .i64 0] (by rw [HF.out]))
          go_wp2_with fail
          refine bodyPost_ret (v := .agg #[.string F, .bool true, .slice va fs.length vc, .int .i64 (k2 : Int), .bool true, .int .i64 0]) (by simp [results, Tryz.results11, go_sem, p0, p1, p2, p3, p4, p5]) rfl PEND.out
        · skip
          have hne : 0 < S2.size := by rw [HS2.out, bs_size]; exact List.length_pos_iff.2 h0
          have e1 := emp_false S2 hne
          have hSz : S2.size = s2.length := by rw [HS2.out, bs_size]
          obtain ⟨z2, hz2'⟩ : ∃ z2, z2 = sz + (S2.size + 2) := ⟨_, rfl⟩
          have hz3 : (sz : Int) + ((S2.size : Int) + 2) = (z2 : Int) := by omega
          have hz5 : S2.size ≤ 1000000 := by have := HK2.out; omega
          have HZ2 : Hid (z2 = sz + s2.length + 2) := by show _ = _; omega
          have hzk : z2 ≤ k2 := by have := HK2.out; have := HZ2.out; omega
          have ch : w7.cell? ⟨bl, 1, none⟩ = some (.int .i64 h) := HM7.out.rl.cell 1
          have cc : w7.cell? ⟨bl, 2, none⟩ = some (.int .i64 c) := HM7.out.rl.cell 2
          have d2 : w7.cell? ⟨bh, 2, none⟩ = some (.slice va fs.length vc) := HM7.out.rh.cell 2
          have RR := Lib.hid HM7.out.rr
          have BB := Lib.hid HM7.out.bel
          have hfl : fs.length ≤ 1000000 := by omega
          by_cases hbig : max 0 h < (z2 : Int) ∨ max 0 c ≤ (fs.length : Int)
          · have hTT : T = ⟨[], false, [], 0, false, 4⟩ := by
              rw [HTT.out]
              refine took_stop HA.out HR2.out ?_
              simp only [HdL.close]
              rw [if_neg h0, if_pos (by rw [← HZ2.out]; exact hbig)]
            subst hTT
            clear HTT HR2 h0 hz2' hSz
            by_cases hb1 : max 0 h < (z2 : Int)
            · have t1 : decide (max 0 h < (z2 : Int)) = true := decide_eq_true hb1
              clear hbig
              go_wp2_with fail
              with_reducible refine (bad26 4 w7).mono ?_
              rintro x9 w9 ⟨rfl, hb9⟩
              have R9 := Lib.hid (RR.out.below hb9)
              have B9 := Lib.hid (BB.out.trans (hb9.mono BB.out.size))
              clear hb9
              have z0 := R9.out.free 0
              have z1 := R9.out.free 1
              have z2 := R9.out.free 2
              have z3 := R9.out.free 3
              have z4 := R9.out.free 4
              have z5 := R9.out.free 5
              have p0 : w9.cell? ⟨br, 0, none⟩ = some (.string ⟨#[]⟩) := R9.out.cell 0
              have p1 : w9.cell? ⟨br, 1, none⟩ = some (.bool false) := R9.out.cell 1
              have p2 : w9.cell? ⟨br, 2, none⟩ = some (.slice none 0 0) := R9.out.cell 2
              have p3 : w9.cell? ⟨br, 3, none⟩ = some (.int .i64 0) := R9.out.cell 3
              have p4 : w9.cell? ⟨br, 4, none⟩ = some (.bool false) := R9.out.cell 4
              have p5 : w9.cell? ⟨br, 5, none⟩ = some (.int .i64 0) := R9.out.cell 5
              have PEND := Lib.hid (rh_end (T := ⟨[], false, [], 0, false, 4⟩) (.string ⟨#[]⟩) (.bool false) (.slice none 0 0) (.int .i64 0) (.bool false) (.int .i64 4) B9.out hbr0 (World.ownsRow_nil _ _ _ _) (fun h => by cases h) #[.string ⟨#[]⟩, .bool false, .slice none 0 0, .int .i64 0, .bool false, .int .i64 4] rfl)
              go_wp2_with fail
              refine bodyPost_ret (v := .agg #[.string ⟨#[]⟩, .bool false, .slice none 0 0, .int .i64 0, .bool false, .int .i64 4]) (by simp [results, Tryz.results11, go_sem, p0, p1, p2, p3, p4, p5]) rfl PEND.out
            · have t1 : decide (max 0 h < (z2 : Int)) = false := decide_eq_false hb1
              have hb2 : max 0 c ≤ (fs.length : Int) := by
                rcases hbig with h | h
                · exact absurd h hb1
                · exact h
              have t2 : decide (max 0 c ≤ (fs.length : Int)) = true := decide_eq_true hb2
              clear hbig
              go_wp2_with fail
              with_reducible refine (bad26 4 w7).mono ?_
              rintro x9 w9 ⟨rfl, hb9⟩
              have R9 := Lib.hid (RR.out.below hb9)
              have B9 := Lib.hid (BB.out.trans (hb9.mono BB.out.size))
              clear hb9
              have z0 := R9.out.free 0
              have z1 := R9.out.free 1
              have z2 := R9.out.free 2
              have z3 := R9.out.free 3
              have z4 := R9.out.free 4
              have z5 := R9.out.free 5
              have p0 : w9.cell? ⟨br, 0, none⟩ = some (.string ⟨#[]⟩) := R9.out.cell 0
              have p1 : w9.cell? ⟨br, 1, none⟩ = some (.bool false) := R9.out.cell 1
              have p2 : w9.cell? ⟨br, 2, none⟩ = some (.slice none 0 0) := R9.out.cell 2
              have p3 : w9.cell? ⟨br, 3, none⟩ = some (.int .i64 0) := R9.out.cell 3
              have p4 : w9.cell? ⟨br, 4, none⟩ = some (.bool false) := R9.out.cell 4
              have p5 : w9.cell? ⟨br, 5, none⟩ = some (.int .i64 0) := R9.out.cell 5
              have PEND := Lib.hid (rh_end (T := ⟨[], false, [], 0, false, 4⟩) (.string ⟨#[]⟩) (.bool false) (.slice none 0 0) (.int .i64 0) (.bool false) (.int .i64 4) B9.out hbr0 (World.ownsRow_nil _ _ _ _) (fun h => by cases h) #[.string ⟨#[]⟩, .bool false, .slice none 0 0, .int .i64 0, .bool false, .int .i64 4] rfl)
              go_wp2_with fail
              refine bodyPost_ret (v := .agg #[.string ⟨#[]⟩, .bool false, .slice none 0 0, .int .i64 0, .bool false, .int .i64 4]) (by simp [results, Tryz.results11, go_sem, p0, p1, p2, p3, p4, p5]) rfl PEND.out
          · have hb1 : ¬ max 0 h < (z2 : Int) := fun q => hbig (.inl q)
            have hb2 : ¬ max 0 c ≤ (fs.length : Int) := fun q => hbig (.inr q)
            have t1 : decide (max 0 h < (z2 : Int)) = false := decide_eq_false hb1
            have t2 : decide (max 0 c ≤ (fs.length : Int)) = false := decide_eq_false hb2
            have HP := Lib.hid (parse37 S2 (by omega) w7)
            rw [show S2.data.toList = s2 by rw [HS2.out, bs_list]] at HP
            unfold parseV at HP
            have HNB := Lib.hid hbig
            have H0 := Lib.hid h0
            clear hbig hz2' hSz h0
            cases hps : parseL s2 with
            | none =>
              rw [hps] at HP
              unfold fldV at HP
              simp only at HP
              have hTT : T = ⟨[], false, [], 0, false, 2⟩ := by
                rw [HTT.out]
                refine took_stop HA.out HR2.out ?_
                simp only [HdL.close]
                rw [if_neg H0.out, if_neg (by rw [← HZ2.out]; exact HNB.out), hps]
              subst hTT
              clear HTT HR2 hps
              go_wp2_with fail
              with_reducible refine HP.out.mono ?_
              rintro x8 w8 ⟨rfl, hb8⟩
              have RR8 := Lib.hid ((RR.out.below hb8).alloc (.cells #[.string (bs []), .string (bs [])] 46))
              have BB8 := Lib.hid ((BB.out.trans (hb8.mono BB.out.size)).alloc (Nat.le_trans BB.out.size hb8.size) (.cells #[.string (bs []), .string (bs [])] 46))
              clear hb8 HP
              go_upto_region 26 with fail
              generalize w8.alloc (.cells #[.string (bs []), .string (bs [])] 46) = w9 at *
              go_wp2_with fail
              with_reducible refine (bad26 2 w9).mono ?_
              rintro x9 w9 ⟨rfl, hb9⟩
              have R9 := Lib.hid (RR8.out.below hb9)
              have B9 := Lib.hid (BB8.out.trans (hb9.mono BB8.out.size))
              clear hb9
              have z0 := R9.out.free 0
              have z1 := R9.out.free 1
              have z2 := R9.out.free 2
              have z3 := R9.out.free 3
              have z4 := R9.out.free 4
              have z5 := R9.out.free 5
              have p0 : w9.cell? ⟨br, 0, none⟩ = some (.string ⟨#[]⟩) := R9.out.cell 0
              have p1 : w9.cell? ⟨br, 1, none⟩ = some (.bool false) := R9.out.cell 1
              have p2 : w9.cell? ⟨br, 2, none⟩ = some (.slice none 0 0) := R9.out.cell 2
              have p3 : w9.cell? ⟨br, 3, none⟩ = some (.int .i64 0) := R9.out.cell 3
              have p4 : w9.cell? ⟨br, 4, none⟩ = some (.bool false) := R9.out.cell 4
              have p5 : w9.cell? ⟨br, 5, none⟩ = some (.int .i64 0) := R9.out.cell 5
              have PEND := Lib.hid (rh_end (T := ⟨[], false, [], 0, false, 2⟩) (.string ⟨#[]⟩) (.bool false) (.slice none 0 0) (.int .i64 0) (.bool false) (.int .i64 2) B9.out hbr0 (World.ownsRow_nil _ _ _ _) (fun h => by cases h) #[.string ⟨#[]⟩, .bool false, .slice none 0 0, .int .i64 0, .bool false, .int .i64 2] rfl)
              go_wp2_with fail
              refine bodyPost_ret (v := .agg #[.string ⟨#[]⟩, .bool false, .slice none 0 0, .int .i64 0, .bool false, .int .i64 2]) (by simp [results, Tryz.results11, go_sem, p0, p1, p2, p3, p4, p5]) rfl PEND.out
            | some f =>
              rw [hps] at HP
              unfold fldV at HP
              simp only at HP
              have hcl : (HdL.mk l h c).close anyFirst (some s1) fs sz s2 = .line (some s1) (fs ++ [f]) z2 [] false := by
                simp only [HdL.close]
                rw [if_neg H0.out, if_neg (by rw [← HZ2.out]; exact HNB.out), hps, ← HZ2.out]
              have HAN := Lib.hid (atLine_next HA.out HR2.out hcl)
              rw [← HK2.out] at HAN
              obtain ⟨N, hN⟩ : ∃ N, N = bs f.1 := ⟨_, rfl⟩
              obtain ⟨V, hV⟩ : ∃ V, V = bs f.2 := ⟨_, rfl⟩
              rw [← hN, ← hV] at HP
              have HCF : Hid (cellsF (fs ++ [f]) = cellsF fs ++ [.string N, .string V]) := by show _ = _; rw [hN, hV]; simp [cellsF]
              clear hps hcl hN hV HR2 HNB H0
              go_wp2_with fail
              with_reducible refine HP.out.mono ?_
              rintro x8 w8 ⟨rfl, hb8⟩
              have RF := Row.new w8 46 #[.string N, .string V]
              have HM9 : Hid (RhM w bl br bx bh B l h c b #[.string S2, .int .i64 (n2 : Int), .bool true, .int .i64 0] #[.string F, .bool true, .slice va fs.length vc, .int .i64 (k2 : Int), .bool false, .int .i64 0] (.slice va fs.length vc) fs (w8.alloc (.cells #[.string N, .string V] 46))) := (HM7.out.below hb8).below (below_alloc w8 _)
              clear hb8 HP HM7 RR BB q0 q2 ch cc d2
              go_upto_region 27 with fail
              obtain ⟨bf, hbf⟩ : ∃ bf, bf = w8.heap.size := ⟨_, rfl⟩
              rw [← hbf] at RF ⊢
              generalize w8.alloc (.cells #[.string N, .string V] 46) = w9 at *
              have hlt := RF.lt
              have g0 : w9.cell? ⟨bf, 0, none⟩ = some (.string N) := RF.cell 0
              have g1 : w9.cell? ⟨bf, 1, none⟩ = some (.string V) := RF.cell 1
              have g2 : w9.cell? ⟨bh, 2, none⟩ = some (.slice va fs.length vc) := HM9.out.rh.cell 2
              have hltb := HM9.out.rh.lt
              have hB9 := HM9.out.up
              have HO9 := Lib.hid HM9.out.own
              clear hbf RF
              refine region_mixt 7 [none, some (.pointer (some ⟨bh, 2, none⟩)), some (.slice va fs.length vc), none, some (.agg #[.string N, .string V]), none, none]
                [[false, false, false, false, false, false, false], [false, false, false, false, false, false, false], [false, true, false, false, false, false, false], [true, false, true, false, false, false, false], [false, false, false, false, false, false, false], [false, false, false, false, true, false, false], [false, false, false, true, false, true, false]]
                (fun L x w1 => ReS w9 fs N V L x w1)
                (by kernel_rfl) (by kernel_rfl) (by kernel_rfl) (by kernel_rfl) (by kernel_rfl) (by decide) ?_ ?_ ?_
              · intro _
                exact ⟨⟨rfl, rfl, rfl, Nat.le_refl _, fun _ _ => rfl⟩, (fun h => by cases h), (fun h => by cases h), (fun h => by cases h), (fun h => by cases h), (fun h => by cases h), (fun h => by cases h), (fun h => by cases h)⟩
              · simp only [List.take_succ_cons, List.take_zero]
                refine ⟨?_, ?_, ?_, ?_, ?_, ?_, ?_, trivial⟩
                all_goals
                  intro S x w1 hS hl hp K hK
                  have hs : ReS w9 fs N V S x w1 := hS
                  clear hS
                  replace hK := hK.out
                  simp only [actMix, pickV, List.tail_cons, List.headD_cons, Act.put, List.setIfInBounds_toArray, List.set_cons_zero, List.set_cons_succ] at hK ⊢
                · clear hp
                  go_simp
                  with_reducible refine hK _ _ ?_
                  exact hs.lit hl _ rfl
                · clear hp
                  go_simp
                  with_reducible refine hK _ ?_
                  exact hs.keep _ _ (by decide) (by decide) (by decide) (by decide)
                · have r2 : w1.cell? ⟨bh, 2, none⟩ = some (.slice va fs.length vc) := by rw [(bcell hs.a).1 _ _ hltb]; exact g2
                  clear hp
                  go_simp
                  with_reducible refine hK _ ?_
                  exact hs.keep _ _ (by decide) (by decide) (by decide) (by decide)
                · have h0 : S 0 = true := allL_mem hp 0 (by decide +kernel)
                  have hown := hs.i0 h0 hl
                  clear hp
                  cases va with
                  | none =>
                    obtain ⟨rfl, rfl⟩ := HNIL.out rfl
                    refine wp_append_nil w1 _ _ 35 rfl w9.heap.size 46 i0 2 Tryz.underlying35 hi _ _ _ rfl hown rfl ?_
                    simp only [Act.put, List.setIfInBounds_toArray, List.set_cons_zero, List.set_cons_succ]
                    with_reducible refine hK _ _ ?_
                    exact hs.app h0 hl (grown_refl _ _) (.inl rfl) hown
                  | some ad =>
                    refine wp_append_at w1 _ _ 35 rfl w9.heap.size 46 i0 (.agg #[.string ⟨#[]⟩, .string ⟨#[]⟩]) 2 32 Tryz.underlying35 hi hz0 hz1 hz2 rfl (by decide) _ _ _ rfl hown ad fs.length vc (cellsF fs) rfl (cellsF_length fs) (own_src HO9.out hs.a) (cellsF_one fs) (by unfold maxLen; omega) (by omega) hs.a.size ?_
                    intro v' w2 hown1 hgrow hat
                    rw [List.nil_append] at hown1
                    have hown2 := own_len hown1 (show 0 + fs.length = fs.length by omega)
                    simp only [Act.put, List.setIfInBounds_toArray, List.set_cons_zero, List.set_cons_succ]
                    with_reducible refine hK _ _ ?_
                    exact hs.app h0 hl hgrow hat hown2
                · have r0 : w1.cell? ⟨bf, 0, none⟩ = some (.string N) := by rw [(bcell hs.a).1 _ _ hlt]; exact g0
                  have r1 : w1.cell? ⟨bf, 1, none⟩ = some (.string V) := by rw [(bcell hs.a).1 _ _ hlt]; exact g1
                  clear hp
                  go_simp
                  with_reducible refine hK _ ?_
                  exact hs.keep _ _ (by decide) (by decide) (by decide) (by decide)
                · have h6 : S 6 = false := by
                    cases h6 : S 6 with
                    | false => rfl
                    | true => have := hs.o5 h6; rw [hl] at this; cases this
                  clear hp
                  go_simp
                  with_reducible refine hK _ _ ?_
                  exact hs.arr h6 _
                · have h3 : S 3 = true := allL_mem hp 3 (by decide +kernel)
                  have h5 : S 5 = true := allL_mem hp 5 (by decide +kernel)
                  have hown := hs.i3 h3 hl
                  obtain ⟨b5, hx5, hb50, hb5, hc5, _, _⟩ := hs.i5 h5 hl
                  clear hp
                  rw [hx5] at hK ⊢
                  refine wp_append_at w1 _ _ 35 rfl w9.heap.size 46 i0 (.agg #[.string ⟨#[]⟩, .string ⟨#[]⟩]) 2 32 Tryz.underlying35 hi hz0 hz1 hz2 rfl (by decide) _ _ _ rfl hown ⟨b5, 0, none⟩ 1 1 [.string N, .string V] rfl rfl hc5 (by intro u hu; simp at hu; rcases hu with rfl | rfl <;> rfl) (by unfold maxLen; omega) (by omega) hs.a.size ?_
                  intro v' w2 hown1 hgrow hat
                  simp only [Act.put, List.setIfInBounds_toArray, List.set_cons_zero, List.set_cons_succ]
                  with_reducible refine hK _ _ ?_
                  exact hs.fin h3 h5 hl hgrow hown1
              intro S x w1 hS hL
              have hs : ReS w9 fs N V S x w1 := hS
              have ho6 := hs.i6 (hL 6 (by decide))
              have hb6 := hs.a
              clear hS hL hs
              simp only [actMix, pickV, List.tail_cons, List.headD_cons, Act.put, List.setIfInBounds_toArray, List.set_cons_zero, List.set_cons_succ, List.replicate_succ, List.replicate_zero, List.drop_succ_cons, List.drop_zero, List.take_succ_cons, List.take_zero]
              obtain ⟨v', hv'⟩ : ∃ v', v' = x 6 := ⟨_, rfl⟩
              rw [← hv'] at ho6 ⊢
              obtain ⟨va', vc', rfl⟩ := own_slice ho6
              have hmA := HM9.out.below hb6
              have f2 := hmA.rh.free 2
              have e2 : w1.cell? ⟨bh, 2, none⟩ = some (.slice va fs.length vc) := hmA.rh.cell 2
              have hoB := own_len (own_mono ho6 hB9) (show fs.length + 1 = (fs ++ [f]).length by simp)
              rw [← HCF.out] at hoB
              have HMB : Hid (RhM w bl br bx bh B l h c b #[.string S2, .int .i64 (n2 : Int), .bool true, .int .i64 0] #[.string F, .bool true, .slice va' (fs.length + 1) vc', .int .i64 (k2 : Int), .bool false, .int .i64 0] (.slice va' (fs.length + 1) vc') (fs ++ [f]) (w1.setCell ⟨bh, 2, none⟩ (.slice va' (fs.length + 1) vc'))) := (hmA.reown hoB).setH D.out 2 (.slice va' (fs.length + 1) vc')
              have HCK2 : Hid (cellN (w1.setCell ⟨bh, 2, none⟩ (.slice va' (fs.length + 1) vc')) bh = k2) := cellN_of (HMB.out.rh.cell 3)
              clear hmA hoB ho6 hv' hb6 HM9 g0 g1 g2
              go_wp2_with fail
              go_roundw
              case rel => exact ⟨k2, z2, fs ++ [f], _, _, _, _, _, rfl, HAN, hk2L, hzk, by rw [List.length_append]; show fs.length + 1 ≤ k2; omega, HMB⟩
              case measure => rw [HCK.out, HCK2.out]; omega
end Go.Proofs.YtmcbaheaocfdnaaGreatDoor

