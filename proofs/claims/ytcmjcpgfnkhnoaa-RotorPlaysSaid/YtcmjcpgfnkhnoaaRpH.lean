/- stewardlaw15.do. -/
import Derived.Test.YtcmjcpgfnkhnoaaRpG
namespace Go.Proofs.Ytcmjcpgfnkhnoaa
open Go.RowKit Go.Maps

/-- The program's rotor and the reference's list, between two acts. -/
structure ActS (w : World) (rb : Nat) (v : Option Nat) (n : Nat) (xa : Option Addr) (xc : Nat) (x : List Ent) : Prop where
  rot : Rot w rb v n (ofL x)
  ap : Apart x
  ents : IsEnts w xa xc x
  off : ∀ p, xa = some p → ¬ RG rb v p.block
  lt : ∀ p, xa = some p → p.block < w.heap.size
  sz : ∀ e ∈ x, e.1.size ≤ 12
theorem set_all {Q : ByteArray → Prop} {l : List Ent} (h : ∀ e ∈ l, Q e.1) {s : ByteArray} (hs : Q s) (n : Int) : ∀ e ∈ setM l s n, Q e.1 := by
  intro e he
  rcases List.mem_cons.1 he with rfl | he
  · exact hs
  · exact h e (List.mem_filter.1 he).1
theorem add_all {Q : ByteArray → Prop} : ∀ (E l : List Ent), (∀ e ∈ l, Q e.1) → (∀ e ∈ E, Q e.1) → ∀ e ∈ addL l E, Q e.1
  | [], _, h, _ => h
  | e :: E, _, h, h2 => add_all E _ (set_all h (h2 e (by simp)) _) (fun x hx => h2 x (by simp [hx]))
theorem pick_all {Q : ByteArray → Prop} {l E : List Ent} (hE : E ≠ []) (h : ∀ e ∈ l, Q e.1) (h2 : ∀ e ∈ E, Q e.1) : ∀ e ∈ pickL l E, Q e.1 := by
  obtain ⟨p, hp, hpt⟩ := turn_mem (ofL l) hE
  exact set_all (add_all E l h h2) (by rw [← hpt]; exact h2 p hp) _
theorem ActS.below {w w' : World} {rb n : Nat} {v : Option Nat} {xa : Option Addr} {xc : Nat} {x : List Ent} (h : ActS w rb v n xa xc x) (hb : Below w.heap.size w w') : ActS w' rb v n xa xc x :=
  ⟨h.rot.below hb, h.ap, h.ents.below hb, h.off, fun p hp => Nat.lt_of_lt_of_le (h.lt p hp) hb.size, h.sz⟩
theorem ofL_abs {x : List Ent} {M : Int} (h0 : 0 ≤ M) (h : ∀ s, -M ≤ ofL x s ∧ ofL x s ≤ M) (ns : List ByteArray) : ∀ s, -M ≤ ofL (keepL x ns) s ∧ ofL (keepL x ns) s ≤ M := by
  intro s
  rw [ofL_keep]
  unfold keepF
  have := h s
  split <;> omega
theorem after_abs {f : ByteArray → Int} {M : Int} {E : List Ent} (hA : Apart E) (hw : ∀ e ∈ E, 1 ≤ e.2 ∧ e.2 ≤ 65535) (hl : E.length ≤ 8) (h : ∀ s, -M ≤ f s ∧ f s ≤ M) : ∀ s, -(M + 600000) ≤ after f E s ∧ after f E s ≤ M + 600000 := by
  intro s
  have hb := fun t => addAll_bound hA hw f t
  have hs := sumW_bound E hw
  unfold after upd
  split
  · have h1 := hb (turn f E); have h2 := h (turn f E); omega
  · have h1 := hb s; have h2 := h s; omega
/-- What an act leaves. -/
def ActPost (w : World) (rb : Nat) (v : Option Nat) (n : Nat) (x : List Ent) (M : Int) (e : Ending) (w' : World) : Prop :=
  ∃ a' c' x' v', e = .returned (.tuple #[.slice a' x'.length c', .bool true]) ∧ ActS w' rb v' (n + 10) a' c' x' ∧ Keep (RG rb v) w w' ∧ Fresh w v v' ∧ x'.length ≤ x.length + 10 ∧ (∀ s, -(M + 600000) ≤ ofL x' s ∧ ofL x' s ≤ M + 600000)
set_option maxHeartbeats 8000000 in
set_option maxRecDepth 100000 in
theorem do9_keep (rb : Nat) (v : Option Nat) (n : Nat) (xa : Option Addr) (xc : Nat) (x : List Ent) (hxl : x.length ≤ 50000) (M : Int) (hM0 : 0 ≤ M) (hM : ∀ s, -M ≤ ofL x s ∧ ofL x s ≤ M) (la : Option Addr) (lc : Nat) (l : List Ent) (hfl : l.length ≤ 9223372036854775807) (w : World) (hS : ActS w rb v n xa xc x) (hl : IsEnts w la lc l) :
    Calls Try.prog 9 #[.pointer (some ⟨rb, 0, none⟩), .slice xa x.length xc, .agg #[.bool true, .slice la l.length lc]] w (ActPost w rb v n x M) := by
  have HS := Lib.hid hS
  have HL := Lib.hid hl
  have HMM := Lib.hid hM
  clear hS hl hM
  have HB1 := Lib.hid (below_alloc w (.cells #[.bool true, .slice la l.length lc] 31))
  go_enter Try.func9, Try.ntmps9
  have HL1 := Lib.hid (HL.out.below HB1.out)
  have HR1 := Lib.hid (Row.new w 31 #[.bool true, .slice la l.length lc])
  have hws : (w.alloc (.cells #[.bool true, .slice la l.length lc] 31)).heap.size = w.heap.size + 1 := World.size_alloc _ _
  have HWS := Lib.hid hws
  clear hws
  go_wp2_with fail
  refine (few10 la lc l 8 (by omega) hfl _ HL1.out).mono ?_
  rintro e w2 ⟨u, rfl, ho2, hb2⟩
  obtain ⟨ua, uc, rfl⟩ := own_slice ho2
  obtain ⟨_, hie2, hblk⟩ := isEnts_own ho2
  have hl8 := fewE_len l 8
  have hsz : ∀ e ∈ fewE l 8, e.1.size ≤ 12 := fun e he => fewE_size he
  have r2 : w2.cell? ⟨w.heap.size, 0, none⟩ = some (.bool true) := (HR1.out.below hb2).cell 0
  have HB2 := Lib.hid (HB1.out.trans (hb2.mono HB1.out.size))
  have HIE2 := Lib.hid hie2
  have HBK : Hid (∀ p, ua = some p → ¬ RG rb v p.block) := by
    intro p hp h
    have h1 := HS.out.rot.glt h
    have h2 := (hblk p hp).1
    rw [HWS.out] at h2
    omega
  have HSZ := Lib.hid hsz
  clear ho2 hie2 hblk hb2 hsz HL HL1 HR1 HWS HB1
  generalize fewE l 8 = F at *
  have hnl : (nsE F).length ≤ 8 := by unfold nsE; rw [List.length_map]; exact hl8
  have HNZ : Hid (∀ s ∈ nsE F, s.size ≤ maxLen) := by
    intro s hs
    obtain ⟨e, he, rfl⟩ := List.mem_map.1 hs
    have := HSZ.out e he
    unfold maxLen; omega
  have HS2 := Lib.hid (HS.out.below HB2.out)
  go_wp2_with fail
  refine (names21 ua uc F (by omega) _ HIE2.out).mono ?_
  rintro e w3 ⟨na, nc, rfl, hn3, hb3⟩
  have HN3 := Lib.hid hn3
  have HS3 := Lib.hid (HS2.out.below hb3)
  have HIE3 := Lib.hid (HIE2.out.below hb3)
  have HB3 := Lib.hid (HB2.out.trans (hb3.mono HB2.out.size))
  clear hn3 hb3 r2 HIE2 HS2 HB2
  go_wp2_with fail
  refine (pkeep20 rb v n (ofL x) na nc (nsE F) (by omega) HNZ.out _ HS3.out.rot HN3.out).mono ?_
  rintro e w4 ⟨rfl, hr4, hk4⟩
  have HIE4 := Lib.hid (HIE3.out.keep hk4 HBK.out)
  have HX4 := Lib.hid (HS3.out.ents.keep hk4 HS3.out.off)
  have HK4 : Hid (Keep (RG rb v) w w4) := (Keep.of_below HB3.out).trans hk4
  have HR4 := Lib.hid hr4
  clear hk4 hr4 HIE3 HN3
  go_wp2_with fail
  refine (names21 ua uc F (by omega) _ HIE4.out).mono ?_
  rintro e w5 ⟨ma, mc, rfl, hn5, hb5⟩
  have HN5 := Lib.hid hn5
  have HX5 := Lib.hid (HX4.out.below hb5)
  have HR5 := Lib.hid (HR4.out.below hb5)
  have HK5 : Hid (Keep (RG rb v) w w5) := HK4.out.trans (Keep.of_below hb5)
  clear hn5 hb5 HX4 HR4 HK4 HIE4
  go_wp2_with fail
  refine (rkeep22 xa xc x (by omega) ma mc (nsE F) (by omega) _ HX5.out HN5.out).mono ?_
  rintro e w6 ⟨ya, yc, rfl, hy6, hb6, hf6⟩
  have HY6 := Lib.hid hy6
  have HB6 := Lib.hid hb6
  have HF6 := Lib.hid hf6
  clear hy6 hb6 hf6
  go_wp2_with fail
  have hkl := keepL_len x (nsE F)
  have hgl : ∀ {k}, RG rb v k → k < w5.heap.size := fun h => HR5.out.glt h
  refine bodyPost_ret (v := .tuple #[.slice ya (keepL x (nsE F)).length yc, .bool true]) (by simp [results, Try.results9, go_sem]) rfl ⟨ya, yc, keepL x (nsE F), v, rfl, ⟨?_, keepL_apart HS.out.ap _, HY6.out, ?_, fun p hp => (HF6.out p hp).2, fun e he => HS.out.sz e (List.mem_filter.1 he).1⟩, HK5.out.trans (Keep.of_below HB6.out), .inl rfl, by omega, ?_⟩
  · rw [ofL_keep]; exact (HR5.out.below HB6.out).mono (by omega)
  · intro p hp h
    have h1 := (HF6.out p hp).1
    have h2 := hgl h
    omega
  · intro s
    have := ofL_abs hM0 HMM.out (nsE F) s
    omega
end Go.Proofs.Ytcmjcpgfnkhnoaa
