/- stewardlaw15.names. -/
import Derived.Test.YtcmjcpgfnkhnoaaRpB
import Derived.Test.YtcmjcpgfnkhnoaaIsS
namespace Go.Proofs.Ytcmjcpgfnkhnoaa
open Go.RowKit Go.Maps

theorem infoStr : (Try.prog.info? 9).map (fun i => (i.zero, i.size, i.bytes)) = some (some (.string ⟨#[]⟩), 1, 16) := by kernel_rfl
theorem isStrs_own {w : World} {base : Nat} {e : TypeId} {a : Option Addr} {m c : Nat} {ns : List ByteArray} (h : w.ownsRow base e 1 (.slice a m c) ns.length (ns.map Value.string)) : m = ns.length ∧ IsStrs w a c ns := by
  obtain ⟨_, ⟨hv, h0⟩ | ⟨g, cap, cur, hv, hb, hg, hcap, _, hcs, htk⟩⟩ := h
  · injection hv with h1 h2 h3
    exact ⟨by omega, .inl (List.eq_nil_of_length_eq_zero h0)⟩
  · injection hv with h1 h2 h3
    have hlt : g < w.heap.size := (Array.getElem?_eq_some_iff.1 hg).1
    subst h1 h2 h3
    refine ⟨rfl, .inr ⟨g, 0, rfl, hlt, hcap, fun j e' he => ?_⟩⟩
    have hj : j < ns.length := by
      rcases Nat.lt_or_ge j ns.length with h | h
      · exact h
      · rw [List.getElem?_eq_none h] at he; cases he
    have q1 : (ns.map Value.string)[j]? = some (.string e') := by rw [List.getElem?_map, he]; rfl
    rw [← htk, List.getElem?_take, if_pos (by omega)] at q1
    rw [Nat.zero_add]
    simp only [World.cell?, hg]
    simpa [Array.getElem?_toList] using q1
/-- The names of entries. -/
def nsE (es : List Ent) : List ByteArray := es.map (·.1)
theorem nsE_step {es : List Ent} {j : Nat} (hj : j < es.length) : nsE (es.take (j + 1)) = nsE (es.take j) ++ [es[j].1] := by
  unfold nsE
  rw [List.take_add_one, List.getElem?_eq_getElem hj, Option.toList_some, List.map_append]; rfl
set_option maxHeartbeats 4000000 in
set_option maxRecDepth 100000 in
theorem names21 (a : Option Addr) (c : Nat) (es : List Ent) (hl : es.length ≤ 1000) (w : World) (hf : IsEnts w a c es) :
    Calls Try.prog 21 #[.slice a es.length c] w fun e w' => ∃ a' c', e = .returned (.slice a' (nsE es).length c') ∧ IsStrs w' a' c' (nsE es) ∧ Below w.heap.size w w' := by
  obtain ⟨i0, hi, hz0, hz1, hz2⟩ := info_parts infoStr
  have HFF := Lib.hid hf
  clear hf
  go_enter Try.func21, Try.ntmps21
  go_wp2_with fail
  go_loopw [3, 8] (fun u i wr => ∃ j : Nat, j ≤ es.length ∧ i = .int .i64 (j : Int) ∧ Hid (wr.ownsRow w.heap.size 9 1 u (nsE (es.take j)).length ((nsE (es.take j)).map Value.string)) ∧ Hid (Below w.heap.size w wr)) (fun _ i _ => es.length - (intOf i).toNat)
  case atStart => exact ⟨0, Nat.zero_le _, rfl, World.ownsRow_nil _ _ _ _, Below.refl _ _⟩
  case round =>
    obtain ⟨j, hj, rfl, ho, hb⟩ := hrel
    by_cases hlt : j < es.length
    · obtain h0 | ⟨bk, o, rfl, hbk, hc, hcell⟩ := HFF.out.below hb.out
      · subst h0; simp at hlt
      obtain ⟨c1, c2⟩ := hcell j es[j] (by simp [hlt])
      have HST := Lib.hid (nsE_step hlt)
      obtain ⟨f, hfe⟩ : ∃ f, f = es[j] := ⟨_, rfl⟩
      rw [← hfe] at c1 c2 HST
      clear hcell hfe
      obtain ⟨N, V⟩ := f
      simp only at c1 c2 HST
      have j1 : (j : Int) < es.length := by omega
      have hsl : (nsE (es.take j)).length = j := by unfold nsE; simp; omega
      generalize nsE (es.take j) = acc at *
      have hsz : (wr.alloc (.cells #[.string N, .int .i64 V] 34)).heap.size = wr.heap.size + 1 := World.size_alloc _ _
      have hsz2 : ((wr.alloc (.cells #[.string N, .int .i64 V] 34)).alloc (.cells #[.string N] 9)).heap.size = wr.heap.size + 2 := by rw [World.size_alloc, hsz]
      have hcl : ((wr.alloc (.cells #[.string N, .int .i64 V] 34)).alloc (.cells #[.string N] 9)).cell? ⟨wr.heap.size + 1, 0, none⟩ = some (.string N) := by
        rw [← hsz]; simp
      have HBA := Lib.hid ((hb.out.alloc hb.out.size (.cells #[.string N, .int .i64 V] 34)).alloc (by rw [hsz]; have := hb.out.size; omega) (.cells #[.string N] 9))
      have HOA := Lib.hid ((ho.out.alloc (.cells #[.string N, .int .i64 V] 34)).alloc (.cells #[.string N] 9))
      have HCL : Hid (∀ (k : Nat) u, [Value.string N][k]? = some u → ((wr.alloc (.cells #[.string N, .int .i64 V] 34)).alloc (.cells #[.string N] 9)).cell? ((⟨wr.heap.size + 1, 0, none⟩ : Addr).add k) = some u) := by
        intro k u hu
        rw [Addr.add_mid]
        match k, hu with
        | 0, hu => obtain rfl := Option.some.inj hu; exact hcl
        | k + 1, hu => simp at hu
      have HG := Lib.hid (show w.heap.size ≤ ((wr.alloc (.cells #[.string N, .int .i64 V] 34)).alloc (.cells #[.string N] 9)).heap.size by rw [hsz2]; have := hb.out.size; omega)
      have hbs := hb.out.size
      clear ho hb hcl hsz2
      go_wp2_with (at_builtin; refine wpList_append_own _ rfl _ _ 61 rfl w.heap.size 9 i0 (.string ⟨#[]⟩) 1 16 Try.underlying61 hi hz0 hz1 hz2 rfl (by decide) _ _ _ rfl HOA.out ⟨wr.heap.size + 1, 0, none⟩ 1 1 [.string N] rfl rfl HCL.out (by intro u hu; simp at hu; subst hu; rfl) (by unfold maxLen; omega) (by omega) (by simp; omega) ?_)
      intro v' w4 hown' hgrow _
      have HB5 : Hid (Below w.heap.size w w4) := HBA.out.grown hgrow HG.out (fun k hk => (HOA.out.lt k hk).1)
      have hown5 : w4.ownsRow w.heap.size 9 1 v' (nsE (es.take (j + 1))).length ((nsE (es.take (j + 1))).map Value.string) := by
        rw [HST.out, List.length_append, List.map_append, hsl]; exact hown'
      have HO5 := Lib.hid hown5
      clear hown' hgrow hown5 HBA HOA HCL HG
      go_wp2_with fail
      go_roundw
      case rel => exact ⟨j + 1, hlt, by go_num, HO5, HB5⟩
      case measure => simp [intOf]; omega
    · obtain rfl : es.length = j := by omega
      rw [List.take_of_length_le (Nat.le_refl _)] at ho
      have hne : ¬ ((es.length : Int) < es.length) := by omega
      obtain ⟨ua, uc, rfl⟩ := own_slice ho.out
      obtain ⟨_, his⟩ := isStrs_own ho.out
      have HIS := Lib.hid his
      clear his ho
      go_wp2_with fail
      go_ret
      exact ⟨_, _, rfl, HIS.out, hb.out⟩
end Go.Proofs.Ytcmjcpgfnkhnoaa
