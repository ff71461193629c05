/- agenda's queue: Push, at both kinds of keys (written by genagh.py). -/
import Derived.Test.YtoikgphbicnhaaaAgG
import Derived.Laws.AppendOwn
import Derived.Deep.AppendLies
namespace Go.Proofs.Ytoikgphbicnhaaa
open Go.RowKit

theorem info_parts {P : Program} {t : TypeId} {z : Value} {s b : Nat} (h : (P.info? t).map (fun i => (i.zero, i.size, i.bytes)) = some (some z, s, b)) : ∃ i, P.info? t = some i ∧ i.zero = some z ∧ i.size = s ∧ i.bytes = b := by
  cases e : P.info? t with
  | none => rw [e] at h; cases h
  | some i =>
    rw [e] at h
    simp only [Option.map_some, Option.some.injEq, Prod.mk.injEq] at h
    exact ⟨i, rfl, h.1, h.2.1, h.2.2⟩
theorem lies_of {v : Value} {g n c z H : Nat} (h : v.ownBlock = some g ∨ g = H) (hz : z ≤ H) : ∀ k, (Value.slice (some ⟨g, 0, none⟩) n c).ownBlock = some k → v.ownBlock = some k ∨ z ≤ k := fun k hk => by
  have e : g = k := by simpa [Value.ownBlock] using hk
  rcases h with h | h
  · exact .inl (by rw [h, e])
  · exact .inr (by omega)
theorem infoPS : (Try.prog.info? 100).map (fun i => (i.zero, i.size, i.bytes)) = some (some (.pointer none), 1, 8) := by kernel_rfl
set_option maxRecDepth 100000 in
set_option maxHeartbeats 1000000 in
theorem pushS (ab p n : Nat) (v mp : Value) (sets : Int) (cs : List Value) (k : Value) (a t m : Int) (w : World) (hn : n ≤ 1000) (ha : Row w ab 90 #[v, mp, .int .i64 sets]) (hp : Row w p 102 #[k, .int .i64 a, .int .i64 t, .int .i64 m]) (ho : w.ownsRow 0 100 1 v n cs) :
    Calls Try.prog 171 #[.pointer (some ⟨ab, 0, none⟩), .iface 100 (.pointer (some ⟨p, 0, none⟩))] w fun e w' => e = .returned (.tuple #[]) ∧ ∃ v', w'.ownsRow 0 100 1 v' (n + 1) (cs ++ [.pointer (some ⟨p, 0, none⟩)]) ∧ (∀ k, v'.ownBlock = some k → v.ownBlock = some k ∨ w.heap.size ≤ k) ∧ Row w' ab 90 #[v', mp, .int .i64 sets] ∧ Row w' p 102 #[k, .int .i64 a, .int .i64 t, .int .i64 n] ∧ Keep (fun x => x = ab ∨ x = p ∨ v.ownBlock = some x) w w' := by
  obtain ⟨i0, hi, hz0, hz1, hz2⟩ := info_parts infoPS
  have hap : ab ≠ p := fun e => by
    subst e
    unfold Row at ha hp
    rw [ha] at hp
    injection hp with h
    injection h with _ h
    exact absurd h (by decide)
  have hva := own_ne ho ha (by decide)
  have hvp := own_ne ho hp (by decide)
  obtain ⟨sa, sc, hv⟩ := own_slice ho
  have c0 : w.cell? ⟨ab, 0, none⟩ = some v := by rw [ha.cell]; rfl
  have c1 : w.cell? ⟨p, 3, none⟩ = some (.int .i64 m) := by rw [hp.cell]; rfl
  have f1 := hp.free 3
  obtain ⟨w1, hw1⟩ : ∃ w1, w.setCell ⟨p, 3, none⟩ (.int .i64 (n : Int)) = w1 := ⟨_, rfl⟩
  have hP1 : Row w1 p 102 #[k, .int .i64 a, .int .i64 t, .int .i64 n] := by rw [← hw1]; exact hp.put 3 _
  have hA1 : Row w1 ab 90 #[v, mp, .int .i64 sets] := by rw [← hw1]; exact ha.far hap _
  have hO1 : w1.ownsRow 0 100 1 v n cs := by rw [← hw1]; exact own_set ho hp (by decide) _
  have hK1 : Keep (fun x => x = ab ∨ x = p ∨ v.ownBlock = some x) w w1 := by rw [← hw1]; exact Keep.setCell w (.inr (.inl rfl)) _
  have HSZ := Lib.hid hK1.size
  have HP1 := Lib.hid (hP1.alloc (.cells #[.pointer (some ⟨p, 0, none⟩)] 100))
  have HA1 := Lib.hid (hA1.alloc (.cells #[.pointer (some ⟨p, 0, none⟩)] 100))
  have HO1 := Lib.hid (hO1.alloc (.cells #[.pointer (some ⟨p, 0, none⟩)] 100))
  have HK1 := Lib.hid (hK1.trans (Keep.alloc w1 (.cells #[.pointer (some ⟨p, 0, none⟩)] 100)))
  have HR1 := Lib.hid (Row.new w1 100 #[.pointer (some ⟨p, 0, none⟩)])
  have HSC : Hid (∀ j u, [Value.pointer (some ⟨p, 0, none⟩)][j]? = some u → (w1.alloc (.cells #[.pointer (some ⟨p, 0, none⟩)] 100)).cell? ((⟨w1.heap.size, 0, none⟩ : Addr).add j) = some u) := fun j u h => by
    obtain ⟨rfl, rfl⟩ : j = 0 ∧ u = .pointer (some ⟨p, 0, none⟩) := by
      cases j with
      | zero => simp at h; exact ⟨rfl, h.symm⟩
      | succ j => simp at h
    show World.cell? _ ⟨w1.heap.size, 0, none⟩ = _
    rw [HR1.out.cell]; rfl
  have HON : Hid (∀ u ∈ [Value.pointer (some ⟨p, 0, none⟩)], u.oneCell' = true) := by intro u hu; simp at hu; subst hu; rfl
  have cA : w1.cell? ⟨ab, 0, none⟩ = some v := by rw [hA1.cell]; rfl
  have HVA := Lib.hid hva
  have HVP := Lib.hid hvp
  have HAP := Lib.hid hap
  subst hv
  clear ha hp ho hP1 hA1 hO1 hK1 hva hvp hap
  have hta : ∀ w : World, (Instr.typeAssert (.iface 100 (.pointer (some ⟨p, 0, none⟩))) 20 100 false).run Try.prog w = .ok (.pointer (some ⟨p, 0, none⟩)) w := fun _ => by kernel_rfl
  go_enter Try.func171, Try.ntmps171
  go_wp2_with (at_builtin; refine wpList_append_lies _ rfl _ _ 87 rfl 0 100 i0 (.pointer none) 1 8 Try.underlying87 hi hz0 hz1 hz2 rfl (by decide) _ _ _ rfl HO1.out ⟨w1.heap.size, 0, none⟩ 1 1 [.pointer (some ⟨p, 0, none⟩)] rfl rfl HSC.out HON.out (by decide) (by unfold maxLen; omega) (by omega) (Nat.zero_le _) _ rfl ?_; intro g9 k9 w10 hown' hgrow hv9 hlt9; have HV9 : Hid (Value.ownBlock (.slice sa n sc) = some g9 ∨ g9 = (w1.alloc (.cells #[.pointer (some ⟨p, 0, none⟩)] 100)).heap.size) := hv9; clear hv9 hlt9; have HP9 := Lib.hid (HP1.out.grown hgrow HVP.out); have HA9 := Lib.hid (HA1.out.grown hgrow HVA.out); have HK9 := Lib.hid (HK1.out.trans (Keep.grown (G := fun x => x = ab ∨ x = p ∨ (Value.slice sa n sc).ownBlock = some x) hgrow (fun x h => .inr (.inr h)))); have c9 : w10.cell? ⟨ab, 0, none⟩ = some (.slice sa n sc) := (by rw [HA9.out.cell]; rfl); have f9 := HA9.out.free 0; have HW := Lib.hid hown'; clear hown' hgrow)
  show bodyPost _ _ _ _ _ _
  refine bodyPost_end (v := .tuple #[]) (by simp [results, Try.results171]) rfl ⟨rfl, ?_⟩
  exact ⟨_, own_set HW.out HA9.out (by decide) _, lies_of HV9.out (Nat.le_trans HSZ.out (below_alloc w1 _).size), HA9.out.put 0 _, HP9.out.far (Ne.symm HAP.out) _, HK9.out.trans (Keep.setCell _ (.inl rfl) _)⟩
theorem infoPN : (Try.prog.info? 111).map (fun i => (i.zero, i.size, i.bytes)) = some (some (.pointer none), 1, 8) := by kernel_rfl
set_option maxRecDepth 100000 in
set_option maxHeartbeats 1000000 in
theorem pushN (ab p n : Nat) (v mp : Value) (sets : Int) (cs : List Value) (k : Value) (a t m : Int) (w : World) (hn : n ≤ 1000) (ha : Row w ab 108 #[v, mp, .int .i64 sets]) (hp : Row w p 113 #[k, .int .i64 a, .int .i64 t, .int .i64 m]) (ho : w.ownsRow 0 111 1 v n cs) :
    Calls Try.prog 169 #[.pointer (some ⟨ab, 0, none⟩), .iface 111 (.pointer (some ⟨p, 0, none⟩))] w fun e w' => e = .returned (.tuple #[]) ∧ ∃ v', w'.ownsRow 0 111 1 v' (n + 1) (cs ++ [.pointer (some ⟨p, 0, none⟩)]) ∧ (∀ k, v'.ownBlock = some k → v.ownBlock = some k ∨ w.heap.size ≤ k) ∧ Row w' ab 108 #[v', mp, .int .i64 sets] ∧ Row w' p 113 #[k, .int .i64 a, .int .i64 t, .int .i64 n] ∧ Keep (fun x => x = ab ∨ x = p ∨ v.ownBlock = some x) w w' := by
  obtain ⟨i0, hi, hz0, hz1, hz2⟩ := info_parts infoPN
  have hap : ab ≠ p := fun e => by
    subst e
    unfold Row at ha hp
    rw [ha] at hp
    injection hp with h
    injection h with _ h
    exact absurd h (by decide)
  have hva := own_ne ho ha (by decide)
  have hvp := own_ne ho hp (by decide)
  obtain ⟨sa, sc, hv⟩ := own_slice ho
  have c0 : w.cell? ⟨ab, 0, none⟩ = some v := by rw [ha.cell]; rfl
  have c1 : w.cell? ⟨p, 3, none⟩ = some (.int .i64 m) := by rw [hp.cell]; rfl
  have f1 := hp.free 3
  obtain ⟨w1, hw1⟩ : ∃ w1, w.setCell ⟨p, 3, none⟩ (.int .i64 (n : Int)) = w1 := ⟨_, rfl⟩
  have hP1 : Row w1 p 113 #[k, .int .i64 a, .int .i64 t, .int .i64 n] := by rw [← hw1]; exact hp.put 3 _
  have hA1 : Row w1 ab 108 #[v, mp, .int .i64 sets] := by rw [← hw1]; exact ha.far hap _
  have hO1 : w1.ownsRow 0 111 1 v n cs := by rw [← hw1]; exact own_set ho hp (by decide) _
  have hK1 : Keep (fun x => x = ab ∨ x = p ∨ v.ownBlock = some x) w w1 := by rw [← hw1]; exact Keep.setCell w (.inr (.inl rfl)) _
  have HSZ := Lib.hid hK1.size
  have HP1 := Lib.hid (hP1.alloc (.cells #[.pointer (some ⟨p, 0, none⟩)] 111))
  have HA1 := Lib.hid (hA1.alloc (.cells #[.pointer (some ⟨p, 0, none⟩)] 111))
  have HO1 := Lib.hid (hO1.alloc (.cells #[.pointer (some ⟨p, 0, none⟩)] 111))
  have HK1 := Lib.hid (hK1.trans (Keep.alloc w1 (.cells #[.pointer (some ⟨p, 0, none⟩)] 111)))
  have HR1 := Lib.hid (Row.new w1 111 #[.pointer (some ⟨p, 0, none⟩)])
  have HSC : Hid (∀ j u, [Value.pointer (some ⟨p, 0, none⟩)][j]? = some u → (w1.alloc (.cells #[.pointer (some ⟨p, 0, none⟩)] 111)).cell? ((⟨w1.heap.size, 0, none⟩ : Addr).add j) = some u) := fun j u h => by
    obtain ⟨rfl, rfl⟩ : j = 0 ∧ u = .pointer (some ⟨p, 0, none⟩) := by
      cases j with
      | zero => simp at h; exact ⟨rfl, h.symm⟩
      | succ j => simp at h
    show World.cell? _ ⟨w1.heap.size, 0, none⟩ = _
    rw [HR1.out.cell]; rfl
  have HON : Hid (∀ u ∈ [Value.pointer (some ⟨p, 0, none⟩)], u.oneCell' = true) := by intro u hu; simp at hu; subst hu; rfl
  have cA : w1.cell? ⟨ab, 0, none⟩ = some v := by rw [hA1.cell]; rfl
  have HVA := Lib.hid hva
  have HVP := Lib.hid hvp
  have HAP := Lib.hid hap
  subst hv
  clear ha hp ho hP1 hA1 hO1 hK1 hva hvp hap
  have hta : ∀ w : World, (Instr.typeAssert (.iface 111 (.pointer (some ⟨p, 0, none⟩))) 20 111 false).run Try.prog w = .ok (.pointer (some ⟨p, 0, none⟩)) w := fun _ => by kernel_rfl
  go_enter Try.func169, Try.ntmps169
  go_wp2_with (at_builtin; refine wpList_append_lies _ rfl _ _ 105 rfl 0 111 i0 (.pointer none) 1 8 Try.underlying105 hi hz0 hz1 hz2 rfl (by decide) _ _ _ rfl HO1.out ⟨w1.heap.size, 0, none⟩ 1 1 [.pointer (some ⟨p, 0, none⟩)] rfl rfl HSC.out HON.out (by decide) (by unfold maxLen; omega) (by omega) (Nat.zero_le _) _ rfl ?_; intro g9 k9 w10 hown' hgrow hv9 hlt9; have HV9 : Hid (Value.ownBlock (.slice sa n sc) = some g9 ∨ g9 = (w1.alloc (.cells #[.pointer (some ⟨p, 0, none⟩)] 111)).heap.size) := hv9; clear hv9 hlt9; have HP9 := Lib.hid (HP1.out.grown hgrow HVP.out); have HA9 := Lib.hid (HA1.out.grown hgrow HVA.out); have HK9 := Lib.hid (HK1.out.trans (Keep.grown (G := fun x => x = ab ∨ x = p ∨ (Value.slice sa n sc).ownBlock = some x) hgrow (fun x h => .inr (.inr h)))); have c9 : w10.cell? ⟨ab, 0, none⟩ = some (.slice sa n sc) := (by rw [HA9.out.cell]; rfl); have f9 := HA9.out.free 0; have HW := Lib.hid hown'; clear hown' hgrow)
  show bodyPost _ _ _ _ _ _
  refine bodyPost_end (v := .tuple #[]) (by simp [results, Try.results169]) rfl ⟨rfl, ?_⟩
  exact ⟨_, own_set HW.out HA9.out (by decide) _, lies_of HV9.out (Nat.le_trans HSZ.out (below_alloc w1 _).size), HA9.out.put 0 _, HP9.out.far (Ne.symm HAP.out) _, HK9.out.trans (Keep.setCell _ (.inl rfl) _)⟩
end Go.Proofs.Ytoikgphbicnhaaa
