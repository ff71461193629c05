/- agenda's queue: Push, at both kinds of keys (written by genagh.py). -/
import Derived.Test.YtcdgmhglpcokdaaAhG
import Derived.Laws.AppendOwn
import Derived.Deep.AppendLies
namespace Go.Proofs.Ytcdgmhglpcokdaa
open Go.RowKit

/-- Where an agenda lies: in a block of type T, at the cell o, behind pre and ahead of post. -/
structure Pl where
  T : TypeId
  o : Nat
  pre : List Value
  post : List Value
  ho : pre.length = o
  n1 : T ≠ 107
  n2 : T ≠ 106
  n3 : T ≠ 97
  n4 : T ≠ 99
def Pl.cs (pl : Pl) (v mp : Value) (s : Int) : Array Value := (pl.pre ++ v :: mp :: .int .i64 s :: pl.post).toArray
def RowA (pl : Pl) (w : World) (ab : Nat) (v mp : Value) (s : Int) : Prop := Row w ab pl.T (pl.cs v mp s)
section
variable {pl : Pl} {w w' : World} {ab : Nat} {v mp v' : Value} {s s' : Int}
theorem Pl.at0 (pl : Pl) (v mp : Value) (s : Int) : (pl.cs v mp s)[pl.o]? = some v := by
  unfold Pl.cs
  rw [List.getElem?_toArray, List.getElem?_append_right (by rw [pl.ho]; exact Nat.le_refl _), pl.ho, Nat.sub_self]; rfl
theorem Pl.at1 (pl : Pl) (v mp : Value) (s : Int) : (pl.cs v mp s)[pl.o + 1]? = some mp := by
  unfold Pl.cs
  rw [List.getElem?_toArray, List.getElem?_append_right (by rw [pl.ho]; omega), pl.ho, show pl.o + 1 - pl.o = 1 by omega]; rfl
theorem Pl.at2 (pl : Pl) (v mp : Value) (s : Int) : (pl.cs v mp s)[pl.o + 2]? = some (.int .i64 s) := by
  unfold Pl.cs
  rw [List.getElem?_toArray, List.getElem?_append_right (by rw [pl.ho]; omega), pl.ho, show pl.o + 2 - pl.o = 2 by omega]; rfl
theorem RowA.c0 (h : RowA pl w ab v mp s) : w.cell? ⟨ab, pl.o, none⟩ = some v := by rw [Row.cell h]; exact pl.at0 v mp s
theorem RowA.c1 (h : RowA pl w ab v mp s) : w.cell? ⟨ab, pl.o + 1, none⟩ = some mp := by rw [Row.cell h]; exact pl.at1 v mp s
theorem RowA.c2 (h : RowA pl w ab v mp s) : w.cell? ⟨ab, pl.o + 2, none⟩ = some (.int .i64 s) := by rw [Row.cell h]; exact pl.at2 v mp s
theorem RowA.free (h : RowA pl w ab v mp s) (i : Nat) : w.frozen? ⟨ab, i, none⟩ = false := Row.free h i
theorem RowA.lt (h : RowA pl w ab v mp s) : ab < w.heap.size := Row.lt h
theorem RowA.keep {G : Nat → Prop} (h : RowA pl w ab v mp s) (hk : Keep G w w') (hg : ¬ G ab) : RowA pl w' ab v mp s := Row.keep h hk hg
theorem RowA.below (h : RowA pl w ab v mp s) (hb : Below w.heap.size w w') : RowA pl w' ab v mp s := Row.below h hb
theorem RowA.far (h : RowA pl w ab v mp s) {p : Addr} (hp : ab ≠ p.block) (u : Value) : RowA pl (w.setCell p u) ab v mp s := Row.far h hp u
theorem RowA.alloc (h : RowA pl w ab v mp s) (x : Obj) : RowA pl (w.alloc x) ab v mp s := Row.alloc h x
theorem RowA.grown {row : Option Nat} (h : RowA pl w ab v mp s) (hg : w.grownBy w' row) (hne : row ≠ some ab) : RowA pl w' ab v mp s := Row.grown h hg hne
theorem RowA.put0 (h : RowA pl w ab v mp s) (v' : Value) : RowA pl (w.setCell ⟨ab, pl.o, none⟩ v') ab v' mp s := by
  have h1 := Row.put h pl.o v'
  have e : (pl.cs v mp s).setIfInBounds pl.o v' = pl.cs v' mp s := by
    unfold Pl.cs
    rw [List.setIfInBounds_toArray, List.set_append_right _ _ (by rw [pl.ho]; exact Nat.le_refl _), pl.ho, Nat.sub_self]; rfl
  rw [e] at h1
  exact h1
theorem RowA.put1 (h : RowA pl w ab v mp s) (v' : Value) : RowA pl (w.setCell ⟨ab, pl.o + 1, none⟩ v') ab v v' s := by
  have h1 := Row.put h (pl.o + 1) v'
  have e : (pl.cs v mp s).setIfInBounds (pl.o + 1) v' = pl.cs v v' s := by
    unfold Pl.cs
    rw [List.setIfInBounds_toArray, List.set_append_right _ _ (by rw [pl.ho]; omega), pl.ho, show pl.o + 1 - pl.o = 1 by omega]; rfl
  rw [e] at h1
  exact h1
theorem RowA.put2 (h : RowA pl w ab v mp s) (s' : Int) : RowA pl (w.setCell ⟨ab, pl.o + 2, none⟩ (.int .i64 s')) ab v mp s' := by
  have h1 := Row.put h (pl.o + 2) (.int .i64 s')
  have e : (pl.cs v mp s).setIfInBounds (pl.o + 2) (.int .i64 s') = pl.cs v mp s' := by
    unfold Pl.cs
    rw [List.setIfInBounds_toArray, List.set_append_right _ _ (by rw [pl.ho]; omega), pl.ho, show pl.o + 2 - pl.o = 2 by omega]; rfl
  rw [e] at h1
  exact h1
end
section PlV
variable {pl : Pl}
theorem row_apart0 {w : World} {g h : Nat} {T U : TypeId} {cs ds : Array Value} (h1 : Row w g T cs) (h2 : Row w h U ds) (hne : T ≠ U) : g ≠ h := fun e => by
  subst e
  unfold Row at h1 h2
  rw [h1] at h2
  injection h2 with h
  injection h with _ h
  exact hne h
theorem info_parts {P : Program} {t : TypeId} {z : Value} {s b : Nat} (h : (P.info? t).map (fun i => (i.zero, i.size, i.bytes)) = some (some z, s, b)) : ∃ i, P.info? t = some i ∧ i.zero = some z ∧ i.size = s ∧ i.bytes = b := by
  cases e : P.info? t with
  | none => rw [e] at h; cases h
  | some i =>
    rw [e] at h
    simp only [Option.map_some, Option.some.injEq, Prod.mk.injEq] at h
    exact ⟨i, rfl, h.1, h.2.1, h.2.2⟩
theorem lies_of {v : Value} {g n c z H : Nat} (h : v.ownBlock = some g ∨ g = H) (hz : z ≤ H) : ∀ k, (Value.slice (some ⟨g, 0, none⟩) n c).ownBlock = some k → v.ownBlock = some k ∨ z ≤ k := fun k hk => by
  have e : g = k := by simpa [Value.ownBlock] using hk
  rcases h with h | h
  · exact .inl (by rw [h, e])
  · exact .inr (by omega)
theorem infoPS : (Try.prog.info? 107).map (fun i => (i.zero, i.size, i.bytes)) = some (some (.pointer none), 1, 8) := by kernel_rfl
set_option maxRecDepth 100000 in
set_option maxHeartbeats 1000000 in
theorem pushS (ab p n : Nat) (v mp : Value) (sets : Int) (cs : List Value) (k : Value) (a t m : Int) (w : World) (hn : n ≤ 1000) (ha : RowA pl w ab v mp sets) (hp : Row w p 106 #[k, .int .i64 a, .int .i64 t, .int .i64 m]) (ho : w.ownsRow 0 107 1 v n cs) :
    Calls Try.prog 99 #[.pointer (some ⟨ab, pl.o, none⟩), .iface 107 (.pointer (some ⟨p, 0, none⟩))] w fun e w' => e = .returned (.tuple #[]) ∧ ∃ v', w'.ownsRow 0 107 1 v' (n + 1) (cs ++ [.pointer (some ⟨p, 0, none⟩)]) ∧ (∀ k, v'.ownBlock = some k → v.ownBlock = some k ∨ w.heap.size ≤ k) ∧ RowA pl w' ab v' mp sets ∧ Row w' p 106 #[k, .int .i64 a, .int .i64 t, .int .i64 n] ∧ Keep (fun x => x = ab ∨ x = p ∨ v.ownBlock = some x) w w' := by
  obtain ⟨i0, hi, hz0, hz1, hz2⟩ := info_parts infoPS
  have hap : ab ≠ p := row_apart0 ha hp pl.n2
  have hva := own_ne ho ha (Ne.symm pl.n1)
  have hvp := own_ne ho hp (by decide)
  obtain ⟨sa, sc, hv⟩ := own_slice ho
  have c0 : w.cell? ⟨ab, pl.o, none⟩ = some v := ha.c0
  have c1 : w.cell? ⟨p, 3, none⟩ = some (.int .i64 m) := by rw [hp.cell]; rfl
  have f1 := hp.free 3
  obtain ⟨w1, hw1⟩ : ∃ w1, w.setCell ⟨p, 3, none⟩ (.int .i64 (n : Int)) = w1 := ⟨_, rfl⟩
  have hP1 : Row w1 p 106 #[k, .int .i64 a, .int .i64 t, .int .i64 n] := by rw [← hw1]; exact hp.put 3 _
  have hA1 : RowA pl w1 ab v mp sets := by rw [← hw1]; exact ha.far hap _
  have hO1 : w1.ownsRow 0 107 1 v n cs := by rw [← hw1]; exact own_set ho hp (by decide) _
  have hK1 : Keep (fun x => x = ab ∨ x = p ∨ v.ownBlock = some x) w w1 := by rw [← hw1]; exact Keep.setCell w (.inr (.inl rfl)) _
  have HSZ := Lib.hid hK1.size
  have HP1 := Lib.hid (hP1.alloc (.cells #[.pointer (some ⟨p, 0, none⟩)] 107))
  have HA1 := Lib.hid (hA1.alloc (.cells #[.pointer (some ⟨p, 0, none⟩)] 107))
  have HO1 := Lib.hid (hO1.alloc (.cells #[.pointer (some ⟨p, 0, none⟩)] 107))
  have HK1 := Lib.hid (hK1.trans (Keep.alloc w1 (.cells #[.pointer (some ⟨p, 0, none⟩)] 107)))
  have HR1 := Lib.hid (Row.new w1 107 #[.pointer (some ⟨p, 0, none⟩)])
  have HSC : Hid (∀ j u, [Value.pointer (some ⟨p, 0, none⟩)][j]? = some u → (w1.alloc (.cells #[.pointer (some ⟨p, 0, none⟩)] 107)).cell? ((⟨w1.heap.size, 0, none⟩ : Addr).add j) = some u) := fun j u h => by
    obtain ⟨rfl, rfl⟩ : j = 0 ∧ u = .pointer (some ⟨p, 0, none⟩) := by
      cases j with
      | zero => simp at h; exact ⟨rfl, h.symm⟩
      | succ j => simp at h
    show World.cell? _ ⟨w1.heap.size, 0, none⟩ = _
    rw [HR1.out.cell]; rfl
  have HON : Hid (∀ u ∈ [Value.pointer (some ⟨p, 0, none⟩)], u.oneCell' = true) := by intro u hu; simp at hu; subst hu; rfl
  have cA : w1.cell? ⟨ab, pl.o, none⟩ = some v := hA1.c0
  have HVA := Lib.hid hva
  have HVP := Lib.hid hvp
  have HAP := Lib.hid hap
  subst hv
  clear ha hp ho hP1 hA1 hO1 hK1 hva hvp hap
  have hta : ∀ w : World, (Instr.typeAssert (.iface 107 (.pointer (some ⟨p, 0, none⟩))) 20 107 false).run Try.prog w = .ok (.pointer (some ⟨p, 0, none⟩)) w := fun _ => by kernel_rfl
  go_enter Try.func99, Try.ntmps99
  go_wp2_with (at_builtin; refine wpList_append_lies _ rfl _ _ 75 rfl 0 107 i0 (.pointer none) 1 8 Try.underlying75 hi hz0 hz1 hz2 rfl (by decide) _ _ _ rfl HO1.out ⟨w1.heap.size, 0, none⟩ 1 1 [.pointer (some ⟨p, 0, none⟩)] rfl rfl HSC.out HON.out (by decide) (by unfold maxLen; omega) (by omega) (Nat.zero_le _) _ rfl ?_; intro g9 k9 w10 hown' hgrow hv9 hlt9; have HV9 : Hid (Value.ownBlock (.slice sa n sc) = some g9 ∨ g9 = (w1.alloc (.cells #[.pointer (some ⟨p, 0, none⟩)] 107)).heap.size) := hv9; clear hv9 hlt9; have HP9 := Lib.hid (HP1.out.grown hgrow HVP.out); have HA9 := Lib.hid (HA1.out.grown hgrow HVA.out); have HK9 := Lib.hid (HK1.out.trans (Keep.grown (G := fun x => x = ab ∨ x = p ∨ (Value.slice sa n sc).ownBlock = some x) hgrow (fun x h => .inr (.inr h)))); have c9 : w10.cell? ⟨ab, pl.o, none⟩ = some (.slice sa n sc) := HA9.out.c0; have f9 := HA9.out.free pl.o; have HW := Lib.hid hown'; clear hown' hgrow)
  show bodyPost _ _ _ _ _ _
  refine bodyPost_end (v := .tuple #[]) (by simp [results, Try.results99]) rfl ⟨rfl, ?_⟩
  exact ⟨_, own_set HW.out HA9.out (Ne.symm pl.n1) _, lies_of HV9.out (Nat.le_trans HSZ.out (below_alloc w1 _).size), HA9.out.put0 _, HP9.out.far (Ne.symm HAP.out) _, HK9.out.trans (Keep.setCell _ (.inl rfl) _)⟩
theorem infoPN : (Try.prog.info? 97).map (fun i => (i.zero, i.size, i.bytes)) = some (some (.pointer none), 1, 8) := by kernel_rfl
set_option maxRecDepth 100000 in
set_option maxHeartbeats 1000000 in
theorem pushN (ab p n : Nat) (v mp : Value) (sets : Int) (cs : List Value) (k : Value) (a t m : Int) (w : World) (hn : n ≤ 1000) (ha : RowA pl w ab v mp sets) (hp : Row w p 99 #[k, .int .i64 a, .int .i64 t, .int .i64 m]) (ho : w.ownsRow 0 97 1 v n cs) :
    Calls Try.prog 96 #[.pointer (some ⟨ab, pl.o, none⟩), .iface 97 (.pointer (some ⟨p, 0, none⟩))] w fun e w' => e = .returned (.tuple #[]) ∧ ∃ v', w'.ownsRow 0 97 1 v' (n + 1) (cs ++ [.pointer (some ⟨p, 0, none⟩)]) ∧ (∀ k, v'.ownBlock = some k → v.ownBlock = some k ∨ w.heap.size ≤ k) ∧ RowA pl w' ab v' mp sets ∧ Row w' p 99 #[k, .int .i64 a, .int .i64 t, .int .i64 n] ∧ Keep (fun x => x = ab ∨ x = p ∨ v.ownBlock = some x) w w' := by
  obtain ⟨i0, hi, hz0, hz1, hz2⟩ := info_parts infoPN
  have hap : ab ≠ p := row_apart0 ha hp pl.n4
  have hva := own_ne ho ha (Ne.symm pl.n3)
  have hvp := own_ne ho hp (by decide)
  obtain ⟨sa, sc, hv⟩ := own_slice ho
  have c0 : w.cell? ⟨ab, pl.o, none⟩ = some v := ha.c0
  have c1 : w.cell? ⟨p, 3, none⟩ = some (.int .i64 m) := by rw [hp.cell]; rfl
  have f1 := hp.free 3
  obtain ⟨w1, hw1⟩ : ∃ w1, w.setCell ⟨p, 3, none⟩ (.int .i64 (n : Int)) = w1 := ⟨_, rfl⟩
  have hP1 : Row w1 p 99 #[k, .int .i64 a, .int .i64 t, .int .i64 n] := by rw [← hw1]; exact hp.put 3 _
  have hA1 : RowA pl w1 ab v mp sets := by rw [← hw1]; exact ha.far hap _
  have hO1 : w1.ownsRow 0 97 1 v n cs := by rw [← hw1]; exact own_set ho hp (by decide) _
  have hK1 : Keep (fun x => x = ab ∨ x = p ∨ v.ownBlock = some x) w w1 := by rw [← hw1]; exact Keep.setCell w (.inr (.inl rfl)) _
  have HSZ := Lib.hid hK1.size
  have HP1 := Lib.hid (hP1.alloc (.cells #[.pointer (some ⟨p, 0, none⟩)] 97))
  have HA1 := Lib.hid (hA1.alloc (.cells #[.pointer (some ⟨p, 0, none⟩)] 97))
  have HO1 := Lib.hid (hO1.alloc (.cells #[.pointer (some ⟨p, 0, none⟩)] 97))
  have HK1 := Lib.hid (hK1.trans (Keep.alloc w1 (.cells #[.pointer (some ⟨p, 0, none⟩)] 97)))
  have HR1 := Lib.hid (Row.new w1 97 #[.pointer (some ⟨p, 0, none⟩)])
  have HSC : Hid (∀ j u, [Value.pointer (some ⟨p, 0, none⟩)][j]? = some u → (w1.alloc (.cells #[.pointer (some ⟨p, 0, none⟩)] 97)).cell? ((⟨w1.heap.size, 0, none⟩ : Addr).add j) = some u) := fun j u h => by
    obtain ⟨rfl, rfl⟩ : j = 0 ∧ u = .pointer (some ⟨p, 0, none⟩) := by
      cases j with
      | zero => simp at h; exact ⟨rfl, h.symm⟩
      | succ j => simp at h
    show World.cell? _ ⟨w1.heap.size, 0, none⟩ = _
    rw [HR1.out.cell]; rfl
  have HON : Hid (∀ u ∈ [Value.pointer (some ⟨p, 0, none⟩)], u.oneCell' = true) := by intro u hu; simp at hu; subst hu; rfl
  have cA : w1.cell? ⟨ab, pl.o, none⟩ = some v := hA1.c0
  have HVA := Lib.hid hva
  have HVP := Lib.hid hvp
  have HAP := Lib.hid hap
  subst hv
  clear ha hp ho hP1 hA1 hO1 hK1 hva hvp hap
  have hta : ∀ w : World, (Instr.typeAssert (.iface 97 (.pointer (some ⟨p, 0, none⟩))) 20 97 false).run Try.prog w = .ok (.pointer (some ⟨p, 0, none⟩)) w := fun _ => by kernel_rfl
  go_enter Try.func96, Try.ntmps96
  go_wp2_with (at_builtin; refine wpList_append_lies _ rfl _ _ 63 rfl 0 97 i0 (.pointer none) 1 8 Try.underlying63 hi hz0 hz1 hz2 rfl (by decide) _ _ _ rfl HO1.out ⟨w1.heap.size, 0, none⟩ 1 1 [.pointer (some ⟨p, 0, none⟩)] rfl rfl HSC.out HON.out (by decide) (by unfold maxLen; omega) (by omega) (Nat.zero_le _) _ rfl ?_; intro g9 k9 w10 hown' hgrow hv9 hlt9; have HV9 : Hid (Value.ownBlock (.slice sa n sc) = some g9 ∨ g9 = (w1.alloc (.cells #[.pointer (some ⟨p, 0, none⟩)] 97)).heap.size) := hv9; clear hv9 hlt9; have HP9 := Lib.hid (HP1.out.grown hgrow HVP.out); have HA9 := Lib.hid (HA1.out.grown hgrow HVA.out); have HK9 := Lib.hid (HK1.out.trans (Keep.grown (G := fun x => x = ab ∨ x = p ∨ (Value.slice sa n sc).ownBlock = some x) hgrow (fun x h => .inr (.inr h)))); have c9 : w10.cell? ⟨ab, pl.o, none⟩ = some (.slice sa n sc) := HA9.out.c0; have f9 := HA9.out.free pl.o; have HW := Lib.hid hown'; clear hown' hgrow)
  show bodyPost _ _ _ _ _ _
  refine bodyPost_end (v := .tuple #[]) (by simp [results, Try.results96]) rfl ⟨rfl, ?_⟩
  exact ⟨_, own_set HW.out HA9.out (Ne.symm pl.n3) _, lies_of HV9.out (Nat.le_trans HSZ.out (below_alloc w1 _).size), HA9.out.put0 _, HP9.out.far (Ne.symm HAP.out) _, HK9.out.trans (Keep.setCell _ (.inl rfl) _)⟩
end PlV
end Go.Proofs.Ytcdgmhglpcokdaa
