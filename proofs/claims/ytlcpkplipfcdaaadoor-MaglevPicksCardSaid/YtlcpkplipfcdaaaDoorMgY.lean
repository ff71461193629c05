/- stewardlaw05.Same (out of XSameA); sorted entries are the same in whatever order they come. -/
import Derived.Test.YtlcpkplipfcdaaaDoorMgX
import Derived.BigQuiet
import Derived.Laws.AppendOwn
namespace Go.Proofs.YtlcpkplipfcdaaaDoor
open Go.RowKit

theorem str_beqM (a b : ByteArray) : (a.toList == b.toList) = decide (a = b) := by
  rw [ByteArray.toList_eq, ByteArray.toList_eq]
  by_cases h : a = b
  · subst h; simp
  · have h2 : ¬ a.data = b.data := fun e => h (ByteArray.ext e)
    simp [h, h2]
theorem take_eq_step (xs ys : List ByteArray) (j : Nat) (hx : j < xs.length) (hy : j < ys.length) (h : xs.take j = ys.take j) (he : xs[j] = ys[j]) : xs.take (j + 1) = ys.take (j + 1) := by
  rw [List.take_add_one, List.take_add_one, h, List.getElem?_eq_getElem hx, List.getElem?_eq_getElem hy, he]

set_option maxRecDepth 100000 in
set_option maxHeartbeats 1000000 in
theorem sameM (a : Option Addr) (c : Nat) (xs : List ByteArray) (b : Option Addr) (d : Nat) (ys : List ByteArray) (R : Bool) (hR : R = decide (xs = ys)) (hlx : xs.length ≤ 9223372036854775807) (hly : ys.length ≤ 9223372036854775807) (w : World) (hx : IsStrs w a c xs) (hy : IsStrs w b d ys) :
    Calls Tryd.prog 22 #[.slice a xs.length c, .slice b ys.length d] w fun e w' => e = .returned (.bool R) ∧ Below w.heap.size w w' := by
  by_cases hsz : xs.length = ys.length
  · have HR := Lib.hid hR
    have hne : ((xs.length : Int) != (ys.length : Int)) = false := by simp [hsz]
    have HS := Lib.hid hsz
    have HX := Lib.hid hx
    have HY := Lib.hid hy
    clear hR hsz hx hy
    go_enter Tryd.func22, Tryd.ntmps22
    go_wp2_with fail
    clear hne
    go_loopw [13] (fun i wr => ∃ j : Nat, j ≤ xs.length ∧ i = .int .i64 (j : Int) ∧ Hid (xs.take j = ys.take j) ∧ Below w.heap.size w wr) (fun i _ => xs.length - (intOf i).toNat)
    case atStart => exact ⟨0, Nat.zero_le _, rfl, rfl, Below.refl _ _⟩
    case round =>
      obtain ⟨j, hj, rfl, hr, hbl⟩ := hrel
      by_cases hlt : j < xs.length
      · have hly2 : j < ys.length := by have := HS.out; omega
        obtain h0 | ⟨bk, o, rfl, hbk, hc, hcell⟩ := HX.out.below hbl
        · subst h0; simp at hlt
        obtain h0 | ⟨bk2, o2, rfl, hbk2, hc2, hcell2⟩ := HY.out.below hbl
        · subst h0; simp at hly2
        have cj := hcell j xs[j] (by simp [hlt])
        have dj := hcell2 j ys[j] (by simp [hly2])
        have j1 : (j : Int) < xs.length := by omega
        have j2 : (j : Int) < ys.length := by omega
        have hbn : ∀ n, Below w.heap.size w (wr.drewN n) := fun n => hbl.trans ⟨rfl, rfl, rfl, Nat.le_refl _, fun _ _ => rfl⟩
        clear hcell hcell2
        by_cases he : xs[j] = ys[j]
        · have hst := Lib.hid (take_eq_step xs ys j hlt hly2 hr.out he)
          rw [← he] at dj
          generalize xs[j] = x at cj dj
          clear he
          go_wp2_with fail
          go_quiet (fail)
          go_wp2_with fail
          go_roundw
          case rel => exact ⟨j + 1, hlt, by go_num, hst, hbn _⟩
          case measure => simp [intOf]; omega
        · have hno : Hid (¬ xs = ys) := fun e => he (by subst e; rfl)
          have hq : (xs[j].toList == ys[j].toList) = false := by rw [str_beqM, decide_eq_false he]
          have hq2 : (xs[j].toList != ys[j].toList) = true := by rw [bne, hq]; rfl
          clear he
          generalize xs[j] = x at cj hq hq2
          generalize ys[j] = y at dj hq hq2
          go_wp2_with fail
          go_quiet (fail)
          go_wp2_with fail
          go_ret
          exact ⟨by rw [HR.out, decide_eq_false hno.out]; rfl, hbn _⟩
      · obtain rfl : j = xs.length := by omega
        have h1 := hr.out
        have hs2 := HS.out
        rw [List.take_of_length_le (by omega), List.take_of_length_le (by omega)] at h1
        have H1 := Lib.hid h1
        clear h1 hs2
        go_wp2_with fail
        go_ret
        exact ⟨by rw [HR.out, decide_eq_true H1.out]; rfl, hbl⟩
  · have hno : R = false := by rw [hR]; exact decide_eq_false (fun e => hsz (by rw [e]))
    subst hno
    have hne : ((xs.length : Int) != (ys.length : Int)) = true := by simp; omega
    clear hR hsz hx hy
    go_enter Tryd.func22, Tryd.ntmps22
    go_wp2_with fail
    go_ret
    exact ⟨rfl, Below.refl _ _⟩
theorem apart_eq : ∀ {l : List Ent}, Apart l → ∀ {a b : Ent}, a ∈ l → b ∈ l → a.1 = b.1 → a = b
  | [], _, a, b, ha, _, _ => by simp at ha
  | x :: l, h, a, b, ha, hb, e => by
    unfold Apart at h
    obtain ⟨h1, h2⟩ := List.pairwise_cons.1 h
    rcases List.mem_cons.1 ha with rfl | ha2
    · rcases List.mem_cons.1 hb with rfl | hb2
      · rfl
      · exact absurd e (h1 b hb2)
    · rcases List.mem_cons.1 hb with rfl | hb2
      · exact absurd e.symm (h1 a ha2)
      · exact apart_eq (l := l) h2 ha2 hb2 e
theorem apart_perm {l l' : List Ent} (p : l.Perm l') : Apart l ↔ Apart l' := p.pairwise_iff (fun h => Ne.symm h)
theorem valid_perm {l l' : List Ent} (p : l.Perm l') : validB l = validB l' := by
  unfold validB
  rw [p.all_eq]
  congr 1
  rw [decide_eq_decide]
  exact apart_perm p
theorem sorted_uniq {l l' : List Ent} (p : l.Perm l') (h : SortedE l) (h' : SortedE l') (ha : Apart l) : l = l' := by
  unfold SortedE at h h'
  refine List.Perm.eq_of_pairwise (le := fun a b : Ent => ¬ nmB b.1 < nmB a.1) (fun a b ha1 hb1 h1 h2 => ?_) h h' p
  have hb2 : b ∈ l := (p.mem_iff).2 hb1
  refine apart_eq ha ha1 hb2 ?_
  have hle := List.le_antisymm (List.not_lt.1 h1) (List.not_lt.1 h2)
  exact ByteArray.ext (Array.ext' hle)
theorem Assigned.uniq {k : Nat → UInt8} {es : List Ent} {m : Nat} {o1 o2 : Nat → Int} (h1 : Assigned k es m o1) (h2 : Assigned k es m o2) : o1 = o2 := by
  rcases h1 with ⟨e1, rfl⟩ | ⟨n1, T1, c1, rfl⟩
  · rcases h2 with ⟨_, rfl⟩ | ⟨n2, _⟩
    · rfl
    · exact absurd e1 n2
  · rcases h2 with ⟨e2, _⟩ | ⟨_, T2, c2, rfl⟩
    · exact absurd e2 n1
    · rw [Par.run_same _ c1 c2]
end Go.Proofs.YtlcpkplipfcdaaaDoor
