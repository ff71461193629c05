/- Names: token.Name and the reference's. -/
import Derived.Test.YtoikgphbicnhaabKeepN
import Derived.BigQuiet
import Derived.Lib.IndexBytes
import Derived.IntWalk
namespace Go.Proofs.Ytoikgphbicnhaab
open Go.RowKit



def isLet (c : UInt8) : Bool := 97 ≤ c.toNat && c.toNat ≤ 122
def isNam (c : UInt8) : Bool := isLet c || (48 ≤ c.toNat && c.toNat ≤ 57) || c.toNat == 45
def nameB (l : List UInt8) : Bool := decide (1 ≤ l.length) && decide (l.length ≤ 32) && (l.head?.any isLet) && l.all isNam

theorem byte_ltT (c : UInt8) : (c.toNat : Int) < 256 := by have := c.toNat_lt; omega
theorem toList_getT (s : ByteArray) (k : Nat) (hk : k < s.size) : s.data.toList[k]? = some s[k] := by
  rw [List.getElem?_eq_getElem (by rw [← Lib.size_eq]; exact hk)]; rfl
theorem take_snocT (s : ByteArray) (k : Nat) (hk : k < s.size) : s.data.toList.take (k + 1) = s.data.toList.take k ++ [s[k]] := by
  rw [List.take_add_one, toList_getT s k hk]; rfl
theorem all_stepT (s : ByteArray) (p : UInt8 → Bool) (k : Nat) (hk : k < s.size) (h : (s.data.toList.take k).all p = true) (hp : p s[k] = true) : (s.data.toList.take (k + 1)).all p = true := by
  rw [take_snocT s k hk, List.all_append, h]; simp [hp]
theorem all_noT (s : ByteArray) (p : UInt8 → Bool) (k : Nat) (hk : k < s.size) (hp : p s[k] = false) : s.data.toList.all p = false := by
  rw [List.all_eq_false]
  exact ⟨s[k], List.mem_of_getElem? (toList_getT s k hk), by rw [hp]; simp⟩
theorem all_fullT (s : ByteArray) (p : UInt8 → Bool) (k : Nat) (hk : ¬ k < s.size) (h : (s.data.toList.take k).all p = true) : s.data.toList.all p = true := by
  rwa [List.take_of_length_le (by rw [← Lib.size_eq]; omega)] at h

set_option maxHeartbeats 400000 in
theorem let27 (c : UInt8) (w : World) : Calls Try.prog 43 #[.int .u8 (c.toNat : Int)] w fun e w' => e = .returned (.bool (isLet c)) ∧ w = w' := by
  unfold isLet
  have hb := byte_ltT c
  by_cases h1 : (97 : Int) ≤ c.toNat
  · have e1 : decide (97 ≤ c.toNat) = true := decide_eq_true (by omega)
    by_cases h2 : (c.toNat : Int) ≤ 122
    · have e2 : decide (c.toNat ≤ 122) = true := decide_eq_true (by omega)
      rw [e1, e2]
      clear e1 e2
      go_enter Try.func43, Try.ntmps43
      go_wp2_with fail
      go_ret
      exact ⟨rfl, rfl⟩
    · have e2 : decide (c.toNat ≤ 122) = false := decide_eq_false (by omega)
      rw [e1, e2]
      clear e1 e2
      go_enter Try.func43, Try.ntmps43
      go_wp2_with fail
      go_ret
      exact ⟨rfl, rfl⟩
  · have e1 : decide (97 ≤ c.toNat) = false := decide_eq_false (by omega)
    rw [e1]
    clear e1
    go_enter Try.func43, Try.ntmps43
    go_wp2_with fail
    go_ret
    exact ⟨rfl, rfl⟩

/-- The function value: a letter? -/
def letV : Value := .func (.func 43) #[] #[]
def namV (b : Nat) : Value := .func (.func 44) #[] #[.pointer (some ⟨b, 0, none⟩)]
set_option maxRecDepth 100000 in
set_option maxHeartbeats 1000000 in
theorem nam28 (c : UInt8) (b : Nat) (w : World) (hc : w.cell? ⟨b, 0, none⟩ = some letV) :
    Calls Try.prog 44 #[.int .u8 (c.toNat : Int), .pointer (some ⟨b, 0, none⟩)] w fun e w' => e = .returned (.bool (isNam c)) ∧ w = w' := by
  unfold letV at hc
  unfold isNam
  have hb := byte_ltT c
  have HL := Lib.hid (let27 c w)
  generalize isLet c = q at *
  by_cases h1 : (48 : Int) ≤ c.toNat
  · have e1 : decide (48 ≤ c.toNat) = true := decide_eq_true (by omega)
    by_cases h2 : (c.toNat : Int) ≤ 57
    · have e2 : decide (c.toNat ≤ 57) = true := decide_eq_true (by omega)
      rw [e1, e2]
      clear e1 e2
      cases q
      all_goals
        go_enter Try.func44, Try.ntmps44
        go_wp2_with fail
        refine HL.out.mono ?_
        rintro e w' ⟨rfl, rfl⟩
        go_wp2_with fail
        go_ret
        exact ⟨rfl, rfl⟩
    · have e2 : decide (c.toNat ≤ 57) = false := decide_eq_false (by omega)
      have e3 : (c.toNat == 45) = false := by rw [beq_eq_false_iff_ne]; omega
      have e4 : ((c.toNat : Int) == 45) = false := by rw [beq_eq_false_iff_ne]; omega
      have e5 : decide ((c.toNat : Int) ≤ 57) = false := decide_eq_false (by omega)
      rw [e1, e2, e3]
      clear e1 e2 e3
      cases q
      all_goals
        go_enter Try.func44, Try.ntmps44
        go_wp2_with fail
        refine HL.out.mono ?_
        rintro e w' ⟨rfl, rfl⟩
        go_wp2_with fail
        go_ret
        exact ⟨by first | rfl | simp [e5], rfl⟩
  · have e1 : decide (48 ≤ c.toNat) = false := decide_eq_false (by omega)
    rw [e1]
    clear e1
    by_cases h3 : (c.toNat : Int) = 45
    · have e3 : (c.toNat == 45) = true := by rw [beq_iff_eq]; omega
      have e4 : ((c.toNat : Int) == 45) = true := by rw [beq_iff_eq]; omega
      rw [e3]
      have H3 := Lib.hid h3
      clear e3 h3
      cases q
      all_goals
        go_enter Try.func44, Try.ntmps44
        go_wp2_with fail
        refine HL.out.mono ?_
        rintro e w' ⟨rfl, rfl⟩
        go_wp2_with fail
        go_ret
        exact ⟨rfl, rfl⟩
    · have e3 : (c.toNat == 45) = false := by rw [beq_eq_false_iff_ne]; omega
      have e4 : ((c.toNat : Int) == 45) = false := by rw [beq_eq_false_iff_ne]; omega
      rw [e3]
      clear e3
      cases q
      all_goals
        go_enter Try.func44, Try.ntmps44
        go_wp2_with fail
        refine HL.out.mono ?_
        rintro e w' ⟨rfl, rfl⟩
        go_wp2_with fail
        go_ret
        exact ⟨rfl, rfl⟩

set_option maxHeartbeats 1000000 in
theorem all29 (s : ByteArray) (hs : s.size ≤ 4611686018427387904) (b : Nat) (w : World) (hc : w.cell? ⟨b, 0, none⟩ = some letV) :
    Calls Try.prog 45 #[.string s, namV b] w fun e w' => e = .returned (.bool (s.data.toList.all isNam)) ∧ w = w' := by
  obtain ⟨R, hR⟩ : ∃ R, R = s.data.toList.all isNam := ⟨_, rfl⟩
  rw [← hR]
  have HR := Lib.hid hR
  have HC := Lib.hid hc
  clear hR hc
  unfold namV
  go_enter Try.func45, Try.ntmps45
  go_wp2_with fail
  go_loop [8] (fun i => ∃ j : Nat, j ≤ s.size ∧ i = .int .i64 j ∧ Hid ((s.data.toList.take j).all isNam = true)) (fun i => s.size - (intOf i).toNat)
  case atStart => exact ⟨0, Nat.zero_le _, rfl, by simp [Hid]⟩
  case round =>
    obtain ⟨j, hj, rfl, hr⟩ := hrel
    by_cases hlt : j < s.size
    · have HN := Lib.hid (nam28 s[j] b w HC.out)
      obtain ⟨q, hq⟩ : ∃ q, q = isNam s[j] := ⟨_, rfl⟩
      rw [← hq] at HN
      have HQ := Lib.hid hq
      clear hq
      cases q
      · have hno := Lib.hid (all_noT s isNam j hlt HQ.out.symm)
        go_wp2_with fail
        refine HN.out.mono ?_
        rintro e w' ⟨rfl, rfl⟩
        go_wp2_with fail
        go_ret
        exact ⟨by rw [HR.out, hno.out]; rfl, rfl⟩
      · have hst := Lib.hid (all_stepT s isNam j hlt hr.out HQ.out.symm)
        go_wp2_with fail
        refine HN.out.mono ?_
        rintro e w' ⟨rfl, rfl⟩
        go_wp2_with fail
        go_round
        case rel => exact ⟨j + 1, by omega, by go_num, hst⟩
        case measure => simp [intOf]; omega
    · have hf := Lib.hid (all_fullT s isNam j hlt hr.out)
      go_wp2_with fail
      go_ret
      exact ⟨by rw [HR.out, hf.out]; rfl, rfl⟩
theorem head_let (s : ByteArray) (h : 0 < s.size) : (s.data.toList.head?.any isLet) = isLet s[0] := by
  have := toList_getT s 0 h
  rw [List.head?_eq_getElem?, this]; rfl
set_option maxRecDepth 100000 in
set_option maxHeartbeats 2000000 in
theorem name13 (s : ByteArray) (hs : s.size ≤ 4611686018427387904) (w : World) :
    Calls Try.prog 33 #[.string s] w fun e w' => e = .returned (.bool (nameB s.data.toList)) ∧ Below w.heap.size w w' := by
  have hz := Lib.size_eq s
  have hst : (store ⟨w.heap.size, 0, none⟩ (Value.func (.func 43) #[] #[])).run Try.prog (w.alloc (.cells #[.nilFunc] 73)) = .ok () (w.alloc (.cells #[letV] 73)) := by
    rw [run_store _ _ _ _ _ rfl, show (w.alloc (.cells #[.nilFunc] 73)).cell? ⟨w.heap.size, 0, none⟩ = some .nilFunc by simp, show (w.alloc (.cells #[.nilFunc] 73)).frozen? ⟨w.heap.size, 0, none⟩ = false by simp]
    simp only [Bool.false_eq_true, if_false]
    rw [World.setCell_alloc_at _ _ _ _ _ rfl]
    rfl
  have L0 := below_alloc w (.cells #[letV] 73)
  have c0 : (w.alloc (.cells #[letV] 73)).cell? ⟨w.heap.size, 0, none⟩ = some letV := by simp
  unfold nameB
  by_cases h1 : 1 ≤ s.size
  · rw [decide_eq_true (p := 1 ≤ s.data.toList.length) (by omega)]
    have j1 : (1 : Int) ≤ s.size := by omega
    by_cases h2 : s.size ≤ 32
    · rw [decide_eq_true (p := s.data.toList.length ≤ 32) (by omega), head_let s h1]
      have j2 : (s.size : Int) ≤ 32 := by omega
      have HL := Lib.hid (fun w => calls_flip (let27 s[0] w))
      have HA := Lib.hid (fun W h => calls_flip (all29 s hs w.heap.size W h))
      generalize isLet s[0] = q at *
      generalize s.data.toList.all isNam = p at *
      clear hz
      unfold letV namV at *
      have j3 : (0 : Int) < s.size := by omega
      have j4 : 0 < s.size := h1
      cases q
      · go_enter Try.func33, Try.ntmps33
        go_wp2_with fail
        go_quiet (first | (go_at_call 43; exact Calls.quiet_of_same (HL.out _)) | (go_at_call 45; exact Calls.quiet_of_same (HA.out _ (by assumption))))
        go_wp2_with fail
        go_ret
        exact ⟨rfl, L0.trans ⟨rfl, rfl, rfl, Nat.le_refl _, fun _ _ => rfl⟩⟩
      · go_enter Try.func33, Try.ntmps33
        go_wp2_with fail
        go_quiet (first | (go_at_call 43; exact Calls.quiet_of_same (HL.out _)) | (go_at_call 45; exact Calls.quiet_of_same (HA.out _ (by assumption))))
        go_wp2_with fail
        go_ret
        exact ⟨rfl, L0.trans ⟨rfl, rfl, rfl, Nat.le_refl _, fun _ _ => rfl⟩⟩
    · rw [decide_eq_false (p := s.data.toList.length ≤ 32) (by omega)]
      have j2 : decide ((s.size : Int) ≤ 32) = false := decide_eq_false (by omega)
      clear hz
      unfold letV at *
      simp only [Bool.and_false, Bool.false_and]
      go_enter Try.func33, Try.ntmps33
      go_wp2_with fail
      go_quiet (fail)
      go_wp2_with fail
      go_ret
      exact ⟨rfl, L0.trans ⟨rfl, rfl, rfl, Nat.le_refl _, fun _ _ => rfl⟩⟩
  · rw [decide_eq_false (p := 1 ≤ s.data.toList.length) (by omega)]
    have j1 : decide ((1 : Int) ≤ s.size) = false := decide_eq_false (by omega)
    clear hz
    unfold letV at *
    simp only [Bool.false_and]
    go_enter Try.func33, Try.ntmps33
    go_wp2_with fail
    go_quiet (fail)
    go_wp2_with fail
    go_ret
    exact ⟨rfl, L0.trans ⟨rfl, rfl, rfl, Nat.le_refl _, fun _ _ => rfl⟩⟩

def NameTo (l : List UInt8) : Prop := l.all isNam = true ∧ (l ≠ [] → l.head?.any isLet = true)
theorem let_nam {c : UInt8} (h : isLet c = true) : isNam c = true := by unfold isNam; rw [h]; rfl
theorem take_ne (s : ByteArray) (j : Nat) (h : 0 < j) (hj : j < s.size) : s.data.toList.take (j + 1) ≠ [] ∧ s.data.toList.take j ≠ [] ∧ (s.data.toList.take (j + 1)).head? = (s.data.toList.take j).head? := by
  have hz := Lib.size_eq s
  cases hl : s.data.toList with
  | nil => rw [hl, List.length_nil] at hz; omega
  | cons a r =>
    obtain ⟨k, rfl⟩ : ∃ k, j = k + 1 := ⟨j - 1, by omega⟩
    simp
theorem nt_step0 (s : ByteArray) (hj : 0 < s.size) (h : isLet s[0] = true) : NameTo (s.data.toList.take 1) := by
  rw [take_snocT s 0 hj]
  simp [NameTo, h, let_nam h]
theorem nt_step (s : ByteArray) (j : Nat) (h0 : 0 < j) (hj : j < s.size) (hn : NameTo (s.data.toList.take j)) (h : isNam s[j] = true) : NameTo (s.data.toList.take (j + 1)) := by
  obtain ⟨h1, h2, h3⟩ := take_ne s j h0 hj
  refine ⟨all_stepT s isNam j hj hn.1 h, fun _ => ?_⟩
  rw [h3]; exact hn.2 h2
theorem nt_bad0 (s : ByteArray) (hj : 0 < s.size) (h : isLet s[0] = false) : nameB s.data.toList = false := by
  unfold nameB
  rw [head_let s hj, h]; simp
theorem nt_bad (s : ByteArray) (j : Nat) (hj : j < s.size) (h : isNam s[j] = false) : nameB s.data.toList = false := by
  unfold nameB
  rw [all_noT s isNam j hj h]; simp
theorem nt_full (s : ByteArray) (h : NameTo (s.data.toList.take s.size)) : nameB s.data.toList = (decide (1 ≤ s.size) && decide (s.size ≤ 32)) := by
  have hz := Lib.size_eq s
  rw [List.take_of_length_le (by omega)] at h
  unfold nameB
  rw [h.1, ← hz]
  by_cases h1 : 1 ≤ s.size
  · rw [h.2 (fun e => by rw [e, List.length_nil] at hz; omega)]; simp
  · rw [decide_eq_false h1]; simp
set_option maxRecDepth 100000 in
set_option maxHeartbeats 4000000 in
theorem rname14 (s : ByteArray) (hs : s.size ≤ 4611686018427387904) (w : World) :
    Calls Try.prog 38 #[.string s] w fun e w' => e = .returned (.bool (nameB s.data.toList)) ∧ Below w.heap.size w w' := by
  obtain ⟨R, hR⟩ : ∃ R, R = nameB s.data.toList := ⟨_, rfl⟩
  rw [← hR]
  have HR := Lib.hid hR
  clear hR
  go_enter Try.func38, Try.ntmps38
  go_wp2_with fail
  go_loopw [3] (fun i wr => ∃ j : Nat, j ≤ s.size ∧ i = .int .i64 (j : Int) ∧ Hid (NameTo (s.data.toList.take j)) ∧ Below w.heap.size w wr) (fun i _ => s.size - (intOf i).toNat)
  case atStart => exact ⟨0, Nat.zero_le _, rfl, ⟨rfl, fun h => absurd rfl h⟩, Below.refl _ _⟩
  case round =>
    obtain ⟨j, hj, rfl, hr, hb⟩ := hrel
    by_cases hlt : j < s.size
    · have hc := byte_ltT s[j]
      have jl : (j : Int) < s.size := by omega
      by_cases h1 : (97 : Int) ≤ s[j].toNat
      · by_cases h2 : (s[j].toNat : Int) ≤ 122
        · have hL : isLet s[j] = true := by unfold isLet; simp; omega
          have hst : Hid (NameTo (s.data.toList.take (j + 1))) := by
            by_cases h0 : 0 < j
            · exact nt_step s j h0 hlt hr.out (let_nam hL)
            · obtain rfl : j = 0 := by omega
              exact nt_step0 s hlt hL
          clear hL
          go_wp2_with fail
          go_roundw
          case rel => exact ⟨j + 1, hlt, by go_num, hst, hb⟩
          case measure => simp [intOf]; omega
        · have hL : isLet s[j] = false := by unfold isLet; simp; omega
          have hN : isNam s[j] = false := by unfold isNam; rw [hL]; simp; omega
          have hno : Hid (nameB s.data.toList = false) := nt_bad s j hlt hN
          have e2 : ((s[j].toNat : Int) != 45) = true := by rw [bne_iff_ne]; omega
          clear hL hN
          by_cases h0 : j = 0
          · have e1 : ((j : Int) == 0) = true := by rw [beq_iff_eq]; omega
            clear h0
            go_wp2_with fail
            go_ret
            exact ⟨by rw [HR.out, hno.out]; rfl, hb⟩
          · have e1 : ((j : Int) == 0) = false := by rw [beq_eq_false_iff_ne]; omega
            clear h0
            go_wp2_with fail
            go_ret
            exact ⟨by rw [HR.out, hno.out]; rfl, hb⟩
      · have hL : isLet s[j] = false := by unfold isLet; simp; omega
        by_cases h0 : j = 0
        · have e1 : ((j : Int) == 0) = true := by rw [beq_iff_eq]; omega
          have hno : Hid (nameB s.data.toList = false) := by
            subst h0
            exact nt_bad0 s hlt hL
          clear h0 hL
          go_wp2_with fail
          go_ret
          exact ⟨by rw [HR.out, hno.out]; rfl, hb⟩
        · have e1 : ((j : Int) == 0) = false := by rw [beq_eq_false_iff_ne]; omega
          by_cases h45 : s[j].toNat = 45
          · have e2 : ((s[j].toNat : Int) != 45) = false := by rw [bne_eq_false_iff_eq]; omega
            have hN : isNam s[j] = true := by unfold isNam; simp [h45]
            have hst : Hid (NameTo (s.data.toList.take (j + 1))) := nt_step s j (by omega) hlt hr.out hN
            clear hL hN h45 h0
            go_wp2_with fail
            go_roundw
            case rel => exact ⟨j + 1, hlt, by go_num, hst, hb⟩
            case measure => simp [intOf]; omega
          · have e2 : ((s[j].toNat : Int) != 45) = true := by rw [bne_iff_ne]; omega
            by_cases h48 : (s[j].toNat : Int) < 48
            · have hN : isNam s[j] = false := by unfold isNam; rw [hL]; simp; omega
              have hno : Hid (nameB s.data.toList = false) := nt_bad s j hlt hN
              clear hL hN h45 h0
              go_wp2_with fail
              go_ret
              exact ⟨by rw [HR.out, hno.out]; rfl, hb⟩
            · by_cases h57 : (57 : Int) < s[j].toNat
              · have hN : isNam s[j] = false := by unfold isNam; rw [hL]; simp; omega
                have hno : Hid (nameB s.data.toList = false) := nt_bad s j hlt hN
                clear hL hN h45 h0
                go_wp2_with fail
                go_ret
                exact ⟨by rw [HR.out, hno.out]; rfl, hb⟩
              · have hN : isNam s[j] = true := by unfold isNam; rw [hL]; simp; omega
                have hst : Hid (NameTo (s.data.toList.take (j + 1))) := nt_step s j (by omega) hlt hr.out hN
                clear hL hN h45 h0
                go_wp2_with fail
                go_roundw
                case rel => exact ⟨j + 1, hlt, by go_num, hst, hb⟩
                case measure => simp [intOf]; omega
    · obtain rfl : j = s.size := by omega
      have hf := Lib.hid (nt_full s hr.out)
      by_cases h1 : 1 ≤ s.size
      · have j1 : (1 : Int) ≤ s.size := by omega
        by_cases h2 : s.size ≤ 32
        · have j2 : (s.size : Int) ≤ 32 := by omega
          have hv : Hid (R = true) := by show R = true; rw [HR.out, hf.out, decide_eq_true h1, decide_eq_true h2]; rfl
          go_wp2_with fail
          go_ret
          exact ⟨by rw [hv.out]; rfl, hb⟩
        · have j2 : decide ((s.size : Int) ≤ 32) = false := decide_eq_false (by omega)
          have hv : Hid (R = false) := by show R = false; rw [HR.out, hf.out, decide_eq_false h2]; simp
          go_wp2_with fail
          go_ret
          exact ⟨by rw [hv.out]; rfl, hb⟩
      · have j1 : decide ((1 : Int) ≤ s.size) = false := decide_eq_false (by omega)
        have hv : Hid (R = false) := by show R = false; rw [HR.out, hf.out, decide_eq_false h1]; simp
        go_wp2_with fail
        go_ret
        exact ⟨by rw [hv.out]; rfl, hb⟩
end Go.Proofs.Ytoikgphbicnhaab
