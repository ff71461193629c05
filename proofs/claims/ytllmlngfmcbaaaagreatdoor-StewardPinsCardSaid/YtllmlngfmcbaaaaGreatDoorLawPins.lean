/- stewardtop.StewardPins. -/
import Derived.Test.YtllmlngfmcbaaaaGreatDoorLawTokB
import Derived.Test.YtllmlngfmcbaaaaGreatDoorMacH
namespace Go.Proofs.YtllmlngfmcbaaaaGreatDoor
open Go.RowKit

theorem mem_dropWhile (p : UInt8 → Bool) (x : UInt8) : ∀ l : List UInt8, x ∈ l.dropWhile p → x ∈ l
  | [], h => h
  | c :: r, h => by
    rw [List.dropWhile_cons] at h
    split at h
    · exact List.mem_cons_of_mem _ (mem_dropWhile p x r h)
    · exact h
theorem mem_trimB (x : UInt8) (l : List UInt8) (h : x ∈ trimB l) : x ∈ l := by
  rw [trimB_eq] at h
  have h1 := mem_dropWhile blk2 x _ h
  unfold rdrop at h1
  rw [List.mem_reverse] at h1
  have h2 := mem_dropWhile blk2 x _ h1
  rwa [List.mem_reverse] at h2
def isSgn (c : UInt8) : Bool := isNam c || c == 46 || dig c || isHx c
theorem sgn_ok (c : UInt8) (h : isSgn c = true) : isBlk c = false ∧ c ≠ 59 := by
  have : ∀ c : UInt8, isSgn c = true → isBlk c = false ∧ c ≠ 59 := by apply all256t; decide +kernel
  exact this c h
theorem sign_chars (k n : List UInt8) (u : Int) (h : nameB n = true) : ∀ c ∈ signL k n u, isSgn c = true := by
  intro c hc
  unfold signL at hc
  rw [if_pos h] at hc
  unfold isSgn
  have ht := tagF_tag k (contL n (clampT u))
  rw [tagF_eq, Bool.and_eq_true] at ht
  unfold nameB at h
  simp only [Bool.and_eq_true] at h
  rcases List.mem_append.1 hc with h1 | h1
  · unfold contL at h1
    rcases List.mem_append.1 h1 with h2 | h2
    · rw [List.all_eq_true.1 h.2 c h2]; rfl
    · rcases List.mem_cons.1 h2 with rfl | h3
      · rfl
      · have := List.all_eq_true.1 (dec_all (clampT u)) c h3
        rw [this]; simp
  · rcases List.mem_cons.1 h1 with rfl | h2
    · rfl
    · have := List.all_eq_true.1 ht.1 c h2
      rw [this]; simp
theorem find_sent (b s : List UInt8) (hb : ∀ c ∈ b, c ≠ 59 ∧ c ≠ 61) (hs : ∀ c ∈ s, isSgn c = true) (hne : s ≠ []) :
    findL ([112, 105, 110] ++ [61]) (pairsP [bs ((b ++ [59, 32, 112, 105, 110, 61]) ++ s ++ [59, 32, 120, 61, 121])]) = some s := by
  have e : (b ++ [59, 32, 112, 105, 110, 61]) ++ s ++ [59, 32, 120, 61, 121] = b ++ 59 :: (([32, 112, 105, 110, 61] ++ s) ++ 59 :: [32, 120, 61, 121]) := by simp
  have h1 : (59 : UInt8) ∉ b := fun h => (hb _ h).1 rfl
  have h2 : (59 : UInt8) ∉ [32, 112, 105, 110, 61] ++ s := by
    rw [List.mem_append, not_or]
    exact ⟨by decide, fun h => (sgn_ok _ (hs _ h)).2 rfl⟩
  have hp : pairsP [bs ((b ++ [59, 32, 112, 105, 110, 61]) ++ s ++ [59, 32, 120, 61, 121])] = [trimB b, trimB ([32, 112, 105, 110, 61] ++ s), trimB [32, 120, 61, 121]] := by
    unfold pairsP pairsTo
    simp only [List.length_singleton, List.take_succ_cons, List.take_zero, List.map_cons, List.map_nil, List.flatten_cons, List.flatten_nil, List.append_nil, bs_list]
    rw [e, parts_cut 59 _ _ h1, parts_cut 59 _ _ h2, parts_one 59 _ (by decide)]
    rfl
  rw [hp]
  have n1 : Lib.hasPrefix (trimB b) ([112, 105, 110] ++ [61]) = false := by
    cases hq : Lib.hasPrefix (trimB b) ([112, 105, 110] ++ [61]) with
    | false => rfl
    | true =>
      unfold Lib.hasPrefix at hq
      obtain ⟨t, ht⟩ := List.isPrefixOf_iff_prefix.1 hq
      have hm : (61 : UInt8) ∈ trimB b := by rw [← ht]; simp
      exact absurd rfl (hb _ (mem_trimB _ _ hm)).2
  have ht2 : trimB ([32, 112, 105, 110, 61] ++ s) = [112, 105, 110, 61] ++ s := by
    show trimB (32 :: ([112, 105, 110, 61] ++ s)) = _
    rw [trimB_left 32 _ (by decide)]
    obtain ⟨d, hd⟩ : ∃ d, s.getLast? = some d := by
      cases hl : s.getLast? with
      | none => exact absurd (List.getLast?_eq_none_iff.1 hl) hne
      | some d => exact ⟨d, rfl⟩
    have hdm : d ∈ s := List.mem_of_getLast? hd
    refine trimB_stay _ 112 d rfl ?_ (by decide) (sgn_ok d (hs d hdm)).1
    rw [List.getLast?_append, hd]; rfl
  have n2 : Lib.hasPrefix ([112, 105, 110, 61] ++ s) ([112, 105, 110] ++ [61]) = true := by
    unfold Lib.hasPrefix
    rw [List.isPrefixOf_iff_prefix]
    exact List.prefix_append _ _
  rw [findL, if_neg (by rw [n1]; simp), findL, ht2, if_pos n2]
  unfold Lib.trimPrefix
  rw [if_pos n2]
  rfl
theorem ver_other (k k2 n : List UInt8) (cl : Nat) (m : Int) (hcl : cl ≤ 1099511627776) (h : nameB n = true) :
    verL k2 (contL n cl ++ 46 :: tagL k (contL n cl)) m = if tagL k (contL n cl) = tagL k2 (contL n cl) then (if (cl : Int) < m then ([], 5) else (n, 0)) else ([], 10) := by
  unfold verL
  rw [parse_app n _ cl hcl h (tagF_tag _ _)]
theorem same_aa (w : World) : Calls Tryz.prog 20 #[.string ⟨#[97]⟩, .string ⟨#[97]⟩] w fun e w' => e = .returned (.bool true) ∧ w = w' := by
  have := same25 ⟨#[97]⟩ ⟨#[97]⟩ (by decide) (by decide) w
  rw [decide_eq_true rfl] at this
  exact this
set_option maxRecDepth 1000000 in
set_option maxHeartbeats 32000000 in
theorem lawPins (key name beside : ByteArray) (u m : Int) (w : World) (hw : LaidT w) :
    Calls Tryz.prog 8 #[.agg #[.string key, .string name, .string beside, .int .i64 u, .int .i64 m]] w fun e w' => e = .returned (.bool true) ∧ Below w.heap.size w w' := by
  have HC1 : Hid (∀ W, Calls Tryz.prog 10 #[.string key, .int .i64 40] W fun e w' => e = .returned (.string (bs (key.data.toList.take 40))) ∧ W = w') := fun W => cut_l key 40 W
  have HC2 : Hid (∀ W, Calls Tryz.prog 10 #[.string name, .int .i64 40] W fun e w' => e = .returned (.string (bs (name.data.toList.take 40))) ∧ W = w') := fun W => cut_l name 40 W
  have HC3 : Hid (∀ W, Calls Tryz.prog 10 #[.string beside, .int .i64 30] W fun e w' => e = .returned (.string (bs (beside.data.toList.take 30))) ∧ W = w') := fun W => cut_l beside 30 W
  have hk : (key.data.toList.take 40).length ≤ 40 := by simp; omega
  have hn : (name.data.toList.take 40).length ≤ 40 := by simp; omega
  have hbl : (beside.data.toList.take 30).length ≤ 30 := by simp; omega
  generalize key.data.toList.take 40 = k at *
  generalize name.data.toList.take 40 = n at *
  generalize beside.data.toList.take 30 = b at *
  have HM1 := Lib.hid same_aa
  have HN0 : Hid (∀ W, Calls Tryz.prog 13 #[.string ⟨#[]⟩] W fun e w' => e = .returned (.bool false) ∧ Below W.heap.size W w') := fun W => name_l [] (by decide) false (by decide) W
  have HN1 : Hid (∀ W, Calls Tryz.prog 13 #[.string ⟨#[98, 45, 49]⟩] W fun e w' => e = .returned (.bool true) ∧ Below W.heap.size W w') := fun W => name_l [98, 45, 49] (by decide) true (by decide) W
  have L0 := below_alloc w (.cells #[.string key, .string name, .string beside, .int .i64 u, .int .i64 m] 41)
  have W0 := Lib.hid (hw.below L0)
  have c0 : (w.alloc (.cells #[.string key, .string name, .string beside, .int .i64 u, .int .i64 m] 41)).cell? ⟨w.heap.size, 0, none⟩ = some (.string key) := by simp
  have c1 : (w.alloc (.cells #[.string key, .string name, .string beside, .int .i64 u, .int .i64 m] 41)).cell? ⟨w.heap.size, 1, none⟩ = some (.string name) := by simp
  have c2 : (w.alloc (.cells #[.string key, .string name, .string beside, .int .i64 u, .int .i64 m] 41)).cell? ⟨w.heap.size, 2, none⟩ = some (.string beside) := by simp
  have c3 : (w.alloc (.cells #[.string key, .string name, .string beside, .int .i64 u, .int .i64 m] 41)).cell? ⟨w.heap.size, 3, none⟩ = some (.int .i64 u) := by simp
  have c4 : (w.alloc (.cells #[.string key, .string name, .string beside, .int .i64 u, .int .i64 m] 41)).cell? ⟨w.heap.size, 4, none⟩ = some (.int .i64 m) := by simp
  have hlt : w.heap.size < (w.alloc (.cells #[.string key, .string name, .string beside, .int .i64 u, .int .i64 m] 41)).heap.size := by simp
  have hcl := clampT_le u
  have hm1 : max 0 (min u 1099511627776) = ((clampT u : Nat) : Int) := by unfold clampT; omega
  have hm2 : max (min u 1099511627776) 0 = ((clampT u : Nat) : Int) := by unfold clampT; omega
  obtain ⟨mu, hmu⟩ : ∃ mu, min u 1099511627776 = mu := ⟨_, rfl⟩
  rw [hmu] at hm1 hm2
  generalize clampT u = cl at *
  clear hw
  have HS := Lib.hid (fun W h => sign_at k n (by omega) (by omega) (cl : Int) _ rfl W h)
  by_cases hnb : nameB n = true
  · have HN := Lib.hid (fun W => name_l n (by omega) true hnb W)
    obtain ⟨sg, hsg⟩ : ∃ sg, sg = signL k n (cl : Int) := ⟨_, rfl⟩
    have hsc := sign_chars k n (cl : Int) hnb
    have hsl := signL_length k n (cl : Int)
    have hvs := ver_sign k n (cl : Int) m
    rw [if_pos hnb, clampT_nat cl hcl] at hvs
    have hform : sg = contL n cl ++ 46 :: tagL k (contL n cl) := by
      rw [hsg]; unfold signL; rw [if_pos hnb, clampT_nat cl hcl]
    rw [← hsg] at HS hsc hsl hvs
    have htl := tagL_length k (contL n cl)
    have hsz : sg.length = (contL n cl).length + 33 := by rw [hform, List.length_append, List.length_cons, htl]
    have hne : sg ≠ [] := fun e => by rw [e] at hsz; simp at hsz
    have hvo := ver_other k (k ++ [120]) n cl m hcl hnb
    rw [← hform] at hvo
    have HCAT : Hid (bs b ++ ⟨#[59, 32, 112, 105, 110, 61]⟩ ++ bs sg ++ ⟨#[59, 32, 120, 61, 121]⟩ = bs ((b ++ [59, 32, 112, 105, 110, 61]) ++ sg ++ [59, 32, 120, 61, 121])) := by
      show _ = _
      rw [show (⟨#[59, 32, 112, 105, 110, 61]⟩ : ByteArray) = bs [59, 32, 112, 105, 110, 61] from rfl, show (⟨#[59, 32, 120, 61, 121]⟩ : ByteArray) = bs [59, 32, 120, 61, 121] from rfl, bs_app, bs_app, bs_app]
    have HKX : Hid (bs k ++ ⟨#[120]⟩ = bs (k ++ [120])) := bs_app k [120]
    have hzb := bs_size b
    have hzs := bs_size sg
    have hzk := bs_size k
    have hbl2 : (bs b).data.toList = b := rfl
    have HFD : Hid ((∀ c ∈ (bs b).data.toList, c ≠ 59 ∧ c ≠ 61) → ∀ W, LaidT W → Calls Tryz.prog 18 #[.slice (some ⟨W.heap.size, 0, none⟩) 1 1, .string ⟨#[112, 105, 110]⟩]
        (W.alloc (.cells #[.string (bs ((b ++ [59, 32, 112, 105, 110, 61]) ++ sg ++ [59, 32, 120, 61, 121]))] 9)) fun x w' => x = .returned (.tuple #[.string (bs sg), .bool true]) ∧ Below W.heap.size W w') := fun hb W h => by
      have hsz2 : (bs ((b ++ [59, 32, 112, 105, 110, 61]) ++ sg ++ [59, 32, 120, 61, 121])).size ≤ 4000000000 := by rw [bs_size]; simp; omega
      have := find_any (some ⟨W.heap.size, 0, none⟩) 1 [bs ((b ++ [59, 32, 112, 105, 110, 61]) ++ sg ++ [59, 32, 120, 61, 121])] ⟨#[112, 105, 110]⟩ (fun x hx => by rw [List.mem_singleton] at hx; subst hx; exact hsz2) (by simp) (by decide) _ (isStrs_new1 W _ 9) (h.maxl.below (below_alloc W _))
      rw [show findL ((⟨#[112, 105, 110]⟩ : ByteArray).data.toList ++ [61]) _ = _ from find_sent b sg hb hsc hne] at this
      exact Calls.mono this fun x w' ⟨he, hb⟩ => ⟨he, (below_alloc W _).trans (hb.mono (by simp))⟩
    have HX1 : Hid ((bs sg).extract 0 ((bs sg).size - 33) = bs (contL n cl)) := by
      refine str_eq _ _ ?_
      rw [extractL, bs_list, List.drop_zero, Nat.sub_zero, hzs, hsz, Nat.add_sub_cancel, hform, List.take_left]
    have HX2 : Hid ((bs sg).extract ((bs sg).size - 32) (bs sg).size = bs (tagL k (contL n cl))) := by
      refine str_eq _ _ ?_
      rw [extractL, bs_list, hzs, hsz, show (contL n cl).length + 33 - 32 = (contL n cl ++ [46]).length by simp, hform, show contL n cl ++ 46 :: tagL k (contL n cl) = (contL n cl ++ [46]) ++ tagL k (contL n cl) by simp, List.drop_left, List.take_of_length_le (by rw [htl]; simp)]
    have hcn := contL_length n cl hcl
    have j1 : ((bs b).size : Int) ≤ 30 := by omega
    have j2 : ((bs sg).size : Int) ≤ 100 := by omega
    have j3 : (33 : Int) ≤ (bs sg).size := by omega
    have j4 : ((bs k).size : Int) ≤ 40 := by omega
    have j5 : decide (0 < (bs sg).size) = true := decide_eq_true (by omega)
    have J5 := Lib.hid j5
    clear j5
    have k1 : IntKind.i64.wrap (((bs sg).size : Int) - 33) = ((bs sg).size : Int) - 33 := IntWalk.i64_in _ (by omega)
    have k2 : (((bs sg).size : Int) - 33).toNat = (bs sg).size - 33 := by omega
    have k3 : IntKind.i64.wrap (((bs sg).size : Int) - 32) = ((bs sg).size : Int) - 32 := IntWalk.i64_in _ (by omega)
    have k4 : (((bs sg).size : Int) - 32).toNat = (bs sg).size - 32 := by omega
    have hrr : ((bs sg).toList == (bs sg).toList) = true := by simp
    have hnn : ((bs n).toList == (bs n).toList) = true := by simp
    have hem : (bs []).toList = [] := by rw [ByteArray.toList_eq]; rfl
    have hlv : ∀ q, decide (tagL k (contL n cl) = tagL (k ++ [120]) (contL n cl)) = q → ∀ W, LaidT W → Calls Tryz.prog 21 #[.string (bs (k ++ [120])), .string (bs (tagL k (contL n cl))), .slice (some ⟨W.heap.size, 0, none⟩) 1 1] (W.alloc (.cells #[.string (bs (contL n cl))] 9)) fun e w' => e = .returned (.bool q) ∧ Below W.heap.size W w' :=
      fun q hq W h => fits_l (k ++ [120]) (tagL k (contL n cl)) (contL n cl) (by simp; omega) (by omega) (by omega) q hq W 9 h
    by_cases hc : (cl : Int) < m
    · have hcd : decide (m ≤ (cl : Int)) = false := decide_eq_false (by omega)
      rw [if_pos hc] at hvs
      have HV := Lib.hid (fun W h => verify_at k sg (by omega) (by omega) m [] 5 hvs W h)
      obtain ⟨f, hf, hvo2⟩ : ∃ f : Int, f ≠ 0 ∧ verL (k ++ [120]) sg m = ([], f) := by
        rw [hvo]
        split
        · exact ⟨5, by decide, by first | rfl | rw [if_pos hc]⟩
        · exact ⟨10, by decide, rfl⟩
      have HO := Lib.hid (fun W h => verify_at (k ++ [120]) sg (by simp; omega) (by omega) m [] f hvo2 W h)
      have f1 : (f == 0) = false := by rw [beq_eq_false_iff_ne]; exact hf
      have f2 : (f != 0) = true := by rw [bne_iff_ne]; exact hf
      clear hvs hvo hvo2 hf hsg hsc hform htl hsz hne hlv hzb hzs hzk hbl2 hcn
      generalize bs ((b ++ [59, 32, 112, 105, 110, 61]) ++ sg ++ [59, 32, 120, 61, 121]) = CT at *
      generalize bs (contL n cl) = CN at *
      generalize bs (tagL k (contL n cl)) = TG at *
      generalize bs (k ++ [120]) = KX at *
      generalize bs sg = SG at *
      generalize bs k = K at *
      generalize bs n = N at *
      generalize bs b = B at *
      generalize bs [] = E at *
      go_enter Tryz.func8, Tryz.ntmps8
      go_wp2_with fail
      generalize World.alloc w _ = w0 at *
      refine (HM1.out w0).mono ?_
      rintro e w' ⟨rfl, rfl⟩
      go_wp2_with fail
      refine (HN0.out w0).mono ?_
      rintro e w1 ⟨rfl, hb1⟩
      have B1 := hb1
      clear hb1
      go_wp2_with fail
      refine (HN1.out w1).mono ?_
      rintro e w2 ⟨rfl, hb2⟩
      have B2 := B1.trans (hb2.mono B1.size)
      clear hb2 B1
      have d0 : w2.cell? ⟨w.heap.size, 0, none⟩ = some (.string key) := by rw [(bcell B2).1 _ _ hlt]; exact c0
      have d1 : w2.cell? ⟨w.heap.size, 1, none⟩ = some (.string name) := by rw [(bcell B2).1 _ _ hlt]; exact c1
      have d2 : w2.cell? ⟨w.heap.size, 2, none⟩ = some (.string beside) := by rw [(bcell B2).1 _ _ hlt]; exact c2
      go_wp2_with fail
      go_quiet (first | (go_at_call 10; with_reducible exact Calls.quiet_of_same (calls_flip (HC1.out _))) | (go_at_call 10; with_reducible exact Calls.quiet_of_same (calls_flip (HC2.out _))) | (go_at_call 10; with_reducible exact Calls.quiet_of_same (calls_flip (HC3.out _))))
      have hdr : Below w2.heap.size w2 (w2.drewN nq) := ⟨rfl, rfl, rfl, Nat.le_refl _, fun _ _ => rfl⟩
      have B3 := B2.trans (hdr.mono B2.size)
      clear d0 d1 d2 hdr B2
      generalize w2.drewN nq = w3 at *
      have d3 : w3.cell? ⟨w.heap.size, 3, none⟩ = some (.int .i64 u) := by rw [(bcell B3).1 _ _ hlt]; exact c3
      go_wp2_with fail
      clear d3
      refine (HS.out w3 (W0.out.below B3)).mono ?_
      rintro e w4 ⟨rfl, hb4⟩
      have B4 := B3.trans (hb4.mono B3.size)
      clear hb4 B3
      go_wp2_with fail
      refine (HN.out w4).mono ?_
      rintro e w5 ⟨rfl, hb5⟩
      have B5 := B4.trans (hb5.mono B4.size)
      clear hb5 B4
      go_wp2_with fail
      go_loopw [8] (fun iv wr => ∃ i : Nat, i ≤ B.size ∧ iv = .int .i64 (i : Int) ∧ Hid (∀ c ∈ B.data.toList.take i, c ≠ 59 ∧ c ≠ 61) ∧ Below w0.heap.size w0 wr) (fun iv _ => B.size - (intOf iv).toNat)
      case atStart => exact ⟨0, Nat.zero_le _, rfl, (by simp [Hid]), B5⟩
      case round =>
        clear B5
        obtain ⟨i, hi, rfl, hr, hb⟩ := hrel
        by_cases hltB : i < B.size
        · have il : (i : Int) < B.size := by omega
          by_cases h59 : B[i].toNat = 59
          · have g1 : ((B[i].toNat : Int) == 59) = true := by rw [beq_iff_eq]; omega
            clear h59
            go_wp2_with fail
            go_ret
            exact ⟨by show Ending.returned (.bool (decide (0 < SG.size))) = _; rw [J5.out], L0.trans (hb.mono L0.size)⟩
          · have g1 : ((B[i].toNat : Int) == 59) = false := by rw [beq_eq_false_iff_ne]; omega
            by_cases h61 : B[i].toNat = 61
            · have g2 : ((B[i].toNat : Int) == 61) = true := by rw [beq_iff_eq]; omega
              clear h59 h61
              go_wp2_with fail
              go_ret
              exact ⟨by show Ending.returned (.bool (decide (0 < SG.size))) = _; rw [J5.out], L0.trans (hb.mono L0.size)⟩
            · have g2 : ((B[i].toNat : Int) == 61) = false := by rw [beq_eq_false_iff_ne]; omega
              have hst : Hid (∀ c ∈ B.data.toList.take (i + 1), c ≠ 59 ∧ c ≠ 61) := by
                intro c hc
                rw [take_snocT B i hltB] at hc
                rcases List.mem_append.1 hc with h | h
                · exact hr.out c h
                · rw [List.mem_singleton] at h
                  subst h
                  exact ⟨fun e => h59 (by rw [e]; rfl), fun e => h61 (by rw [e]; rfl)⟩
              clear h59 h61
              go_wp2_with fail
              go_roundw
              case rel => exact ⟨i + 1, hltB, by go_num, hst, hb⟩
              case measure => simp [intOf]; omega
        · have hie : i = B.size := by omega
          have il : decide ((i : Int) < B.size) = false := decide_eq_false (by omega)
          have ig : (B.size : Int) ≤ i := by omega
          have hbs : ∀ c ∈ B.data.toList, c ≠ 59 ∧ c ≠ 61 := by
            have h := hr.out
            rw [hie, List.take_of_length_le (by rw [← Lib.size_eq]; exact Nat.le_refl _)] at h
            exact h
          have HF := Lib.hid (fun W h => HFD.out hbs W h)
          have e1 := HCAT.out
          clear hbs hie hltB
          have W6 := Lib.hid (W0.out.below hb)
          go_wp2_with fail
          clear e1
          refine (HF.out wr W6.out).mono ?_
          rintro e w6 ⟨rfl, hb6⟩
          have B6 := hb.trans (hb6.mono hb.size)
          clear hb hb6
          have d4 : w6.cell? ⟨w.heap.size, 4, none⟩ = some (.int .i64 m) := by rw [(bcell B6).1 _ _ hlt]; exact c4
          go_wp2_with fail
          clear d4
          refine (HV.out w6 (W0.out.below B6)).mono ?_
          rintro e w7 ⟨rfl, hb7⟩
          have B7 := B6.trans (hb7.mono B6.size)
          clear hb7 B6
          have d4 : w7.cell? ⟨w.heap.size, 4, none⟩ = some (.int .i64 m) := by rw [(bcell B7).1 _ _ hlt]; exact c4
          have e2 := HKX.out
          go_wp2_with fail
          clear d4 e2
          refine (HO.out w7 (W0.out.below B7)).mono ?_
          rintro e w8 ⟨rfl, hb8⟩
          have B8 := B7.trans (hb8.mono B7.size)
          clear hb8 B7
          have d4 : w8.cell? ⟨w.heap.size, 4, none⟩ = some (.int .i64 m) := by rw [(bcell B8).1 _ _ hlt]; exact c4
          have e3 := HX1.out
          have e4 := HX2.out
          have e2 := HKX.out
          go_wp2_with fail
          clear d4 e3 e4 e2
          go_ret
          exact ⟨rfl, L0.trans (B8.mono L0.size)⟩
    · rw [if_neg hc] at hvs
      have hc2 : m ≤ (cl : Int) := by omega
      have hcd : decide ((cl : Int) < m) = false := decide_eq_false hc
      have HV := Lib.hid (fun W h => verify_at k sg (by omega) (by omega) m n 0 hvs W h)
      by_cases hte : tagL k (contL n cl) = tagL (k ++ [120]) (contL n cl)
      · rw [if_pos hte, if_neg hc] at hvo
        have HO := Lib.hid (fun W h => verify_at (k ++ [120]) sg (by simp; omega) (by omega) m n 0 hvo W h)
        clear hvs hvo hsg hsc hform htl hsz hne hlv hzb hzs hzk hbl2 hcn hte
        generalize bs ((b ++ [59, 32, 112, 105, 110, 61]) ++ sg ++ [59, 32, 120, 61, 121]) = CT at *
        generalize bs (contL n cl) = CN at *
        generalize bs (tagL k (contL n cl)) = TG at *
        generalize bs (k ++ [120]) = KX at *
        generalize bs sg = SG at *
        generalize bs k = K at *
        generalize bs n = N at *
        generalize bs b = B at *
        generalize bs [] = E at *
        go_enter Tryz.func8, Tryz.ntmps8
        go_wp2_with fail
        generalize World.alloc w _ = w0 at *
        refine (HM1.out w0).mono ?_
        rintro e w' ⟨rfl, rfl⟩
        go_wp2_with fail
        refine (HN0.out w0).mono ?_
        rintro e w1 ⟨rfl, hb1⟩
        have B1 := hb1
        clear hb1
        go_wp2_with fail
        refine (HN1.out w1).mono ?_
        rintro e w2 ⟨rfl, hb2⟩
        have B2 := B1.trans (hb2.mono B1.size)
        clear hb2 B1
        have d0 : w2.cell? ⟨w.heap.size, 0, none⟩ = some (.string key) := by rw [(bcell B2).1 _ _ hlt]; exact c0
        have d1 : w2.cell? ⟨w.heap.size, 1, none⟩ = some (.string name) := by rw [(bcell B2).1 _ _ hlt]; exact c1
        have d2 : w2.cell? ⟨w.heap.size, 2, none⟩ = some (.string beside) := by rw [(bcell B2).1 _ _ hlt]; exact c2
        go_wp2_with fail
        go_quiet (first | (go_at_call 10; with_reducible exact Calls.quiet_of_same (calls_flip (HC1.out _))) | (go_at_call 10; with_reducible exact Calls.quiet_of_same (calls_flip (HC2.out _))) | (go_at_call 10; with_reducible exact Calls.quiet_of_same (calls_flip (HC3.out _))))
        have hdr : Below w2.heap.size w2 (w2.drewN nq) := ⟨rfl, rfl, rfl, Nat.le_refl _, fun _ _ => rfl⟩
        have B3 := B2.trans (hdr.mono B2.size)
        clear d0 d1 d2 hdr B2
        generalize w2.drewN nq = w3 at *
        have d3 : w3.cell? ⟨w.heap.size, 3, none⟩ = some (.int .i64 u) := by rw [(bcell B3).1 _ _ hlt]; exact c3
        go_wp2_with fail
        clear d3
        refine (HS.out w3 (W0.out.below B3)).mono ?_
        rintro e w4 ⟨rfl, hb4⟩
        have B4 := B3.trans (hb4.mono B3.size)
        clear hb4 B3
        go_wp2_with fail
        refine (HN.out w4).mono ?_
        rintro e w5 ⟨rfl, hb5⟩
        have B5 := B4.trans (hb5.mono B4.size)
        clear hb5 B4
        go_wp2_with fail
        go_loopw [8] (fun iv wr => ∃ i : Nat, i ≤ B.size ∧ iv = .int .i64 (i : Int) ∧ Hid (∀ c ∈ B.data.toList.take i, c ≠ 59 ∧ c ≠ 61) ∧ Below w0.heap.size w0 wr) (fun iv _ => B.size - (intOf iv).toNat)
        case atStart => exact ⟨0, Nat.zero_le _, rfl, (by simp [Hid]), B5⟩
        case round =>
          clear B5
          obtain ⟨i, hi, rfl, hr, hb⟩ := hrel
          by_cases hltB : i < B.size
          · have il : (i : Int) < B.size := by omega
            by_cases h59 : B[i].toNat = 59
            · have g1 : ((B[i].toNat : Int) == 59) = true := by rw [beq_iff_eq]; omega
              clear h59
              go_wp2_with fail
              go_ret
              exact ⟨by show Ending.returned (.bool (decide (0 < SG.size))) = _; rw [J5.out], L0.trans (hb.mono L0.size)⟩
            · have g1 : ((B[i].toNat : Int) == 59) = false := by rw [beq_eq_false_iff_ne]; omega
              by_cases h61 : B[i].toNat = 61
              · have g2 : ((B[i].toNat : Int) == 61) = true := by rw [beq_iff_eq]; omega
                clear h59 h61
                go_wp2_with fail
                go_ret
                exact ⟨by show Ending.returned (.bool (decide (0 < SG.size))) = _; rw [J5.out], L0.trans (hb.mono L0.size)⟩
              · have g2 : ((B[i].toNat : Int) == 61) = false := by rw [beq_eq_false_iff_ne]; omega
                have hst : Hid (∀ c ∈ B.data.toList.take (i + 1), c ≠ 59 ∧ c ≠ 61) := by
                  intro c hc
                  rw [take_snocT B i hltB] at hc
                  rcases List.mem_append.1 hc with h | h
                  · exact hr.out c h
                  · rw [List.mem_singleton] at h
                    subst h
                    exact ⟨fun e => h59 (by rw [e]; rfl), fun e => h61 (by rw [e]; rfl)⟩
                clear h59 h61
                go_wp2_with fail
                go_roundw
                case rel => exact ⟨i + 1, hltB, by go_num, hst, hb⟩
                case measure => simp [intOf]; omega
          · have hie : i = B.size := by omega
            have il : decide ((i : Int) < B.size) = false := decide_eq_false (by omega)
            have ig : (B.size : Int) ≤ i := by omega
            have hbs : ∀ c ∈ B.data.toList, c ≠ 59 ∧ c ≠ 61 := by
              have h := hr.out
              rw [hie, List.take_of_length_le (by rw [← Lib.size_eq]; exact Nat.le_refl _)] at h
              exact h
            have HF := Lib.hid (fun W h => HFD.out hbs W h)
            have e1 := HCAT.out
            clear hbs hie hltB
            have W6 := Lib.hid (W0.out.below hb)
            go_wp2_with fail
            clear e1
            refine (HF.out wr W6.out).mono ?_
            rintro e w6 ⟨rfl, hb6⟩
            have B6 := hb.trans (hb6.mono hb.size)
            clear hb hb6
            have d4 : w6.cell? ⟨w.heap.size, 4, none⟩ = some (.int .i64 m) := by rw [(bcell B6).1 _ _ hlt]; exact c4
            go_wp2_with fail
            clear d4
            refine (HV.out w6 (W0.out.below B6)).mono ?_
            rintro e w7 ⟨rfl, hb7⟩
            have B7 := B6.trans (hb7.mono B6.size)
            clear hb7 B6
            have d4 : w7.cell? ⟨w.heap.size, 4, none⟩ = some (.int .i64 m) := by rw [(bcell B7).1 _ _ hlt]; exact c4
            have e2 := HKX.out
            go_wp2_with fail
            clear d4 e2
            refine (HO.out w7 (W0.out.below B7)).mono ?_
            rintro e w8 ⟨rfl, hb8⟩
            have B8 := B7.trans (hb8.mono B7.size)
            clear hb8 B7
            have d4 : w8.cell? ⟨w.heap.size, 4, none⟩ = some (.int .i64 m) := by rw [(bcell B8).1 _ _ hlt]; exact c4
            have e3 := HX1.out
            have e4 := HX2.out
            have e2 := HKX.out
            go_wp2_with fail
            clear d4 e3 e4 e2
            go_ret
            exact ⟨rfl, L0.trans (B8.mono L0.size)⟩
      · rw [if_neg hte] at hvo
        have HO := Lib.hid (fun W h => verify_at (k ++ [120]) sg (by simp; omega) (by omega) m [] 10 hvo W h)
        have HFT := Lib.hid (hlv false (decide_eq_false hte))
        clear hvs hvo hsg hsc hform htl hsz hne hlv hzb hzs hzk hbl2 hcn hte
        generalize bs ((b ++ [59, 32, 112, 105, 110, 61]) ++ sg ++ [59, 32, 120, 61, 121]) = CT at *
        generalize bs (contL n cl) = CN at *
        generalize bs (tagL k (contL n cl)) = TG at *
        generalize bs (k ++ [120]) = KX at *
        generalize bs sg = SG at *
        generalize bs k = K at *
        generalize bs n = N at *
        generalize bs b = B at *
        generalize bs [] = E at *
        go_enter Tryz.func8, Tryz.ntmps8
        go_wp2_with fail
        generalize World.alloc w _ = w0 at *
        refine (HM1.out w0).mono ?_
        rintro e w' ⟨rfl, rfl⟩
        go_wp2_with fail
        refine (HN0.out w0).mono ?_
        rintro e w1 ⟨rfl, hb1⟩
        have B1 := hb1
        clear hb1
        go_wp2_with fail
        refine (HN1.out w1).mono ?_
        rintro e w2 ⟨rfl, hb2⟩
        have B2 := B1.trans (hb2.mono B1.size)
        clear hb2 B1
        have d0 : w2.cell? ⟨w.heap.size, 0, none⟩ = some (.string key) := by rw [(bcell B2).1 _ _ hlt]; exact c0
        have d1 : w2.cell? ⟨w.heap.size, 1, none⟩ = some (.string name) := by rw [(bcell B2).1 _ _ hlt]; exact c1
        have d2 : w2.cell? ⟨w.heap.size, 2, none⟩ = some (.string beside) := by rw [(bcell B2).1 _ _ hlt]; exact c2
        go_wp2_with fail
        go_quiet (first | (go_at_call 10; with_reducible exact Calls.quiet_of_same (calls_flip (HC1.out _))) | (go_at_call 10; with_reducible exact Calls.quiet_of_same (calls_flip (HC2.out _))) | (go_at_call 10; with_reducible exact Calls.quiet_of_same (calls_flip (HC3.out _))))
        have hdr : Below w2.heap.size w2 (w2.drewN nq) := ⟨rfl, rfl, rfl, Nat.le_refl _, fun _ _ => rfl⟩
        have B3 := B2.trans (hdr.mono B2.size)
        clear d0 d1 d2 hdr B2
        generalize w2.drewN nq = w3 at *
        have d3 : w3.cell? ⟨w.heap.size, 3, none⟩ = some (.int .i64 u) := by rw [(bcell B3).1 _ _ hlt]; exact c3
        go_wp2_with fail
        clear d3
        refine (HS.out w3 (W0.out.below B3)).mono ?_
        rintro e w4 ⟨rfl, hb4⟩
        have B4 := B3.trans (hb4.mono B3.size)
        clear hb4 B3
        go_wp2_with fail
        refine (HN.out w4).mono ?_
        rintro e w5 ⟨rfl, hb5⟩
        have B5 := B4.trans (hb5.mono B4.size)
        clear hb5 B4
        go_wp2_with fail
        go_loopw [8] (fun iv wr => ∃ i : Nat, i ≤ B.size ∧ iv = .int .i64 (i : Int) ∧ Hid (∀ c ∈ B.data.toList.take i, c ≠ 59 ∧ c ≠ 61) ∧ Below w0.heap.size w0 wr) (fun iv _ => B.size - (intOf iv).toNat)
        case atStart => exact ⟨0, Nat.zero_le _, rfl, (by simp [Hid]), B5⟩
        case round =>
          clear B5
          obtain ⟨i, hi, rfl, hr, hb⟩ := hrel
          by_cases hltB : i < B.size
          · have il : (i : Int) < B.size := by omega
            by_cases h59 : B[i].toNat = 59
            · have g1 : ((B[i].toNat : Int) == 59) = true := by rw [beq_iff_eq]; omega
              clear h59
              go_wp2_with fail
              go_ret
              exact ⟨by show Ending.returned (.bool (decide (0 < SG.size))) = _; rw [J5.out], L0.trans (hb.mono L0.size)⟩
            · have g1 : ((B[i].toNat : Int) == 59) = false := by rw [beq_eq_false_iff_ne]; omega
              by_cases h61 : B[i].toNat = 61
              · have g2 : ((B[i].toNat : Int) == 61) = true := by rw [beq_iff_eq]; omega
                clear h59 h61
                go_wp2_with fail
                go_ret
                exact ⟨by show Ending.returned (.bool (decide (0 < SG.size))) = _; rw [J5.out], L0.trans (hb.mono L0.size)⟩
              · have g2 : ((B[i].toNat : Int) == 61) = false := by rw [beq_eq_false_iff_ne]; omega
                have hst : Hid (∀ c ∈ B.data.toList.take (i + 1), c ≠ 59 ∧ c ≠ 61) := by
                  intro c hc
                  rw [take_snocT B i hltB] at hc
                  rcases List.mem_append.1 hc with h | h
                  · exact hr.out c h
                  · rw [List.mem_singleton] at h
                    subst h
                    exact ⟨fun e => h59 (by rw [e]; rfl), fun e => h61 (by rw [e]; rfl)⟩
                clear h59 h61
                go_wp2_with fail
                go_roundw
                case rel => exact ⟨i + 1, hltB, by go_num, hst, hb⟩
                case measure => simp [intOf]; omega
          · have hie : i = B.size := by omega
            have il : decide ((i : Int) < B.size) = false := decide_eq_false (by omega)
            have ig : (B.size : Int) ≤ i := by omega
            have hbs : ∀ c ∈ B.data.toList, c ≠ 59 ∧ c ≠ 61 := by
              have h := hr.out
              rw [hie, List.take_of_length_le (by rw [← Lib.size_eq]; exact Nat.le_refl _)] at h
              exact h
            have HF := Lib.hid (fun W h => HFD.out hbs W h)
            have e1 := HCAT.out
            clear hbs hie hltB
            have W6 := Lib.hid (W0.out.below hb)
            go_wp2_with fail
            clear e1
            refine (HF.out wr W6.out).mono ?_
            rintro e w6 ⟨rfl, hb6⟩
            have B6 := hb.trans (hb6.mono hb.size)
            clear hb hb6
            have d4 : w6.cell? ⟨w.heap.size, 4, none⟩ = some (.int .i64 m) := by rw [(bcell B6).1 _ _ hlt]; exact c4
            go_wp2_with fail
            clear d4
            refine (HV.out w6 (W0.out.below B6)).mono ?_
            rintro e w7 ⟨rfl, hb7⟩
            have B7 := B6.trans (hb7.mono B6.size)
            clear hb7 B6
            have d4 : w7.cell? ⟨w.heap.size, 4, none⟩ = some (.int .i64 m) := by rw [(bcell B7).1 _ _ hlt]; exact c4
            have e2 := HKX.out
            go_wp2_with fail
            clear d4 e2
            refine (HO.out w7 (W0.out.below B7)).mono ?_
            rintro e w8 ⟨rfl, hb8⟩
            have B8 := B7.trans (hb8.mono B7.size)
            clear hb8 B7
            have d4 : w8.cell? ⟨w.heap.size, 4, none⟩ = some (.int .i64 m) := by rw [(bcell B8).1 _ _ hlt]; exact c4
            have e3 := HX1.out
            have e4 := HX2.out
            have e2 := HKX.out
            go_wp2_with fail
            clear d4 e3 e4 e2
            refine (HFT.out w8 (W0.out.below B8)).mono ?_
            rintro e w9 ⟨rfl, hb9⟩
            have B9 := B8.trans (hb9.mono B8.size)
            go_wp2_with fail
            go_ret
            exact ⟨rfl, L0.trans (B9.mono L0.size)⟩
  · have HN := Lib.hid (fun W => name_l n (by omega) false (by simpa using hnb) W)
    have hse : signL k n (cl : Int) = [] := by unfold signL; rw [if_neg hnb]
    rw [hse] at HS
    have hem : (bs []).toList = [] := by rw [ByteArray.toList_eq]; rfl
    clear hse hnb
    generalize bs k = K at *
    generalize bs n = N at *
    generalize bs b = B at *
    generalize bs [] = E at *
    go_enter Tryz.func8, Tryz.ntmps8
    go_wp2_with fail
    generalize World.alloc w _ = w0 at *
    refine (HM1.out w0).mono ?_
    rintro e w' ⟨rfl, rfl⟩
    go_wp2_with fail
    refine (HN0.out w0).mono ?_
    rintro e w1 ⟨rfl, hb1⟩
    have B1 := hb1
    clear hb1
    go_wp2_with fail
    refine (HN1.out w1).mono ?_
    rintro e w2 ⟨rfl, hb2⟩
    have B2 := B1.trans (hb2.mono B1.size)
    clear hb2 B1
    have d0 : w2.cell? ⟨w.heap.size, 0, none⟩ = some (.string key) := by rw [(bcell B2).1 _ _ hlt]; exact c0
    have d1 : w2.cell? ⟨w.heap.size, 1, none⟩ = some (.string name) := by rw [(bcell B2).1 _ _ hlt]; exact c1
    have d2 : w2.cell? ⟨w.heap.size, 2, none⟩ = some (.string beside) := by rw [(bcell B2).1 _ _ hlt]; exact c2
    go_wp2_with fail
    go_quiet (first | (go_at_call 10; with_reducible exact Calls.quiet_of_same (calls_flip (HC1.out _))) | (go_at_call 10; with_reducible exact Calls.quiet_of_same (calls_flip (HC2.out _))) | (go_at_call 10; with_reducible exact Calls.quiet_of_same (calls_flip (HC3.out _))))
    have hdr : Below w2.heap.size w2 (w2.drewN nq) := ⟨rfl, rfl, rfl, Nat.le_refl _, fun _ _ => rfl⟩
    have B3 := B2.trans (hdr.mono B2.size)
    clear d0 d1 d2 hdr B2
    generalize w2.drewN nq = w3 at *
    have d3 : w3.cell? ⟨w.heap.size, 3, none⟩ = some (.int .i64 u) := by rw [(bcell B3).1 _ _ hlt]; exact c3
    go_wp2_with fail
    clear d3
    refine (HS.out w3 (W0.out.below B3)).mono ?_
    rintro e w4 ⟨rfl, hb4⟩
    have B4 := B3.trans (hb4.mono B3.size)
    clear hb4 B3
    go_wp2_with fail
    refine (HN.out w4).mono ?_
    rintro e w5 ⟨rfl, hb5⟩
    have B5 := B4.trans (hb5.mono B4.size)
    clear hb5 B4
    go_wp2_with fail
    go_ret
    exact ⟨rfl, L0.trans (B5.mono L0.size)⟩
end Go.Proofs.YtllmlngfmcbaaaaGreatDoor
