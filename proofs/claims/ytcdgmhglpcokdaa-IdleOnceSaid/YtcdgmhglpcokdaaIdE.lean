/- Idle connections: Drop; what insert leaves. -/
import Derived.Test.YtcdgmhglpcokdaaIdD
import Derived.Deep.AppendLies
namespace Go.Proofs.Ytcdgmhglpcokdaa
open Go.RowKit Go.Maps

/-- Whether a number waits. -/
def waits (L : List Cn) (c : Int) : Bool := L.any fun e => decide (e.cn = c)
theorem waits_iff {L : List Cn} {c : Int} : waits L c = true ↔ ∃ e ∈ L, e.cn = c := by
  unfold waits
  simp
theorem waits_no {L : List Cn} {c : Int} (h : waits L c = false) : ∀ e ∈ L, e.cn ≠ c := fun e he h2 => by
  have := waits_iff.2 ⟨e, he, h2⟩
  rw [h] at this; cases this
theorem IdM.lookB {w : World} {wmv bmv : Value} {N : Nat} {L : List Cn} {F : Int → Option ByteArray} {G : ByteArray → Option SlT} (h : IdM w wmv bmv N L F G) {c : Int} (hc : KN.ok c) : ∃ s, (Instr.lookup 26 bmv (.int .i64 c) true).run Try.prog w = .ok (.tuple #[.string s, .bool (waits L c)]) w := by
  have hw : (F c).isSome = waits L c := by
    cases hf : F c with
    | none =>
      cases hx : waits L c with
      | false => rfl
      | true =>
        obtain ⟨e, he, h2⟩ := waits_iff.1 hx
        have := (h.fF c e.nm).2 ⟨e, he, h2, rfl⟩
        rw [hf] at this; cases this
    | some nm =>
      obtain ⟨e, he, h2, _⟩ := (h.fF c nm).1 hf
      rw [waits_iff.2 ⟨e, he, h2⟩]; rfl
  rcases h.mp with ⟨e1, e2, e3⟩ | ⟨wb, bk, e1, e2, hne, m1, m2⟩
  · rw [e2, e3]
    exact ⟨⟨#[]⟩, look_ok_nilK MBI w (s := c) hc⟩
  · have := m2.k.look_ok (s := c) hc
    rw [hw] at this
    rw [e2]
    exact ⟨_, this⟩
set_option maxHeartbeats 2000000 in
set_option maxRecDepth 100000 in
theorem idrop (W : World) (X : Nat → Prop) (ab : Nat) (a b : Int) (N : Nat) (sets : Int) (L : List Cn) (w : World) (h : IdS W X ab a b N sets L L w) {gs : Int} (hg : GoodI gs L) (hl : L.length ≤ 800) (hN : N ≤ 100000) (c : Int) (hc : KN.ok c) :
    Calls Try.prog 10 #[.pointer (some ⟨ab, 0, none⟩), .int .i64 c] w fun o w' => o = .returned (.bool (waits L c)) ∧ IdS W X ab a b (N + 1) sets (dropI L c) (dropI L c) w' ∧ Keep (fun k => ¬ X k) w w' := by
  obtain ⟨wmv, bmv, F, G, ho, hm, hown⟩ := h.ex
  have c3 : w.cell? ⟨ab, 3, none⟩ = some bmv := (ho.preCell 3 (by show 3 < 4; omega)).1
  obtain ⟨s, lk⟩ := hm.lookB hc
  cases hw : waits L c with
  | false =>
    rw [hw] at lk
    have hd : dropI L c = L := dropI_none (waits_no hw)
    have HE : Hid (IdS W X ab a b (N + 1) sets (dropI L c) (dropI L c) w) := by
      rw [hd]
      exact ⟨wmv, bmv, F, G, ho.moreNI (Nat.le_succ N), hm.moreN (Nat.le_succ N), hown⟩
    clear ho hm hown hg h hw hd
    go_enter Try.func10, Try.ntmps10
    go_wp2_with fail
    go_ret
    exact ⟨rfl, HE.out, Keep.refl _ _⟩
  | true =>
    rw [hw] at lk
    obtain ⟨e, he, hec⟩ := waits_iff.1 hw
    subst hec
    have hlen := dropI_len hg.key ⟨e, he, rfl⟩
    have ho2 : OrS (plI a b wmv bmv) 97 99 MPN W ab ((dropI L e.cn).length + 1) N sets (CI L) (OI X wmv bmv G) w := by rw [hlen]; exact ho
    have HDR := Lib.hid (odropNb (pl := plI a b wmv bmv) W w ab (dropI L e.cn).length N sets (CI L) (OI X wmv bmv G) ho2 (by omega) e.cn hc (.int .i64 e.cn, e.ti, e.tu) ⟨e, he, rfl⟩ rfl)
    have HM := Lib.hid hm
    have HOW := Lib.hid hown
    have HG := Lib.hid hg
    have HHE := Lib.hid he
    clear ho hm hown hg h hw hlen ho2 he
    go_enter Try.func10, Try.ntmps10
    go_wp2_with fail
    refine HDR.out.mono ?_
    rintro o w2 ⟨rfl, ho2, hk2⟩
    have hs2 : IdS W X ab a b N sets (dropI L e.cn) L w2 := ⟨wmv, bmv, F, G, ho2.mono (CI.drop L e.cn), HM.out.keep hk2 (fun k hk hn => hn (.inr hk)), HOW.out⟩
    have HFO := Lib.hid (iforget W X ab a b N sets (dropI L e.cn) L w2 hs2 HG.out (by omega) hN e HHE.out)
    have HK2 : Hid (Keep (fun k => ¬ X k) w w2) := hk2.more (fun k _ hn hx => hn (.inl hx))
    clear ho2 hk2 hs2 HDR
    go_wp2_with fail
    refine HFO.out.mono ?_
    rintro o w3 ⟨rfl, hs3, hk3⟩
    have HS3 := Lib.hid hs3
    have HK3 := Lib.hid hk3
    clear hs3 hk3 HFO
    go_wp2_with fail
    go_ret
    exact ⟨rfl, HS3.out, HK2.out.trans HK3.out⟩
theorem fst_own {w : World} {g n cap : Nat} {l : List Int} (h : w.ownsRow 0 3 1 (.slice (some ⟨g, 0, none⟩) n cap) n (l.map (Value.int .i64))) : n = l.length ∧ ∃ cs, Row w g 3 cs ∧ cs.size = cap ∧ cap ≤ maxLen ∧ Fst cs l := by
  obtain ⟨hl, ⟨hv, _⟩ | ⟨g', cap', cur, hv, _, hg, h1, h2, h3, h4⟩⟩ := h
  · injection hv with hv; cases hv
  · injection hv with hv1 _ hv3
    injection hv1 with hv1
    injection hv1 with hv1
    subst hv1 hv3
    have hln : n = l.length := by simp at hl; omega
    refine ⟨hln, cur, hg, by omega, h2, fun k x hk => ?_⟩
    have hkl : k < l.length := (List.getElem?_eq_some_iff.1 hk).1
    have h5 : (cur.toList.take (n * 1))[k]? = (l.map (Value.int .i64))[k]? := by rw [h4]
    rw [List.getElem?_take_of_lt (by omega), Array.getElem?_toList, List.getElem?_map, hk] at h5
    exact h5
theorem own_fst {w : World} {g cap : Nat} {l : List Int} {cs : Array Value} (hr : Row w g 3 cs) (hs : cs.size = cap) (hc : cap ≤ maxLen) (hf : Fst cs l) : w.ownsRow 0 3 1 (.slice (some ⟨g, 0, none⟩) l.length cap) l.length (l.map (Value.int .i64)) := by
  refine ⟨by simp, .inr ⟨g, cap, cs, rfl, Nat.zero_le _, hr, by have := hf.len; omega, hc, by omega, ?_⟩⟩
  apply List.ext_getElem?
  intro k
  rcases Nat.lt_or_ge k l.length with h | h
  · rw [List.getElem?_take_of_lt (by omega), Array.getElem?_toList, hf.at h, List.getElem?_map, List.getElem?_eq_getElem h]; rfl
  · rw [List.getElem?_take_eq_none (by omega), List.getElem?_eq_none (by simpa using h)]
/-- One more waits. -/
theorem IdM.added {w w' : World} {wb bk N N' : Nat} {L : List Cn} {F : Int → Option ByteArray} {G : ByteArray → Option SlT} (h : IdM w (.map (some wb)) (.map (some bk)) N L F G) {nm : ByteArray} {c ti tu : Int} (hc : ∀ e ∈ L, e.cn ≠ c) (hne : wb ≠ bk) {g cap : Nat} {cs' : Array Value} (hgb : (∃ n0 c0, G nm = some (some (g, n0, c0))) ∨ w.heap.size ≤ g) (hk : Keep (fun k => k = wb ∨ k = bk ∨ ∃ n0 c0, G nm = some (some (k, n0, c0))) w w')
    (m1 : MapK MWI w' wb N' (updK G nm (some (some (g, (ofI L nm).length + 1, cap))))) (m2 : MapC MBI w' bk N' (L.length + 1) (updK F c (some nm))) (hr : Row w' g 3 cs') (hsz : cs'.size = cap) (hcm : cap ≤ maxLen) (hf : Fst cs' (ofI L nm ++ [c])) :
    IdM w' (.map (some wb)) (.map (some bk)) N' (L ++ [⟨nm, c, ti, tu⟩]) (updK F c (some nm)) (updK G nm (some (some (g, (ofI L nm).length + 1, cap)))) := by
  rcases h.mp with ⟨e1, _⟩ | ⟨wb', bk', e1, e2, _, m3, m4⟩
  · cases e1
  injection e1 with e1
  injection e1 with e1
  injection e2 with e2
  injection e2 with e2
  subst e1 e2
  have hofe : ofI (L ++ [⟨nm, c, ti, tu⟩]) nm = ofI L nm ++ [c] := by rw [ofI_add, if_pos rfl]
  have hofo : ∀ x, x ≠ nm → ofI (L ++ [⟨nm, c, ti, tu⟩]) x = ofI L x := fun x hx => by rw [ofI_add, if_neg (fun e => hx e.symm), List.append_nil]
  have hrw : ∀ x z, x ≠ nm → G x = some z → ∃ b c1 cs, z = some (b, (ofI L x).length, c1) ∧ 0 < (ofI L x).length ∧ Row w' b 3 cs ∧ cs.size = c1 ∧ c1 ≤ maxLen ∧ Fst cs (ofI L x) := fun x z hx hz => by
    obtain ⟨b1, c1, cs1, rfl, q1, q2, q3⟩ := h.yes x z hz
    refine ⟨b1, c1, cs1, rfl, q1, q2.keep hk (fun hb => ?_), q3⟩
    rcases hb with hb | hb | ⟨n0, c0, hb⟩
    · exact m3.ne_row q2 hb.symm
    · exact m4.k.ne_row q2 hb.symm
    · exact hx (h.inj x nm _ _ _ _ _ hz hb)
  refine ⟨.inr ⟨wb, bk, rfl, rfl, hne, m1, by rw [List.length_append]; exact m2⟩, fun c' nm' => ?_, fun x hn => ?_, fun x z hz => ?_, fun x x' b1 n1 c1 n2 c2 h1 h2 => ?_⟩
  · by_cases hx : c' = c
    · subst hx
      rw [updK_same]
      constructor
      · intro h9; injection h9 with h9; exact ⟨⟨nm, c', ti, tu⟩, by simp, rfl, h9⟩
      · rintro ⟨f, hf2, h1, h2⟩
        rcases List.mem_append.1 hf2 with hf2 | hf2
        · exact absurd h1 (hc f hf2)
        · simp at hf2; subst hf2; rw [← h2]
    · rw [updK_other F _ hx, h.fF]
      constructor
      · rintro ⟨f, hf2, h1, h2⟩; exact ⟨f, List.mem_append.2 (.inl hf2), h1, h2⟩
      · rintro ⟨f, hf2, h1, h2⟩
        rcases List.mem_append.1 hf2 with hf2 | hf2
        · exact ⟨f, hf2, h1, h2⟩
        · simp at hf2; subst hf2; exact absurd h1.symm hx
  · by_cases hx : x = nm
    · subst hx; rw [updK_same] at hn; cases hn
    · rw [updK_other G _ hx] at hn
      rw [hofo x hx]; exact h.no x hn
  · by_cases hx : x = nm
    · subst hx
      rw [updK_same] at hz
      injection hz with hz
      subst hz
      rw [hofe]
      exact ⟨g, cap, cs', by simp, by simp, hr, hsz, hcm, hf⟩
    · rw [updK_other G _ hx] at hz
      rw [hofo x hx]
      exact hrw x z hx hz
  · have old : ∀ x b n c, x ≠ nm → updK G nm (some (some (g, (ofI L nm).length + 1, cap))) x = some (some (b, n, c)) → G x = some (some (b, n, c)) := fun x b n c hx hh => by rwa [updK_other G _ hx] at hh
    have new : ∀ b n c, updK G nm (some (some (g, (ofI L nm).length + 1, cap))) nm = some (some (b, n, c)) → b = g := fun b n c hh => by
      rw [updK_same] at hh
      injection hh with hh
      injection hh with hh
      injection hh with hh _
      exact hh.symm
    have cross : ∀ x b n c, x ≠ nm → G x = some (some (b, n, c)) → b ≠ g := fun x b n c hx hh e => by
      subst e
      rcases hgb with ⟨n0, c0, hgb⟩ | hgb
      · exact hx (h.inj _ _ _ _ _ _ _ hh hgb)
      · obtain ⟨b9, c9, cs9, e9, _, q2, _⟩ := h.yes x _ hh
        injection e9 with e9
        injection e9 with e9 _
        subst e9
        have := q2.lt
        omega
    by_cases hx : x = nm
    · by_cases hx' : x' = nm
      · rw [hx, hx']
      · rw [hx] at h1
        have := new _ _ _ h1
        exact absurd this (cross x' _ _ _ hx' (old x' _ _ _ hx' h2))
    · by_cases hx' : x' = nm
      · rw [hx'] at h2
        have := new _ _ _ h2
        exact absurd this (cross x _ _ _ hx (old x _ _ _ hx h1))
      · exact h.inj _ _ _ _ _ _ _ (old x _ _ _ hx h1) (old x' _ _ _ hx' h2)
end Go.Proofs.Ytcdgmhglpcokdaa
