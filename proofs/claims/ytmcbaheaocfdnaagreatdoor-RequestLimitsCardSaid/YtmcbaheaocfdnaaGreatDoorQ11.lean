/- Packed: PaE, PaG, RLn. -/
import Derived.Test.YtmcbaheaocfdnaaGreatDoorQ05
import Derived.Test.YtmcbaheaocfdnaaGreatDoorQ07
import Derived.Test.YtmcbaheaocfdnaaGreatDoorQ10
/- request: a parser in memory; Feed, for requests without a body. -/
namespace Go.Proofs.YtmcbaheaocfdnaaGreatDoor
open Go.RowKit

/-- Where a parser stands: its head, and the first line that came; or its error. -/
inductive PaP where
  | on (σ : HdS) (m t : List UInt8)
  | err (e : Int)
def PaP.errOf : PaP → Int
  | .on _ _ _ => 0
  | .err e => e
def PaS (G : Nat → Prop) (g : Nat) (M : HdL) (b : Int) (p : PaP) (w : World) : Prop := match p with
  | .on σ m t => ∃ wt, HeS G 84 (paR (bs m) (bs t) (.slice none 0 0) wt 0) w g M b σ
  | .err e => HeS G 84 (paR ⟨#[]⟩ ⟨#[]⟩ (.slice none 0 0) false e) w g ⟨0, 0, 0⟩ 0 hd0 ∧ e ≠ 0
/-- Fields with one Host, that isn't empty, and no sign of a body. -/
def NoBody (fs : List Fld) : Prop := ∃ h0, allB hostN fs = [h0] ∧ 0 < h0.size ∧ allB encN fs = [] ∧ allB lenN fs = [] ∧ fs.length ≤ 1000000 ∧ ∀ f ∈ fs, FldOk f
abbrev Rq := List UInt8 × List UInt8 × Nat
/-- The rounds of Feed: from a place and bytes to requests and a place. -/
inductive PRun (M : HdL) : PaP → List UInt8 → List Rq → PaP → Prop
  | nil (σ : HdS) (m t : List UInt8) : PRun M (.on σ m t) [] [] (.on σ m t)
  | errs (e : Int) (l : List UInt8) : PRun M (.err e) l [] (.err e)
  | more (σ σ1 : HdS) (m t l : List UInt8) (acc : List Rq) (p : PaP) (hne : l ≠ []) (hb : σ.begun = false) (hw : σ.wt + 4 * l.length ≤ 1000000000) (h1 : hRun M σ (l.take (nlAt l)) = σ1) (hb1 : σ1.begun = false) (he : σ1.errOf = 0) (hz : σ1.firstOf.length ≤ 4000000000)
      (hr : PRun M (.on σ1 m t) (l.drop (nlAt l)) acc p) : PRun M (.on σ m t) l acc p
  | bad (σ σ1 : HdS) (m t l : List UInt8) (e : Int) (hne : l ≠ []) (hb : σ.begun = false) (hw : σ.wt + 4 * l.length ≤ 1000000000) (h1 : hRun M σ (l.take (nlAt l)) = σ1) (hb1 : σ1.begun = false) (he : σ1.errOf = e) (he0 : e ≠ 0) (hz : σ1.firstOf.length ≤ 4000000000) : PRun M (.on σ m t) l [] (.err e)
  | bad2 (σ σ1 : HdS) (m t l : List UInt8) (hne : l ≠ []) (hb : σ.begun = false) (hw : σ.wt + 4 * l.length ≤ 1000000000) (h1 : hRun M σ (l.take (nlAt l)) = σ1) (hb1 : σ1.begun = true) (he : reqP σ1.firstOf = none) (hz : σ1.firstOf.length ≤ 4000000000) : PRun M (.on σ m t) l [] (.err 2)
  | good (σ σ1 : HdS) (m t l m1 t1 : List UInt8) (acc : List Rq) (p : PaP) (hne : l ≠ []) (hb : σ.begun = false) (hw : σ.wt + 4 * l.length ≤ 1000000000) (h1 : hRun M σ (l.take (nlAt l)) = σ1) (hb1 : σ1.begun = true) (hf : σ1.fin = false) (he : reqP σ1.firstOf = some (m1, t1)) (hz : σ1.firstOf.length ≤ 4000000000)
      (hr : PRun M (.on σ1 m1 t1) (l.drop (nlAt l)) acc p) : PRun M (.on σ m t) l acc p
  | fbad (σ : HdS) (m t l : List UInt8) (e : Int) (hne : l ≠ []) (hb : σ.begun = true) (hf : σ.fin = false) (hw : σ.wt + 4 * l.length ≤ 1000000000) (h1 : hRun M σ l = .err e) (he0 : e ≠ 0) : PRun M (.on σ m t) l [] (.err e)
  | fdone (σ : HdS) (m t l fl : List UInt8) (fs : List Fld) (acc : List Rq) (p : PaP) (hne : l ≠ []) (hb : σ.begun = true) (hf : σ.fin = false) (hw : σ.wt + 4 * l.length ≤ 1000000000) (h1 : hRun M σ l = .done fl fs) (hn : NoBody fs)
      (hr : PRun M (.on hd0 [] []) (hLeft M σ l) acc p) : PRun M (.on σ m t) l ((m, t, fs.length) :: acc) p
/-- The cells of requests. -/
def MsgCells : List Rq → List Value → Prop
  | [], cs => cs = []
  | x :: r, cs => ∃ fa fc cs', cs = .string (bs x.1) :: .string (bs x.2.1) :: .slice fa x.2.2 fc :: .string ⟨#[]⟩ :: .int .i64 0 :: cs' ∧ MsgCells r cs'
theorem msg_snoc : ∀ {acc : List Rq} {cs : List Value} (x : Rq) (fa : Option Addr) (fc : Nat), MsgCells acc cs → MsgCells (acc ++ [x]) (cs ++ [.string (bs x.1), .string (bs x.2.1), .slice fa x.2.2 fc, .string ⟨#[]⟩, .int .i64 0])
  | [], cs, x, fa, fc, h => by
    obtain rfl : cs = [] := h
    exact ⟨fa, fc, [], rfl, rfl⟩
  | y :: r, cs, x, fa, fc, h => by
    obtain ⟨ya, yc, cs', rfl, h'⟩ := h
    exact ⟨ya, yc, _, rfl, msg_snoc x fa fc h'⟩
theorem nlAt_pos {l : List UInt8} (h : l ≠ []) : 0 < nlAt l := by
  unfold nlAt
  split
  · exact List.length_pos_iff.2 h
  · omega
theorem hLeft_lt (M : HdL) (σ : HdS) (l : List UInt8) (hf : σ.fin = false) (hne : l ≠ []) : (hLeft M σ l).length < l.length := by
  cases l with
  | nil => exact absurd rfl hne
  | cons c r =>
    show (mLeft _ _ _ _).length < _
    rw [mLeft_cons _ _ _ _ _ hf]
    obtain ⟨a, ha⟩ := mLeft_suffix (M.step anyFirst) HdS.fin r (M.step anyFirst σ c)
    have := congrArg List.length ha
    rw [List.length_append] at this
    rw [List.length_cons]
    omega
theorem prun_len {M : HdL} {p q : PaP} {l : List UInt8} {acc : List Rq} (h : PRun M p l acc q) : acc.length ≤ l.length := by
  induction h with
  | nil | errs | bad | bad2 | fbad => exact Nat.zero_le _
  | more σ σ1 m t l acc p hne hb hw h1 hb1 he hz hr ih => rw [List.length_drop] at ih; omega
  | good σ σ1 m t l m1 t1 acc p hne hb hw h1 hb1 hf he hz hr ih => rw [List.length_drop] at ih; omega
  | fdone σ m t l fl fs acc p hne hb hf hw h1 hn hr ih => have := hLeft_lt M σ l hf hne; rw [List.length_cons]; omega
/-- What holds of a parser beside the requests that came. -/
structure FdInv (G G' : Nat → Prop) (g : Nat) (M : HdL) (b : Int) (p : PaP) (B : Nat) (v : Value) (n : Nat) (cs : List Value) (w : World) : Prop where
  sub : ∀ j, G' j → G j
  up : Up G' w
  pa : PaS G' g M b p w
  own : w.ownsRow B 54 5 v n cs
  no : ∀ k, v.ownBlock = some k → ¬ G' k
def FeedsTo (G : Nat → Prop) (g : Nat) (M : HdL) (b : Int) (p : PaP) (acc : List Rq) (w : World) (x : Ending) (w' : World) : Prop :=
  ∃ v cs G', x = .returned (.tuple #[v, .int .i64 p.errOf]) ∧ MsgCells acc cs ∧ FdInv G G' g M b p w.heap.size v acc.length cs w' ∧ Keep G w w'
theorem FdInv.next {G G' : Nat → Prop} {g : Nat} {M : HdL} {b : Int} {p p' : PaP} {B : Nat} {v : Value} {n : Nat} {cs : List Value} {w w' : World} (h : FdInv G G' g M b p B v n cs w) (hk : Keep G' w w') (hp : PaS G' g M b p' w') : FdInv G G' g M b p' B v n cs w' :=
  ⟨h.sub, h.up.keep hk, hp, own_keepB h.own hk h.no, h.no⟩
theorem infoMsg : (Tryz.prog.info? 54).map (fun i => (i.zero, i.size, i.bytes)) = some (some (.agg #[.string ⟨#[]⟩, .string ⟨#[]⟩, .slice none 0 0, .string ⟨#[]⟩, .int .i64 0]), 5, 80) := by kernel_rfl
theorem cells_new5 (w : World) (v1 v2 v3 v4 v5 : Value) (T : TypeId) : ∀ (k : Nat) u, [v1, v2, v3, v4, v5][k]? = some u → (w.alloc (.cells #[v1, v2, v3, v4, v5] T)).cell? ((⟨w.heap.size, 0, none⟩ : Addr).add k) = some u := by
  intro k u hu
  rw [Addr.add_mid]
  match k, hu with
  | 0, hu => obtain rfl := Option.some.inj hu; simp
  | 1, hu => obtain rfl := Option.some.inj hu; simp
  | 2, hu => obtain rfl := Option.some.inj hu; simp
  | 3, hu => obtain rfl := Option.some.inj hu; simp
  | 4, hu => obtain rfl := Option.some.inj hu; simp
  | k + 5, hu => simp at hu
/-- A request has been put behind the others. -/
theorem FdInv.put {G G' : Nat → Prop} {g : Nat} {M : HdL} {b : Int} {p : PaP} {B : Nat} {v v' : Value} {n : Nat} {cs cs' : List Value} {w w' : World} (o : Obj) (h : FdInv G G' g M b p B v n cs w) (hG : ∀ j, w.heap.size ≤ j → G j)
    (hg : (w.alloc o).grownBy w' v.ownBlock) (hat : v'.ownBlock = v.ownBlock ∨ v'.ownBlock = some (w.alloc o).heap.size) (ho : w'.ownsRow B 54 5 v' (n + 1) cs') :
    FdInv G (fun j => (G' j ∧ j < w.heap.size) ∨ w'.heap.size ≤ j) g M b p B v' (n + 1) cs' w' ∧ Keep (fun k => B ≤ k) w w' := by
  have k1 : Keep (fun k => v.ownBlock = some k) w w' := (Keep.of_below (below_alloc w o)).trans (Keep.grown hg (fun _ h => h))
  have hsz : (w.alloc o).heap.size = w.heap.size + 1 := by simp
  have hs1 := hg.size
  have less : ∀ {rest : List Value} {M0 : HdL} {b0 : Int} {σ : HdS}, HeS G' 84 rest w g M0 b0 σ → HeS (fun j => (G' j ∧ j < w.heap.size) ∨ w'.heap.size ≤ j) 84 rest w' g M0 b0 σ := by
    intro rest M0 b0 σ hh
    exact (hh.less.keep k1 (fun j hj he => h.no j he hj.1)).more (fun j _ hj => .inl hj)
  refine ⟨⟨?_, fun k hk => .inr hk, ?_, ho, ?_⟩, ?_⟩
  · rintro j (⟨hj, _⟩ | hj)
    · exact h.sub j hj
    · exact hG j (by omega)
  · have hp := h.pa
    cases p with
    | on σ m t =>
      obtain ⟨wt, hh⟩ := hp
      exact ⟨wt, less hh⟩
    | err e => exact ⟨less hp.1, hp.2⟩
  · intro k hk hj
    have hl := (ho.lt k hk).2
    rcases hj with ⟨h1, h2⟩ | h1
    · rcases hat with e | e
      · exact h.no k (by rw [← e]; exact hk) h1
      · rw [e] at hk
        injection hk with hk
        omega
    · omega
  · exact k1.more (fun k _ hk => (h.own.lt k hk).1)
set_option maxRecDepth 100000 in
set_option maxHeartbeats 8000000 in
theorem pfeed22 (G : Nat → Prop) (g : Nat) (M : HdL) (b : Int) (p pF : PaP) (l : List UInt8) (hll : l.length ≤ 100000000) (acc : List Rq) (hR : PRun M p l acc pF) (w : World) (hp : PaS G g M b p w) (hu : Up G w) (hM : ∀ w', Keep G w w' → MaxL w') :
    Calls Tryz.prog 22 #[.pointer (some ⟨g, 0, none⟩), .string (bs l)] w (FeedsTo G g M b pF acc w) := by
  obtain ⟨i0, hi, hz0, hz1, hz2⟩ := info_parts infoMsg
  have hacc := prun_len hR
  have H0 : Hid (∃ G' cs, FdInv G G' g M b p w.heap.size (.slice none 0 0) ([] : List Rq).length cs w ∧ MsgCells [] cs) := ⟨G, [], ⟨fun _ h => h, hu, hp, World.ownsRow_nil w _ _ _, fun k hk => by cases hk⟩, rfl⟩
  have HR := Lib.hid hR
  have HU := Lib.hid hu
  have HY := Lib.hid hM
  have HK0 := Lib.hid (Keep.refl G w)
  obtain ⟨S, hS⟩ : ∃ S, S = bs l := ⟨_, rfl⟩
  rw [← hS]
  have HS := Lib.hid hS
  clear hp hu hM hR hS
  go_enter Tryz.func22, Tryz.ntmps22
  go_wp2_with fail
  go_loopw [1, 6] (fun sv rv wr => ∃ (s : ByteArray) (p' : PaP) (acc1 acc2 : List Rq) (rq : Value), sv = .string s ∧ rq = rv ∧ Hid (PRun M p' s.data.toList acc2 pF) ∧ Hid (acc = acc1 ++ acc2) ∧ Hid (∃ G' cs, FdInv G G' g M b p' w.heap.size rv acc1.length cs wr ∧ MsgCells acc1 cs) ∧ Hid (Keep G w wr)) (fun sv _ _ => (strOfH sv).size)
  case atStart => exact ⟨S, p, [], acc, _, rfl, rfl, by rw [HS.out]; exact HR, rfl, H0, HK0⟩
  case round =>
    clear H0 HK0 HR HS
    obtain ⟨s, p', acc1, acc2, rq, rfl, rfl, HR, HA, HI, HK⟩ := hrel
    obtain ⟨G', cs, hinv, hmc⟩ := HI.out
    have HIN := Lib.hid hinv
    have HMC := Lib.hid hmc
    have hpa := hinv.pa
    have hrun := HR.out
    obtain ⟨l', hl'⟩ : ∃ l', l' = s.data.toList := ⟨_, rfl⟩
    have hsl : s = bs l' := by rw [hl', bs_of]
    have hszl : s.size = l'.length := by rw [hl', Lib.size_eq]
    rw [← hl'] at hrun
    have HSL := Lib.hid hsl
    have HAL : Hid (acc1.length ≤ 100000000) := by
      have := HA.out
      show _ ≤ _
      have h2 := congrArg List.length this
      rw [List.length_append] at h2
      omega
    have DN : ∀ (W : World) k, Below W.heap.size W (W.drewN k) := fun W k => ⟨rfl, rfl, rfl, Nat.le_refl _, fun _ _ => rfl⟩
    have HDN := Lib.hid DN
    clear hinv hmc HI hl' DN
    cases hrun with
    | nil σ m t =>
      obtain rfl : s = ⟨#[]⟩ := hsl
      obtain ⟨wt, hh⟩ := hpa
      have k20 := hh.cellR 9
      simp only [paR, List.getElem?_cons_zero, List.getElem?_cons_succ, Nat.reduceAdd] at k20
      have FX : Hid (∀ k, FeedsTo G g M b (.on σ m t) acc w (.returned (.tuple #[rq, .int .i64 0])) (wr.drewN k)) := fun k => ⟨_, cs, G', rfl, by rw [HA.out, List.append_nil]; exact HMC.out, by rw [HA.out, List.append_nil]; exact HIN.out.next (.of_below (HDN.out _ _)) ⟨wt, hh.below (HDN.out _ _)⟩, HK.out.trans (.of_below (HDN.out _ _))⟩
      clear hh HSL hszl
      go_wp2_with fail
      go_quiet (fail)
      go_wp2_with fail
      go_ret2
      exact FX.out _
    | errs e l' =>
      obtain ⟨hh, he0⟩ := hpa
      have k20 := hh.cellR 9
      simp only [paR, List.getElem?_cons_zero, List.getElem?_cons_succ, Nat.reduceAdd] at k20
      have hee : (e == 0) = false := beq_eq_false_iff_ne.2 he0
      have FX : Hid (∀ k, FeedsTo G g M b (.err e) acc w (.returned (.tuple #[rq, .int .i64 e])) (wr.drewN k)) := fun k => ⟨_, cs, G', rfl, by rw [HA.out, List.append_nil]; exact HMC.out, by rw [HA.out, List.append_nil]; exact HIN.out.next (.of_below (HDN.out _ _)) ⟨hh.below (HDN.out _ _), he0⟩, HK.out.trans (.of_below (HDN.out _ _))⟩
      clear hh hsl HSL hszl
      by_cases hne : 0 < s.size
      · have e1 := emp_false s hne
        go_wp2_with fail
        go_quiet (fail)
        go_wp2_with fail
        go_ret2
        exact FX.out _
      · obtain rfl := empty_of s hne
        go_wp2_with fail
        go_quiet (fail)
        go_wp2_with fail
        go_ret2
        exact FX.out _
    | more σ σ1 m t l' acc2 _ hne hb hw h1 hb1 he hz hr =>
      obtain ⟨wt, hh⟩ := hpa
      have hne' : 0 < s.size := by rw [hszl]; exact List.length_pos_iff.2 hne
      have e1 := emp_false s hne'
      have k20 := hh.cellR 9
      have k19 := hh.cellR 8
      have f19 := hh.free 19
      simp only [paR, List.getElem?_cons_zero, List.getElem?_cons_succ, Nat.reduceAdd] at k20 k19
      have D2 : Hid (HeS G' 84 (paR (bs m) (bs t) (.slice none 0 0) true 0) (wr.setCell ⟨g, 19, none⟩ (.bool true)) g M b σ) := hh.setR 8 (.bool true)
      have K2 : Hid (Keep G' wr (wr.setCell ⟨g, 19, none⟩ (.bool true))) := Keep.setCell wr (p := ⟨g, 19, none⟩) hh.gG _
      have U2 : Hid (Up G' (wr.setCell ⟨g, 19, none⟩ (.bool true))) := HIN.out.up.keep K2.out
      have M2 : Hid (∀ w', Keep G' (wr.setCell ⟨g, 19, none⟩ (.bool true)) w' → MaxL w') := fun w' hk => HY.out w' (HK.out.trans ((K2.out.trans hk).more (fun j _ hj => HIN.out.sub j hj)))
      obtain ⟨w2, hw2⟩ : ∃ w2, w2 = wr.setCell ⟨g, 19, none⟩ (.bool true) := ⟨_, rfl⟩
      rw [← hw2] at D2 K2 U2 M2
      have HLT : Hid ((bs (l'.drop (nlAt l'))).size < s.size) := by
        show _ < _
        rw [bs_size, List.length_drop, hszl]
        have := nlAt_pos hne
        have := nlAt_le l'
        have := List.length_pos_iff.2 hne
        omega
      have HST := Lib.hid (step37a G' g M b σ _ _ s (bs (l'.drop (nlAt l'))) 0 hb w2 D2.out (by rw [hsl]; exact fline56 G' g M b σ σ1 m t m t true l' hw h1 _ rfl 0 hz (.inl ⟨hb1, he.symm, rfl, rfl⟩) w2 D2.out U2.out M2.out))
      obtain ⟨y, hy⟩ : ∃ y, y = bs (l'.drop (nlAt l')) := ⟨_, rfl⟩
      have hyl : y.data.toList = l'.drop (nlAt l') := by rw [hy, bs_list]
      rw [← hy] at HST HLT
      have HRR : Hid (PRun M (.on σ1 m t) y.data.toList acc2 pF) := by rw [hyl]; exact hr
      have hff : σ1.fin = false := by cases σ1 <;> first | rfl | cases hb1
      have HW2 := Lib.hid hw2
      have HSZ := Lib.hid hszl
      have HNE := Lib.hid hne
      clear hh hsl hszl hne hw2 hy hyl hb hw h1 hz hb1 he hr
      go_wp2_with fail
      rw [← HW2.out]
      with_reducible refine HST.out.mono ?_
      rintro e9 w3 ⟨rfl, hd3, hk3⟩
      have D3 := Lib.hid hd3
      have K3 := Lib.hid hk3
      clear hd3 hk3
      have HC := Lib.hid (complete38 G' g M b σ1 (bs m) (bs t) (.slice none 0 0) true 0 false hff w3 D3.out)
      clear HST
      go_wp2_with fail
      with_reducible refine HC.out.mono ?_
      rintro e9 w4 ⟨rfl, n, rfl⟩
      have HIN3 : Hid (FdInv G G' g M b (.on σ1 m t) w.heap.size rq acc1.length cs (w3.drewN n)) := HIN.out.next ((K2.out.trans K3.out).trans (.of_below (HDN.out _ _))) ⟨true, D3.out.below (HDN.out _ _)⟩
      have HK3 : Hid (Keep G w (w3.drewN n)) := HK.out.trans (((K2.out.trans K3.out).trans (.of_below (HDN.out _ _))).more (fun j _ hj => HIN.out.sub j hj))
      clear HC
      go_wp2_with fail
      go_roundw
      case rel => exact ⟨y, .on σ1 m t, acc1, acc2, _, rfl, rfl, HRR, HA, ⟨G', cs, HIN3.out, HMC.out⟩, HK3⟩
      case measure => show y.size < s.size; have := HLT.out; omega
    | bad σ σ1 m t l' e hne hb hw h1 hb1 he he0 hz =>
      obtain ⟨wt, hh⟩ := hpa
      have hne' : 0 < s.size := by rw [hszl]; exact List.length_pos_iff.2 hne
      have e1 := emp_false s hne'
      have k20 := hh.cellR 9
      have k19 := hh.cellR 8
      have f19 := hh.free 19
      simp only [paR, List.getElem?_cons_zero, List.getElem?_cons_succ, Nat.reduceAdd] at k20 k19
      have D2 : Hid (HeS G' 84 (paR (bs m) (bs t) (.slice none 0 0) true 0) (wr.setCell ⟨g, 19, none⟩ (.bool true)) g M b σ) := hh.setR 8 (.bool true)
      have K2 : Hid (Keep G' wr (wr.setCell ⟨g, 19, none⟩ (.bool true))) := Keep.setCell wr (p := ⟨g, 19, none⟩) hh.gG _
      have U2 : Hid (Up G' (wr.setCell ⟨g, 19, none⟩ (.bool true))) := HIN.out.up.keep K2.out
      have M2 : Hid (∀ w', Keep G' (wr.setCell ⟨g, 19, none⟩ (.bool true)) w' → MaxL w') := fun w' hk => HY.out w' (HK.out.trans ((K2.out.trans hk).more (fun j _ hj => HIN.out.sub j hj)))
      obtain ⟨w2, hw2⟩ : ∃ w2, w2 = wr.setCell ⟨g, 19, none⟩ (.bool true) := ⟨_, rfl⟩
      rw [← hw2] at D2 K2 U2 M2
      have HLT : Hid ((bs (l'.drop (nlAt l'))).size < s.size) := by
        show _ < _
        rw [bs_size, List.length_drop, hszl]
        have := nlAt_pos hne
        have := nlAt_le l'
        have := List.length_pos_iff.2 hne
        omega
      have HST := Lib.hid (step37a G' g M b σ _ _ s (bs (l'.drop (nlAt l'))) e hb w2 D2.out (by rw [hsl]; exact fline56 G' g M b σ σ1 m t m t true l' hw h1 _ rfl e hz (.inl ⟨hb1, he.symm, rfl, rfl⟩) w2 D2.out U2.out M2.out))
      obtain ⟨y, hy⟩ : ∃ y, y = bs (l'.drop (nlAt l')) := ⟨_, rfl⟩
      have hyl : y.data.toList = l'.drop (nlAt l') := by rw [hy, bs_list]
      rw [← hy] at HST HLT
      have HE0 := Lib.hid he0
      have hee : (e != 0) = true := bne_iff_ne.2 he0
      have HW2 := Lib.hid hw2
      have HSZ := Lib.hid hszl
      have HNE := Lib.hid hne
      clear hh hsl hszl hne hw2 hy hyl hb hw h1 hz hb1 he
      go_wp2_with fail
      rw [← HW2.out]
      with_reducible refine HST.out.mono ?_
      rintro e9 w3 ⟨rfl, hd3, hk3⟩
      have D3 := Lib.hid hd3
      have K3 := Lib.hid hk3
      clear hd3 hk3
      have hov := D3.out.over ⟨0, 0, 0⟩ 0 e
      rw [show max (0 : Int) 0 = 0 by decide] at hov
      have hpz2 : (Tryz.prog.info? 84).map (·.size) = some (paL 0 0 0 0 e).toArray.size := by rw [List.size_toArray, paL_len]; exact infoPa
      have hp1 := paL_one 0 0 0 0 e
      obtain ⟨old, hold, holz⟩ := D3.out.row
      have hoz : old.toArray.size = (paL 0 0 0 0 e).toArray.size := by rw [List.size_toArray, List.size_toArray, holz]; rfl
      have HOLD := Lib.hid hold
      have HIN3 : Hid (FdInv G G' g M b (.err e) w.heap.size rq acc1.length cs (w3.setRow g (paL 0 0 0 0 e).toArray)) := HIN.out.next ((K2.out.trans K3.out).trans hov.2) ⟨hov.1, HE0.out⟩
      have HK3 : Hid (Keep G w (w3.setRow g (paL 0 0 0 0 e).toArray)) := HK.out.trans (((K2.out.trans K3.out).trans hov.2).more (fun j _ hj => HIN.out.sub j hj))
      clear hov hold holz HST
      go_wp2_with (refine wpList_store_row rfl 84 _ _ rfl g (paL 0 0 0 0 e).toArray rfl rfl 84 old.toArray HOLD.out hpz2 hoz hp1 ?_)
      clear hpz2 hoz hp1 HOLD
      go_roundw
      case rel => exact ⟨y, .err e, acc1, [], _, rfl, rfl, .errs e _, HA, ⟨G', cs, HIN3.out, HMC.out⟩, HK3⟩
      case measure => show y.size < s.size; have := HLT.out; omega
    | bad2 σ σ1 m t l' hne hb hw h1 hb1 he hz =>
      obtain ⟨wt, hh⟩ := hpa
      have hne' : 0 < s.size := by rw [hszl]; exact List.length_pos_iff.2 hne
      have e1 := emp_false s hne'
      have k20 := hh.cellR 9
      have k19 := hh.cellR 8
      have f19 := hh.free 19
      simp only [paR, List.getElem?_cons_zero, List.getElem?_cons_succ, Nat.reduceAdd] at k20 k19
      have D2 : Hid (HeS G' 84 (paR (bs m) (bs t) (.slice none 0 0) true 0) (wr.setCell ⟨g, 19, none⟩ (.bool true)) g M b σ) := hh.setR 8 (.bool true)
      have K2 : Hid (Keep G' wr (wr.setCell ⟨g, 19, none⟩ (.bool true))) := Keep.setCell wr (p := ⟨g, 19, none⟩) hh.gG _
      have U2 : Hid (Up G' (wr.setCell ⟨g, 19, none⟩ (.bool true))) := HIN.out.up.keep K2.out
      have M2 : Hid (∀ w', Keep G' (wr.setCell ⟨g, 19, none⟩ (.bool true)) w' → MaxL w') := fun w' hk => HY.out w' (HK.out.trans ((K2.out.trans hk).more (fun j _ hj => HIN.out.sub j hj)))
      obtain ⟨w2, hw2⟩ : ∃ w2, w2 = wr.setCell ⟨g, 19, none⟩ (.bool true) := ⟨_, rfl⟩
      rw [← hw2] at D2 K2 U2 M2
      have HLT : Hid ((bs (l'.drop (nlAt l'))).size < s.size) := by
        show _ < _
        rw [bs_size, List.length_drop, hszl]
        have := nlAt_pos hne
        have := nlAt_le l'
        have := List.length_pos_iff.2 hne
        omega
      have HST := Lib.hid (step37a G' g M b σ _ _ s (bs (l'.drop (nlAt l'))) 2 hb w2 D2.out (by rw [hsl]; exact fline56 G' g M b σ σ1 m t [] [] true l' hw h1 _ rfl 2 hz (.inr ⟨hb1, by rw [he]; rfl⟩) w2 D2.out U2.out M2.out))
      obtain ⟨y, hy⟩ : ∃ y, y = bs (l'.drop (nlAt l')) := ⟨_, rfl⟩
      have hyl : y.data.toList = l'.drop (nlAt l') := by rw [hy, bs_list]
      rw [← hy] at HST HLT
      have HE0 : Hid ((2 : Int) ≠ 0) := by show _ ≠ _; decide
      have HW2 := Lib.hid hw2
      have HSZ := Lib.hid hszl
      have HNE := Lib.hid hne
      clear hh hsl hszl hne hw2 hy hyl hb hw h1 hz hb1 he
      go_wp2_with fail
      rw [← HW2.out]
      with_reducible refine HST.out.mono ?_
      rintro e9 w3 ⟨rfl, hd3, hk3⟩
      have D3 := Lib.hid hd3
      have K3 := Lib.hid hk3
      clear hd3 hk3
      have hov := D3.out.over ⟨0, 0, 0⟩ 0 2
      rw [show max (0 : Int) 0 = 0 by decide] at hov
      have hpz2 : (Tryz.prog.info? 84).map (·.size) = some (paL 0 0 0 0 2).toArray.size := by rw [List.size_toArray, paL_len]; exact infoPa
      have hp1 := paL_one 0 0 0 0 2
      obtain ⟨old, hold, holz⟩ := D3.out.row
      have hoz : old.toArray.size = (paL 0 0 0 0 2).toArray.size := by rw [List.size_toArray, List.size_toArray, holz]; rfl
      have HOLD := Lib.hid hold
      have HIN3 : Hid (FdInv G G' g M b (.err 2) w.heap.size rq acc1.length cs (w3.setRow g (paL 0 0 0 0 2).toArray)) := HIN.out.next ((K2.out.trans K3.out).trans hov.2) ⟨hov.1, HE0.out⟩
      have HK3 : Hid (Keep G w (w3.setRow g (paL 0 0 0 0 2).toArray)) := HK.out.trans (((K2.out.trans K3.out).trans hov.2).more (fun j _ hj => HIN.out.sub j hj))
      clear hov hold holz HST
      go_wp2_with (refine wpList_store_row rfl 84 _ _ rfl g (paL 0 0 0 0 2).toArray rfl rfl 84 old.toArray HOLD.out hpz2 hoz hp1 ?_)
      clear hpz2 hoz hp1 HOLD
      go_roundw
      case rel => exact ⟨y, .err 2, acc1, [], _, rfl, rfl, .errs 2 _, HA, ⟨G', cs, HIN3.out, HMC.out⟩, HK3⟩
      case measure => show y.size < s.size; have := HLT.out; omega
    | good σ σ1 m t l' m1 t1 acc2 _ hne hb hw h1 hb1 hf he hz hr =>
      obtain ⟨wt, hh⟩ := hpa
      have hne' : 0 < s.size := by rw [hszl]; exact List.length_pos_iff.2 hne
      have e1 := emp_false s hne'
      have k20 := hh.cellR 9
      have k19 := hh.cellR 8
      have f19 := hh.free 19
      simp only [paR, List.getElem?_cons_zero, List.getElem?_cons_succ, Nat.reduceAdd] at k20 k19
      have D2 : Hid (HeS G' 84 (paR (bs m) (bs t) (.slice none 0 0) true 0) (wr.setCell ⟨g, 19, none⟩ (.bool true)) g M b σ) := hh.setR 8 (.bool true)
      have K2 : Hid (Keep G' wr (wr.setCell ⟨g, 19, none⟩ (.bool true))) := Keep.setCell wr (p := ⟨g, 19, none⟩) hh.gG _
      have U2 : Hid (Up G' (wr.setCell ⟨g, 19, none⟩ (.bool true))) := HIN.out.up.keep K2.out
      have M2 : Hid (∀ w', Keep G' (wr.setCell ⟨g, 19, none⟩ (.bool true)) w' → MaxL w') := fun w' hk => HY.out w' (HK.out.trans ((K2.out.trans hk).more (fun j _ hj => HIN.out.sub j hj)))
      obtain ⟨w2, hw2⟩ : ∃ w2, w2 = wr.setCell ⟨g, 19, none⟩ (.bool true) := ⟨_, rfl⟩
      rw [← hw2] at D2 K2 U2 M2
      have HLT : Hid ((bs (l'.drop (nlAt l'))).size < s.size) := by
        show _ < _
        rw [bs_size, List.length_drop, hszl]
        have := nlAt_pos hne
        have := nlAt_le l'
        have := List.length_pos_iff.2 hne
        omega
      have HST := Lib.hid (step37a G' g M b σ _ _ s (bs (l'.drop (nlAt l'))) 0 hb w2 D2.out (by rw [hsl]; exact fline56 G' g M b σ σ1 m t m1 t1 true l' hw h1 _ rfl 0 hz (.inr ⟨hb1, by rw [he]; rfl⟩) w2 D2.out U2.out M2.out))
      obtain ⟨y, hy⟩ : ∃ y, y = bs (l'.drop (nlAt l')) := ⟨_, rfl⟩
      have hyl : y.data.toList = l'.drop (nlAt l') := by rw [hy, bs_list]
      rw [← hy] at HST HLT
      have HRR : Hid (PRun M (.on σ1 m1 t1) y.data.toList acc2 pF) := by rw [hyl]; exact hr
      have HW2 := Lib.hid hw2
      have HSZ := Lib.hid hszl
      have HNE := Lib.hid hne
      clear hh hsl hszl hne hw2 hy hyl hb hw h1 hz hb1 he hr
      go_wp2_with fail
      rw [← HW2.out]
      with_reducible refine HST.out.mono ?_
      rintro e9 w3 ⟨rfl, hd3, hk3⟩
      have D3 := Lib.hid hd3
      have K3 := Lib.hid hk3
      clear hd3 hk3
      have HC := Lib.hid (complete38 G' g M b σ1 (bs m1) (bs t1) (.slice none 0 0) true 0 false hf w3 D3.out)
      clear HST
      go_wp2_with fail
      with_reducible refine HC.out.mono ?_
      rintro e9 w4 ⟨rfl, n, rfl⟩
      have HIN3 : Hid (FdInv G G' g M b (.on σ1 m1 t1) w.heap.size rq acc1.length cs (w3.drewN n)) := HIN.out.next ((K2.out.trans K3.out).trans (.of_below (HDN.out _ _))) ⟨true, D3.out.below (HDN.out _ _)⟩
      have HK3 : Hid (Keep G w (w3.drewN n)) := HK.out.trans (((K2.out.trans K3.out).trans (.of_below (HDN.out _ _))).more (fun j _ hj => HIN.out.sub j hj))
      clear HC
      go_wp2_with fail
      go_roundw
      case rel => exact ⟨y, .on σ1 m1 t1, acc1, acc2, _, rfl, rfl, HRR, HA, ⟨G', cs, HIN3.out, HMC.out⟩, HK3⟩
      case measure => show y.size < s.size; have := HLT.out; omega
    | fbad σ m t l' e hne hb hf hw h1 he0 =>
      obtain ⟨wt, hh⟩ := hpa
      have hne' : 0 < s.size := by rw [hszl]; exact List.length_pos_iff.2 hne
      have e1 := emp_false s hne'
      have k20 := hh.cellR 9
      have k19 := hh.cellR 8
      have f19 := hh.free 19
      simp only [paR, List.getElem?_cons_zero, List.getElem?_cons_succ, Nat.reduceAdd] at k20 k19
      have D2 : Hid (HeS G' 84 (paR (bs m) (bs t) (.slice none 0 0) true 0) (wr.setCell ⟨g, 19, none⟩ (.bool true)) g M b σ) := hh.setR 8 (.bool true)
      have K2 : Hid (Keep G' wr (wr.setCell ⟨g, 19, none⟩ (.bool true))) := Keep.setCell wr (p := ⟨g, 19, none⟩) hh.gG _
      have U2 : Hid (Up G' (wr.setCell ⟨g, 19, none⟩ (.bool true))) := HIN.out.up.keep K2.out
      have M2 : Hid (∀ w', Keep G' (wr.setCell ⟨g, 19, none⟩ (.bool true)) w' → MaxL w') := fun w' hk => HY.out w' (HK.out.trans ((K2.out.trans hk).more (fun j _ hj => HIN.out.sub j hj)))
      obtain ⟨w2, hw2⟩ : ∃ w2, w2 = wr.setCell ⟨g, 19, none⟩ (.bool true) := ⟨_, rfl⟩
      rw [← hw2] at D2 K2 U2 M2
      have HLT : Hid ((⟨#[]⟩ : ByteArray).size < s.size) := hne'
      have HST := Lib.hid (step37b G' g M b σ _ _ s ⟨#[]⟩ e hb hf w2 D2.out (by rw [hsl]; have := fflds57 G' g M b σ (.err e) (bs m) (bs t) true l' hw h1 rfl w2 D2.out U2.out M2.out; rw [show (HdS.err e).errOf = e from rfl, if_neg he0] at this; exact this))
      obtain ⟨y, hy⟩ : ∃ y : ByteArray, y = ⟨#[]⟩ := ⟨_, rfl⟩
      rw [← hy] at HST HLT
      have HE0 := Lib.hid he0
      have hee : (e != 0) = true := bne_iff_ne.2 he0
      have HW2 := Lib.hid hw2
      have HSZ := Lib.hid hszl
      have HNE := Lib.hid hne
      clear hh hsl hszl hne hw2 hb hf hw h1 hy
      go_wp2_with fail
      rw [← HW2.out]
      with_reducible refine HST.out.mono ?_
      rintro e9 w3 ⟨rfl, hd3, hk3⟩
      have D3 := Lib.hid hd3
      have K3 := Lib.hid hk3
      clear hd3 hk3
      have hov := D3.out.over ⟨0, 0, 0⟩ 0 e
      rw [show max (0 : Int) 0 = 0 by decide] at hov
      have hpz2 : (Tryz.prog.info? 84).map (·.size) = some (paL 0 0 0 0 e).toArray.size := by rw [List.size_toArray, paL_len]; exact infoPa
      have hp1 := paL_one 0 0 0 0 e
      obtain ⟨old, hold, holz⟩ := D3.out.row
      have hoz : old.toArray.size = (paL 0 0 0 0 e).toArray.size := by rw [List.size_toArray, List.size_toArray, holz]; rfl
      have HOLD := Lib.hid hold
      have HIN3 : Hid (FdInv G G' g M b (.err e) w.heap.size rq acc1.length cs (w3.setRow g (paL 0 0 0 0 e).toArray)) := HIN.out.next ((K2.out.trans K3.out).trans hov.2) ⟨hov.1, HE0.out⟩
      have HK3 : Hid (Keep G w (w3.setRow g (paL 0 0 0 0 e).toArray)) := HK.out.trans (((K2.out.trans K3.out).trans hov.2).more (fun j _ hj => HIN.out.sub j hj))
      clear hov hold holz HST
      go_wp2_with (refine wpList_store_row rfl 84 _ _ rfl g (paL 0 0 0 0 e).toArray rfl rfl 84 old.toArray HOLD.out hpz2 hoz hp1 ?_)
      clear hpz2 hoz hp1 HOLD
      go_roundw
      case rel => exact ⟨y, .err e, acc1, [], _, rfl, rfl, .errs e _, HA, ⟨G', cs, HIN3.out, HMC.out⟩, HK3⟩
      case measure => show y.size < s.size; have := HLT.out; omega
    | fdone σ m t l' fl fs acc2 _ hne hb hf hw h1 hn hr =>
      obtain ⟨wt, hh⟩ := hpa
      have hne' : 0 < s.size := by rw [hszl]; exact List.length_pos_iff.2 hne
      have e1 := emp_false s hne'
      have k20 := hh.cellR 9
      have k19 := hh.cellR 8
      have f19 := hh.free 19
      simp only [paR, List.getElem?_cons_zero, List.getElem?_cons_succ, Nat.reduceAdd] at k20 k19
      have D2 : Hid (HeS G' 84 (paR (bs m) (bs t) (.slice none 0 0) true 0) (wr.setCell ⟨g, 19, none⟩ (.bool true)) g M b σ) := hh.setR 8 (.bool true)
      have K2 : Hid (Keep G' wr (wr.setCell ⟨g, 19, none⟩ (.bool true))) := Keep.setCell wr (p := ⟨g, 19, none⟩) hh.gG _
      have U2 : Hid (Up G' (wr.setCell ⟨g, 19, none⟩ (.bool true))) := HIN.out.up.keep K2.out
      have M2 : Hid (∀ w', Keep G' (wr.setCell ⟨g, 19, none⟩ (.bool true)) w' → MaxL w') := fun w' hk => HY.out w' (HK.out.trans ((K2.out.trans hk).more (fun j _ hj => HIN.out.sub j hj)))
      obtain ⟨w2, hw2⟩ : ∃ w2, w2 = wr.setCell ⟨g, 19, none⟩ (.bool true) := ⟨_, rfl⟩
      rw [← hw2] at D2 K2 U2 M2
      have hlt' := hLeft_lt M σ l' hf hne
      have HLT : Hid ((bs (hLeft M σ l')).size < s.size) := by
        show _ < _
        rw [bs_size, hszl]
        exact hlt'
      have HST : Hid (Calls Tryz.prog 37 #[.pointer (some ⟨g, 0, none⟩), .string s] w2 fun x w' => x = .returned (.tuple #[.string (bs (hLeft M σ l')), .int .i64 0]) ∧ ∃ a c, HeS G' 84 (paR (bs m) (bs t) (.slice a fs.length c) true 0) w' g M b (.done fl fs) ∧ Keep G' w2 w') := by
        obtain ⟨h0, n1, n2, n3, n4, n5, n6⟩ := hn
        refine step37b G' g M b σ _ _ s _ 0 hb hf w2 D2.out ?_
        rw [hsl]
        refine (fflds57d G' g M b σ (bs m) (bs t) true l' hw fl fs h1 h0 n5 n6 n1 n2 n3 n4 w2 D2.out U2.out M2.out).mono ?_
        rintro e9 w9 ⟨a, c, rfl, h2, h3⟩
        exact ⟨rfl, a, c, h2, h3⟩
      obtain ⟨y, hy⟩ : ∃ y, y = bs (hLeft M σ l') := ⟨_, rfl⟩
      have hyl : y.data.toList = hLeft M σ l' := by rw [hy, bs_list]
      rw [← hy] at HST HLT
      have HRR : Hid (PRun M (.on hd0 [] []) y.data.toList acc2 pF) := by rw [hyl]; exact hr
      have HW2 := Lib.hid hw2
      have HSZ := Lib.hid hszl
      have HNE := Lib.hid hne
      clear hh hsl hszl hne hw2 hlt' hb hf hw h1 hy hyl hr hn
      go_wp2_with fail
      rw [← HW2.out]
      with_reducible refine HST.out.mono ?_
      rintro e9 w3 ⟨rfl, fa, fc, hd3, hk3⟩
      have D3 := Lib.hid hd3
      have K3 := Lib.hid hk3
      clear hd3 hk3 HST
      obtain ⟨fn, hfn⟩ : ∃ fn, fn = fs.length := ⟨_, rfl⟩
      rw [← hfn] at D3 HA
      have HC := Lib.hid (complete38 G' g M b (.done fl fs) (bs m) (bs t) (.slice fa fn fc) true 0 true rfl w3 D3.out)
      clear hfn
      go_wp2_with fail
      with_reducible refine HC.out.mono ?_
      rintro e9 w4 ⟨rfl, n, rfl⟩
      have D4 : Hid (HeS G' 84 (paR (bs m) (bs t) (.slice fa fn fc) true 0) (w3.drewN n) g M b (.done fl fs)) := D3.out.below (HDN.out _ _)
      have K4 : Hid (Keep G' wr (w3.drewN n)) := (K2.out.trans K3.out).trans (.of_below (HDN.out _ _))
      have HF := Lib.hid (finish39 G' g M b (.done fl fs) (bs m) (bs t) fa fn fc true (fun e he => by cases he) _ D4.out (HIN.out.up.keep K4.out))
      clear HC
      go_wp2_with fail
      with_reducible refine HF.out.mono ?_
      rintro e9 w5 ⟨rfl, hd5, hk5⟩
      have HIN5 := Lib.hid (HIN.out.next (p' := .on hd0 [] []) (K4.out.trans hk5) ⟨false, hd5⟩)
      have K5 := Lib.hid (K4.out.trans hk5)
      have HB5 : Hid (w.heap.size ≤ w5.heap.size) := Nat.le_trans HK.out.size K5.out.size
      have HNW := Lib.hid (cells_new5 w5 (.string (bs m)) (.string (bs t)) (.slice fa fn fc) (.string ⟨#[]⟩) (.int .i64 0) 54)
      have HO5 := Lib.hid (HIN5.out.own.alloc (.cells #[.string (bs m), .string (bs t), .slice fa fn fc, .string ⟨#[]⟩, .int .i64 0] 54))
      obtain ⟨an, han⟩ : ∃ an, an = acc1.length := ⟨_, rfl⟩
      rw [← han] at HO5 HIN5
      have hanz : an ≤ 100000000 := by rw [han]; exact HAL.out
      have HAN := Lib.hid han
      have hb5 := HB5.out
      clear hd5 hk5 HF han
      go_wp2_with (at_builtin; refine wpList_append_own_at _ rfl _ _ 59 rfl w.heap.size 54 i0 (.agg #[.string ⟨#[]⟩, .string ⟨#[]⟩, .slice none 0 0, .string ⟨#[]⟩, .int .i64 0]) 5 80 Tryz.underlying59 hi hz0 hz1 hz2 rfl (by decide) _ _ _ rfl HO5.out ⟨w5.heap.size, 0, none⟩ 1 1 [.string (bs m), .string (bs t), .slice fa fn fc, .string ⟨#[]⟩, .int .i64 0] rfl rfl HNW.out (by intro u hu; simp at hu; rcases hu with rfl | rfl | rfl | rfl | rfl <;> rfl) (by unfold maxLen; omega) (by omega) (by simp; omega) ?_)
      intro v' w6 hown' hgrow _ hat
      have HP6 := HIN5.out.put _ (fun j hj => HU.out j (Nat.le_trans HB5.out hj)) hgrow (hat.imp id (fun e => e.trans (by simp))) hown'
      have HIN6 := Lib.hid HP6.1
      have HK6 : Hid (Keep G w w6) := (HK.out.trans (K5.out.more (fun j _ hj => HIN.out.sub j hj))).trans (HP6.2.more (fun k _ hk => HU.out k hk))
      have HMC6 : Hid (MsgCells (acc1 ++ [(m, t, fn)]) (cs ++ [.string (bs m), .string (bs t), .slice fa fn fc, .string ⟨#[]⟩, .int .i64 0])) := msg_snoc (m, t, fn) fa fc HMC.out
      have HA6 : Hid (acc = (acc1 ++ [(m, t, fn)]) ++ acc2) := by show _ = _; rw [HA.out]; simp
      have HI6 : Hid (∃ G' cs, FdInv G G' g M b (.on hd0 [] []) w.heap.size v' (acc1 ++ [(m, t, fn)]).length cs w6 ∧ MsgCells (acc1 ++ [(m, t, fn)]) cs) := ⟨_, _, by rw [List.length_append, ← HAN.out]; exact HIN6.out, HMC6.out⟩
      clear hown' hgrow hat HP6 HIN6 HMC6 HNW HO5 HIN5 K5 HIN
      go_wp2_with fail
      go_roundw
      case rel => exact ⟨y, .on hd0 [] [], acc1 ++ [(m, t, fn)], acc2, _, rfl, rfl, HRR, HA6, HI6, HK6⟩
      case measure => show y.size < s.size; have := HLT.out; omega
end Go.Proofs.YtmcbaheaocfdnaaGreatDoor

/- request: the fixed fact of the layer's statements. -/
namespace Go.Proofs.YtmcbaheaocfdnaaGreatDoor
open Go.RowKit

def awA : List UInt8 := [71, 69, 84, 32, 47, 32, 72, 84, 84, 80, 47, 49, 46, 49, 13, 10, 72, 111, 115, 116, 58, 32, 97, 13, 10, 13, 10, 80, 79]
def awM : HdL := ⟨50, 100, 9⟩
def awF : List UInt8 := [71, 69, 84, 32, 47, 32, 72, 84, 84, 80, 47, 49, 46, 49]
theorem aw_nl : nlAt awA = 16 := by decide +kernel
theorem aw_r1 : hRun awM hd0 (awA.take (nlAt awA)) = .line (some awF) [] 0 [] false := by kernel_rfl
theorem aw_q1 : reqP awF = some ([71, 69, 84], [47]) := by kernel_rfl
theorem aw_r2 : hRun awM (.line (some awF) [] 0 [] false) (awA.drop (nlAt awA)) = .done awF [([72, 111, 115, 116], [97])] := by kernel_rfl
theorem aw_l2 : hLeft awM (.line (some awF) [] 0 [] false) (awA.drop (nlAt awA)) = [80, 79] := by kernel_rfl
theorem aw_r3 : hRun awM hd0 ([80, 79] : List UInt8) = .line none [] 0 [80, 79] false := by kernel_rfl
theorem aw_r4 : hRun awM (.line none [] 0 [80, 79] false) ([83, 84, 13, 10] : List UInt8) = .line (some [80, 79, 83, 84]) [] 0 [] false := by kernel_rfl
theorem aw_q4 : reqP [80, 79, 83, 84] = none := by kernel_rfl
theorem aw_nb : NoBody [([72, 111, 115, 116], [97])] := by
  refine ⟨bs [97], by kernel_rfl, by decide, by kernel_rfl, by kernel_rfl, by decide, ?_⟩
  intro f hf
  rcases List.mem_singleton.1 hf with rfl
  exact ⟨by decide, by decide⟩
theorem aw_run1 : PRun awM (.on hd0 [] []) awA [([71, 69, 84], [47], 1)] (.on (.line none [] 0 [80, 79] false) [] []) := by
  refine .good hd0 _ [] [] awA [71, 69, 84] [47] _ _ (by decide) rfl (by decide) aw_r1 rfl rfl aw_q1 (by decide) ?_
  refine .fdone _ _ _ _ awF [([72, 111, 115, 116], [97])] _ _ (by decide +kernel) rfl rfl (by decide +kernel) aw_r2 aw_nb ?_
  rw [aw_l2]
  refine .more hd0 (.line none [] 0 [80, 79] false) [] [] [80, 79] [] _ (by decide) rfl (by decide) ?_ rfl rfl (by decide) ?_
  · have e : ([80, 79] : List UInt8).take (nlAt [80, 79]) = [80, 79] := by decide +kernel
    rw [e]; exact aw_r3
  · have e : ([80, 79] : List UInt8).drop (nlAt [80, 79]) = [] := by decide +kernel
    rw [e]; exact .nil _ _ _
theorem aw_run2 : PRun awM (.on (.line none [] 0 [80, 79] false) [] []) [83, 84, 13, 10] [] (.err 2) := by
  refine .bad2 _ (.line (some [80, 79, 83, 84]) [] 0 [] false) [] [] _ (by decide) rfl (by decide) ?_ rfl aw_q4 (by decide)
  have e : ([83, 84, 13, 10] : List UInt8).take (nlAt [83, 84, 13, 10]) = [83, 84, 13, 10] := by decide +kernel
  rw [e]; exact aw_r4
set_option maxRecDepth 100000 in
set_option maxHeartbeats 4000000 in
theorem rqawake5 (w : World) (hw : MaxL w) :
    Calls Tryz.prog 5 #[] w fun x w' => x = .returned (.bool true) ∧ Below w.heap.size w w' := by
  have HW := Lib.hid hw
  clear hw
  go_enter Tryz.func5, Tryz.ntmps5
  go_wp2_with fail
  with_reducible refine (new21 50 100 9 9 w).mono ?_
  rintro e w1 ⟨g, rfl, hg, hr, hb⟩
  have hp1 : PaS (fun j => g ≤ j) g awM 9 (.on hd0 [] []) w1 := ⟨false, paNew_S 50 100 9 9 hr _ (Nat.le_refl _)⟩
  have hu1 : Up (fun j => g ≤ j) w1 := fun k hk => Nat.le_trans (Nat.le_of_lt hr.lt) hk
  have hfl : Floor (fun j => g ≤ j) w.heap.size := fun k hk => Nat.le_trans hg hk
  have HF1 := Lib.hid (pfeed22 (fun j => g ≤ j) g awM 9 _ _ awA (by decide) _ aw_run1 w1 hp1 hu1 (fun w' hk => HW.out.below (hb.trans (hk.bel hfl hb.size))))
  have HB1 := Lib.hid hb
  have HFL := Lib.hid hfl
  clear hp1 hu1 hfl hr hb hg
  unfold bs awA at HF1
  go_wp2_with fail
  with_reducible refine HF1.out.mono ?_
  rintro e w2 ⟨v, cs, G1, rfl, hmc, hin, hk⟩
  have B2 := Lib.hid (HB1.out.trans (hk.bel HFL.out HB1.out.size))
  have FL2 : Hid (Floor G1 w.heap.size) := fun k hk => HFL.out k (hin.sub k hk)
  have HF2 := Lib.hid (pfeed22 G1 g awM 9 _ _ [83, 84, 13, 10] (by decide) _ aw_run2 w2 hin.pa hin.up (fun w' hk => HW.out.below (B2.out.trans (hk.bel FL2.out B2.out.size))))
  obtain ⟨fa, fc, cs', rfl, hcs'⟩ := hmc
  obtain rfl : cs' = [] := hcs'
  have HI := Lib.hid hin
  clear hk HF1 hin
  simp only [PaP.errOf]
  unfold bs at HF2
  go_wp2_with fail
  with_reducible refine HF2.out.mono ?_
  rintro e w3 ⟨v2, cs2, G2, rfl, _, hin2, hk2⟩
  have hown := own_len (own_keepB HI.out.own hk2 HI.out.no) (show _ = 1 from rfl)
  have B3 := Lib.hid (B2.out.trans (hk2.bel FL2.out B2.out.size))
  have HWT := Lib.hid (waits23 _ _ _ _ _ _ _ _ _ _ w3 hin2.pa.1)
  obtain ⟨va, vc, rfl⟩ := own_slice hown
  have hcell := fun (k : Nat) hk => hown.cells (g := k) hk
  obtain ⟨_, ⟨h1, h0⟩ | ⟨k, cap, cur, hv, _, _, hcap, _⟩⟩ := hown
  · cases h0
  injection hv with hv1 _ hv3
  subst hv1 hv3
  have c1 : w3.cell? ⟨k, 1, none⟩ = some (.string (bs [47])) := by
    have := hcell k rfl 1 _ rfl
    rw [Addr.add_mid, Nat.zero_add] at this
    exact this
  have c4 : w3.cell? ⟨k, 4, none⟩ = some (.int .i64 0) := by
    have := hcell k rfl 4 _ rfl
    rw [Addr.add_mid, Nat.zero_add] at this
    exact this
  unfold bs at c1
  clear hcell hk2 hin2 HF2 HI B2 FL2
  simp only [PaP.errOf]
  go_wp2_with fail
  with_reducible refine HWT.out.mono ?_
  rintro e w' ⟨rfl, rfl⟩
  go_wp2_with fail
  go_ret
  exact ⟨rfl, B3.out⟩
end Go.Proofs.YtmcbaheaocfdnaaGreatDoor

/- request's reference: ReadLine. -/
namespace Go.Proofs.YtmcbaheaocfdnaaGreatDoor
open Go.RowKit

def lnV (l : List UInt8) : LnR → Value
  | .part cur _ => .agg #[.string (bs cur), .int .i64 (l.length : Int), .bool false, .int .i64 0]
  | .whole s => .agg #[.string (bs s), .int .i64 ((s.length + 2 : Nat) : Int), .bool true, .int .i64 0]
  | .err e => .agg #[.string ⟨#[]⟩, .int .i64 0, .bool false, .int .i64 e]
theorem rl_end (most : Int) (cur : List UInt8) : rlGo most cur [] = .part cur false := rfl
theorem rl_lf (most : Int) (cur r : List UInt8) : rlGo most cur (10 :: r) = .err 2 := rfl
theorem rl_cr1 (most : Int) (cur : List UInt8) : rlGo most cur [13] = .part cur true := rfl
theorem rl_crlf (most : Int) (cur r : List UInt8) : rlGo most cur (13 :: 10 :: r) = .whole cur := rfl
theorem rl_crx (most : Int) (cur r : List UInt8) (d : UInt8) (h : d ≠ 10) : rlGo most cur (13 :: d :: r) = .err 2 := by
  show (if d = 10 then LnR.whole cur else .err 2) = _
  rw [if_neg h]
theorem rl_long (most : Int) (cur r : List UInt8) (c : UInt8) (h10 : c ≠ 10) (h13 : c ≠ 13) (h : most ≤ (cur.length : Int)) : rlGo most cur (c :: r) = .err 4 := by
  show (if c = 10 then LnR.err 2 else if c = 13 then _ else if most ≤ (cur.length : Int) then LnR.err 4 else rlGo most (cur ++ [c]) r) = _
  rw [if_neg h10, if_neg h13, if_pos h]
theorem rl_go (most : Int) (cur r : List UInt8) (c : UInt8) (h10 : c ≠ 10) (h13 : c ≠ 13) (h : ¬ most ≤ (cur.length : Int)) : rlGo most cur (c :: r) = rlGo most (cur ++ [c]) r := by
  show (if c = 10 then LnR.err 2 else if c = 13 then _ else if most ≤ (cur.length : Int) then LnR.err 4 else rlGo most (cur ++ [c]) r) = _
  rw [if_neg h10, if_neg h13, if_neg h]
set_option maxRecDepth 100000 in
set_option maxHeartbeats 4000000 in
theorem rline25 (s : ByteArray) (hs : s.size ≤ 1000000) (most : Int) (w : World) :
    Calls Tryz.prog 25 #[.string s, .int .i64 most] w fun e w' => e = .returned (lnV s.data.toList (rlGo most [] s.data.toList)) ∧ Below w.heap.size w w' := by
  have hz := Lib.size_eq s
  obtain ⟨R, hR⟩ : ∃ R, R = lnV s.data.toList (rlGo most [] s.data.toList) := ⟨_, rfl⟩
  rw [← hR]
  obtain ⟨l, hl⟩ : ∃ l, l = s.data.toList := ⟨_, rfl⟩
  rw [← hl] at hR hz
  have HR := Lib.hid hR
  have HL := Lib.hid hl
  have HZ := Lib.hid hz
  have L0 := below_alloc w (.cells #[.string ⟨#[]⟩, .int .i64 0, .bool false, .int .i64 0] 69)
  clear hR hz hl
  go_enter Tryz.func25, Tryz.ntmps25
  go_wp2_with fail
  go_loop [5] (fun i => ∃ j : Nat, j ≤ s.size ∧ i = .int .i64 (j : Int) ∧ Hid (rlGo most [] l = rlGo most (l.take j) (l.drop j))) (fun i => s.size - (intOf i).toNat)
  case atStart => exact ⟨0, Nat.zero_le _, rfl, by simp [Hid]⟩
  case round =>
    obtain ⟨j, hj, rfl, hrl⟩ := hrel
    by_cases hlt : j < s.size
    · have hjl : j < l.length := by rw [← HZ.out]; exact hlt
      have t1 : (j : Int) < s.size := by omega
      have hd := List.drop_eq_getElem_cons hjl
      obtain ⟨c, hc⟩ : ∃ c, c = s[j] := ⟨_, rfl⟩
      have hcl : l[j] = c := by subst hc; simp only [HL.out]; rfl
      rw [hcl] at hd
      have hlen : ((l.take j).length : Int) = j := by rw [List.length_take]; omega
      have hrl2 := hrl.out
      rw [hd] at hrl2
      have HRL := Lib.hid hrl2
      have HLEN := Lib.hid hlen
      have htk : l.take (j + 1) = l.take j ++ [c] := by rw [List.take_succ_eq_append_getElem hjl, hcl]
      have HTK := Lib.hid htk
      have hcx : s[j] = c := hc.symm
      clear hd hlen hrl2 htk hcl hrl
      by_cases h10 : c = 10
      · subst h10
        clear hc
        have HE : Hid (R = .agg #[.string ⟨#[]⟩, .int .i64 0, .bool false, .int .i64 2]) := by
          show _ = _
          rw [HR.out, HRL.out, rl_lf]; rfl
        go_wp2_with fail
        refine bodyPost_ret (v := .agg #[.string ⟨#[]⟩, .int .i64 0, .bool false, .int .i64 2]) (by simp [results, Tryz.results25, go_sem]) rfl ⟨by rw [HE.out], ?_⟩
        first | exact below_alloc w _ | exact ((((L0).setCell (p := ⟨w.heap.size, 0, none⟩) (Nat.le_refl _) _).setCell (p := ⟨w.heap.size, 1, none⟩) (Nat.le_refl _) _).setCell (p := ⟨w.heap.size, 2, none⟩) (Nat.le_refl _) _).setCell (p := ⟨w.heap.size, 3, none⟩) (Nat.le_refl _) _
      · have n10 : ((c.toNat : Int) == 10) = false := by
          exact beq_eq_false_iff_ne.2 (fun e => h10 (UInt8.toNat_inj.1 (by have : (10 : UInt8).toNat = 10 := rfl; omega)))
        by_cases h13 : c = 13
        · subst h13
          by_cases he : j = s.size - 1
          · have hsz : s.size = j + 1 := by omega
            have HSZ := Lib.hid hsz
            have hex : s.extract 0 j = bs (l.take j) := by rw [← bs_of (s.extract 0 j), extractL, ← HL.out, List.drop_zero, Nat.sub_zero]
            have HEX := Lib.hid hex
            have hd0 : l.drop (j + 1) = [] := List.drop_eq_nil_of_le (by rw [← HZ.out]; omega)
            have HD0 := Lib.hid hd0
            clear hc hex hd0 he
            have HE : Hid (R = .agg #[.string (s.extract 0 j), .int .i64 ((j : Int) + 1), .bool false, .int .i64 0]) := by
              show _ = _
              rw [HR.out, HRL.out, HD0.out, rl_cr1, HEX.out]; show Value.agg #[_, .int .i64 (l.length : Int), _, _] = _; rw [← HZ.out, HSZ.out]; rfl
            go_wp2_with fail
            refine bodyPost_ret (v := .agg #[.string (s.extract 0 j), .int .i64 ((j : Int) + 1), .bool false, .int .i64 0]) (by simp [results, Tryz.results25, go_sem]) rfl ⟨by rw [HE.out], ?_⟩
            first | exact below_alloc w _ | exact ((((L0).setCell (p := ⟨w.heap.size, 0, none⟩) (Nat.le_refl _) _).setCell (p := ⟨w.heap.size, 1, none⟩) (Nat.le_refl _) _).setCell (p := ⟨w.heap.size, 2, none⟩) (Nat.le_refl _) _).setCell (p := ⟨w.heap.size, 3, none⟩) (Nat.le_refl _) _
          · have t2 : ¬ (j : Int) = (s.size : Int) - 1 := by omega
            have hj1 : j + 1 < l.length := by rw [← HZ.out]; omega
            have t3 : (j : Int) + 1 < s.size := by omega
            have hd1 := List.drop_eq_getElem_cons hj1
            obtain ⟨d, hdd⟩ : ∃ d, d = s[j + 1] := ⟨_, rfl⟩
            have hdl : l[j + 1] = d := by subst hdd; simp only [HL.out]; rfl
            rw [hdl] at hd1
            have HD1 := Lib.hid hd1
            have hdx : s[j + 1] = d := hdd.symm
            clear hd1 hdl hc hdd
            by_cases hd10 : d = 10
            · subst hd10
              have hex : s.extract 0 j = bs (l.take j) := by rw [← bs_of (s.extract 0 j), extractL, ← HL.out, List.drop_zero, Nat.sub_zero]
              have HEX := Lib.hid hex
              clear hex
              have HE : Hid (R = .agg #[.string (s.extract 0 j), .int .i64 ((j : Int) + 2), .bool true, .int .i64 0]) := by
                show _ = _
                rw [HR.out, HRL.out, HD1.out, rl_crlf, HEX.out]; show Value.agg #[_, .int .i64 (((l.take j).length + 2 : Nat) : Int), _, _] = _; rw [show (((l.take j).length + 2 : Nat) : Int) = (j : Int) + 2 by have := HLEN.out; omega]
              go_wp2_with fail
              refine bodyPost_ret (v := .agg #[.string (s.extract 0 j), .int .i64 ((j : Int) + 2), .bool true, .int .i64 0]) (by simp [results, Tryz.results25, go_sem]) rfl ⟨by rw [HE.out], ?_⟩
              first | exact below_alloc w _ | exact ((((L0).setCell (p := ⟨w.heap.size, 0, none⟩) (Nat.le_refl _) _).setCell (p := ⟨w.heap.size, 1, none⟩) (Nat.le_refl _) _).setCell (p := ⟨w.heap.size, 2, none⟩) (Nat.le_refl _) _).setCell (p := ⟨w.heap.size, 3, none⟩) (Nat.le_refl _) _
            · have nd : ((d.toNat : Int) != 10) = true := by
                exact bne_iff_ne.2 (fun e => hd10 (UInt8.toNat_inj.1 (by have : (10 : UInt8).toNat = 10 := rfl; omega)))
              have HE : Hid (R = .agg #[.string ⟨#[]⟩, .int .i64 0, .bool false, .int .i64 2]) := by
                show _ = _
                rw [HR.out, HRL.out, HD1.out, rl_crx _ _ _ _ hd10]; rfl
              go_wp2_with fail
              refine bodyPost_ret (v := .agg #[.string ⟨#[]⟩, .int .i64 0, .bool false, .int .i64 2]) (by simp [results, Tryz.results25, go_sem]) rfl ⟨by rw [HE.out], ?_⟩
              first | exact below_alloc w _ | exact ((((L0).setCell (p := ⟨w.heap.size, 0, none⟩) (Nat.le_refl _) _).setCell (p := ⟨w.heap.size, 1, none⟩) (Nat.le_refl _) _).setCell (p := ⟨w.heap.size, 2, none⟩) (Nat.le_refl _) _).setCell (p := ⟨w.heap.size, 3, none⟩) (Nat.le_refl _) _
        · have n13 : ((c.toNat : Int) == 13) = false := by
            exact beq_eq_false_iff_ne.2 (fun e => h13 (UInt8.toNat_inj.1 (by have : (13 : UInt8).toNat = 13 := rfl; omega)))
          by_cases hlong : most ≤ (j : Int)
          · clear hc
            have HE : Hid (R = .agg #[.string ⟨#[]⟩, .int .i64 0, .bool false, .int .i64 4]) := by
              show _ = _
              rw [HR.out, HRL.out, rl_long _ _ _ _ h10 h13 (by have := HLEN.out; omega)]; rfl
            go_wp2_with fail
            refine bodyPost_ret (v := .agg #[.string ⟨#[]⟩, .int .i64 0, .bool false, .int .i64 4]) (by simp [results, Tryz.results25, go_sem]) rfl ⟨by rw [HE.out], ?_⟩
            first | exact below_alloc w _ | exact ((((L0).setCell (p := ⟨w.heap.size, 0, none⟩) (Nat.le_refl _) _).setCell (p := ⟨w.heap.size, 1, none⟩) (Nat.le_refl _) _).setCell (p := ⟨w.heap.size, 2, none⟩) (Nat.le_refl _) _).setCell (p := ⟨w.heap.size, 3, none⟩) (Nat.le_refl _) _
          · have t4 : ¬ (j : Int) ≥ most := by omega
            have HN : Hid (rlGo most [] l = rlGo most (l.take (j + 1)) (l.drop (j + 1))) := by
              show _ = _
              rw [HRL.out, rl_go _ _ _ _ h10 h13 (by have := HLEN.out; omega), HTK.out]
            clear hc
            go_wp2_with fail
            go_round
            case rel => exact ⟨j + 1, hlt, by go_num, HN.out⟩
            case measure => simp [intOf]; omega
    · have t1 : ¬ (j : Int) < s.size := by omega
      have hjl : j = l.length := by rw [← HZ.out]; omega
      have hrl2 := hrl.out
      rw [hjl, List.take_length, List.drop_length, rl_end] at hrl2
      have HRL := Lib.hid hrl2
      clear hjl hrl2 hrl
      have HE : Hid (R = .agg #[.string s, .int .i64 s.size, .bool false, .int .i64 0]) := by
        show _ = _
        rw [HR.out, HRL.out, HZ.out]; show Value.agg #[.string (bs l), _, _, _] = _; rw [HL.out, bs_of]
      go_wp2_with fail
      refine bodyPost_ret (v := .agg #[.string s, .int .i64 s.size, .bool false, .int .i64 0]) (by simp [results, Tryz.results25, go_sem]) rfl ⟨by rw [HE.out], ?_⟩
      first | exact below_alloc w _ | exact ((((L0).setCell (p := ⟨w.heap.size, 0, none⟩) (Nat.le_refl _) _).setCell (p := ⟨w.heap.size, 1, none⟩) (Nat.le_refl _) _).setCell (p := ⟨w.heap.size, 2, none⟩) (Nat.le_refl _) _).setCell (p := ⟨w.heap.size, 3, none⟩) (Nat.le_refl _) _
end Go.Proofs.YtmcbaheaocfdnaaGreatDoor

