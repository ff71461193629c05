/- The fixed facts of fields. -/
import Derived.Test.YtneagccakoakpaaDoorFldL
namespace Go.Proofs.YtneagccakoakpaaDoor
open Go.RowKit

theorem isFlds_new3 (w : World) (a b c d e f : List UInt8) (T : TypeId) : IsFlds (w.alloc (.cells #[.string (bs a), .string (bs b), .string (bs c), .string (bs d), .string (bs e), .string (bs f)] T)) (some ⟨w.heap.size, 0, none⟩) 3 [(a, b), (c, d), (e, f)] := by
  refine .inr ⟨w.heap.size, 0, rfl, by simp, by simp, fun j g hf => ?_⟩
  match j, hf with
  | 0, hf => obtain rfl := Option.some.inj hf; simp
  | 1, hf => obtain rfl := Option.some.inj hf; simp
  | 2, hf => obtain rfl := Option.some.inj hf; simp
  | j + 3, hf => simp at hf
theorem parse_host : parseV [72, 111, 115, 116, 58, 32, 32, 97, 32] = .tuple #[.agg #[.string ⟨#[72, 111, 115, 116]⟩, .string ⟨#[97]⟩], .int .i64 0] := by kernel_rfl
theorem set_host : setF [104, 111, 115, 116] [98] [([72, 111, 115, 116], [97]), ([88], [49]), ([72, 79, 83, 84], [99])] = [([104, 111, 115, 116], [98]), ([88], [49])] := by kernel_rfl
theorem text_host : textL [([104, 111, 115, 116], [98]), ([88], [49])] = [104, 111, 115, 116, 58, 32, 98, 13, 10, 88, 58, 32, 49, 13, 10] := by kernel_rfl
set_option maxHeartbeats 4000000 in
set_option maxRecDepth 100000 in
theorem awake35 (w : World) (hw : MaxL w) :
    Calls Tryd.prog 35 #[] w fun e w' => e = .returned (.bool true) ∧ Below w.heap.size w w' := by
  have HP := Lib.hid (parse36 ⟨#[72, 111, 115, 116, 58, 32, 32, 97, 32]⟩ (by decide) w hw)
  have e0 : (⟨#[72, 111, 115, 116, 58, 32, 32, 97, 32]⟩ : ByteArray).data.toList = [72, 111, 115, 116, 58, 32, 32, 97, 32] := rfl
  rw [e0, parse_host] at HP
  clear hw e0
  go_enter Tryd.func35, Tryd.ntmps35
  go_wp2_with fail
  refine HP.out.mono ?_
  rintro e w1 ⟨rfl, hb1⟩
  have hsz : (w1.alloc (.cells #[.string ⟨#[72, 111, 115, 116]⟩, .string ⟨#[97]⟩] 42)).heap.size = w1.heap.size + 1 := World.size_alloc _ _
  have hnew := isFlds_new3 (w1.alloc (.cells #[.string ⟨#[72, 111, 115, 116]⟩, .string ⟨#[97]⟩] 42)) [72, 111, 115, 116] [97] [88] [49] [72, 79, 83, 84] [99] 42
  rw [hsz] at hnew
  have hb2 : Below w1.heap.size w1 ((w1.alloc (.cells #[.string ⟨#[72, 111, 115, 116]⟩, .string ⟨#[97]⟩] 42)).alloc (.cells #[.string (bs [72, 111, 115, 116]), .string (bs [97]), .string (bs [88]), .string (bs [49]), .string (bs [72, 79, 83, 84]), .string (bs [99])] 42)) :=
    (below_alloc w1 _).trans ((below_alloc _ _).mono (by simp))
  have c0 : ((w1.alloc (.cells #[.string ⟨#[72, 111, 115, 116]⟩, .string ⟨#[97]⟩] 42)).alloc (.cells #[.string (bs [72, 111, 115, 116]), .string (bs [97]), .string (bs [88]), .string (bs [49]), .string (bs [72, 79, 83, 84]), .string (bs [99])] 42)).cell? ⟨w1.heap.size, 0, none⟩ = some (.string ⟨#[72, 111, 115, 116]⟩) := by
    rw [(bcell (below_alloc _ _)).1 _ _ (by simp)]; simp
  have c1 : ((w1.alloc (.cells #[.string ⟨#[72, 111, 115, 116]⟩, .string ⟨#[97]⟩] 42)).alloc (.cells #[.string (bs [72, 111, 115, 116]), .string (bs [97]), .string (bs [88]), .string (bs [49]), .string (bs [72, 79, 83, 84]), .string (bs [99])] 42)).cell? ⟨w1.heap.size, 1, none⟩ = some (.string ⟨#[97]⟩) := by
    rw [(bcell (below_alloc _ _)).1 _ _ (by simp)]; simp
  have hz2 : w1.heap.size < ((w1.alloc (.cells #[.string ⟨#[72, 111, 115, 116]⟩, .string ⟨#[97]⟩] 42)).alloc (.cells #[.string (bs [72, 111, 115, 116]), .string (bs [97]), .string (bs [88]), .string (bs [49]), .string (bs [72, 79, 83, 84]), .string (bs [99])] 42)).heap.size := by simp <;> omega
  have hset := set46 (some ⟨w1.heap.size + 1, 0, none⟩) 3 [([72, 111, 115, 116], [97]), ([88], [49]), ([72, 79, 83, 84], [99])] [104, 111, 115, 116] [98] (by decide) (by decide) (fun h => by cases h)
    (fun f hf => by simp only [List.mem_cons, List.not_mem_nil, or_false] at hf; rcases hf with rfl | rfl | rfl <;> exact ⟨by decide, by decide⟩) _ hnew
  rw [set_host] at hset
  have HSET : Hid (Calls Tryd.prog 46 #[.slice (some ⟨w1.heap.size + 1, 0, none⟩) 3 3, .string ⟨#[104, 111, 115, 116]⟩, .string ⟨#[98]⟩] ((w1.alloc (.cells #[.string ⟨#[72, 111, 115, 116]⟩, .string ⟨#[97]⟩] 42)).alloc (.cells #[.string ⟨#[72, 111, 115, 116]⟩, .string ⟨#[97]⟩, .string ⟨#[88]⟩, .string ⟨#[49]⟩, .string ⟨#[72, 79, 83, 84]⟩, .string ⟨#[99]⟩] 42)) _) := hset
  have HN := Lib.hid (hb1.trans (hb2.mono hb1.size))
  clear hset hnew hsz hb2 hb1
  have eqa : ((⟨#[72, 111, 115, 116]⟩ : ByteArray).toList == (⟨#[72, 111, 115, 116]⟩ : ByteArray).toList) = true := by simp
  have eqb : ((⟨#[97]⟩ : ByteArray).toList == (⟨#[97]⟩ : ByteArray).toList) = true := by simp
  have eqc : ((⟨#[104, 111, 115, 116, 58, 32, 98, 13, 10, 88, 58, 32, 49, 13, 10]⟩ : ByteArray).toList == (⟨#[104, 111, 115, 116, 58, 32, 98, 13, 10, 88, 58, 32, 49, 13, 10]⟩ : ByteArray).toList) = true := by simp
  have eqd : ((⟨#[72, 111, 115, 116, 58, 32, 97, 13, 10]⟩ : ByteArray).toList == (⟨#[72, 111, 115, 116, 58, 32, 97, 13, 10]⟩ : ByteArray).toList) = true := by simp
  go_wp2_with fail
  refine HSET.out.mono ?_
  rintro e w3 ⟨u, rfl, ho3, hb3⟩
  have b3 : Hid (Below w.heap.size w w3) := HN.out.trans (hb3.mono (HN.out.size))
  have d0 : w3.cell? ⟨w1.heap.size, 0, none⟩ = some (.string ⟨#[72, 111, 115, 116]⟩) := by rw [(bcell hb3).1 _ _ hz2]; exact c0
  have d1 : w3.cell? ⟨w1.heap.size, 1, none⟩ = some (.string ⟨#[97]⟩) := by rw [(bcell hb3).1 _ _ hz2]; exact c1
  have hz3 : w1.heap.size < w3.heap.size := Nat.lt_of_lt_of_le hz2 hb3.size
  obtain ⟨a, c, rfl, hf3⟩ := own_isFlds ho3
  have HT := Lib.hid (text49 a c [([104, 111, 115, 116], [98]), ([88], [49])] (by decide) (fun f hf => by simp only [List.mem_cons, List.not_mem_nil, or_false] at hf; rcases hf with rfl | rfl <;> exact ⟨by decide, by decide⟩) (by rw [text_host]; decide) w3 hf3)
  rw [text_host] at HT
  clear HSET HN ho3 hb3 hf3 c0 c1 hz2
  go_wp2_with fail
  refine HT.out.mono ?_
  rintro e w4 ⟨rfl, hb4⟩
  have b4 : Hid (Below w.heap.size w w4) := b3.out.trans (hb4.mono b3.out.size)
  have e0 : w4.cell? ⟨w1.heap.size, 0, none⟩ = some (.string ⟨#[72, 111, 115, 116]⟩) := by rw [(bcell hb4).1 _ _ hz3]; exact d0
  have e1 : w4.cell? ⟨w1.heap.size, 1, none⟩ = some (.string ⟨#[97]⟩) := by rw [(bcell hb4).1 _ _ hz3]; exact d1
  clear HT b3 hb4 d0 d1
  have HL : Hid (Calls Tryd.prog 38 #[.agg #[.string ⟨#[72, 111, 115, 116]⟩, .string ⟨#[97]⟩]] w4 fun e w' => e = .returned (.string ⟨#[72, 111, 115, 116, 58, 32, 97, 13, 10]⟩) ∧ Below w4.heap.size w4 w') := line38 ([72, 111, 115, 116], [97]) (by decide) (by decide) w4
  have et : bs [104, 111, 115, 116, 58, 32, 98, 13, 10, 88, 58, 32, 49, 13, 10] = ⟨#[104, 111, 115, 116, 58, 32, 98, 13, 10, 88, 58, 32, 49, 13, 10]⟩ := rfl
  rw [et]
  clear et
  go_wp2_with fail
  refine HL.out.mono ?_
  rintro e w5 ⟨rfl, hb5⟩
  go_wp2_with fail
  go_ret
  exact ⟨rfl, b4.out.trans (hb5.mono b4.out.size)⟩
end Go.Proofs.YtneagccakoakpaaDoor
