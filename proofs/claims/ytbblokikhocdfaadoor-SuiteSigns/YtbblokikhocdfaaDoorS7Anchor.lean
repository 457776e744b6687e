/- The anchor's contract: the document's example. -/
import Derived.Test.YtbblokikhocdfaaDoorS7Use
namespace Go.Proofs.YtbblokikhocdfaaDoor.S7
open Go.RowKit
set_option maxHeartbeats 1000000 in
theorem anchor_any (w : World) : Calls Tryd.prog 10 #[] w fun e w' => e = .returned (.bool true) ∧ Below w.heap.size w w' := by
  go_enter Tryd.func10, Tryd.ntmps10
  go_wp2_with fail
  refine (Signs_new w).mono ?_
  rintro e w1 ⟨p, q, m, x, rfl, hs1, hb1, hp1⟩
  have HS1 : Hid (SuIs w1 p q m x []) := hs1
  have HB1 : Hid (Below w.heap.size w w1) := hb1
  have HP : Hid (w.heap.size ≤ p ∧ w.heap.size ≤ q ∧ w.heap.size ≤ m ∧ w.heap.size ≤ x) := hp1
  have HPM : Hid (∀ y ∈ [p, m], w.heap.size ≤ y) := fun y hy => by
    simp at hy
    rcases hy with rfl | rfl
    · exact hp1.1
    · exact hp1.2.2.1
  clear hs1 hb1 hp1
  go_wp2_with (first | with_reducible (refine stop_conv 32 32 ?_))
  refine Stop.go ?_
  obtain ⟨w2, hcv, hs, hb, hz⟩ := lit_one w1 97 97 rfl (by decide)
  refine law_convert _ _ w2 rfl hcv ?_
  have HV : Hid (Src w2 (.slice (some ⟨w1.heap.size, 0, none⟩) 1 1) [97]) := hs
  have HS2 : Hid (SuIs w2 p q m x []) := HS1.out.below hb
  have HB2 : Hid (Below w.heap.size w w2) := HB1.out.trans (hb.mono HB1.out.size)
  clear hs hb hcv hz HS1 HB1
  go_wp2_with fail
  refine (Sum_at [97] _ p q m x [] w2 HS2.out HV.out (by decide) (by decide)).mono ?_
  rintro e w3 ⟨u3, rfl, ho, hs, hn⟩
  have HO3 : Hid (w3.ownsRow w2.heap.size 5 1 u3 32 (ints .u8 (Su.sign 72 1))) := ho
  have HS3 : Hid (SuIs w3 p q m x [(72, [], [], [], [97])]) := hs
  have HB3 : Hid (Below w.heap.size w w3) := HB2.out.trans (hn.below HB2.out.size HPM.out)
  have HZ3 : Hid (p < w2.heap.size ∧ m < w2.heap.size) := ⟨HS2.out.lt.1, HS2.out.lt.2.2.1⟩
  have HPL : Hid (∀ y ∈ [p, m], y < w2.heap.size) := fun y hy => by
    simp at hy
    rcases hy with rfl | rfl
    · exact HZ3.out.1
    · exact HZ3.out.2
  clear ho hs hn HV HS2 HB2
  go_wp2_with (first | with_reducible (refine stop_conv 32 32 ?_))
  refine Stop.go ?_
  obtain ⟨w4, hcv, hs, hb, hz⟩ := lit_one w3 97 97 rfl (by decide)
  refine law_convert _ _ w4 rfl hcv ?_
  have HV : Hid (Src w4 (.slice (some ⟨w3.heap.size, 0, none⟩) 1 1) [97]) := hs
  have HS4 : Hid (SuIs w4 p q m x [(72, [], [], [], [97])]) := HS3.out.below hb
  have HB4 : Hid (Below w.heap.size w w4) := HB3.out.trans (hb.mono HB3.out.size)
  have HO4 : Hid (w4.ownsRow w2.heap.size 5 1 u3 32 (ints .u8 (Su.sign 72 1))) := own_stays HO3.out (Only.of_below hb []) (by simp)
  clear hs hb hcv hz HS3 HB3 HO3
  go_wp2_with fail
  refine (Sum_at [97] _ p q m x _ w4 HS4.out HV.out (by decide) (by decide)).mono ?_
  rintro e w5 ⟨u5, rfl, ho, hs, hn⟩
  have HO5 : Hid (w5.ownsRow w2.heap.size 5 1 u3 32 (ints .u8 (Su.sign 72 1))) := own_stays HO4.out hn HPL.out
  have HU5 : Hid (w5.ownsRow w4.heap.size 5 1 u5 32 (ints .u8 (Su.sign 72 1))) := ho
  have HS5 : Hid (SuIs w5 p q m x [(72, [], [], [], [97])]) := hs
  have HB5 : Hid (Below w.heap.size w w5) := HB4.out.trans (hn.below HB4.out.size HPM.out)
  have HPL4 : Hid (∀ y ∈ [p, m], y < w4.heap.size) := fun y hy => by
    simp at hy
    rcases hy with rfl | rfl
    · exact HS4.out.lt.1
    · exact HS4.out.lt.2.2.1
  clear ho hs hn HV HS4 HB4 HO4
  go_wp2_with (first | with_reducible (refine stop_conv 32 32 ?_))
  refine Stop.go ?_
  obtain ⟨w6, hcv, hs, hb, hz⟩ := lit_one w5 98 98 rfl (by decide)
  refine law_convert _ _ w6 rfl hcv ?_
  have HV : Hid (Src w6 (.slice (some ⟨w5.heap.size, 0, none⟩) 1 1) [98]) := hs
  have HS6 : Hid (SuIs w6 p q m x [(72, [], [], [], [97])]) := HS5.out.below hb
  have HB6 : Hid (Below w.heap.size w w6) := HB5.out.trans (hb.mono HB5.out.size)
  have HO6 : Hid (w6.ownsRow w2.heap.size 5 1 u3 32 (ints .u8 (Su.sign 72 1))) := own_stays HO5.out (Only.of_below hb []) (by simp)
  have HU6 : Hid (w6.ownsRow w4.heap.size 5 1 u5 32 (ints .u8 (Su.sign 72 1))) := own_stays HU5.out (Only.of_below hb []) (by simp)
  clear hs hb hcv hz HS5 HB5 HO5 HU5
  go_wp2_with fail
  refine (Sum_at [98] _ p q m x _ w6 HS6.out HV.out (by decide) (by decide)).mono ?_
  rintro e w7 ⟨u7, rfl, ho, hs, hn⟩
  have HO7 : Hid (w7.ownsRow w2.heap.size 5 1 u3 32 (ints .u8 (Su.sign 72 1))) := own_stays HO6.out hn HPL.out
  have HU7 : Hid (w7.ownsRow w4.heap.size 5 1 u5 32 (ints .u8 (Su.sign 72 1))) := own_stays HU6.out hn HPL4.out
  have HT7 : Hid (w7.ownsRow w6.heap.size 5 1 u7 32 (ints .u8 (Su.sign 72 2))) := ho
  have HS7 : Hid (SuIs w7 p q m x [(72, [], [], [], [97]), (72, [], [], [], [98])]) := hs
  have HB7 : Hid (Below w.heap.size w w7) := HB6.out.trans (hn.below HB6.out.size HPM.out)
  clear ho hs hn HV HS6 HB6 HO6 HU6 HPL HPL4 HPM HP HZ3
  have hca := conv_src (Src.own (Su.sign_lt (by decide) 1) HO7.out)
  have hcb := conv_src (Src.own (Su.sign_lt (by decide) 1) HU7.out)
  obtain ⟨g3, c3, rfl, _, _, _, _⟩ := own_cell HO7.out (by decide)
  obtain ⟨g5, c5, rfl, _, _, _, _⟩ := own_cell HU7.out (by decide)
  obtain ⟨g7, c7, rfl, _, _, _, _⟩ := own_cell HT7.out (by decide)
  have a0 : w7.cell? ⟨g3, 0, none⟩ = some (.int .u8 83) := own_at HO7.out 0 (by decide)
  have a1 : w7.cell? ⟨g3, 1, none⟩ = some (.int .u8 72) := own_at HO7.out 1 (by decide)
  have a2 : w7.cell? ⟨g3, 31, none⟩ = some (.int .u8 1) := own_at HO7.out 31 (by decide)
  have a3 : w7.cell? ⟨g7, 31, none⟩ = some (.int .u8 2) := own_at HT7.out 31 (by decide)
  clear HO7 HU7 HT7
  go_wp2_with fail
  refine (count_any p 2 _ _ w7 HS7.out.box).mono ?_
  rintro e w8 ⟨rfl, rfl⟩
  clear HS7
  go_wp2_with fail
  go_ret
  exact ⟨rfl, HB7.out⟩
end Go.Proofs.YtbblokikhocdfaaDoor.S7
