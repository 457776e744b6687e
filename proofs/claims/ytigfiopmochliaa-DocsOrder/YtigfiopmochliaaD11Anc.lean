/- The contract of the statements' anchor. -/
import Derived.Test.YtigfiopmochliaaD11Put
import Derived.Test.YtigfiopmochliaaD11All
namespace Go.Proofs.Ytigfiopmochliaa.D11
open Go.RowKit C8 E9
theorem lit97 : strB [97] = ⟨#[97]⟩ := rfl
theorem lit98 : strB [98] = ⟨#[98]⟩ := rfl
theorem lit99 : strB [99] = ⟨#[99]⟩ := rfl
theorem lit49 : strB [49] = ⟨#[49]⟩ := rfl
theorem lit50 : strB [50] = ⟨#[50]⟩ := rfl
theorem anc1 : after [] (putE [98] [49]) = ([([98], [49])], 0) := by decide
theorem anc2 : after [([98], [49])] (putE [97] [50]) = ([([97], [50]), ([98], [49])], 0) := by decide
theorem anc3 : after [([97], [50]), ([98], [49])] (dropE [99]) = ([([97], [50]), ([98], [49])], 32) := by decide
theorem bel_of {w w' w'' : World} {B : Nat} (h : Below B w w') (ho : Below w'.heap.size w' w'') (hB : B ≤ w.heap.size) : Below B w w'' := h.trans (bel_le ho (Nat.le_trans hB h.size))
set_option maxHeartbeats 8000000 in
set_option maxRecDepth 10000 in
theorem anchor_any (w : World) : Calls Try.prog 8 #[] w fun e w' => e = .returned (.bool true) ∧ Below w.heap.size w w' := by
  go_enter Try.func8, Try.ntmps8
  go_wp2_with fail
  refine (New_any w).mono ?_
  rintro e w1 ⟨p, b, rfl, hd1, hp, hb, HB1⟩
  go_wp2_with fail
  have c1 := put_any w1 [98] [49] (by decide) (by decide) (by decide) (by decide)
  rw [lit98, lit49] at c1
  refine c1.mono ?_
  rintro e w2 ⟨va, rfl, ha, hb2⟩
  clear c1
  go_wp2_with fail
  refine (Apply_any w2 p b [] _ va (hd1.below hb2) ha (by decide)).mono ?_
  unfold ApSays
  rw [anc1]
  rintro e w3 ⟨rfl, hd3, ho3⟩
  have HB3 : Below w.heap.size w w3 := (bel_of HB1 hb2 (Nat.le_refl _)).trans (ho3.below (Nat.le_trans HB1.size hb2.size) (by simpa using hb))
  clear hd1 ha hb2 ho3 HB1
  go_wp2_with fail
  have c2 := put_any w3 [97] [50] (by decide) (by decide) (by decide) (by decide)
  rw [lit97, lit50] at c2
  refine c2.mono ?_
  rintro e w4 ⟨vb, rfl, hv4, hb4⟩
  clear c2
  go_wp2_with fail
  refine (Apply_any w4 p b _ _ vb (hd3.below hb4) hv4 (by decide)).mono ?_
  unfold ApSays
  rw [anc2]
  rintro e w5 ⟨rfl, hd5, ho5⟩
  have HB5 : Below w.heap.size w w5 := (bel_of HB3 hb4 (Nat.le_refl _)).trans (ho5.below (Nat.le_trans HB3.size hb4.size) (by simpa using hb))
  clear hd3 hv4 hb4 ho5 HB3
  go_wp2_with fail
  have c3 := drop_any w5 [99] (by decide) (by decide)
  rw [lit99] at c3
  refine c3.mono ?_
  rintro e w6 ⟨vc, rfl, hv6, hb6⟩
  clear c3
  go_wp2_with fail
  refine (Apply_any w6 p b _ _ vc (hd5.below hb6) hv6 (by decide)).mono ?_
  unfold ApSays
  rw [anc3]
  rintro e w7 ⟨rfl, hd7, ho7⟩
  have HB7 : Below w.heap.size w w7 := (bel_of HB5 hb6 (Nat.le_refl _)).trans (ho7.below (Nat.le_trans HB5.size hb6.size) (by simpa using hb))
  clear hd5 hv6 hb6 ho7 HB5
  go_wp2_with fail
  refine (All_any w7 p b _ hd7).mono ?_
  rintro e w8 ⟨q, c, xs, rfl, hown, hare, hb8⟩
  have hrow : DkRow w8 q [([97], [50]), ([98], [49])] := AreQ.row (hare.imp (fun v l hx => hx.1)) hown rfl
  obtain ⟨g, o, np, nc, vp, vc', rfl, k2, k3, k4, k5, k6⟩ := hrow 0 (by decide)
  obtain ⟨g', o', np', nc', vp', vc'', e1, k2', k3', k4', k5', k6'⟩ := hrow 1 (by decide)
  simp only [Option.some.injEq, Addr.mk.injEq, and_true] at e1
  obtain ⟨rfl, rfl⟩ := e1
  have hx1 := conv_src k5
  have hx2 := conv_src k6'
  have HB8 : Hid (Below w.heap.size w w8) := bel_of HB7 hb8 (Nat.le_refl _)
  have HD8 : Hid (DcIs w8 p b [([97], [50]), ([98], [49])]) := hd7.below hb8
  clear hown hare hrow hd7 hb8 HB7 k5 k6 k5' k6' k2 k2'
  simp at k3 k4' hx1 hx2
  rw [lit97] at hx1
  rw [lit49] at hx2
  go_wp2_with (first | (go_at_call 15; refine (Len_any w8 p b _ HD8.out).mono ?_; rintro e w9 ⟨rfl, rfl⟩))
  go_ret
  exact ⟨rfl, HB8.out⟩
end Go.Proofs.Ytigfiopmochliaa.D11
