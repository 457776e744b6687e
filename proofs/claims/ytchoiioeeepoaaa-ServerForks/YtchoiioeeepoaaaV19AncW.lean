/- The anchor: the document's example. -/
import Derived.Test.YtchoiioeeepoaaaV19Anc
namespace Go.Proofs.Ytchoiioeeepoaaa.V19
open Go.RowKit C8 E9 F17
set_option maxHeartbeats 8000000 in
set_option maxRecDepth 20000 in
theorem anchor_any (w : World) : Calls Try.prog 9 #[] w fun e w' => e = .returned (.bool true) ∧ Below w.heap.size w w' := by
  have HN : Calls Try.prog 11 #[] w fun e w' => ∃ p b, e = .returned (.pointer (some ⟨p, 0, none⟩)) ∧ Hid (SvIn w w' p b 0 none0) := SvIn.new w
  have HP1 : ∀ w1, Calls Try.prog 22 #[.int .i64 1, .slice (some ⟨w1.heap.size, 0, none⟩) 2 2] (w1.alloc (.cells #[.string ⟨#[97]⟩, .string ⟨#[98]⟩] 9)) fun e w' => ∃ v, e = .returned v ∧ Hid (Src w' v (F17.bytes (pf 1 [[97], [98]])) ∧ Below w1.heap.size w1 w') := fun w1 => ex_push 97 98 _ _ w1 rfl rfl (by decide) (by decide) ex1
  have HP2 : ∀ w1, Calls Try.prog 22 #[.int .i64 1, .slice (some ⟨w1.heap.size, 0, none⟩) 2 2] (w1.alloc (.cells #[.string ⟨#[98]⟩, .string ⟨#[99]⟩] 9)) fun e w' => ∃ v, e = .returned v ∧ Hid (Src w' v (F17.bytes (pf 1 [[98], [99]])) ∧ Below w1.heap.size w1 w') := fun w1 => ex_push 98 99 _ _ w1 rfl rfl (by decide) (by decide) ex2
  have HH : ∀ (W1 W2 : World) p b m M M' v l r er, hd M 0 l = (M', r, er) → m ≤ 10 → Hid (SvIn w W1 p b m M) → Hid (Src W2 v l ∧ Below W1.heap.size W1 W2) → Calls Try.prog 14 #[.pointer (some ⟨p, 0, none⟩), .int .i64 0, v] W2 fun e w' => ∃ v', e = .returned (.tuple #[v', .int .i64 er]) ∧ Hid (SvIn w w' p b (m + 1) M' ∧ Src w' v' r) := by
    intro W1 W2 p b m M M' v l r er he hm h1 h2
    refine ((h1.out.step h2.out.2).handle h2.out.1 (by unfold In64; decide) (by omega)).mono ?_
    rintro e w' ⟨v', rfl, H⟩
    rw [he] at H ⊢
    exact ⟨v', rfl, H.out.1, H.out.2.1⟩
  have HG : ∀ W, Calls Try.prog 13 #[.agg #[.int .i64 2, .int .i64 1, .int .i64 1, .slice none 0 0, .slice none 0 0]] W fun e w' => ∃ v, e = .returned v ∧ Hid (Src w' v (F17.bytes (gf 1 1)) ∧ Below W.heap.size W w') := fun W => gBytes_any 1 1 W (by decide) (by decide)
  have HD : ∀ W v p b m M, Hid (SvIn w W p b m M ∧ Src W v (F17.bytes exF3)) → Calls Try.prog 21 #[v] W fun e w' => ∃ bb o cp sp sc, e = .returned (.tuple #[.agg #[.int .i64 3, .int .i64 1, .int .i64 1, .slice (some ⟨bb, o, none⟩) 2 cp, .slice sp 0 sc], .int .i64 0]) ∧ Hid (SvIn w w' p b m M ∧ LkRow w' (some ⟨bb, o, none⟩) [[98], [99]]) := by
    intro W v p b m M H
    refine (Decode_any v _ W H.out.2).mono ?_
    rintro e w' ⟨h1, ⟨h2, rfl⟩ | ⟨_, ⟨F, v2, h2, rfl, h3⟩ | ⟨h2, _⟩⟩⟩
    · rw [ex8] at h2; omega
    · rw [F17.dec_own ex7] at h2
      cases h2
      obtain ⟨q, c, sp, sc, rfl, h4⟩ := h3.is
      obtain ⟨bb, o, _, _, rfl, _⟩ := h4.links 0 (by decide)
      exact ⟨bb, o, c, sp, sc, rfl, H.out.1.step h1, h4.links⟩
    · rw [F17.dec_own ex7] at h2; cases h2
  have HL : ∀ W1 W p b m q, Hid (SvIn w W1 p b m exM2 ∧ LkRow W1 q [[98], [99]]) → Below W1.heap.size W1 W → Calls Try.prog 19 #[.pointer (some ⟨p, 0, none⟩), .int .i64 0, .int .i64 1] W fun e w' => ∃ lq lc, e = .returned (.slice lq 3 lc) ∧ Hid (Below W.heap.size W w') := by
    intro W1 W p b m q H hW
    refine ((H.out.1.step hW).log (by unfold In64; decide) (by unfold In64; decide)).mono ?_
    rintro e w' ⟨lq, lc, rfl, H9⟩
    exact ⟨lq, lc, rfl, H9.out.2.2⟩
  go_enter Try.func9, Try.ntmps9
  go_wp2_with fail
  refine HN.mono ?_
  rintro e w1 ⟨p, b, rfl, H1⟩
  go_wp2_with fail
  refine (HP1 _).mono ?_
  rintro e w2 ⟨v2, rfl, H2⟩
  go_wp2_with fail
  refine (HH _ _ _ _ _ _ _ _ _ _ _ ex5 (by omega) H1 H2).mono ?_
  rintro e w3 ⟨v3, rfl, H3⟩
  clear H1 H2
  replace H3 : Hid (SvIn w w3 p b (0 + 1) exM1) := H3.out.1
  go_wp2_with fail
  refine (HP2 _).mono ?_
  rintro e w4 ⟨v4, rfl, H4⟩
  go_wp2_with fail
  refine (HH _ _ _ _ _ _ _ _ _ _ _ ex6 (by omega) H3 H4).mono ?_
  rintro e w5 ⟨v5, rfl, H5⟩
  clear H3 H4
  replace H5 : Hid (SvIn w w5 p b (0 + 1 + 1) exM2) := H5.out.1
  go_wp2_with fail
  refine (HG _).mono ?_
  rintro e w6 ⟨v6, rfl, H6⟩
  go_wp2_with fail
  refine (HH _ _ _ _ _ _ _ _ _ _ _ ex10 (by omega) H5 H6).mono ?_
  rintro e w7 ⟨v7, rfl, H7⟩
  clear H5 H6
  go_wp2_with fail
  refine (HD _ _ _ _ _ _ H7).mono ?_
  rintro e w8 ⟨bb, o, cp, sp, sc, rfl, H8⟩
  clear H7
  go_wp2_with fail
  refine (HL _ _ _ _ _ _ H8 ((Below.refl _ _).alloc (Nat.le_refl _) _)).mono ?_
  rintro e w9 ⟨lq, lc, rfl, H9⟩
  have HB9 : Hid (Below w8.heap.size w8 w9) := ((Below.refl _ w8).alloc (Nat.le_refl _) _).trans (H9.out.mono (by simp))
  have HBX : Hid (w9.heap[w8.heap.size]? = some (.cells #[.int .i64 3, .int .i64 1, .int .i64 1, .slice (some ⟨bb, o, none⟩) 2 cp, .slice sp 0 sc] 34 (0, 0))) := (H9.out.block _ (by simp)).trans (heap_alloc_new w8 _)
  have d0 : w9.cell? ⟨w8.heap.size, 0, none⟩ = some (.int .i64 3) := cell_of_row _ _ _ _ _ _ HBX.out
  have d2 : w9.cell? ⟨w8.heap.size, 2, none⟩ = some (.int .i64 1) := cell_of_row _ _ _ _ _ _ HBX.out
  have d3 : w9.cell? ⟨w8.heap.size, 3, none⟩ = some (.slice (some ⟨bb, o, none⟩) 2 cp) := cell_of_row _ _ _ _ _ _ HBX.out
  obtain ⟨bb', o', bp, bc, k1, k2, k3, k4, k5⟩ := (H8.out.2.below HB9.out) 1 (by decide)
  cases k1
  have k6 : w9.cell? ⟨bb, o + 1, none⟩ = some (.slice bp 1 bc) := k3
  have cv : (convert 32 9 (.slice bp 1 bc)).run Try.prog w9 = .ok (.string ⟨#[99]⟩) w9 := conv_src k4
  have HBW : Hid (Below w.heap.size w w9) := H8.out.1.bel.trans (HB9.out.mono H8.out.1.bel.size)
  clear k2 k3 k4 k5 H8 H9 HB9 HBX HN HP1 HP2 HH HG HD HL
  go_wp2_with fail
  go_ret
  exact ⟨rfl, HBW.out⟩
end Go.Proofs.Ytchoiioeeepoaaa.V19
