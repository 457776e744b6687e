/- The walk of Decode where the kind is 4. -/
import Derived.Test.YtiihdpkpgcmioaaE9D4
namespace Go.Proofs.Ytiihdpkpgcmioaa.E9
open Go.RowKit C8
set_option maxHeartbeats 4000000 in
theorem dk4 (sv : Value) (l : List Nat) (w : World) (hs : Src w sv l) (hl : l.length ≤ 900000) (a b : Int) (s1 s2 s3 : Sta) (H1 : Hid (rN 0 1099511627776 (l, false) = (4, s1))) (H2 : Hid (rN 1 16 s1 = (a, s2))) (H3 : Hid (rN 0 1099511627776 s2 = (b, s3)))  (n4 : Int) (s4 : Sta) (H4 : Hid (rN 1 16 s3 = (n4, s4))) (en : Bool) (HEN : Hid ((!s4.2 && decide (s4.1 = [])) = en)) :
    Calls Try.prog 15 #[sv] w fun e w' => DecSays l w e w' := by
  have HD : Hid (decE false (l, false) = (⟨4, a, b, [], [], n4, 0, 0, []⟩, s4)) := by
    show _ = _
    rw [decE_hd H1.out H2.out H3.out]
    unfold tl
    rw [if_neg (by decide : ¬ (4 : Int) = 1), if_neg (by decide : ¬ (4 : Int) = 2), if_neg (by decide : ¬ (4 : Int) = 3), if_pos rfl]
    simp [H4.out]
  have HRD : ∀ W, Hid (Below w.heap.size w W) → Calls Try.prog 27 #[sv] W fun e w' => ∃ p, e = .returned (.pointer (some ⟨p, 0, none⟩)) ∧ Hid (RdS w' p W.heap.size w'.heap.size (l, false)) ∧ Hid (W.heap.size ≤ p ∧ p < w'.heap.size) ∧ Hid (Below W.heap.size W w') := fun W hW => (read_any sv l W (hs.below hW.out) hl).mono (by
    rintro e w' ⟨p, rfl, h1, h2, h3, h4⟩
    exact ⟨p, rfl, h1, ⟨h2, h3⟩, h4⟩)
  obtain ⟨sq, sc, rfl, -⟩ := hs.slice
  generalize l.length = ln at *
  clear hs hl
  have HB0 : Hid (∀ o, Below w.heap.size w (w.alloc o)) := fun o => bel_alloc (Nat.le_refl _) o
  obtain ⟨S, HSS⟩ : ∃ S, Hid (DecSays l w = S) := ⟨_, rfl⟩
  rw [HSS.out]
  go_enter Try.func15, Try.ntmps15
  go_wp2_with (first
    | (go_at_call 27; refine (HRD _ (HB0.out _)).mono ?_; rintro e w1 ⟨p, rfl, R1, P1, B1⟩; clear HRD))
  have D1 : Hid (D4 w (w1.alloc (.cells #[.pointer (some ⟨p, 0, none⟩)] 55)) p w1.heap.size (l, false)) := D4.start B1.out R1.out P1.out.1 P1.out.2
  clear R1 P1 B1 HB0
  generalize w1.alloc (.cells #[.pointer (some ⟨p, 0, none⟩)] 55) = W1 at *
  generalize w1.heap.size = B at *
  go_wp2_with (first
    | (go_at_call 28; refine (c28 (by assumption) (by assumption)).mono ?_; rintro e w2 ⟨rfl, D2, O2⟩)
    | (go_at_call 30; refine (c30 (by assumption) (by assumption)).mono ?_; rintro e w3 ⟨rfl, D3, O3⟩))
  have D8 : Hid (D4 w (w2.alloc (.cells #[.int .i64 4, .int .i64 a, .int .i64 b, .slice none 0 0, .slice none 0 0, .int .i64 0, .int .i64 0, .int .i64 0, .slice none 0 0] 25)) p B s3) := D2.out.up (bel_alloc D2.out.lt _)
  have E8 : Hid ((w2.alloc (.cells #[.int .i64 4, .int .i64 a, .int .i64 b, .slice none 0 0, .slice none 0 0, .int .i64 0, .int .i64 0, .int .i64 0, .slice none 0 0] 25)).heap[w2.heap.size]? = some (.cells #[.int .i64 4, .int .i64 a, .int .i64 b, .slice none 0 0, .slice none 0 0, .int .i64 0, .int .i64 0, .int .i64 0, .slice none 0 0] 25 (0, 0))) := heap_alloc_new w2 _
  have L8 : Hid (B + 1 ≤ w2.heap.size ∧ p < w2.heap.size) := ⟨D2.out.lt, Nat.lt_trans D2.out.hi D2.out.lt⟩
  clear D1 D2 D3 O2 O3
  generalize w2.alloc (.cells #[.int .i64 4, .int .i64 a, .int .i64 b, .slice none 0 0, .slice none 0 0, .int .i64 0, .int .i64 0, .int .i64 0, .slice none 0 0] 25) = W8 at *
  generalize w2.heap.size = b8 at *
  refine (c30 D8 H4).mono ?_
  rintro e w25 ⟨rfl, D25, O25⟩
  have E25 : Hid (w25.heap[b8]? = some (.cells #[.int .i64 4, .int .i64 a, .int .i64 b, .slice none 0 0, .slice none 0 0, .int .i64 0, .int .i64 0, .int .i64 0, .slice none 0 0] 25 (0, 0))) := (O25.out.block b8 (Array.getElem?_eq_some_iff.1 E8.out).1 (by have := L8.out; simp; omega)).trans E8.out
  have d5 : w25.cell? ⟨b8, 5, none⟩ = some (.int .i64 0) := by rw [cell_of_row _ _ _ _ _ _ E25.out]; rfl
  have f5 : w25.frozen? ⟨b8, 5, none⟩ = false := frozen_of_row _ _ _ _ _ E25.out
  have c4 := D25.out.c4
  go_wp2_with fail
  have E9_5 : (w25.setCell ⟨b8, 5, none⟩ (.int .i64 n4)).heap[b8]? = some (.cells #[.int .i64 4, .int .i64 a, .int .i64 b, .slice none 0 0, .slice none 0 0, .int .i64 n4, .int .i64 0, .int .i64 0, .slice none 0 0] 25 (0, 0)) := heap_setCell_same _ b8 5 _ 25 _ E25.out
  have D6 : Hid (D4 w (w25.setCell ⟨b8, 5, none⟩ (.int .i64 n4)) p B s4) := D25.out.up ((Below.refl _ _).setCell (p := ⟨b8, 5, none⟩) L8.out.1 _)
  have E6 : Hid ((w25.setCell ⟨b8, 5, none⟩ (.int .i64 n4)).heap[b8]? = some (.cells #[.int .i64 4, .int .i64 a, .int .i64 b, .slice none 0 0, .slice none 0 0, .int .i64 n4, .int .i64 0, .int .i64 0, .slice none 0 0] 25 (0, 0))) := E9_5
  clear E9_5 d5 f5 D25 E25 O25 D8 E8 c4
  generalize (w25.setCell ⟨b8, 5, none⟩ (.int .i64 n4)) = w6 at *
  have EN6 : Hid (EnNew (w.heap.size + 1) w6 (.agg #[.int .i64 4, .int .i64 a, .int .i64 b, .slice none 0 0, .slice none 0 0, .int .i64 n4, .int .i64 0, .int .i64 0, .slice none 0 0]) ⟨4, a, b, [], [], n4, 0, 0, []⟩) := fun w2 _ => ⟨none, 0, none, 0, none, 0, rfl, Src.nil _, Src.nil _, WrRow.nil _ _, (by simp), (by simp), by simp⟩
  refine (c33 D6 HEN).mono ?_
  rintro e _ ⟨rfl, rfl⟩
  have x0 : w6.cell? ⟨w.heap.size, 0, none⟩ = some (.int .i64 0) := by rw [cell_of_row _ _ _ _ _ _ D6.out.at2]; rfl
  have y0 : w6.frozen? ⟨w.heap.size, 0, none⟩ = false := frozen_of_row _ _ _ _ _ D6.out.at2
  have x1 : w6.cell? ⟨w.heap.size, 1, none⟩ = some (.int .i64 0) := by rw [cell_of_row _ _ _ _ _ _ D6.out.at2]; rfl
  have y1 : w6.frozen? ⟨w.heap.size, 1, none⟩ = false := frozen_of_row _ _ _ _ _ D6.out.at2
  have x2 : w6.cell? ⟨w.heap.size, 2, none⟩ = some (.int .i64 0) := by rw [cell_of_row _ _ _ _ _ _ D6.out.at2]; rfl
  have y2 : w6.frozen? ⟨w.heap.size, 2, none⟩ = false := frozen_of_row _ _ _ _ _ D6.out.at2
  have x3 : w6.cell? ⟨w.heap.size, 3, none⟩ = some (.slice none 0 0) := by rw [cell_of_row _ _ _ _ _ _ D6.out.at2]; rfl
  have y3 : w6.frozen? ⟨w.heap.size, 3, none⟩ = false := frozen_of_row _ _ _ _ _ D6.out.at2
  have x4 : w6.cell? ⟨w.heap.size, 4, none⟩ = some (.slice none 0 0) := by rw [cell_of_row _ _ _ _ _ _ D6.out.at2]; rfl
  have y4 : w6.frozen? ⟨w.heap.size, 4, none⟩ = false := frozen_of_row _ _ _ _ _ D6.out.at2
  have x5 : w6.cell? ⟨w.heap.size, 5, none⟩ = some (.int .i64 0) := by rw [cell_of_row _ _ _ _ _ _ D6.out.at2]; rfl
  have y5 : w6.frozen? ⟨w.heap.size, 5, none⟩ = false := frozen_of_row _ _ _ _ _ D6.out.at2
  have x6 : w6.cell? ⟨w.heap.size, 6, none⟩ = some (.int .i64 0) := by rw [cell_of_row _ _ _ _ _ _ D6.out.at2]; rfl
  have y6 : w6.frozen? ⟨w.heap.size, 6, none⟩ = false := frozen_of_row _ _ _ _ _ D6.out.at2
  have x7 : w6.cell? ⟨w.heap.size, 7, none⟩ = some (.int .i64 0) := by rw [cell_of_row _ _ _ _ _ _ D6.out.at2]; rfl
  have y7 : w6.frozen? ⟨w.heap.size, 7, none⟩ = false := frozen_of_row _ _ _ _ _ D6.out.at2
  have x8 : w6.cell? ⟨w.heap.size, 8, none⟩ = some (.slice none 0 0) := by rw [cell_of_row _ _ _ _ _ _ D6.out.at2]; rfl
  have y8 : w6.frozen? ⟨w.heap.size, 8, none⟩ = false := frozen_of_row _ _ _ _ _ D6.out.at2
  cases en with
  | false =>
    go_wp2_with fail
    refine bodyPost_ret (results_row2 rfl _ _ w.heap.size 25 _ (0, 0) _ rfl (row9 D6.out.at2 _ _ _ _ _ _ _ _ _) Try.underlying25 rfl (by kernel_rfl)) rfl ?_
    rw [← HSS.out]
    exact DecSays.no (bel9 D6.out.bel (Nat.le_refl _) _ _ _ _ _ _ _ _ _) (dec_none1 HD.out HEN.out)
  | true =>
    have d0 : w6.cell? ⟨b8, 0, none⟩ = some (.int .i64 4) := by rw [cell_of_row _ _ _ _ _ _ E6.out]; rfl
    have d1 : w6.cell? ⟨b8, 1, none⟩ = some (.int .i64 a) := by rw [cell_of_row _ _ _ _ _ _ E6.out]; rfl
    have d2 : w6.cell? ⟨b8, 2, none⟩ = some (.int .i64 b) := by rw [cell_of_row _ _ _ _ _ _ E6.out]; rfl
    have d3 : w6.cell? ⟨b8, 3, none⟩ = some (.slice none 0 0) := by rw [cell_of_row _ _ _ _ _ _ E6.out]; rfl
    have d4 : w6.cell? ⟨b8, 4, none⟩ = some (.slice none 0 0) := by rw [cell_of_row _ _ _ _ _ _ E6.out]; rfl
    have d5 : w6.cell? ⟨b8, 5, none⟩ = some (.int .i64 n4) := by rw [cell_of_row _ _ _ _ _ _ E6.out]; rfl
    have d6 : w6.cell? ⟨b8, 6, none⟩ = some (.int .i64 0) := by rw [cell_of_row _ _ _ _ _ _ E6.out]; rfl
    have d7 : w6.cell? ⟨b8, 7, none⟩ = some (.int .i64 0) := by rw [cell_of_row _ _ _ _ _ _ E6.out]; rfl
    have d8 : w6.cell? ⟨b8, 8, none⟩ = some (.slice none 0 0) := by rw [cell_of_row _ _ _ _ _ _ E6.out]; rfl
    have HRT := Right_any ⟨4, a, b, [], [], n4, 0, 0, []⟩ _ w6 EN6.out.is
    cases hr : right ⟨4, a, b, [], [], n4, 0, 0, []⟩ with
    | false =>
      rw [hr] at HRT
      have HR : Hid (right ⟨4, a, b, [], [], n4, 0, 0, []⟩ = false) := hr
      clear hr
      have HR7 : ∀ W, W = w6 → Calls Try.prog 13 #[.agg #[.int .i64 4, .int .i64 a, .int .i64 b, .slice none 0 0, .slice none 0 0, .int .i64 n4, .int .i64 0, .int .i64 0, .slice none 0 0]] W fun e w' => e = .returned (.bool false) ∧ Hid (D4 w w' p B s4) ∧ Hid (Below w6.heap.size w6 w') ∧ w'.cell? ⟨w.heap.size, 0, none⟩ = some (.int .i64 0) ∧ w'.frozen? ⟨w.heap.size, 0, none⟩ = false ∧ w'.cell? ⟨w.heap.size, 1, none⟩ = some (.int .i64 0) ∧ w'.frozen? ⟨w.heap.size, 1, none⟩ = false ∧ w'.cell? ⟨w.heap.size, 2, none⟩ = some (.int .i64 0) ∧ w'.frozen? ⟨w.heap.size, 2, none⟩ = false ∧ w'.cell? ⟨w.heap.size, 3, none⟩ = some (.slice none 0 0) ∧ w'.frozen? ⟨w.heap.size, 3, none⟩ = false ∧ w'.cell? ⟨w.heap.size, 4, none⟩ = some (.slice none 0 0) ∧ w'.frozen? ⟨w.heap.size, 4, none⟩ = false ∧ w'.cell? ⟨w.heap.size, 5, none⟩ = some (.int .i64 0) ∧ w'.frozen? ⟨w.heap.size, 5, none⟩ = false ∧ w'.cell? ⟨w.heap.size, 6, none⟩ = some (.int .i64 0) ∧ w'.frozen? ⟨w.heap.size, 6, none⟩ = false ∧ w'.cell? ⟨w.heap.size, 7, none⟩ = some (.int .i64 0) ∧ w'.frozen? ⟨w.heap.size, 7, none⟩ = false ∧ w'.cell? ⟨w.heap.size, 8, none⟩ = some (.slice none 0 0) ∧ w'.frozen? ⟨w.heap.size, 8, none⟩ = false := by
        rintro W rfl
        refine HRT.mono ?_
        rintro e w' ⟨rfl, h7⟩
        have D7 : D4 w w' p B s4 := D6.out.up (bel_le h7 D6.out.lt)
        have E7 := (h7.block b8 (Array.getElem?_eq_some_iff.1 E6.out).1).trans E6.out
        refine ⟨rfl, D7, h7, ?_, frozen_of_row _ _ _ _ _ D7.at2, ?_, frozen_of_row _ _ _ _ _ D7.at2, ?_, frozen_of_row _ _ _ _ _ D7.at2, ?_, frozen_of_row _ _ _ _ _ D7.at2, ?_, frozen_of_row _ _ _ _ _ D7.at2, ?_, frozen_of_row _ _ _ _ _ D7.at2, ?_, frozen_of_row _ _ _ _ _ D7.at2, ?_, frozen_of_row _ _ _ _ _ D7.at2, ?_, frozen_of_row _ _ _ _ _ D7.at2⟩
        · rw [cell_of_row _ _ _ _ _ _ D7.at2]; rfl
        · rw [cell_of_row _ _ _ _ _ _ D7.at2]; rfl
        · rw [cell_of_row _ _ _ _ _ _ D7.at2]; rfl
        · rw [cell_of_row _ _ _ _ _ _ D7.at2]; rfl
        · rw [cell_of_row _ _ _ _ _ _ D7.at2]; rfl
        · rw [cell_of_row _ _ _ _ _ _ D7.at2]; rfl
        · rw [cell_of_row _ _ _ _ _ _ D7.at2]; rfl
        · rw [cell_of_row _ _ _ _ _ _ D7.at2]; rfl
        · rw [cell_of_row _ _ _ _ _ _ D7.at2]; rfl
      clear HRT
      go_wp2_with (first | (go_at_call 13; refine (HR7 _ rfl).mono ?_; rintro e w7 ⟨rfl, D7, B7, u0, v0, u1, v1, u2, v2, u3, v3, u4, v4, u5, v5, u6, v6, u7, v7, u8, v8⟩))
      refine bodyPost_ret (results_row2 rfl _ _ w.heap.size 25 _ (0, 0) _ rfl (row9 D7.out.at2 _ _ _ _ _ _ _ _ _) Try.underlying25 rfl (by kernel_rfl)) rfl ?_
      rw [← HSS.out]
      exact DecSays.no (bel9 D7.out.bel (Nat.le_refl _) _ _ _ _ _ _ _ _ _) (dec_none2 HD.out HR.out)
    | true =>
      rw [hr] at HRT
      have HR : Hid (right ⟨4, a, b, [], [], n4, 0, 0, []⟩ = true) := hr
      clear hr
      have HR7 : ∀ W, W = w6 → Calls Try.prog 13 #[.agg #[.int .i64 4, .int .i64 a, .int .i64 b, .slice none 0 0, .slice none 0 0, .int .i64 n4, .int .i64 0, .int .i64 0, .slice none 0 0]] W fun e w' => e = .returned (.bool true) ∧ Hid (D4 w w' p B s4) ∧ Hid (Below w6.heap.size w6 w') ∧ w'.cell? ⟨w.heap.size, 0, none⟩ = some (.int .i64 0) ∧ w'.frozen? ⟨w.heap.size, 0, none⟩ = false ∧ w'.cell? ⟨w.heap.size, 1, none⟩ = some (.int .i64 0) ∧ w'.frozen? ⟨w.heap.size, 1, none⟩ = false ∧ w'.cell? ⟨w.heap.size, 2, none⟩ = some (.int .i64 0) ∧ w'.frozen? ⟨w.heap.size, 2, none⟩ = false ∧ w'.cell? ⟨w.heap.size, 3, none⟩ = some (.slice none 0 0) ∧ w'.frozen? ⟨w.heap.size, 3, none⟩ = false ∧ w'.cell? ⟨w.heap.size, 4, none⟩ = some (.slice none 0 0) ∧ w'.frozen? ⟨w.heap.size, 4, none⟩ = false ∧ w'.cell? ⟨w.heap.size, 5, none⟩ = some (.int .i64 0) ∧ w'.frozen? ⟨w.heap.size, 5, none⟩ = false ∧ w'.cell? ⟨w.heap.size, 6, none⟩ = some (.int .i64 0) ∧ w'.frozen? ⟨w.heap.size, 6, none⟩ = false ∧ w'.cell? ⟨w.heap.size, 7, none⟩ = some (.int .i64 0) ∧ w'.frozen? ⟨w.heap.size, 7, none⟩ = false ∧ w'.cell? ⟨w.heap.size, 8, none⟩ = some (.slice none 0 0) ∧ w'.frozen? ⟨w.heap.size, 8, none⟩ = false ∧ w'.cell? ⟨b8, 0, none⟩ = some (.int .i64 4) ∧ w'.cell? ⟨b8, 1, none⟩ = some (.int .i64 a) ∧ w'.cell? ⟨b8, 2, none⟩ = some (.int .i64 b) ∧ w'.cell? ⟨b8, 3, none⟩ = some (.slice none 0 0) ∧ w'.cell? ⟨b8, 4, none⟩ = some (.slice none 0 0) ∧ w'.cell? ⟨b8, 5, none⟩ = some (.int .i64 n4) ∧ w'.cell? ⟨b8, 6, none⟩ = some (.int .i64 0) ∧ w'.cell? ⟨b8, 7, none⟩ = some (.int .i64 0) ∧ w'.cell? ⟨b8, 8, none⟩ = some (.slice none 0 0) := by
        rintro W rfl
        refine HRT.mono ?_
        rintro e w' ⟨rfl, h7⟩
        have D7 : D4 w w' p B s4 := D6.out.up (bel_le h7 D6.out.lt)
        have E7 := (h7.block b8 (Array.getElem?_eq_some_iff.1 E6.out).1).trans E6.out
        refine ⟨rfl, D7, h7, ?_, frozen_of_row _ _ _ _ _ D7.at2, ?_, frozen_of_row _ _ _ _ _ D7.at2, ?_, frozen_of_row _ _ _ _ _ D7.at2, ?_, frozen_of_row _ _ _ _ _ D7.at2, ?_, frozen_of_row _ _ _ _ _ D7.at2, ?_, frozen_of_row _ _ _ _ _ D7.at2, ?_, frozen_of_row _ _ _ _ _ D7.at2, ?_, frozen_of_row _ _ _ _ _ D7.at2, ?_, frozen_of_row _ _ _ _ _ D7.at2, ?_, ?_, ?_, ?_, ?_, ?_, ?_, ?_, ?_⟩
        · rw [cell_of_row _ _ _ _ _ _ D7.at2]; rfl
        · rw [cell_of_row _ _ _ _ _ _ D7.at2]; rfl
        · rw [cell_of_row _ _ _ _ _ _ D7.at2]; rfl
        · rw [cell_of_row _ _ _ _ _ _ D7.at2]; rfl
        · rw [cell_of_row _ _ _ _ _ _ D7.at2]; rfl
        · rw [cell_of_row _ _ _ _ _ _ D7.at2]; rfl
        · rw [cell_of_row _ _ _ _ _ _ D7.at2]; rfl
        · rw [cell_of_row _ _ _ _ _ _ D7.at2]; rfl
        · rw [cell_of_row _ _ _ _ _ _ D7.at2]; rfl
        · rw [cell_of_row _ _ _ _ _ _ E7]; rfl
        · rw [cell_of_row _ _ _ _ _ _ E7]; rfl
        · rw [cell_of_row _ _ _ _ _ _ E7]; rfl
        · rw [cell_of_row _ _ _ _ _ _ E7]; rfl
        · rw [cell_of_row _ _ _ _ _ _ E7]; rfl
        · rw [cell_of_row _ _ _ _ _ _ E7]; rfl
        · rw [cell_of_row _ _ _ _ _ _ E7]; rfl
        · rw [cell_of_row _ _ _ _ _ _ E7]; rfl
        · rw [cell_of_row _ _ _ _ _ _ E7]; rfl
      clear HRT
      go_wp2_with (first | (go_at_call 13; refine (HR7 _ rfl).mono ?_; rintro e w7 ⟨rfl, D7, B7, u0, v0, u1, v1, u2, v2, u3, v3, u4, v4, u5, v5, u6, v6, u7, v7, u8, v8, z0, z1, z2, z3, z4, z5, z6, z7, z8⟩))
      refine bodyPost_ret (results_row2 rfl _ _ w.heap.size 25 _ (0, 0) _ rfl (row9 D7.out.at2 _ _ _ _ _ _ _ _ _) Try.underlying25 rfl (by kernel_rfl)) rfl ?_
      rw [← HSS.out]
      exact DecSays.yes (bel9 D7.out.bel (Nat.le_refl _) _ _ _ _ _ _ _ _ _) (dec_some HD.out HEN.out HR.out) ((EN6.out.agree (Agree.below B7.out)).last (only9 _ _ _ _ _ _ _ _ _ _ _))
end Go.Proofs.Ytiihdpkpgcmioaa.E9
